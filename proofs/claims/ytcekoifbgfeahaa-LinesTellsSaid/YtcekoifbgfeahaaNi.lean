/- Contracts: Indent of package lines and of the document's own. -/
import Derived.Test.YtcekoifbgfeahaaNr
namespace Go.Proofs.Ytcekoifbgfeahaa
open Go.RowKit

/-- what a function that makes a new slice and tells an error gives -/
def InE (w : World) (l : List Int) (x : Int) (e : Ending) (w' : World) : Prop :=
  ∃ a c, e = .returned (.tuple #[.slice a l.length c, .int .i64 x]) ∧ Own w' w.heap.size a c l ∧ Below w.heap.size w w'
theorem bl_take {D : List Int} {k : Nat} (hk : k < D.length) (hb : ∀ j, j < k → cls (gt D j) = 1) (h : cls (gt D k) = 1) : ∀ j, j < k + 1 → cls (gt D j) = 1 := by
  intro j hj
  rcases Nat.lt_or_ge j k with h1 | h1
  · exact hb j h1
  · obtain rfl : j = k := by omega
    exact h

set_option maxHeartbeats 2000000 in
theorem indent_c (a : Option Addr) (c : Nat) (l : List Int) (line : Int) (w : World) (h : Sl w a l) (hlc : l.length ≤ c) :
    Calls Try.prog 29 #[.slice a l.length c, .int .i64 line] w (InE w (liV l line) (lsE l line)) := by
  have hl := h.len
  cases hf : lin l line with
  | none =>
    have e1 : liV l line = [] := by simp [liV, hf]
    have e2 : lsE l line = 2 := by simp [lsE, hf]
    rw [e1, e2]
    have Hf := hid hf
    clear e1 e2 hf
    go_enter Try.func29, Try.ntmps29
    go_wp2_with (go_at_call 54; (with_reducible refine (find_none h Hf.out).mono ?_); rintro e w' ⟨rfl, hb⟩)
    go_ret2
    exact ⟨none, 0, rfl, Own.nil _ _, by (repeat' (first | exact Below.refl _ _ | assumption | refine bdrewN ?_ _ | refine Below.drew ?_ | refine bal ?_ _ | refine bthen ?_ (by assumption)))⟩
  | some f =>
    have e1 : liV l line = ind ((l.take (nx l f)).drop f) := by simp only [liV, hf]; rw [lin_ind]
    have e2 : lsE l line = 0 := by simp [lsE, hf]
    rw [e1, e2]
    have Hf := hid hf
    have hn := lin_len hf
    clear e1 e2 hf
    obtain ⟨a', c', D, HD, sD, hDc, hrun⟩ := slice_mid h f (nx l f) c hn.1 hn.2 hlc
    rw [← HD.out]
    generalize hm : nx l f = m at hn hrun
    have Hm := hid hm
    have SD : Hid (∀ w', Below w.heap.size w w' → Sl w' a' D) := fun w' hb => sD.bel hb
    have hDl := sD.len
    clear hm
    go_enter Try.func29, Try.ntmps29
    go_wp2_with (go_at_call 54; (with_reducible refine (find_yes h Hf.out).mono ?_); rw [Hm.out]; rintro e w' ⟨rfl, hb⟩)
    clear sD
    go_loopw [8, 26] (fun ov i wr => ∃ (k : Nat) (a3 : Option Addr) (c3 : Nat) (L : List Int), k ≤ D.length ∧ k ≤ 40 ∧ i = .int .i64 k ∧ ov = .slice a3 L.length c3 ∧ Hid (L = D.take k) ∧ Hid (Own wr w.heap.size a3 c3 L) ∧ Hid (∀ j, j < k → cls (gt D j) = 1) ∧ Below w.heap.size w wr) (fun _ i _ => D.length - (intOf i).toNat)
    case atStart => exact ⟨0, none, 0, [], Nat.zero_le _, by omega, rfl, rfl, rfl, Own.nil _ _, fun j hj => by omega, by (repeat' (first | exact Below.refl _ _ | assumption | refine bdrewN ?_ _ | refine Below.drew ?_ | refine bal ?_ _ | refine bthen ?_ (by assumption)))⟩
    case round =>
      obtain ⟨k, a3, c3, L, hk, hk40, rfl, rfl, HL, Ho, HB, hb2⟩ := hrel
      have hLl : L.length = k := by rw [HL.out, List.length_take]; omega
      have hz := hb2.size
      by_cases hlt : k < D.length
      · obtain ⟨b, o, rfl, hc⟩ := (SD.out wr hb2).at hlt
        have ck := hc k hlt
        have hr := rng_gt (SD.out wr hb2).rng hlt
        have hbl := World.block_lt_of_cell? wr _ ck
        clear hc
        by_cases h40 : k = 40
        · subst h40
          go_wp2
          go_ret2
          have e : L = ind D := by
            rw [HL.out, ind, bl_eq (n := 40) (by omega) (by omega) HB.out (.inl rfl)]
          exact ⟨a3, c3, by rw [← e, hLl]; rfl, by rw [← e]; exact Ho.out, hb2⟩
        · have h4 : ((k : Int) == 40) = false := by simp; omega
          by_cases hcl : cls (gt D k) = 1
          · have h1 : (cls (gt D k) != 1) = false := by simp [hcl]
            have Hcl := hid hcl
            clear hcl
            go_wp2_with (first | (go_at_call 55; (with_reducible refine (class_c _ _).mono ?_); rintro e w' ⟨rfl, rfl⟩) | (at_builtin; (refine wpL_appn rfl (.tmp 38) (.tmp 40) rfl w.heap.size a3 (some ⟨wr.heap.size, 0, none⟩) k 1 c3 1 L [gt D k] rfl (by first | rfl | simp | omega) (Ho.out.grow (by (repeat' (first | exact Below.refl _ _ | assumption | refine bdrewN ?_ _ | refine Below.drew ?_ | refine bal ?_ _ | refine bthen ?_ (by assumption))))) rfl (by first | rfl | simp | omega) (Sl.lit wr [gt D k] _ (by simp) (rng_one hr) _ rfl) (by simp; omega) (by simp; omega) ?_); intro a5 c5 w5 L5 Hl5 ho5 hb5 hk5 hA5; have HA5 := hid hA5; clear hA5; have Ho5 := hid ho5; clear ho5; have Hk5 := hid hk5; clear hk5; have hz5 := hb5.size))
            go_round
            case rel => exact ⟨k + 1, a5, c5, L5, by omega, by omega, by go_num, rfl, hid (by rw [Hl5.out, HL.out, take_succ hlt]), Ho5, bl_take hlt HB.out Hcl.out, (hb2.alloc hz _).trans hb5⟩
            case measure => simp [intOf]; omega
          · have h1 : (cls (gt D k) != 1) = true := by simp [hcl]
            have Hcl := hid hcl
            clear hcl
            go_wp2_with (go_at_call 55; (with_reducible refine (class_c _ _).mono ?_); rintro e w' ⟨rfl, rfl⟩)
            go_ret2
            have e : L = ind D := by
              rw [HL.out, ind, bl_eq (n := k) (by omega) (by omega) HB.out (.inr (.inr Hcl.out))]
            exact ⟨a3, c3, by rw [← e, hLl]; rfl, by rw [← e]; exact Ho.out, hb2⟩
      · go_wp2
        go_ret2
        have e : L = ind D := by
          rw [HL.out, ind, bl_eq (n := k) (by omega) (by omega) HB.out (.inr (.inl (by omega)))]
        exact ⟨a3, c3, by rw [← e, hLl]; rfl, by rw [← e]; exact Ho.out, hb2⟩

set_option maxHeartbeats 2000000 in
theorem rindent_c (a : Option Addr) (c : Nat) (l : List Int) (line : Int) (w : World) (h : Sl w a l) (hlc : l.length ≤ c) (hline : line ≤ 9223372036854775807) :
    Calls Try.prog 51 #[.slice a l.length c, .int .i64 line] w (InE w (liV l line) (lsE l line)) := by
  have hl := h.len
  cases hf : lin l line with
  | none =>
    have e1 : liV l line = [] := by simp [liV, hf]
    have e2 : lsE l line = 2 := by simp [lsE, hf]
    rw [e1, e2]
    have E2 := hid e2
    clear e1 e2 hf
    go_enter Try.func51, Try.ntmps51
    go_wp2_with (go_at_call 48; (with_reducible refine (rstart_c a c l line w h hline).mono ?_); rw [E2.out]; rintro e w' ⟨rfl, rfl⟩)
    go_ret2
    exact ⟨none, 0, rfl, Own.nil _ _, Below.refl _ _⟩
  | some f =>
    have hn := lin_len hf
    have e1 : liV l line = (l.drop f).take (bl 40 (l.drop f)) := by simp only [liV, hf, ind]
    have e2 : lsE l line = 0 := by simp [lsE, hf]
    have e3 : lsV l line = f := by simp [lsV, hf]
    rw [e1, e2]
    have E2 := hid e2
    have E3 := hid e3
    have hfl : f ≤ l.length := by omega
    clear e1 e2 e3 hf hn
    obtain ⟨q, hq⟩ : ∃ q, bl 40 (l.drop f) = q := ⟨_, rfl⟩
    have hq1 := bl_le 40 (l.drop f)
    rw [hq, List.length_drop] at hq1
    obtain ⟨a', c', D, HD, sD, hDc, hrun⟩ := slice_mid h f (f + q) c (by omega) (by omega) hlc
    have e4 : D = (l.drop f).take (bl 40 (l.drop f)) := by rw [HD.out, hq, List.drop_take]; congr 1; omega
    have hDl : D.length = q := by rw [HD.out]; simp; omega
    rw [← e4]
    rw [hDl, Int.natCast_add] at hrun
    have Hq := hid hq
    clear e4 hq
    go_enter Try.func51, Try.ntmps51
    go_wp2_with (go_at_call 48; (with_reducible refine (rstart_c a c l line w h hline).mono ?_); rw [E2.out, E3.out]; rintro e w' ⟨rfl, rfl⟩)
    go_loop [8] (fun v => ∃ j : Nat, j ≤ 40 ∧ f + j ≤ l.length ∧ Hid (∀ i, i < j → cls (gt (l.drop f) i) = 1) ∧ v = .int .i64 j) (fun v => l.length - (intOf v).toNat)
    case atStart => exact ⟨0, by omega, by omega, fun i hi => by omega, rfl⟩
    case round =>
      obtain ⟨j, hj, hjl, HB, rfl⟩ := hrel
      by_cases hj2 : f + j < l.length
      · obtain ⟨b, o, he, hc⟩ := h.at (i := f + j) hj2
        have ck := hc (f + j) hj2
        subst he
        clear hc
        by_cases h40 : j < 40
        · by_cases hcl : cls (gt l (f + j)) = 1
          · have h1 : (cls (gt l (f + j)) == 1) = true := by simp [hcl]
            have Hcl : Hid (cls (gt (l.drop f) j) = 1) := by unfold Hid; rw [gt_drop]; exact hcl
            clear hcl
            go_wp2_with (go_at_call 63; (with_reducible refine (rclass_c _ _).mono ?_); rintro e w' ⟨rfl, rfl⟩)
            go_round
            case rel => exact ⟨j + 1, by omega, by omega, bl_take (by rw [List.length_drop]; omega) HB.out Hcl.out, by go_num⟩
            case measure => simp [intOf]; omega
          · have h1 : (cls (gt l (f + j)) == 1) = false := by simp [hcl]
            have e : q = j := by rw [← Hq.out]; exact bl_eq hj (by rw [List.length_drop]; omega) HB.out (.inr (.inr (by rw [gt_drop]; exact hcl)))
            clear hcl
            subst e
            have Ho : Hid (Sl w a' D) := sD
            go_wp2_with (first | (go_at_call 63; (with_reducible refine (rclass_c _ _).mono ?_); rintro e w' ⟨rfl, rfl⟩) | (at_builtin; (refine wpL_appn rfl ((.const (.slice none 0 0))) (.tmp 45) rfl w.heap.size none a' 0 q 0 c' [] D rfl (by first | rfl | simp | omega) (Own.nil _ _) rfl (by first | rfl | simp | omega) sD (by simp; omega) (Nat.le_refl _) ?_); intro a5 c5 w5 L5 Hl5 ho5 hb5 hk5 hA5; have HA5 := hid hA5; clear hA5; have Ho5 := hid ho5; clear ho5; have Hk5 := hid hk5; clear hk5; have hz5 := hb5.size))
            go_ret2
            exact ⟨a5, c5, by rw [Hl5.out]; rfl, by rw [← (show L5 = D by simpa using Hl5.out)]; exact Ho5.out, hb5⟩
        · have e : q = j := by rw [← Hq.out]; exact bl_eq hj (by rw [List.length_drop]; omega) HB.out (.inl (by omega))
          subst e
          go_wp2_with (at_builtin; (refine wpL_appn rfl ((.const (.slice none 0 0))) (.tmp 45) rfl w.heap.size none a' 0 q 0 c' [] D rfl (by first | rfl | simp | omega) (Own.nil _ _) rfl (by first | rfl | simp | omega) sD (by simp; omega) (Nat.le_refl _) ?_); intro a5 c5 w5 L5 Hl5 ho5 hb5 hk5 hA5; have HA5 := hid hA5; clear hA5; have Ho5 := hid ho5; clear ho5; have Hk5 := hid hk5; clear hk5; have hz5 := hb5.size)
          go_ret2
          exact ⟨a5, c5, by rw [Hl5.out]; rfl, by rw [← (show L5 = D by simpa using Hl5.out)]; exact Ho5.out, hb5⟩
      · have e : q = j := by rw [← Hq.out]; exact bl_eq hj (by rw [List.length_drop]; omega) HB.out (.inr (.inl (by rw [List.length_drop]; omega)))
        subst e
        go_wp2_with (at_builtin; (refine wpL_appn rfl ((.const (.slice none 0 0))) (.tmp 45) rfl w.heap.size none a' 0 q 0 c' [] D rfl (by first | rfl | simp | omega) (Own.nil _ _) rfl (by first | rfl | simp | omega) sD (by simp; omega) (Nat.le_refl _) ?_); intro a5 c5 w5 L5 Hl5 ho5 hb5 hk5 hA5; have HA5 := hid hA5; clear hA5; have Ho5 := hid ho5; clear ho5; have Hk5 := hid hk5; clear hk5; have hz5 := hb5.size)
        go_ret2
        exact ⟨a5, c5, by rw [Hl5.out]; rfl, by rw [← (show L5 = D by simpa using Hl5.out)]; exact Ho5.out, hb5⟩
end Go.Proofs.Ytcekoifbgfeahaa
