/- Contracts of package piece: grown. -/
import Derived.Test.YtcekoifbgfeahaaPd
namespace Go.Proofs.Ytcekoifbgfeahaa
open Go.RowKit

theorem flat_set (l : List Pc) (i : Nat) (m : Nat) (h : i < l.length) : (flat l).set (i * 3 + 2) (.int .i64 m) = flat (l.set i ⟨(pg l i).add, (pg l i).fr, m⟩) := by
  induction l generalizing i with
  | nil => simp at h
  | cons p l ih =>
    cases i with
    | zero => simp [flat, pcv, pg]
    | succ i =>
      have hi : i < l.length := by simpa using h
      have e := ih i hi
      have hx : pg (p :: l) (i + 1) = pg l i := by simp [pg]
      simp only [flat, List.flatMap_cons, List.set_cons_succ] at e ⊢
      rw [hx, ← e, List.set_append_right _ _ (by simp [pcv]; omega)]
      congr 2
      simp [pcv]; omega
theorem POwn.storedN {w : World} {base g c : Nat} {l : List Pc} (h : POwn w base (some ⟨g, 0, none⟩) c l) {i : Nat} (hi : i < l.length) (m : Nat) :
    POwn (w.setCell ⟨g, i * 3 + 2, none⟩ (.int .i64 m)) base (some ⟨g, 0, none⟩) c (l.set i ⟨(pg l i).add, (pg l i).fr, m⟩) := by
  refine ⟨?_, by simpa using h.2⟩
  have := (h.1.stored (i * 3 + 2) (.int .i64 m)).1
  rw [flat_set l i m hi] at this
  simpa using this
theorem POwn.free {w : World} {base g c : Nat} {l : List Pc} (h : POwn w base (some ⟨g, 0, none⟩) c l) (i : Nat) : w.frozen? ⟨g, i, none⟩ = false := h.1.frozenAt i
theorem POwn.drew {w : World} {base : Nat} {a : Option Addr} {c : Nat} {l : List Pc} (h : POwn w base a c l) : POwn w.drew base a c l := h
theorem grw_nil (k n : Nat) (hn : n ≠ 0) : grw [] k n = [⟨true, k, n⟩] := by simp [grw, hn]
theorem grw_last {l : List Pc} {k : Nat} (hl : l.length = k + 1) (m n : Nat) (hn : n ≠ 0) :
    grw l m n = if (pg l k).add = true ∧ (pg l k).fr + (pg l k).n = m then l.set k ⟨true, (pg l k).fr, (pg l k).n + n⟩ else l ++ [⟨true, m, n⟩] := by
  have hq : l.getLast? = some (pg l k) := by
    rw [List.getLast?_eq_getElem?, hl, pg_get (by omega)]; simp
  have hs := getLast_split hq
  unfold grw
  rw [if_neg hn, hq]
  simp only
  split
  · have hset : ∀ X : Pc, l.set k X = l.dropLast ++ [X] := by
      intro X
      conv => lhs; rw [hs]
      rw [List.set_append_right _ _ (by simp; omega)]
      simp [hl]
    rw [hset]
  · rfl

set_option maxHeartbeats 2000000 in
theorem grown_t (B : Nat) (F : Nat → Prop) (pt : Nat) (s : St) (base : Nat) (a : Option Addr) (c : Nat) (l : List Pc) (n : Nat) (w : World) (h : Tab w B F pt s) (ho : POwn w base a c l)
    (hF : ∀ k, F k → k < base) (hbase : base ≤ w.heap.size) (hl : l.length ≤ 2000) (hn : n ≤ 100000) (hb : ∀ p ∈ l, p.fr ≤ 100000 ∧ p.n ≤ 100000) :
    Calls Try.prog 59 #[.pointer (some ⟨pt, 0, none⟩), .slice a l.length c, .int .i64 n] w fun e w' =>
      ∃ a' c' L, e = .returned (.slice a' L.length c') ∧ Hid (L = grw l s.a.length n) ∧ POwn w' base a' c' L ∧ Below base w w' ∧ Kpt (Blk a) w w' := by
  obtain ⟨ao, co, aa, ca, ap, cp, c0, c1, c2, -⟩ := h.cells
  have hpt := hF _ h.ptF
  have hsa := h.wf.a
  have Ho := hid ho
  have hbs := ho.sl
  have hptl : pt < w.heap.size := by omega
  clear ho h hF c0 c2
  go_enter Try.func59, Try.ntmps59
  by_cases hn0 : n = 0
  · have hz : ((n : Int) == 0) = true := by simp [hn0]
    go_wp2
    go_ret
    exact ⟨a, c, l, rfl, by simp [grw, hn0, Hid], Ho.out, Below.refl _ _, Kpt.refl _ _⟩
  · have hz : ((n : Int) == 0) = false := by simp [hn0]
    have Hn0 := hid hn0
    clear hn0
    rcases Nat.eq_zero_or_pos l.length with hk | hk
    · obtain rfl : l = [] := by simpa using hk
      have hp : pcv ⟨true, s.a.length, n⟩ = [.bool true, .int .i64 s.a.length, .int .i64 n] := rfl
      have Hp := hid hp; clear hp
      go_wp2_with (at_builtin; (refine wpL_papp rfl (.tmp 46) (.tmp 54) rfl base a (some ⟨w.heap.size, 0, none⟩) 0 1 c 1 [] [⟨true, s.a.length, n⟩] rfl (by first | rfl | simp | omega) (Ho.out.grow (by (repeat' (first | exact Below.refl _ _ | assumption | refine bdrewN ?_ _ | refine Below.drew ?_ | refine bal ?_ _ | refine bthen ?_ (by assumption))))) rfl (by first | rfl | simp | omega) (PSl.lit' _ _ _ _ (by simp) _ (by rw [Hp.out])) (by simp) (by simp; omega) ?_); intro a5 c5 w5 L5 Hl5 ho5 hb5 hk5 hA5; have HA5 := hid hA5; clear hA5; have Ho5 := hid ho5; clear ho5; have Hk5 := hid hk5; clear hk5; have hz5 := hb5.size)
      go_ret
      exact ⟨a5, c5, L5, rfl, by rw [Hl5.out, grw_nil _ _ Hn0.out]; rfl, Ho5.out, ((Below.refl _ _).alloc hbase _).trans hb5, ((Kpt.refl _ _).alloc _).tr Hk5.out⟩
    · obtain ⟨k, hk2⟩ : ∃ k, l.length = k + 1 := ⟨l.length - 1, by omega⟩
      clear hk
      have Hk2 := hid hk2
      obtain ⟨b, off, rfl, hc⟩ := hbs.at (i := k) (by omega)
      obtain ⟨k0, k1, k2⟩ := hc k (by omega)
      have hr := hb _ (pg_mem (l := l) (i := k) (by omega))
      have Hg := hid (grw_last hk2 s.a.length n Hn0.out)
      obtain ⟨g, hg, hgb, hgl, hgc⟩ : ∃ g, (⟨b, off, none⟩ : Addr) = ⟨g, 0, none⟩ ∧ base ≤ g ∧ g < w.heap.size ∧ l.length ≤ c := by
        rcases Ho.out.shape with ⟨h0, _⟩ | ⟨g, h0, h1, h2, h3⟩
        · cases h0
        · exact ⟨g, by simpa using h0, h1, h2, h3⟩
      simp only [Addr.mk.injEq, and_true] at hg
      obtain ⟨rfl, rfl⟩ := hg
      simp only [Nat.zero_add] at k0 k1 k2
      have hfr := Ho.out.free (k * 3 + 2)
      clear hc hb
      cases hadd : (pg l k).add with
      | false =>
        rw [hadd] at k0
        have Hadd := hid hadd; clear hadd
        have hp : pcv ⟨true, s.a.length, n⟩ = [.bool true, .int .i64 s.a.length, .int .i64 n] := rfl
        have Hp := hid hp; clear hp
        go_wp2
        go_region
        go_wp2_with (at_builtin; (refine wpL_papp rfl (.tmp 46) (.tmp 54) rfl base (some ⟨b, 0, none⟩) (some ⟨w.heap.size + 1, 0, none⟩) l.length 1 c 1 l [⟨true, s.a.length, n⟩] rfl (by first | rfl | simp | omega) (Ho.out.grow (by (repeat' (first | exact Below.refl _ _ | assumption | refine bdrewN ?_ _ | refine Below.drew ?_ | refine bal ?_ _ | refine bthen ?_ (by assumption))))) rfl (by first | rfl | simp | omega) (PSl.drew (PSl.lit' _ _ _ _ (by simp) _ (by rw [Hp.out]))) (by simp; omega) (by simp; omega) ?_); intro a5 c5 w5 L5 Hl5 ho5 hb5 hk5 hA5; have HA5 := hid hA5; clear hA5; have Ho5 := hid ho5; clear ho5; have Hk5 := hid hk5; clear hk5; have hz5 := hb5.size)
        go_ret
        exact ⟨a5, c5, L5, rfl, by rw [Hg.out, if_neg (by simp [Hadd.out])]; exact Hl5, Ho5.out, ((((Below.refl _ _).alloc hbase _).alloc (by simp; omega) _).drew).trans hb5, ((((Kpt.refl _ _).alloc _).alloc _).drew).tr Hk5.out⟩
      | true =>
        rw [hadd] at k0
        have Hadd := hid hadd; clear hadd
        by_cases he : (pg l k).fr + (pg l k).n = s.a.length
        · have heq : (((pg l k).fr : Int) + ((pg l k).n : Int) == (s.a.length : Int)) = true := by simp; omega
          have He := hid he; clear he
          have fz2 : ∀ o, (w.alloc o).frozen? ⟨b, k * 3 + 2, none⟩ = false := fun o => by rw [World.frozen?_alloc_old _ _ _ (by simp; omega)]; exact hfr
          go_wp2
          go_region
          go_wp2
          go_ret
          have O2 := (Ho.out.storedN (i := k) (by have := Hk2.out; omega) ((pg l k).n + n)).grow (w' := ((w.setCell ⟨b, k * 3 + 2, none⟩ (.int .i64 (((pg l k).n + n : Nat) : Int))).alloc (.cells #[.bool true, .int .i64 (pg l k).fr, .int .i64 (pg l k).n] 63)).drew) (by (repeat' (first | exact Below.refl _ _ | assumption | refine bdrewN ?_ _ | refine Below.drew ?_ | refine bal ?_ _ | refine bthen ?_ (by assumption))))
          have hL : (l.set k ⟨(pg l k).add, (pg l k).fr, (pg l k).n + n⟩).length = l.length := by simp
          refine ⟨some ⟨b, 0, none⟩, c, _, ?_, hid (by rw [Hg.out, if_pos ⟨Hadd.out, He.out⟩]), ?_, (((Below.refl _ _).setCell hgb _).alloc (by simpa using hbase) _).drew, (((Kpt.refl _ _).setCell ⟨_, rfl, rfl⟩ _).alloc _).drew⟩
          · rw [List.length_set]; rfl
          · rw [Hadd.out] at O2; exact O2
        · have heq : (((pg l k).fr : Int) + ((pg l k).n : Int) == (s.a.length : Int)) = false := by simp; omega
          have He := hid he; clear he
          have hp : pcv ⟨true, s.a.length, n⟩ = [.bool true, .int .i64 s.a.length, .int .i64 n] := rfl
          have Hp := hid hp; clear hp
          go_wp2
          go_region
          go_wp2_with (at_builtin; (refine wpL_papp rfl (.tmp 46) (.tmp 54) rfl base (some ⟨b, 0, none⟩) (some ⟨w.heap.size + 1, 0, none⟩) l.length 1 c 1 l [⟨true, s.a.length, n⟩] rfl (by first | rfl | simp | omega) (Ho.out.grow (by (repeat' (first | exact Below.refl _ _ | assumption | refine bdrewN ?_ _ | refine Below.drew ?_ | refine bal ?_ _ | refine bthen ?_ (by assumption))))) rfl (by first | rfl | simp | omega) (PSl.drew (PSl.lit' _ _ _ _ (by simp) _ (by rw [Hp.out]))) (by simp; omega) (by simp; omega) ?_); intro a5 c5 w5 L5 Hl5 ho5 hb5 hk5 hA5; have HA5 := hid hA5; clear hA5; have Ho5 := hid ho5; clear ho5; have Hk5 := hid hk5; clear hk5; have hz5 := hb5.size)
          go_ret
          exact ⟨a5, c5, L5, rfl, by rw [Hg.out, if_neg (fun h => He.out h.2)]; exact Hl5, Ho5.out, ((((Below.refl _ _).alloc hbase _).alloc (by simp; omega) _).drew).trans hb5, ((((Kpt.refl _ _).alloc _).alloc _).drew).tr Hk5.out⟩
end Go.Proofs.Ytcekoifbgfeahaa
