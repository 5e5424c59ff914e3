/- Contracts of layer 1: the document's own Case. -/
import Derived.Test.YtfjcojkmlbaifaaSignsO
namespace Go.Proofs.Ytfjcojkmlbaifaa
open Go.RowKit

theorem runs_of {r : Int} : runs r = ((cls r == 3) && (r != 95)) := by
  unfold runs; rw [Bool.eq_iff_iff]; simp

set_option maxHeartbeats 1600000 in
theorem pascal_c (camel : Bool) (a : Option Addr) (c : Nat) (l : List Int) (w : World) (h : Sl w a l) :
    Calls Try.prog 35 #[.slice a l.length c, .bool camel] w (Makes w (pas (if camel = true then lo else up) l)) := by
  have hl := h.len
  obtain ⟨g, hg⟩ : ∃ g, g = (if camel = true then lo else up) := ⟨_, rfl⟩
  rw [← hg]
  have Hg := hid hg; clear hg
  go_enter Try.func35, Try.ntmps35
  go_wp2
  go_loopw [5, 6, 7] (fun v ins i wr => ∃ (k : Nat) (a1 : Option Addr) (c1 : Nat) (L : List Int) (b : Bool), k ≤ l.length ∧ i = .int .i64 k ∧ v = .slice a1 L.length c1 ∧ Own wr w.heap.size a1 c1 L ∧
      ins = .bool b ∧ L.length ≤ k ∧ Hid (pst g (l.take k) = (L, b)) ∧ Below w.heap.size w wr) (fun _ _ i _ => l.length - (intOf i).toNat)
  case atStart => exact ⟨0, none, 0, [], false, Nat.zero_le _, rfl, rfl, Own.nil _ _, rfl, by simp, rfl, Below.refl _ _⟩
  case round =>
    obtain ⟨k, a1, c1, L, b, hk, rfl, rfl, hown, rfl, hLk, hp, hbel⟩ := hrel
    have hsz := hbel.size
    by_cases hlt : k < l.length
    · obtain ⟨b0, o, rfl, hc⟩ := (h.below hbel (Nat.le_refl _)).at hlt
      have ck := hc k hlt
      have hr := rng_gt h.rng hlt
      have Hown := hid hown
      clear hc hown
      have out : runs (gt l k) = false → Hid (pst g (l.take (k + 1)) = (L, false)) := fun hrun => pst_out hlt hp.out hrun
      have inn : runs (gt l k) = true → Hid (pst g (l.take (k + 1)) = (L ++ [if b = true then gt l k else if L = [] then g (gt l k) else up (gt l k)], true)) := fun hrun => pst_in hlt hp.out hrun
      rw [runs_of] at out inn
      cases h3 : (cls (gt l k) == 3) with
      | false =>
        have Hp2 := out (by rw [h3]; rfl)
        clear out inn
        go_wp2_with (go_at_call 25; (with_reducible refine (rclass_c _ _).mono ?_); rintro e w' ⟨rfl, rfl⟩)
        go_roundw
        case rel => exact ⟨k + 1, a1, c1, L, false, by omega, by go_num, rfl, Hown.out, rfl, by omega, Hp2, hbel⟩
        case measure => simp [intOf]; omega
      | true =>
        cases h95 : (gt l k != 95) with
        | false =>
          have Hp2 := out (by rw [h3, h95]; rfl)
          clear out inn
          go_wp2_with (go_at_call 25; (with_reducible refine (rclass_c _ _).mono ?_); rintro e w' ⟨rfl, rfl⟩)
          go_roundw
          case rel => exact ⟨k + 1, a1, c1, L, false, by omega, by go_num, rfl, Hown.out, rfl, by omega, Hp2, hbel⟩
          case measure => simp [intOf]; omega
        | true =>
          have Hp2 := inn (by rw [h3, h95]; rfl)
          clear out inn
          cases b with
          | true =>
            go_wp2_with (first | (go_at_call 25; (with_reducible refine (rclass_c _ _).mono ?_); rintro e w' ⟨rfl, rfl⟩) | (at_builtin; refine wpL_app rfl _ _ rfl w.heap.size a1 (some ⟨wr.heap.size, 0, none⟩) c1 1 L [gt l k] rfl (Hown.out.alloc _) rfl (Sl.lit wr [gt l k] _ (by simp) (rng_one hr) _ rfl) ?hb ?hbase ?_))
            case hb => (simp; try omega)
            case hbase => (simp; try omega)
            intro a2 c2 w2 hown2 hgrow hbel2
            have Hown2 := hid hown2; clear hown2 hgrow
            have hbel3 := (hbel.alloc (o := .cells #[.int .i32 (gt l k)] 21) (by omega)).trans hbel2
            go_wp2
            go_roundw
            case rel => exact ⟨k + 1, a2, c2, L ++ [gt l k], true, by omega, by go_num, (by simp), Hown2.out, rfl, (by simp; try omega), (by unfold Hid; rw [Hp2.out]; simp [Hg.out]), hbel3⟩
            case measure => simp [intOf]; omega
          | false =>
            have hr2 := up_rng hr
            have hr3 := lo_rng hr
            cases camel with
            | true =>
              by_cases hL : L = []
              · subst hL
                go_wp2_with (first | (go_at_call 25; (with_reducible refine (rclass_c _ _).mono ?_); rintro e w' ⟨rfl, rfl⟩) | (go_at_call 27; (with_reducible refine (rlower_c _ _ hr).mono ?_); rintro e w' ⟨rfl, rfl⟩) | (at_builtin; refine wpL_app rfl _ _ rfl w.heap.size a1 (some ⟨wr.heap.size, 0, none⟩) c1 1 [] [lo (gt l k)] rfl (Hown.out.alloc _) rfl (Sl.lit wr [lo (gt l k)] _ (by simp) (rng_one hr3) _ rfl) ?hb ?hbase ?_))
                case hb => (simp; try omega)
                case hbase => (simp; try omega)
                intro a2 c2 w2 hown2 hgrow hbel2
                have Hown2 := hid hown2; clear hown2 hgrow
                have hbel3 := (hbel.alloc (o := .cells #[.int .i32 (lo (gt l k))] 21) (by omega)).trans hbel2
                go_wp2
                go_roundw
                case rel => exact ⟨k + 1, a2, c2, [] ++ [lo (gt l k)], true, by omega, by go_num, (by simp), Hown2.out, rfl, (by simp; try omega), (by unfold Hid; rw [Hp2.out]; simp [Hg.out]), hbel3⟩
                case measure => simp [intOf]; omega
              · have hL0 : ((L.length : Int) == 0) = false := by
                  cases L with
                  | nil => exact absurd rfl hL
                  | cons x L => simp; omega
                have HL := hid hL; clear hL
                go_wp2_with (first | (go_at_call 25; (with_reducible refine (rclass_c _ _).mono ?_); rintro e w' ⟨rfl, rfl⟩) | (go_at_call 26; (with_reducible refine (rupper_c _ _ hr).mono ?_); rintro e w' ⟨rfl, rfl⟩) | (at_builtin; refine wpL_app rfl _ _ rfl w.heap.size a1 (some ⟨wr.heap.size, 0, none⟩) c1 1 L [up (gt l k)] rfl (Hown.out.alloc _) rfl (Sl.lit wr [up (gt l k)] _ (by simp) (rng_one hr2) _ rfl) ?hb ?hbase ?_))
                case hb => (simp; try omega)
                case hbase => (simp; try omega)
                intro a2 c2 w2 hown2 hgrow hbel2
                have Hown2 := hid hown2; clear hown2 hgrow
                have hbel3 := (hbel.alloc (o := .cells #[.int .i32 (up (gt l k))] 21) (by omega)).trans hbel2
                go_wp2
                go_roundw
                case rel => exact ⟨k + 1, a2, c2, L ++ [up (gt l k)], true, by omega, by go_num, (by simp), Hown2.out, rfl, (by simp; try omega), (by unfold Hid; rw [Hp2.out]; simp [HL.out, Hg.out]), hbel3⟩
                case measure => simp [intOf]; omega
            | false =>
              go_wp2_with (first | (go_at_call 25; (with_reducible refine (rclass_c _ _).mono ?_); rintro e w' ⟨rfl, rfl⟩) | (go_at_call 26; (with_reducible refine (rupper_c _ _ hr).mono ?_); rintro e w' ⟨rfl, rfl⟩) | (at_builtin; refine wpL_app rfl _ _ rfl w.heap.size a1 (some ⟨wr.heap.size, 0, none⟩) c1 1 L [up (gt l k)] rfl (Hown.out.alloc _) rfl (Sl.lit wr [up (gt l k)] _ (by simp) (rng_one hr2) _ rfl) ?hb ?hbase ?_))
              case hb => (simp; try omega)
              case hbase => (simp; try omega)
              intro a2 c2 w2 hown2 hgrow hbel2
              have Hown2 := hid hown2; clear hown2 hgrow
              have hbel3 := (hbel.alloc (o := .cells #[.int .i32 (up (gt l k))] 21) (by omega)).trans hbel2
              go_wp2
              go_roundw
              case rel => exact ⟨k + 1, a2, c2, L ++ [up (gt l k)], true, by omega, by go_num, (by simp), Hown2.out, rfl, (by simp; try omega), (by unfold Hid; rw [Hp2.out]; simp [Hg.out]), hbel3⟩
              case measure => simp [intOf]; omega
    · go_wp2
      go_ret
      have e : l.take k = l := List.take_of_length_le (by omega)
      have hp' := hp.out
      rw [e] at hp'
      have e2 : pas g l = L := by simp [pas, hp']
      exact ⟨_, _, by rw [e2]; rfl, by rw [e2]; exact hown, hbel⟩

theorem Makes.of {w w1 w' : World} {l : List Int} {e : Ending} (hb : Below w.heap.size w w1) (h : Makes w1 l e w') : Makes w l e w' := by
  obtain ⟨a, c, he, hown, hbel⟩ := h
  exact ⟨a, c, he, hown.base_le hb.size, hb.trans (hbel.mono hb.size)⟩
theorem cas_other {l : List Int} {how : Int} (h1 : how ≠ 1) (h2 : how ≠ 2) (h3 : how ≠ 3) (h4 : how ≠ 4) (h5 : how ≠ 5) : cas l how = l := by simp [cas, *]

set_option maxHeartbeats 800000 in
theorem case_c (a : Option Addr) (c : Nat) (l : List Int) (how : Int) (w : World) (h : Sl w a l) :
    Calls Try.prog 18 #[.slice a l.length c, .int .i64 how] w (Makes w (cas l how)) := by
  have hl := h.len
  by_cases h1 : how = 1
  · subst h1
    have hc : cas l 1 = l.map up := rfl
    rw [hc]
    go_enter Try.func18, Try.ntmps18
    go_wp2_with (go_at_call 31; refine (mapped_c _ _ (.inl ⟨rfl, rfl⟩) _ _ _ _ h).mono ?_; rintro e w1 ⟨a1, c1, rfl, hown, hbel⟩)
    go_ret
    exact ⟨_, _, by first | rfl | (rw [List.length_map]; rfl), hown, hbel⟩
  by_cases h2 : how = 2
  · subst h2
    have hc : cas l 2 = l.map lo := rfl
    rw [hc]
    go_enter Try.func18, Try.ntmps18
    go_wp2_with (go_at_call 31; refine (mapped_c _ _ (.inr ⟨rfl, rfl⟩) _ _ _ _ h).mono ?_; rintro e w1 ⟨a1, c1, rfl, hown, hbel⟩)
    go_ret
    exact ⟨_, _, by first | rfl | (rw [List.length_map]; rfl), hown, hbel⟩
  by_cases h3 : how = 3
  · subst h3
    have hc : cas l 3 = hcap l := rfl
    rw [hc]
    go_enter Try.func18, Try.ntmps18
    go_wp2_with (go_at_call 32; refine (capped_c _ _ _ _ h).mono ?_; rintro e w1 ⟨a1, c1, rfl, hown, hbel⟩)
    go_ret
    exact ⟨_, _, by first | rfl | (rw [List.length_map]; rfl), hown, hbel⟩
  by_cases h4 : how = 4
  · subst h4
    have hc : cas l 4 = pas up l := rfl
    rw [hc]
    go_enter Try.func18, Try.ntmps18
    go_wp2_with (go_at_call 33; refine (joined_c _ _ (.inl ⟨rfl, rfl⟩) _ _ _ _ h).mono ?_; rintro e w1 ⟨a1, c1, rfl, hown, hbel⟩)
    go_ret
    exact ⟨_, _, by first | rfl | (rw [List.length_map]; rfl), hown, hbel⟩
  by_cases h5 : how = 5
  · subst h5
    have hc : cas l 5 = pas lo l := rfl
    rw [hc]
    go_enter Try.func18, Try.ntmps18
    go_wp2_with (go_at_call 33; refine (joined_c _ _ (.inr ⟨rfl, rfl⟩) _ _ _ _ h).mono ?_; rintro e w1 ⟨a1, c1, rfl, hown, hbel⟩)
    go_ret
    exact ⟨_, _, by first | rfl | (rw [List.length_map]; rfl), hown, hbel⟩
  rw [cas_other h1 h2 h3 h4 h5]
  have g1 : (how == 1) = false := by simpa using h1
  have g2 : (how == 2) = false := by simpa using h2
  have g3 : (how == 3) = false := by simpa using h3
  have g4 : (how == 4) = false := by simpa using h4
  have g5 : (how == 5) = false := by simpa using h5
  clear h1 h2 h3 h4 h5
  go_enter Try.func18, Try.ntmps18
  go_wp2_with (go_at_call 34; refine (cloned_c _ _ _ _ h).mono ?_; rintro e w1 ⟨a1, c1, rfl, hown, hbel⟩)
  go_ret
  exact ⟨_, _, rfl, hown, hbel⟩
end Go.Proofs.Ytfjcojkmlbaifaa
