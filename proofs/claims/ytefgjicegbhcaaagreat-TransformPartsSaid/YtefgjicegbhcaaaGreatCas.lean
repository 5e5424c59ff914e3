/- Letter case of a text: the code (signs.Case) and the document (standishref1.Case). -/
import Derived.Test.YtefgjicegbhcaaaGreatKeepR
namespace Go.Proofs.YtefgjicegbhcaaaGreat
open Go.RowKit

set_option maxHeartbeats 400000 in
theorem cloned_c (a : Option Addr) (c : Nat) (l : List Int) (w : World) (h : Sl w a l) :
    Calls Tryz.prog 121 #[.slice a l.length c] w (Makes w l) := by
  have hl := h.len
  go_enter Tryz.func121, Tryz.ntmps121
  go_wp2_with (at_builtin; refine wpL_app rfl _ _ rfl w.heap.size none a 0 c [] l rfl (Own.nil _ _) rfl h (by simpa using hl) (Nat.le_refl _) ?_; intro a' c' w1 hown hgrow hbel; simp only [List.nil_append] at hown ⊢)
  go_ret
  exact ⟨_, _, rfl, hown, hbel⟩



set_option maxHeartbeats 800000 in
theorem mapped_c (F : Nat) (g : Int → Int) (hF : (F = 117 ∧ g = up) ∨ (F = 118 ∧ g = lo)) (a : Option Addr) (c : Nat) (l : List Int) (w : World) (h : Sl w a l) :
    Calls Tryz.prog 116 #[.slice a l.length c, .func (.func F) #[] #[]] w (Makes w (l.map g)) := by
  have hl := h.len
  rcases hF with ⟨rfl, hg⟩ | ⟨rfl, hg⟩
  all_goals
    have Hg := hid hg; clear hg
    go_enter Tryz.func116, Tryz.ntmps116
    go_wp2_with (go_at_call 121; refine (cloned_c _ _ _ _ h).mono ?_; rintro e w1 ⟨a1, c1, rfl, hown, hbel⟩)
    have Hown := hid hown
    go_loopw [12] (fun i wr => ∃ k : Nat, k ≤ l.length ∧ i = .int .i64 k ∧ Own wr w.heap.size a1 c1 (half g k l) ∧ Below w.heap.size w wr) (fun i _ => l.length - (intOf i).toNat)
    case atStart => exact ⟨0, Nat.zero_le _, rfl, by rw [half_zero]; exact Hown.out, hbel⟩
    case round =>
      obtain ⟨k, hk, rfl, hk1, hk2⟩ := hrel
      by_cases hlt : k < l.length
      · have hsh := hk1.shape
        rcases hsh with ⟨_, _, h0⟩ | ⟨g0, rfl, hg1, hg2, hg3⟩
        · have h1 := half_len g k l
          rw [h0] at h1; simp at h1; omega
        · obtain ⟨b', o', he, hcell⟩ := hk1.sl.at (i := k) (by rw [half_len]; exact hlt)
          simp only [Option.some.injEq, Addr.mk.injEq, and_true] at he
          obtain ⟨rfl, rfl⟩ := he
          have ck := hcell k (by rw [half_len]; exact hlt)
          rw [half_gt hlt, Nat.zero_add] at ck
          have fk := hk1.free k
          have hr := rng_gt h.rng hlt
          have Hk1 := hid hk1
          clear hcell hk1 hown hg3
          go_wp2_with (first | (go_at_call 117; (with_reducible refine (upper_c _ _ hr).mono ?_); rintro e w' ⟨rfl, rfl⟩) | (go_at_call 118; (with_reducible refine (lower_c _ _ hr).mono ?_); rintro e w' ⟨rfl, rfl⟩))
          go_roundw
          case rel =>
            refine ⟨k + 1, by omega, by go_num, ?_, hk2.setCell (by simpa using hg1) _⟩
            rw [← half_set hlt]
            have := Hk1.out.stored k (g (gt l k)) (by rw [Hg.out]; first | exact up_rng hr | exact lo_rng hr)
            rw [Hg.out] at this ⊢
            exact this
          case measure => simp [intOf]; omega
      · go_wp2
        go_ret
        rw [half_all g l (show l.length ≤ k from by omega)] at hk1
        exact ⟨_, _, by rw [List.length_map]; rfl, hk1, hk2⟩

theorem hcap_set {l : List Int} (h : 0 < l.length) : hcap l = l.set 0 (up (gt l 0)) := by
  cases l with
  | nil => simp at h
  | cons a l => rfl
theorem hcap_len (l : List Int) : (hcap l).length = l.length := by cases l <;> rfl

set_option maxHeartbeats 400000 in
theorem capped_c (a : Option Addr) (c : Nat) (l : List Int) (w : World) (h : Sl w a l) :
    Calls Tryz.prog 119 #[.slice a l.length c] w (Makes w (hcap l)) := by
  have hl := h.len
  go_enter Tryz.func119, Tryz.ntmps119
  by_cases hlt : 0 < l.length
  · go_wp2_with fail
    refine (cloned_c _ _ _ _ h).mono ?_; rintro e w1 ⟨a1, c1, rfl, hown, hbel⟩
    rcases hown.shape with ⟨_, _, h0⟩ | ⟨g0, rfl, hg1, hg2, hg3⟩
    · subst h0; simp at hlt
    · obtain ⟨b', o', he, hcell⟩ := hown.sl.at hlt
      simp only [Option.some.injEq, Addr.mk.injEq, and_true] at he
      obtain ⟨rfl, rfl⟩ := he
      have ck := hcell 0 hlt
      have fk := hown.free 0
      have hr := rng_gt h.rng hlt
      have Hown := hid hown
      clear hcell hown
      go_wp2_with (go_at_call 117; (with_reducible refine (upper_c _ _ hr).mono ?_); rintro e w' ⟨rfl, rfl⟩)
      go_ret
      refine ⟨_, _, by rw [hcap_len]; rfl, ?_, hbel.setCell (by simpa using hg1) _⟩
      rw [hcap_set hlt]
      exact Hown.out.stored 0 _ (up_rng hr)
  · have h0 : l = [] := List.length_eq_zero_iff.1 (by omega)
    subst h0
    go_wp2_with (go_at_call 121; refine (cloned_c _ _ _ _ h).mono ?_; rintro e w1 ⟨a1, c1, rfl, hown, hbel⟩)
    go_ret
    exact ⟨_, _, rfl, hown, hbel⟩

/-- which function turns the next run's first element -/
def sel (L : List Int) (F : Nat) : Nat := if L = [] then F else 117
theorem sel_nil (F : Nat) : sel [] F = F := rfl
theorem sel_ne {L : List Int} (F : Nat) (h : L ≠ []) : sel L F = 117 := by simp [sel, h]
theorem sel_app (L : List Int) (x : Int) (F : Nat) : sel (L ++ [x]) F = 117 := by simp [sel]

theorem pst_out {g : Int → Int} {l : List Int} {k : Nat} {L : List Int} {b : Bool} (hk : k < l.length) (h : pst g (l.take k) = (L, b)) (hr : runs (gt l k) = false) : pst g (l.take (k + 1)) = (L, false) := by
  rw [take_succ hk, pst_snoc, h]; simp [pstep, hr]
theorem pst_in {g : Int → Int} {l : List Int} {k : Nat} {L : List Int} {b : Bool} (hk : k < l.length) (h : pst g (l.take k) = (L, b)) (hr : runs (gt l k) = true) :
    pst g (l.take (k + 1)) = (L ++ [if b = true then gt l k else if L = [] then g (gt l k) else up (gt l k)], true) := by
  rw [take_succ hk, pst_snoc, h]; simp [pstep, hr]

set_option maxHeartbeats 1600000 in
theorem joined_c (F : Nat) (g : Int → Int) (hF : (F = 117 ∧ g = up) ∨ (F = 118 ∧ g = lo)) (a : Option Addr) (c : Nat) (l : List Int) (w : World) (h : Sl w a l) :
    Calls Tryz.prog 120 #[.slice a l.length c, .func (.func F) #[] #[]] w (Makes w (pas g l)) := by
  have hl := h.len
  go_enter Tryz.func120, Tryz.ntmps120
  go_wp2
  go_loopw [1, 5, 6, 11] (fun f v ins i wr => ∃ (k : Nat) (a1 : Option Addr) (c1 : Nat) (L : List Int) (b : Bool), k ≤ l.length ∧ i = .int .i64 k ∧ v = .slice a1 L.length c1 ∧ Own wr w.heap.size a1 c1 L ∧
      ins = .bool b ∧ f = .func (.func (sel L F)) #[] #[] ∧ L.length ≤ k ∧ Hid (b = true → L ≠ []) ∧ Hid (pst g (l.take k) = (L, b)) ∧ Below w.heap.size w wr) (fun _ _ _ i _ => l.length - (intOf i).toNat)
  case atStart => exact ⟨0, none, 0, [], false, Nat.zero_le _, rfl, rfl, Own.nil _ _, rfl, rfl, by simp, (fun h => by cases h), rfl, Below.refl _ _⟩
  case round =>
    obtain ⟨k, a1, c1, L, b, hk, rfl, rfl, hown, rfl, hf, hLk, hbL, hp, hbel⟩ := hrel
    have hsz := hbel.size
    by_cases hlt : k < l.length
    · obtain ⟨b0, o, rfl, hc⟩ := (h.below hbel (Nat.le_refl _)).at hlt
      have ck := hc k hlt
      have hr := rng_gt h.rng hlt
      have Hown := hid hown
      clear hc hown
      cases hrun : runs (gt l k) with
      | false =>
        have Hp2 := hid (pst_out hlt hp.out hrun)
        have Hf := hid hf; clear hf
        go_wp2_with (go_at_call 133; (with_reducible refine (ofRun_c _ _).mono ?_); rintro e w' ⟨rfl, rfl⟩)
        go_roundw
        case rel => exact ⟨k + 1, a1, c1, L, false, by omega, by go_num, rfl, Hown.out, rfl, Hf.out, by omega, (fun h => by cases h), Hp2, hbel⟩
        case measure => simp [intOf]; omega
      | true =>
        have Hp2 := hid (pst_in hlt hp.out hrun)
        cases b with
        | true =>
          have Hf := hid hf; clear hf
          go_wp2_with (first | (go_at_call 133; (with_reducible refine (ofRun_c _ _).mono ?_); rintro e w' ⟨rfl, rfl⟩) | (at_builtin; refine wpL_app rfl _ _ rfl w.heap.size a1 (some ⟨wr.heap.size, 0, none⟩) c1 1 L [gt l k] rfl (Hown.out.alloc _) rfl (Sl.lit wr [gt l k] _ (by simp) (rng_one hr) _ rfl) ?hb ?hbase ?_))
          case hb => (simp; try omega)
          case hbase => (simp; try omega)
          intro a2 c2 w2 hown2 hgrow hbel2
          have Hown2 := hid hown2; clear hown2 hgrow
          have hbel3 := (hbel.alloc (o := .cells #[.int .i32 (gt l k)] 21) (by omega)).trans hbel2
          go_wp2
          go_roundw
          case rel => exact ⟨k + 1, a2, c2, L ++ [gt l k], true, by omega, by go_num, (by simp), Hown2.out, rfl, by rw [sel_app, Hf.out, sel_ne F (hbL.out (by simp))], by simp; omega, fun _ => by simp, by simpa [Hid] using Hp2.out, hbel3⟩
          case measure => simp [intOf]; omega
        | false =>
          by_cases hL : L = []
          · subst hL
            rw [sel_nil] at hf; subst hf
            rcases hF with ⟨rfl, hg⟩ | ⟨rfl, hg⟩
            all_goals have Hg := hid hg; clear hg
            · have hr2 := up_rng hr
              go_wp2_with (first | (go_at_call 133; (with_reducible refine (ofRun_c _ _).mono ?_); rintro e w' ⟨rfl, rfl⟩) | (go_at_call 117; (with_reducible refine (upper_c _ _ hr).mono ?_); rintro e w' ⟨rfl, rfl⟩) | (at_builtin; refine wpL_app rfl _ _ rfl w.heap.size a1 (some ⟨wr.heap.size, 0, none⟩) c1 1 [] [up (gt l k)] rfl (Hown.out.alloc _) rfl (Sl.lit wr [up (gt l k)] _ (by simp) (rng_one hr2) _ rfl) ?hb ?hbase ?_))
              case hb => (simp; try omega)
              case hbase => (simp; try omega)
              intro a2 c2 w2 hown2 hgrow hbel2
              have Hown2 := hid hown2; clear hown2 hgrow
              have hbel3 := (hbel.alloc (o := .cells #[.int .i32 (up (gt l k))] 21) (by omega)).trans hbel2
              go_wp2
              go_roundw
              case rel => exact ⟨k + 1, a2, c2, [] ++ [up (gt l k)], true, by omega, by go_num, (by simp), Hown2.out, rfl, by rw [sel_app], by simp, fun _ => by simp, (by unfold Hid; rw [Hp2.out, Hg.out]; simp), hbel3⟩
              case measure => simp [intOf]; omega
            · have hr2 := lo_rng hr
              go_wp2_with (first | (go_at_call 133; (with_reducible refine (ofRun_c _ _).mono ?_); rintro e w' ⟨rfl, rfl⟩) | (go_at_call 118; (with_reducible refine (lower_c _ _ hr).mono ?_); rintro e w' ⟨rfl, rfl⟩) | (at_builtin; refine wpL_app rfl _ _ rfl w.heap.size a1 (some ⟨wr.heap.size, 0, none⟩) c1 1 [] [lo (gt l k)] rfl (Hown.out.alloc _) rfl (Sl.lit wr [lo (gt l k)] _ (by simp) (rng_one hr2) _ rfl) ?hb ?hbase ?_))
              case hb => (simp; try omega)
              case hbase => (simp; try omega)
              intro a2 c2 w2 hown2 hgrow hbel2
              have Hown2 := hid hown2; clear hown2 hgrow
              have hbel3 := (hbel.alloc (o := .cells #[.int .i32 (lo (gt l k))] 21) (by omega)).trans hbel2
              go_wp2
              go_roundw
              case rel => exact ⟨k + 1, a2, c2, [] ++ [lo (gt l k)], true, by omega, by go_num, (by simp), Hown2.out, rfl, by rw [sel_app], by simp, fun _ => by simp, (by unfold Hid; rw [Hp2.out, Hg.out]; simp), hbel3⟩
              case measure => simp [intOf]; omega
          · rw [sel_ne F hL] at hf; subst hf
            have hr2 := up_rng hr
            have HL := hid hL; clear hL
            go_wp2_with (first | (go_at_call 133; (with_reducible refine (ofRun_c _ _).mono ?_); rintro e w' ⟨rfl, rfl⟩) | (go_at_call 117; (with_reducible refine (upper_c _ _ hr).mono ?_); rintro e w' ⟨rfl, rfl⟩) | (at_builtin; refine wpL_app rfl _ _ rfl w.heap.size a1 (some ⟨wr.heap.size, 0, none⟩) c1 1 L [up (gt l k)] rfl (Hown.out.alloc _) rfl (Sl.lit wr [up (gt l k)] _ (by simp) (rng_one hr2) _ rfl) ?hb ?hbase ?_))
            case hb => (simp; try omega)
            case hbase => (simp; try omega)
            intro a2 c2 w2 hown2 hgrow hbel2
            have Hown2 := hid hown2; clear hown2 hgrow
            have hbel3 := (hbel.alloc (o := .cells #[.int .i32 (up (gt l k))] 21) (by omega)).trans hbel2
            go_wp2
            go_roundw
            case rel => exact ⟨k + 1, a2, c2, L ++ [up (gt l k)], true, by omega, by go_num, (by simp), Hown2.out, rfl, by rw [sel_app], by simp; omega, fun _ => by simp, (by unfold Hid; rw [Hp2.out]; simp [HL.out]), hbel3⟩
            case measure => simp [intOf]; omega
    · go_wp2
      go_ret
      have e : l.take k = l := List.take_of_length_le (by omega)
      have hp' := hp.out
      rw [e] at hp'
      have e2 : pas g l = L := by simp [pas, hp']
      exact ⟨_, _, by rw [e2]; rfl, by rw [e2]; exact hown, hbel⟩

theorem runs_of {r : Int} : runs r = ((cls r == 3) && (r != 95)) := by
  unfold runs; rw [Bool.eq_iff_iff]; simp

set_option maxHeartbeats 1600000 in
theorem pascal_c (camel : Bool) (a : Option Addr) (c : Nat) (l : List Int) (w : World) (h : Sl w a l) :
    Calls Tryz.prog 63 #[.slice a l.length c, .bool camel] w (Makes w (pas (if camel = true then lo else up) l)) := by
  have hl := h.len
  obtain ⟨g, hg⟩ : ∃ g, g = (if camel = true then lo else up) := ⟨_, rfl⟩
  rw [← hg]
  have Hg := hid hg; clear hg
  go_enter Tryz.func63, Tryz.ntmps63
  go_wp2
  go_loopw [5, 6, 7] (fun v ins i wr => ∃ (k : Nat) (a1 : Option Addr) (c1 : Nat) (L : List Int) (b : Bool), k ≤ l.length ∧ i = .int .i64 k ∧ v = .slice a1 L.length c1 ∧ Own wr w.heap.size a1 c1 L ∧
      ins = .bool b ∧ L.length ≤ k ∧ Hid (pst g (l.take k) = (L, b)) ∧ Below w.heap.size w wr) (fun _ _ i _ => l.length - (intOf i).toNat)
  case atStart => exact ⟨0, none, 0, [], false, Nat.zero_le _, rfl, rfl, Own.nil _ _, rfl, by simp, rfl, Below.refl _ _⟩
  case round =>
    obtain ⟨k, a1, c1, L, b, hk, rfl, rfl, hown, rfl, hLk, hp, hbel⟩ := hrel
    have hsz := hbel.size
    by_cases hlt : k < l.length
    · obtain ⟨b0, o, rfl, hc⟩ := (h.below hbel (Nat.le_refl _)).at hlt
      have ck := hc k hlt
      have hr := rng_gt h.rng hlt
      have Hown := hid hown
      clear hc hown
      have out : runs (gt l k) = false → Hid (pst g (l.take (k + 1)) = (L, false)) := fun hrun => pst_out hlt hp.out hrun
      have inn : runs (gt l k) = true → Hid (pst g (l.take (k + 1)) = (L ++ [if b = true then gt l k else if L = [] then g (gt l k) else up (gt l k)], true)) := fun hrun => pst_in hlt hp.out hrun
      rw [runs_of] at out inn
      cases h3 : (cls (gt l k) == 3) with
      | false =>
        have Hp2 := out (by rw [h3]; rfl)
        clear out inn
        go_wp2_with (go_at_call 90; (with_reducible refine (rclass_c _ _).mono ?_); rintro e w' ⟨rfl, rfl⟩)
        go_roundw
        case rel => exact ⟨k + 1, a1, c1, L, false, by omega, by go_num, rfl, Hown.out, rfl, by omega, Hp2, hbel⟩
        case measure => simp [intOf]; omega
      | true =>
        cases h95 : (gt l k != 95) with
        | false =>
          have Hp2 := out (by rw [h3, h95]; rfl)
          clear out inn
          go_wp2_with (go_at_call 90; (with_reducible refine (rclass_c _ _).mono ?_); rintro e w' ⟨rfl, rfl⟩)
          go_roundw
          case rel => exact ⟨k + 1, a1, c1, L, false, by omega, by go_num, rfl, Hown.out, rfl, by omega, Hp2, hbel⟩
          case measure => simp [intOf]; omega
        | true =>
          have Hp2 := inn (by rw [h3, h95]; rfl)
          clear out inn
          cases b with
          | true =>
            go_wp2_with (first | (go_at_call 90; (with_reducible refine (rclass_c _ _).mono ?_); rintro e w' ⟨rfl, rfl⟩) | (at_builtin; refine wpL_app rfl _ _ rfl w.heap.size a1 (some ⟨wr.heap.size, 0, none⟩) c1 1 L [gt l k] rfl (Hown.out.alloc _) rfl (Sl.lit wr [gt l k] _ (by simp) (rng_one hr) _ rfl) ?hb ?hbase ?_))
            case hb => (simp; try omega)
            case hbase => (simp; try omega)
            intro a2 c2 w2 hown2 hgrow hbel2
            have Hown2 := hid hown2; clear hown2 hgrow
            have hbel3 := (hbel.alloc (o := .cells #[.int .i32 (gt l k)] 21) (by omega)).trans hbel2
            go_wp2
            go_roundw
            case rel => exact ⟨k + 1, a2, c2, L ++ [gt l k], true, by omega, by go_num, (by simp), Hown2.out, rfl, (by simp; try omega), (by unfold Hid; rw [Hp2.out]; simp), hbel3⟩
            case measure => simp [intOf]; omega
          | false =>
            have hr2 := up_rng hr
            have hr3 := lo_rng hr
            cases camel with
            | true =>
              by_cases hL : L = []
              · subst hL
                go_wp2_with (first | (go_at_call 90; (with_reducible refine (rclass_c _ _).mono ?_); rintro e w' ⟨rfl, rfl⟩) | (go_at_call 65; (with_reducible refine (rlower_c _ _ hr).mono ?_); rintro e w' ⟨rfl, rfl⟩) | (at_builtin; refine wpL_app rfl _ _ rfl w.heap.size a1 (some ⟨wr.heap.size, 0, none⟩) c1 1 [] [lo (gt l k)] rfl (Hown.out.alloc _) rfl (Sl.lit wr [lo (gt l k)] _ (by simp) (rng_one hr3) _ rfl) ?hb ?hbase ?_))
                case hb => (simp; try omega)
                case hbase => (simp; try omega)
                intro a2 c2 w2 hown2 hgrow hbel2
                have Hown2 := hid hown2; clear hown2 hgrow
                have hbel3 := (hbel.alloc (o := .cells #[.int .i32 (lo (gt l k))] 21) (by omega)).trans hbel2
                go_wp2
                go_roundw
                case rel => exact ⟨k + 1, a2, c2, [] ++ [lo (gt l k)], true, by omega, by go_num, (by simp), Hown2.out, rfl, (by simp; try omega), (by unfold Hid; rw [Hp2.out]; simp [Hg.out]), hbel3⟩
                case measure => simp [intOf]; omega
              · have hL0 : ((L.length : Int) == 0) = false := by
                  cases L with
                  | nil => exact absurd rfl hL
                  | cons x L => simp; omega
                have HL := hid hL; clear hL
                go_wp2_with (first | (go_at_call 90; (with_reducible refine (rclass_c _ _).mono ?_); rintro e w' ⟨rfl, rfl⟩) | (go_at_call 64; (with_reducible refine (rupper_c _ _ hr).mono ?_); rintro e w' ⟨rfl, rfl⟩) | (at_builtin; refine wpL_app rfl _ _ rfl w.heap.size a1 (some ⟨wr.heap.size, 0, none⟩) c1 1 L [up (gt l k)] rfl (Hown.out.alloc _) rfl (Sl.lit wr [up (gt l k)] _ (by simp) (rng_one hr2) _ rfl) ?hb ?hbase ?_))
                case hb => (simp; try omega)
                case hbase => (simp; try omega)
                intro a2 c2 w2 hown2 hgrow hbel2
                have Hown2 := hid hown2; clear hown2 hgrow
                have hbel3 := (hbel.alloc (o := .cells #[.int .i32 (up (gt l k))] 21) (by omega)).trans hbel2
                go_wp2
                go_roundw
                case rel => exact ⟨k + 1, a2, c2, L ++ [up (gt l k)], true, by omega, by go_num, (by simp), Hown2.out, rfl, (by simp; try omega), (by unfold Hid; rw [Hp2.out]; simp [HL.out]), hbel3⟩
                case measure => simp [intOf]; omega
            | false =>
              go_wp2_with (first | (go_at_call 90; (with_reducible refine (rclass_c _ _).mono ?_); rintro e w' ⟨rfl, rfl⟩) | (go_at_call 64; (with_reducible refine (rupper_c _ _ hr).mono ?_); rintro e w' ⟨rfl, rfl⟩) | (at_builtin; refine wpL_app rfl _ _ rfl w.heap.size a1 (some ⟨wr.heap.size, 0, none⟩) c1 1 L [up (gt l k)] rfl (Hown.out.alloc _) rfl (Sl.lit wr [up (gt l k)] _ (by simp) (rng_one hr2) _ rfl) ?hb ?hbase ?_))
              case hb => (simp; try omega)
              case hbase => (simp; try omega)
              intro a2 c2 w2 hown2 hgrow hbel2
              have Hown2 := hid hown2; clear hown2 hgrow
              have hbel3 := (hbel.alloc (o := .cells #[.int .i32 (up (gt l k))] 21) (by omega)).trans hbel2
              go_wp2
              go_roundw
              case rel => exact ⟨k + 1, a2, c2, L ++ [up (gt l k)], true, by omega, by go_num, (by simp), Hown2.out, rfl, (by simp; try omega), (by unfold Hid; rw [Hp2.out]; simp [Hg.out]), hbel3⟩
              case measure => simp [intOf]; omega
    · go_wp2
      go_ret
      have e : l.take k = l := List.take_of_length_le (by omega)
      have hp' := hp.out
      rw [e] at hp'
      have e2 : pas g l = L := by simp [pas, hp']
      exact ⟨_, _, by rw [e2]; rfl, by rw [e2]; exact hown, hbel⟩

theorem cas_other {l : List Int} {how : Int} (h1 : how ≠ 1) (h2 : how ≠ 2) (h3 : how ≠ 3) (h4 : how ≠ 4) (h5 : how ≠ 5) : cas l how = l := by simp [cas, *]

set_option maxHeartbeats 800000 in
theorem case_c (a : Option Addr) (c : Nat) (l : List Int) (how : Int) (w : World) (h : Sl w a l) :
    Calls Tryz.prog 89 #[.slice a l.length c, .int .i64 how] w (Makes w (cas l how)) := by
  have hl := h.len
  by_cases h1 : how = 1
  · subst h1
    have hc : cas l 1 = l.map up := rfl
    rw [hc]
    go_enter Tryz.func89, Tryz.ntmps89
    go_wp2_with (go_at_call 116; refine (mapped_c _ _ (.inl ⟨rfl, rfl⟩) _ _ _ _ h).mono ?_; rintro e w1 ⟨a1, c1, rfl, hown, hbel⟩)
    go_ret
    exact ⟨_, _, by first | rfl | (rw [List.length_map]; rfl), hown, hbel⟩
  by_cases h2 : how = 2
  · subst h2
    have hc : cas l 2 = l.map lo := rfl
    rw [hc]
    go_enter Tryz.func89, Tryz.ntmps89
    go_wp2_with (go_at_call 116; refine (mapped_c _ _ (.inr ⟨rfl, rfl⟩) _ _ _ _ h).mono ?_; rintro e w1 ⟨a1, c1, rfl, hown, hbel⟩)
    go_ret
    exact ⟨_, _, by first | rfl | (rw [List.length_map]; rfl), hown, hbel⟩
  by_cases h3 : how = 3
  · subst h3
    have hc : cas l 3 = hcap l := rfl
    rw [hc]
    go_enter Tryz.func89, Tryz.ntmps89
    go_wp2_with (go_at_call 119; refine (capped_c _ _ _ _ h).mono ?_; rintro e w1 ⟨a1, c1, rfl, hown, hbel⟩)
    go_ret
    exact ⟨_, _, by first | rfl | (rw [List.length_map]; rfl), hown, hbel⟩
  by_cases h4 : how = 4
  · subst h4
    have hc : cas l 4 = pas up l := rfl
    rw [hc]
    go_enter Tryz.func89, Tryz.ntmps89
    go_wp2_with (go_at_call 120; refine (joined_c _ _ (.inl ⟨rfl, rfl⟩) _ _ _ _ h).mono ?_; rintro e w1 ⟨a1, c1, rfl, hown, hbel⟩)
    go_ret
    exact ⟨_, _, by first | rfl | (rw [List.length_map]; rfl), hown, hbel⟩
  by_cases h5 : how = 5
  · subst h5
    have hc : cas l 5 = pas lo l := rfl
    rw [hc]
    go_enter Tryz.func89, Tryz.ntmps89
    go_wp2_with (go_at_call 120; refine (joined_c _ _ (.inr ⟨rfl, rfl⟩) _ _ _ _ h).mono ?_; rintro e w1 ⟨a1, c1, rfl, hown, hbel⟩)
    go_ret
    exact ⟨_, _, by first | rfl | (rw [List.length_map]; rfl), hown, hbel⟩
  rw [cas_other h1 h2 h3 h4 h5]
  have g1 : (how == 1) = false := by simpa using h1
  have g2 : (how == 2) = false := by simpa using h2
  have g3 : (how == 3) = false := by simpa using h3
  have g4 : (how == 4) = false := by simpa using h4
  have g5 : (how == 5) = false := by simpa using h5
  clear h1 h2 h3 h4 h5
  go_enter Tryz.func89, Tryz.ntmps89
  go_wp2_with (go_at_call 121; refine (cloned_c _ _ _ _ h).mono ?_; rintro e w1 ⟨a1, c1, rfl, hown, hbel⟩)
  go_ret
  exact ⟨_, _, rfl, hown, hbel⟩

set_option maxHeartbeats 800000 in
theorem rcase1_c (a : Option Addr) (c : Nat) (l : List Int) (w : World) (h : Sl w a l) :
    Calls Tryz.prog 40 #[.slice a l.length c, .int .i64 1] w (Makes w (l.map up)) := by
  have hl := h.len
  go_enter Tryz.func40, Tryz.ntmps40
  go_wp2_with (at_builtin; refine wpL_app rfl _ _ rfl w.heap.size none a 0 c [] l rfl (Own.nil _ _) rfl h (by simpa using hl) (Nat.le_refl _) ?_; intro a1 c1 w1 hown hgrow hbel; simp only [List.nil_append] at hown ⊢)
  have Hown := hid hown
  go_loopw [6] (fun i wr => ∃ k : Nat, k ≤ l.length ∧ i = .int .i64 k ∧ Own wr w.heap.size a1 c1 (half up k l) ∧ Below w.heap.size w wr) (fun i _ => l.length - (intOf i).toNat)
  case atStart => exact ⟨0, Nat.zero_le _, rfl, by rw [half_zero]; exact Hown.out, hbel⟩
  case round =>
    obtain ⟨k, hk, rfl, hk1, hk2⟩ := hrel
    by_cases hlt : k < l.length
    · have hsh := hk1.shape
      rcases hsh with ⟨_, _, h0⟩ | ⟨g0, rfl, hg1, hg2, hg3⟩
      · have h1 := half_len up k l
        rw [h0] at h1; simp at h1; omega
      · skip
        obtain ⟨b', o', he, hcell⟩ := hk1.sl.at (i := k) (by rw [half_len]; exact hlt)
        simp only [Option.some.injEq, Addr.mk.injEq, and_true] at he
        obtain ⟨rfl, rfl⟩ := he
        have ck := hcell k (by rw [half_len]; exact hlt)
        rw [half_gt hlt, Nat.zero_add] at ck
        have fk := hk1.free k
        have hr := rng_gt h.rng hlt
        have Hk1 := hid hk1
        clear hcell hk1 hown hg3
        go_wp2_with (go_at_call 64; (with_reducible refine (rupper_c _ _ hr).mono ?_); rintro e w' ⟨rfl, rfl⟩)
        go_roundw
        case rel =>
          refine ⟨k + 1, by omega, by go_num, ?_, hk2.setCell (by simpa using hg1) _⟩
          rw [← half_set hlt]
          exact Hk1.out.stored k (up (gt l k)) (up_rng hr)
        case measure => simp [intOf]; omega
    · go_wp2
      go_ret
      rw [half_all up l (show l.length ≤ k from by omega)] at hk1
      exact ⟨_, _, by rw [List.length_map]; rfl, hk1, hk2⟩

set_option maxHeartbeats 800000 in
theorem rcase2_c (a : Option Addr) (c : Nat) (l : List Int) (w : World) (h : Sl w a l) :
    Calls Tryz.prog 40 #[.slice a l.length c, .int .i64 2] w (Makes w (l.map lo)) := by
  have hl := h.len
  go_enter Tryz.func40, Tryz.ntmps40
  go_wp2_with (at_builtin; refine wpL_app rfl _ _ rfl w.heap.size none a 0 c [] l rfl (Own.nil _ _) rfl h (by simpa using hl) (Nat.le_refl _) ?_; intro a1 c1 w1 hown hgrow hbel; simp only [List.nil_append] at hown ⊢)
  have Hown := hid hown
  go_loopw [6] (fun i wr => ∃ k : Nat, k ≤ l.length ∧ i = .int .i64 k ∧ Own wr w.heap.size a1 c1 (half lo k l) ∧ Below w.heap.size w wr) (fun i _ => l.length - (intOf i).toNat)
  case atStart => exact ⟨0, Nat.zero_le _, rfl, by rw [half_zero]; exact Hown.out, hbel⟩
  case round =>
    obtain ⟨k, hk, rfl, hk1, hk2⟩ := hrel
    by_cases hlt : k < l.length
    · have hsh := hk1.shape
      rcases hsh with ⟨_, _, h0⟩ | ⟨g0, rfl, hg1, hg2, hg3⟩
      · have h1 := half_len lo k l
        rw [h0] at h1; simp at h1; omega
      · skip
        obtain ⟨b', o', he, hcell⟩ := hk1.sl.at (i := k) (by rw [half_len]; exact hlt)
        simp only [Option.some.injEq, Addr.mk.injEq, and_true] at he
        obtain ⟨rfl, rfl⟩ := he
        have ck := hcell k (by rw [half_len]; exact hlt)
        rw [half_gt hlt, Nat.zero_add] at ck
        have fk := hk1.free k
        have hr := rng_gt h.rng hlt
        have Hk1 := hid hk1
        clear hcell hk1 hown hg3
        go_wp2_with (go_at_call 65; (with_reducible refine (rlower_c _ _ hr).mono ?_); rintro e w' ⟨rfl, rfl⟩)
        go_roundw
        case rel =>
          refine ⟨k + 1, by omega, by go_num, ?_, hk2.setCell (by simpa using hg1) _⟩
          rw [← half_set hlt]
          exact Hk1.out.stored k (lo (gt l k)) (lo_rng hr)
        case measure => simp [intOf]; omega
    · go_wp2
      go_ret
      rw [half_all lo l (show l.length ≤ k from by omega)] at hk1
      exact ⟨_, _, by rw [List.length_map]; rfl, hk1, hk2⟩

def capk (k : Nat) (l : List Int) : List Int := if k = 0 then l else hcap l
theorem capk_len (k : Nat) (l : List Int) : (capk k l).length = l.length := by unfold capk; split <;> simp [hcap_len]
set_option maxHeartbeats 800000 in
theorem rcase3_c (a : Option Addr) (c : Nat) (l : List Int) (w : World) (h : Sl w a l) :
    Calls Tryz.prog 40 #[.slice a l.length c, .int .i64 3] w (Makes w (hcap l)) := by
  have hl := h.len
  go_enter Tryz.func40, Tryz.ntmps40
  go_wp2_with (at_builtin; refine wpL_app rfl _ _ rfl w.heap.size none a 0 c [] l rfl (Own.nil _ _) rfl h (by simpa using hl) (Nat.le_refl _) ?_; intro a1 c1 w1 hown hgrow hbel; simp only [List.nil_append] at hown ⊢)
  have Hown := hid hown
  go_loopw [6] (fun i wr => ∃ k : Nat, k ≤ l.length ∧ i = .int .i64 k ∧ Own wr w.heap.size a1 c1 (capk k l) ∧ Below w.heap.size w wr) (fun i _ => l.length - (intOf i).toNat)
  case atStart => exact ⟨0, Nat.zero_le _, rfl, Hown.out, hbel⟩
  case round =>
    obtain ⟨k, hk, rfl, hk1, hk2⟩ := hrel
    by_cases hlt : k < l.length
    · by_cases h0 : k = 0
      · have g0 : ((k : Int) == 0) = true := by simpa using h0
        have hsh := hk1.shape
        rcases hsh with ⟨_, _, h9⟩ | ⟨g0, rfl, hg1, hg2, hg3⟩
        · have h1 := capk_len k l
          rw [h9] at h1; simp at h1; omega
        · have H0 := hid h0; clear h0
          obtain ⟨b', o', he, hcell⟩ := hk1.sl.at (i := k) (by rw [capk_len]; exact hlt)
          simp only [Option.some.injEq, Addr.mk.injEq, and_true] at he
          obtain ⟨rfl, rfl⟩ := he
          have ck := hcell k (by rw [capk_len]; exact hlt)
          rw [show capk k l = l from by simp [capk, H0.out], Nat.zero_add] at ck
          have fk := hk1.free k
          have hr := rng_gt h.rng hlt
          have Hk1 := hid hk1
          clear hcell hk1 hown hg3
          go_wp2_with (go_at_call 64; (with_reducible refine (rupper_c _ _ hr).mono ?_); rintro e w' ⟨rfl, rfl⟩)
          go_roundw
          case rel =>
            refine ⟨k + 1, by omega, by go_num, ?_, hk2.setCell (by simpa using hg1) _⟩
            have e : capk (k + 1) l = (capk k l).set k (up (gt l k)) := by
              have := H0.out
              simp only [capk, this, if_true]; rw [if_neg (by omega)]; exact hcap_set (by omega)
            rw [e]
            exact Hk1.out.stored k (up (gt l k)) (up_rng hr)
          case measure => simp [intOf]; omega
      · have g0 : ((k : Int) == 0) = false := by simpa using h0
        have Hk1 := hid hk1
        have H0 := hid h0
        clear hk1 hown h0
        go_wp2
        go_roundw
        case rel => exact ⟨k + 1, by omega, by go_num, (by have := Hk1.out; simpa [capk, H0.out] using this), hk2⟩
        case measure => simp [intOf]; omega
    · go_wp2
      go_ret
      have e : capk k l = hcap l := by
        unfold capk; split
        · have : l = [] := List.length_eq_zero_iff.1 (by omega)
          subst this; rfl
        · rfl
      rw [e] at hk1
      exact ⟨_, _, by rw [hcap_len]; rfl, hk1, hk2⟩
set_option maxHeartbeats 800000 in
theorem rcaseo_c (a : Option Addr) (c : Nat) (l : List Int) (how : Int) (w : World) (h : Sl w a l)
    (g1 : (how == 1) = false) (g2 : (how == 2) = false) (g3 : (how == 3) = false) (g4 : (how == 4) = false) (g5 : (how == 5) = false) :
    Calls Tryz.prog 40 #[.slice a l.length c, .int .i64 how] w (Makes w l) := by
  have hl := h.len
  go_enter Tryz.func40, Tryz.ntmps40
  go_wp2_with (at_builtin; refine wpL_app rfl _ _ rfl w.heap.size none a 0 c [] l rfl (Own.nil _ _) rfl h (by simpa using hl) (Nat.le_refl _) ?_; intro a1 c1 w1 hown hgrow hbel; simp only [List.nil_append] at hown ⊢)
  have Hown := hid hown
  go_loopw [6] (fun i wr => ∃ k : Nat, k ≤ l.length ∧ i = .int .i64 k ∧ wr = w1) (fun i _ => l.length - (intOf i).toNat)
  case atStart => exact ⟨0, Nat.zero_le _, rfl, rfl⟩
  case round =>
    obtain ⟨k, hk, rfl, rfl⟩ := hrel
    clear hown
    by_cases hlt : k < l.length
    · go_wp2
      go_roundw
      case rel => exact ⟨k + 1, by omega, by go_num, by first | rfl | trivial⟩
      case measure => simp [intOf]; omega
    · go_wp2
      go_ret
      exact ⟨_, _, rfl, Hown.out, hbel⟩
set_option maxHeartbeats 800000 in
theorem rcasep_c (a : Option Addr) (c : Nat) (l : List Int) (how : Int) (hh : how = 4 ∨ how = 5) (w : World) (h : Sl w a l) :
    Calls Tryz.prog 40 #[.slice a l.length c, .int .i64 how] w (Makes w (cas l how)) := by
  have hl := h.len
  rcases hh with rfl | rfl
  · have e : cas l 4 = pas (if false = true then lo else up) l := rfl
    rw [e]
    go_enter Tryz.func40, Tryz.ntmps40
    go_wp2_with (first | (at_builtin; refine wpL_app rfl _ _ rfl w.heap.size none a 0 c [] l rfl (Own.nil _ _) rfl h (by simpa using hl) (Nat.le_refl _) ?_; intro a1 c1 w1 hown hgrow hbel; simp only [List.nil_append] at hown ⊢) | (go_at_call 63; refine (pascal_c _ _ _ _ _ (h.bel hbel)).mono ?_; rintro e w2 hmk; obtain ⟨a2, c2, rfl, hown2, hbel2⟩ := hmk))
    go_ret
    exact Makes.of hbel ⟨_, _, rfl, hown2, hbel2⟩
  · have e : cas l 5 = pas (if true = true then lo else up) l := rfl
    rw [e]
    go_enter Tryz.func40, Tryz.ntmps40
    go_wp2_with (first | (at_builtin; refine wpL_app rfl _ _ rfl w.heap.size none a 0 c [] l rfl (Own.nil _ _) rfl h (by simpa using hl) (Nat.le_refl _) ?_; intro a1 c1 w1 hown hgrow hbel; simp only [List.nil_append] at hown ⊢) | (go_at_call 63; refine (pascal_c _ _ _ _ _ (h.bel hbel)).mono ?_; rintro e w2 hmk; obtain ⟨a2, c2, rfl, hown2, hbel2⟩ := hmk))
    go_ret
    exact Makes.of hbel ⟨_, _, rfl, hown2, hbel2⟩
theorem rcase_c (a : Option Addr) (c : Nat) (l : List Int) (how : Int) (w : World) (h : Sl w a l) :
    Calls Tryz.prog 40 #[.slice a l.length c, .int .i64 how] w (Makes w (cas l how)) := by
  by_cases h1 : how = 1
  · subst h1; exact rcase1_c a c l w h
  by_cases h2 : how = 2
  · subst h2; exact rcase2_c a c l w h
  by_cases h3 : how = 3
  · subst h3; exact rcase3_c a c l w h
  by_cases h4 : how = 4
  · exact rcasep_c a c l how (.inl h4) w h
  by_cases h5 : how = 5
  · exact rcasep_c a c l how (.inr h5) w h
  rw [cas_other h1 h2 h3 h4 h5]
  exact rcaseo_c a c l how w h (by simpa using h1) (by simpa using h2) (by simpa using h3) (by simpa using h4) (by simpa using h5)
end Go.Proofs.YtefgjicegbhcaaaGreat
