/- Letter case of a text: the code (signs.Case) and the document (standishref1.Case). The document's formats as plain functions on lists: parts, a scan, what may be, what is printed; what is printed is scanned as it was. Formats as plain lists: what is printed is scanned as it was; what is scanned may be. Layer 10 as plain facts: which groups are open at each instruction of a program that is made; so each group of a match has both its ends or none, in their order. Slices of a format's parts (api.Form): the fields in memory, what they stand for (FmM.Fp), the texts inside. Slices of texts ([][]rune). Layer 12 as plain functions: the text of a part, of all parts; a text with its matches replaced. The code's May of a format's parts. Layer 12 in memory: the text of a part; of parts (filled); Fill and the document's closures over groups. Layer 12 in memory: filled; Fill. Layer 12 in memory: the closure over a match; replaced. Layer 12 in memory: found; Run. Layer 12: what every program answers that is one (standishlaw12.known). Parts of a format, and texts, as a law's arguments. -/
import Derived.Test.YtefgjicegbhcaaaGreatSignsM
import Derived.Test.YtefgjicegbhcaaaGreatMtY
import Derived.Test.YtefgjicegbhcaaaGreatRow
import Derived.Test.YtefgjicegbhcaaaGreatBase
import Derived.Test.YtefgjicegbhcaaaGreatSignsL
import Derived.BigQuiet
import Derived.Deep.CutBlock
import Derived.Deep.DeepCutAuto
import Derived.Deep.QuietTactic
import Derived.Deep.Slices
import Derived.Deep.Fields
import Derived.Lib.SmallJoins
import Derived.Test.YtefgjicegbhcaaaGreatKeepR
namespace Go.Proofs.YtefgjicegbhcaaaGreat
open Go.RowKit

set_option maxHeartbeats 400000 in
theorem cloned_c (a : Option Addr) (c : Nat) (l : List Int) (w : World) (h : Sl w a l) :
    Calls Tryz.prog 121 #[.slice a l.length c] w (Makes w l) := by
  have hl := h.len
  go_enter Tryz.func121, Tryz.ntmps121
  go_wp2_with (at_builtin; refine wpL_app rfl _ _ rfl w.heap.size none a 0 c [] l rfl (Own.nil _ _) rfl h (by simpa using hl) (Nat.le_refl _) ?_; intro a' c' w1 hown hgrow hbel; simp only [List.nil_append] at hown ⊢)
  go_ret
  exact ⟨_, _, rfl, hown, hbel⟩



set_option maxHeartbeats 800000 in
theorem mapped_c (F : Nat) (g : Int → Int) (hF : (F = 117 ∧ g = up) ∨ (F = 118 ∧ g = lo)) (a : Option Addr) (c : Nat) (l : List Int) (w : World) (h : Sl w a l) :
    Calls Tryz.prog 116 #[.slice a l.length c, .func (.func F) #[] #[]] w (Makes w (l.map g)) := by
  have hl := h.len
  rcases hF with ⟨rfl, hg⟩ | ⟨rfl, hg⟩
  all_goals
    have Hg := hid hg; clear hg
    go_enter Tryz.func116, Tryz.ntmps116
    go_wp2_with (go_at_call 121; refine (cloned_c _ _ _ _ h).mono ?_; rintro e w1 ⟨a1, c1, rfl, hown, hbel⟩)
    have Hown := hid hown
    go_loopw [12] (fun i wr => ∃ k : Nat, k ≤ l.length ∧ i = .int .i64 k ∧ Own wr w.heap.size a1 c1 (half g k l) ∧ Below w.heap.size w wr) (fun i _ => l.length - (intOf i).toNat)
    case atStart => exact ⟨0, Nat.zero_le _, rfl, by rw [half_zero]; exact Hown.out, hbel⟩
    case round =>
      obtain ⟨k, hk, rfl, hk1, hk2⟩ := hrel
      by_cases hlt : k < l.length
      · have hsh := hk1.shape
        rcases hsh with ⟨_, _, h0⟩ | ⟨g0, rfl, hg1, hg2, hg3⟩
        · have h1 := half_len g k l
          rw [h0] at h1; simp at h1; omega
        · obtain ⟨b', o', he, hcell⟩ := hk1.sl.at (i := k) (by rw [half_len]; exact hlt)
          simp only [Option.some.injEq, Addr.mk.injEq, and_true] at he
          obtain ⟨rfl, rfl⟩ := he
          have ck := hcell k (by rw [half_len]; exact hlt)
          rw [half_gt hlt, Nat.zero_add] at ck
          have fk := hk1.free k
          have hr := rng_gt h.rng hlt
          have Hk1 := hid hk1
          clear hcell hk1 hown hg3
          go_wp2_with (first | (go_at_call 117; (with_reducible refine (upper_c _ _ hr).mono ?_); rintro e w' ⟨rfl, rfl⟩) | (go_at_call 118; (with_reducible refine (lower_c _ _ hr).mono ?_); rintro e w' ⟨rfl, rfl⟩))
          go_roundw
          case rel =>
            refine ⟨k + 1, by omega, by go_num, ?_, hk2.setCell (by simpa using hg1) _⟩
            rw [← half_set hlt]
            have := Hk1.out.stored k (g (gt l k)) (by rw [Hg.out]; first | exact up_rng hr | exact lo_rng hr)
            rw [Hg.out] at this ⊢
            exact this
          case measure => simp [intOf]; omega
      · go_wp2
        go_ret
        rw [half_all g l (show l.length ≤ k from by omega)] at hk1
        exact ⟨_, _, by rw [List.length_map]; rfl, hk1, hk2⟩

theorem hcap_set {l : List Int} (h : 0 < l.length) : hcap l = l.set 0 (up (gt l 0)) := by
  cases l with
  | nil => simp at h
  | cons a l => rfl
theorem hcap_len (l : List Int) : (hcap l).length = l.length := by cases l <;> rfl

set_option maxHeartbeats 400000 in
theorem capped_c (a : Option Addr) (c : Nat) (l : List Int) (w : World) (h : Sl w a l) :
    Calls Tryz.prog 119 #[.slice a l.length c] w (Makes w (hcap l)) := by
  have hl := h.len
  go_enter Tryz.func119, Tryz.ntmps119
  by_cases hlt : 0 < l.length
  · go_wp2_with fail
    refine (cloned_c _ _ _ _ h).mono ?_; rintro e w1 ⟨a1, c1, rfl, hown, hbel⟩
    rcases hown.shape with ⟨_, _, h0⟩ | ⟨g0, rfl, hg1, hg2, hg3⟩
    · subst h0; simp at hlt
    · obtain ⟨b', o', he, hcell⟩ := hown.sl.at hlt
      simp only [Option.some.injEq, Addr.mk.injEq, and_true] at he
      obtain ⟨rfl, rfl⟩ := he
      have ck := hcell 0 hlt
      have fk := hown.free 0
      have hr := rng_gt h.rng hlt
      have Hown := hid hown
      clear hcell hown
      go_wp2_with (go_at_call 117; (with_reducible refine (upper_c _ _ hr).mono ?_); rintro e w' ⟨rfl, rfl⟩)
      go_ret
      refine ⟨_, _, by rw [hcap_len]; rfl, ?_, hbel.setCell (by simpa using hg1) _⟩
      rw [hcap_set hlt]
      exact Hown.out.stored 0 _ (up_rng hr)
  · have h0 : l = [] := List.length_eq_zero_iff.1 (by omega)
    subst h0
    go_wp2_with (go_at_call 121; refine (cloned_c _ _ _ _ h).mono ?_; rintro e w1 ⟨a1, c1, rfl, hown, hbel⟩)
    go_ret
    exact ⟨_, _, rfl, hown, hbel⟩

/-- which function turns the next run's first element -/
def sel (L : List Int) (F : Nat) : Nat := if L = [] then F else 117
theorem sel_nil (F : Nat) : sel [] F = F := rfl
theorem sel_ne {L : List Int} (F : Nat) (h : L ≠ []) : sel L F = 117 := by simp [sel, h]
theorem sel_app (L : List Int) (x : Int) (F : Nat) : sel (L ++ [x]) F = 117 := by simp [sel]

theorem pst_out {g : Int → Int} {l : List Int} {k : Nat} {L : List Int} {b : Bool} (hk : k < l.length) (h : pst g (l.take k) = (L, b)) (hr : runs (gt l k) = false) : pst g (l.take (k + 1)) = (L, false) := by
  rw [take_succ hk, pst_snoc, h]; simp [pstep, hr]
theorem pst_in {g : Int → Int} {l : List Int} {k : Nat} {L : List Int} {b : Bool} (hk : k < l.length) (h : pst g (l.take k) = (L, b)) (hr : runs (gt l k) = true) :
    pst g (l.take (k + 1)) = (L ++ [if b = true then gt l k else if L = [] then g (gt l k) else up (gt l k)], true) := by
  rw [take_succ hk, pst_snoc, h]; simp [pstep, hr]

set_option maxHeartbeats 1600000 in
theorem joined_c (F : Nat) (g : Int → Int) (hF : (F = 117 ∧ g = up) ∨ (F = 118 ∧ g = lo)) (a : Option Addr) (c : Nat) (l : List Int) (w : World) (h : Sl w a l) :
    Calls Tryz.prog 120 #[.slice a l.length c, .func (.func F) #[] #[]] w (Makes w (pas g l)) := by
  have hl := h.len
  go_enter Tryz.func120, Tryz.ntmps120
  go_wp2
  go_loopw [1, 5, 6, 11] (fun f v ins i wr => ∃ (k : Nat) (a1 : Option Addr) (c1 : Nat) (L : List Int) (b : Bool), k ≤ l.length ∧ i = .int .i64 k ∧ v = .slice a1 L.length c1 ∧ Own wr w.heap.size a1 c1 L ∧
      ins = .bool b ∧ f = .func (.func (sel L F)) #[] #[] ∧ L.length ≤ k ∧ Hid (b = true → L ≠ []) ∧ Hid (pst g (l.take k) = (L, b)) ∧ Below w.heap.size w wr) (fun _ _ _ i _ => l.length - (intOf i).toNat)
  case atStart => exact ⟨0, none, 0, [], false, Nat.zero_le _, rfl, rfl, Own.nil _ _, rfl, rfl, by simp, (fun h => by cases h), rfl, Below.refl _ _⟩
  case round =>
    obtain ⟨k, a1, c1, L, b, hk, rfl, rfl, hown, rfl, hf, hLk, hbL, hp, hbel⟩ := hrel
    have hsz := hbel.size
    by_cases hlt : k < l.length
    · obtain ⟨b0, o, rfl, hc⟩ := (h.below hbel (Nat.le_refl _)).at hlt
      have ck := hc k hlt
      have hr := rng_gt h.rng hlt
      have Hown := hid hown
      clear hc hown
      cases hrun : runs (gt l k) with
      | false =>
        have Hp2 := hid (pst_out hlt hp.out hrun)
        have Hf := hid hf; clear hf
        go_wp2_with (go_at_call 133; (with_reducible refine (ofRun_c _ _).mono ?_); rintro e w' ⟨rfl, rfl⟩)
        go_roundw
        case rel => exact ⟨k + 1, a1, c1, L, false, by omega, by go_num, rfl, Hown.out, rfl, Hf.out, by omega, (fun h => by cases h), Hp2, hbel⟩
        case measure => simp [intOf]; omega
      | true =>
        have Hp2 := hid (pst_in hlt hp.out hrun)
        cases b with
        | true =>
          have Hf := hid hf; clear hf
          go_wp2_with (first | (go_at_call 133; (with_reducible refine (ofRun_c _ _).mono ?_); rintro e w' ⟨rfl, rfl⟩) | (at_builtin; refine wpL_app rfl _ _ rfl w.heap.size a1 (some ⟨wr.heap.size, 0, none⟩) c1 1 L [gt l k] rfl (Hown.out.alloc _) rfl (Sl.lit wr [gt l k] _ (by simp) (rng_one hr) _ rfl) ?hb ?hbase ?_))
          case hb => (simp; try omega)
          case hbase => (simp; try omega)
          intro a2 c2 w2 hown2 hgrow hbel2
          have Hown2 := hid hown2; clear hown2 hgrow
          have hbel3 := (hbel.alloc (o := .cells #[.int .i32 (gt l k)] 21) (by omega)).trans hbel2
          go_wp2
          go_roundw
          case rel => exact ⟨k + 1, a2, c2, L ++ [gt l k], true, by omega, by go_num, (by simp), Hown2.out, rfl, by rw [sel_app, Hf.out, sel_ne F (hbL.out (by simp))], by simp; omega, fun _ => by simp, by simpa [Hid] using Hp2.out, hbel3⟩
          case measure => simp [intOf]; omega
        | false =>
          by_cases hL : L = []
          · subst hL
            rw [sel_nil] at hf; subst hf
            rcases hF with ⟨rfl, hg⟩ | ⟨rfl, hg⟩
            all_goals have Hg := hid hg; clear hg
            · have hr2 := up_rng hr
              go_wp2_with (first | (go_at_call 133; (with_reducible refine (ofRun_c _ _).mono ?_); rintro e w' ⟨rfl, rfl⟩) | (go_at_call 117; (with_reducible refine (upper_c _ _ hr).mono ?_); rintro e w' ⟨rfl, rfl⟩) | (at_builtin; refine wpL_app rfl _ _ rfl w.heap.size a1 (some ⟨wr.heap.size, 0, none⟩) c1 1 [] [up (gt l k)] rfl (Hown.out.alloc _) rfl (Sl.lit wr [up (gt l k)] _ (by simp) (rng_one hr2) _ rfl) ?hb ?hbase ?_))
              case hb => (simp; try omega)
              case hbase => (simp; try omega)
              intro a2 c2 w2 hown2 hgrow hbel2
              have Hown2 := hid hown2; clear hown2 hgrow
              have hbel3 := (hbel.alloc (o := .cells #[.int .i32 (up (gt l k))] 21) (by omega)).trans hbel2
              go_wp2
              go_roundw
              case rel => exact ⟨k + 1, a2, c2, [] ++ [up (gt l k)], true, by omega, by go_num, (by simp), Hown2.out, rfl, by rw [sel_app], by simp, fun _ => by simp, (by unfold Hid; rw [Hp2.out, Hg.out]; simp), hbel3⟩
              case measure => simp [intOf]; omega
            · have hr2 := lo_rng hr
              go_wp2_with (first | (go_at_call 133; (with_reducible refine (ofRun_c _ _).mono ?_); rintro e w' ⟨rfl, rfl⟩) | (go_at_call 118; (with_reducible refine (lower_c _ _ hr).mono ?_); rintro e w' ⟨rfl, rfl⟩) | (at_builtin; refine wpL_app rfl _ _ rfl w.heap.size a1 (some ⟨wr.heap.size, 0, none⟩) c1 1 [] [lo (gt l k)] rfl (Hown.out.alloc _) rfl (Sl.lit wr [lo (gt l k)] _ (by simp) (rng_one hr2) _ rfl) ?hb ?hbase ?_))
              case hb => (simp; try omega)
              case hbase => (simp; try omega)
              intro a2 c2 w2 hown2 hgrow hbel2
              have Hown2 := hid hown2; clear hown2 hgrow
              have hbel3 := (hbel.alloc (o := .cells #[.int .i32 (lo (gt l k))] 21) (by omega)).trans hbel2
              go_wp2
              go_roundw
              case rel => exact ⟨k + 1, a2, c2, [] ++ [lo (gt l k)], true, by omega, by go_num, (by simp), Hown2.out, rfl, by rw [sel_app], by simp, fun _ => by simp, (by unfold Hid; rw [Hp2.out, Hg.out]; simp), hbel3⟩
              case measure => simp [intOf]; omega
          · rw [sel_ne F hL] at hf; subst hf
            have hr2 := up_rng hr
            have HL := hid hL; clear hL
            go_wp2_with (first | (go_at_call 133; (with_reducible refine (ofRun_c _ _).mono ?_); rintro e w' ⟨rfl, rfl⟩) | (go_at_call 117; (with_reducible refine (upper_c _ _ hr).mono ?_); rintro e w' ⟨rfl, rfl⟩) | (at_builtin; refine wpL_app rfl _ _ rfl w.heap.size a1 (some ⟨wr.heap.size, 0, none⟩) c1 1 L [up (gt l k)] rfl (Hown.out.alloc _) rfl (Sl.lit wr [up (gt l k)] _ (by simp) (rng_one hr2) _ rfl) ?hb ?hbase ?_))
            case hb => (simp; try omega)
            case hbase => (simp; try omega)
            intro a2 c2 w2 hown2 hgrow hbel2
            have Hown2 := hid hown2; clear hown2 hgrow
            have hbel3 := (hbel.alloc (o := .cells #[.int .i32 (up (gt l k))] 21) (by omega)).trans hbel2
            go_wp2
            go_roundw
            case rel => exact ⟨k + 1, a2, c2, L ++ [up (gt l k)], true, by omega, by go_num, (by simp), Hown2.out, rfl, by rw [sel_app], by simp; omega, fun _ => by simp, (by unfold Hid; rw [Hp2.out]; simp [HL.out]), hbel3⟩
            case measure => simp [intOf]; omega
    · go_wp2
      go_ret
      have e : l.take k = l := List.take_of_length_le (by omega)
      have hp' := hp.out
      rw [e] at hp'
      have e2 : pas g l = L := by simp [pas, hp']
      exact ⟨_, _, by rw [e2]; rfl, by rw [e2]; exact hown, hbel⟩

theorem runs_of {r : Int} : runs r = ((cls r == 3) && (r != 95)) := by
  unfold runs; rw [Bool.eq_iff_iff]; simp

set_option maxHeartbeats 1600000 in
theorem pascal_c (camel : Bool) (a : Option Addr) (c : Nat) (l : List Int) (w : World) (h : Sl w a l) :
    Calls Tryz.prog 63 #[.slice a l.length c, .bool camel] w (Makes w (pas (if camel = true then lo else up) l)) := by
  have hl := h.len
  obtain ⟨g, hg⟩ : ∃ g, g = (if camel = true then lo else up) := ⟨_, rfl⟩
  rw [← hg]
  have Hg := hid hg; clear hg
  go_enter Tryz.func63, Tryz.ntmps63
  go_wp2
  go_loopw [5, 6, 7] (fun v ins i wr => ∃ (k : Nat) (a1 : Option Addr) (c1 : Nat) (L : List Int) (b : Bool), k ≤ l.length ∧ i = .int .i64 k ∧ v = .slice a1 L.length c1 ∧ Own wr w.heap.size a1 c1 L ∧
      ins = .bool b ∧ L.length ≤ k ∧ Hid (pst g (l.take k) = (L, b)) ∧ Below w.heap.size w wr) (fun _ _ i _ => l.length - (intOf i).toNat)
  case atStart => exact ⟨0, none, 0, [], false, Nat.zero_le _, rfl, rfl, Own.nil _ _, rfl, by simp, rfl, Below.refl _ _⟩
  case round =>
    obtain ⟨k, a1, c1, L, b, hk, rfl, rfl, hown, rfl, hLk, hp, hbel⟩ := hrel
    have hsz := hbel.size
    by_cases hlt : k < l.length
    · obtain ⟨b0, o, rfl, hc⟩ := (h.below hbel (Nat.le_refl _)).at hlt
      have ck := hc k hlt
      have hr := rng_gt h.rng hlt
      have Hown := hid hown
      clear hc hown
      have out : runs (gt l k) = false → Hid (pst g (l.take (k + 1)) = (L, false)) := fun hrun => pst_out hlt hp.out hrun
      have inn : runs (gt l k) = true → Hid (pst g (l.take (k + 1)) = (L ++ [if b = true then gt l k else if L = [] then g (gt l k) else up (gt l k)], true)) := fun hrun => pst_in hlt hp.out hrun
      rw [runs_of] at out inn
      cases h3 : (cls (gt l k) == 3) with
      | false =>
        have Hp2 := out (by rw [h3]; rfl)
        clear out inn
        go_wp2_with (go_at_call 90; (with_reducible refine (rclass_c _ _).mono ?_); rintro e w' ⟨rfl, rfl⟩)
        go_roundw
        case rel => exact ⟨k + 1, a1, c1, L, false, by omega, by go_num, rfl, Hown.out, rfl, by omega, Hp2, hbel⟩
        case measure => simp [intOf]; omega
      | true =>
        cases h95 : (gt l k != 95) with
        | false =>
          have Hp2 := out (by rw [h3, h95]; rfl)
          clear out inn
          go_wp2_with (go_at_call 90; (with_reducible refine (rclass_c _ _).mono ?_); rintro e w' ⟨rfl, rfl⟩)
          go_roundw
          case rel => exact ⟨k + 1, a1, c1, L, false, by omega, by go_num, rfl, Hown.out, rfl, by omega, Hp2, hbel⟩
          case measure => simp [intOf]; omega
        | true =>
          have Hp2 := inn (by rw [h3, h95]; rfl)
          clear out inn
          cases b with
          | true =>
            go_wp2_with (first | (go_at_call 90; (with_reducible refine (rclass_c _ _).mono ?_); rintro e w' ⟨rfl, rfl⟩) | (at_builtin; refine wpL_app rfl _ _ rfl w.heap.size a1 (some ⟨wr.heap.size, 0, none⟩) c1 1 L [gt l k] rfl (Hown.out.alloc _) rfl (Sl.lit wr [gt l k] _ (by simp) (rng_one hr) _ rfl) ?hb ?hbase ?_))
            case hb => (simp; try omega)
            case hbase => (simp; try omega)
            intro a2 c2 w2 hown2 hgrow hbel2
            have Hown2 := hid hown2; clear hown2 hgrow
            have hbel3 := (hbel.alloc (o := .cells #[.int .i32 (gt l k)] 21) (by omega)).trans hbel2
            go_wp2
            go_roundw
            case rel => exact ⟨k + 1, a2, c2, L ++ [gt l k], true, by omega, by go_num, (by simp), Hown2.out, rfl, (by simp; try omega), (by unfold Hid; rw [Hp2.out]; simp), hbel3⟩
            case measure => simp [intOf]; omega
          | false =>
            have hr2 := up_rng hr
            have hr3 := lo_rng hr
            cases camel with
            | true =>
              by_cases hL : L = []
              · subst hL
                go_wp2_with (first | (go_at_call 90; (with_reducible refine (rclass_c _ _).mono ?_); rintro e w' ⟨rfl, rfl⟩) | (go_at_call 65; (with_reducible refine (rlower_c _ _ hr).mono ?_); rintro e w' ⟨rfl, rfl⟩) | (at_builtin; refine wpL_app rfl _ _ rfl w.heap.size a1 (some ⟨wr.heap.size, 0, none⟩) c1 1 [] [lo (gt l k)] rfl (Hown.out.alloc _) rfl (Sl.lit wr [lo (gt l k)] _ (by simp) (rng_one hr3) _ rfl) ?hb ?hbase ?_))
                case hb => (simp; try omega)
                case hbase => (simp; try omega)
                intro a2 c2 w2 hown2 hgrow hbel2
                have Hown2 := hid hown2; clear hown2 hgrow
                have hbel3 := (hbel.alloc (o := .cells #[.int .i32 (lo (gt l k))] 21) (by omega)).trans hbel2
                go_wp2
                go_roundw
                case rel => exact ⟨k + 1, a2, c2, [] ++ [lo (gt l k)], true, by omega, by go_num, (by simp), Hown2.out, rfl, (by simp; try omega), (by unfold Hid; rw [Hp2.out]; simp [Hg.out]), hbel3⟩
                case measure => simp [intOf]; omega
              · have hL0 : ((L.length : Int) == 0) = false := by
                  cases L with
                  | nil => exact absurd rfl hL
                  | cons x L => simp; omega
                have HL := hid hL; clear hL
                go_wp2_with (first | (go_at_call 90; (with_reducible refine (rclass_c _ _).mono ?_); rintro e w' ⟨rfl, rfl⟩) | (go_at_call 64; (with_reducible refine (rupper_c _ _ hr).mono ?_); rintro e w' ⟨rfl, rfl⟩) | (at_builtin; refine wpL_app rfl _ _ rfl w.heap.size a1 (some ⟨wr.heap.size, 0, none⟩) c1 1 L [up (gt l k)] rfl (Hown.out.alloc _) rfl (Sl.lit wr [up (gt l k)] _ (by simp) (rng_one hr2) _ rfl) ?hb ?hbase ?_))
                case hb => (simp; try omega)
                case hbase => (simp; try omega)
                intro a2 c2 w2 hown2 hgrow hbel2
                have Hown2 := hid hown2; clear hown2 hgrow
                have hbel3 := (hbel.alloc (o := .cells #[.int .i32 (up (gt l k))] 21) (by omega)).trans hbel2
                go_wp2
                go_roundw
                case rel => exact ⟨k + 1, a2, c2, L ++ [up (gt l k)], true, by omega, by go_num, (by simp), Hown2.out, rfl, (by simp; try omega), (by unfold Hid; rw [Hp2.out]; simp [HL.out]), hbel3⟩
                case measure => simp [intOf]; omega
            | false =>
              go_wp2_with (first | (go_at_call 90; (with_reducible refine (rclass_c _ _).mono ?_); rintro e w' ⟨rfl, rfl⟩) | (go_at_call 64; (with_reducible refine (rupper_c _ _ hr).mono ?_); rintro e w' ⟨rfl, rfl⟩) | (at_builtin; refine wpL_app rfl _ _ rfl w.heap.size a1 (some ⟨wr.heap.size, 0, none⟩) c1 1 L [up (gt l k)] rfl (Hown.out.alloc _) rfl (Sl.lit wr [up (gt l k)] _ (by simp) (rng_one hr2) _ rfl) ?hb ?hbase ?_))
              case hb => (simp; try omega)
              case hbase => (simp; try omega)
              intro a2 c2 w2 hown2 hgrow hbel2
              have Hown2 := hid hown2; clear hown2 hgrow
              have hbel3 := (hbel.alloc (o := .cells #[.int .i32 (up (gt l k))] 21) (by omega)).trans hbel2
              go_wp2
              go_roundw
              case rel => exact ⟨k + 1, a2, c2, L ++ [up (gt l k)], true, by omega, by go_num, (by simp), Hown2.out, rfl, (by simp; try omega), (by unfold Hid; rw [Hp2.out]; simp [Hg.out]), hbel3⟩
              case measure => simp [intOf]; omega
    · go_wp2
      go_ret
      have e : l.take k = l := List.take_of_length_le (by omega)
      have hp' := hp.out
      rw [e] at hp'
      have e2 : pas g l = L := by simp [pas, hp']
      exact ⟨_, _, by rw [e2]; rfl, by rw [e2]; exact hown, hbel⟩

theorem cas_other {l : List Int} {how : Int} (h1 : how ≠ 1) (h2 : how ≠ 2) (h3 : how ≠ 3) (h4 : how ≠ 4) (h5 : how ≠ 5) : cas l how = l := by simp [cas, *]

set_option maxHeartbeats 800000 in
theorem case_c (a : Option Addr) (c : Nat) (l : List Int) (how : Int) (w : World) (h : Sl w a l) :
    Calls Tryz.prog 89 #[.slice a l.length c, .int .i64 how] w (Makes w (cas l how)) := by
  have hl := h.len
  by_cases h1 : how = 1
  · subst h1
    have hc : cas l 1 = l.map up := rfl
    rw [hc]
    go_enter Tryz.func89, Tryz.ntmps89
    go_wp2_with (go_at_call 116; refine (mapped_c _ _ (.inl ⟨rfl, rfl⟩) _ _ _ _ h).mono ?_; rintro e w1 ⟨a1, c1, rfl, hown, hbel⟩)
    go_ret
    exact ⟨_, _, by first | rfl | (rw [List.length_map]; rfl), hown, hbel⟩
  by_cases h2 : how = 2
  · subst h2
    have hc : cas l 2 = l.map lo := rfl
    rw [hc]
    go_enter Tryz.func89, Tryz.ntmps89
    go_wp2_with (go_at_call 116; refine (mapped_c _ _ (.inr ⟨rfl, rfl⟩) _ _ _ _ h).mono ?_; rintro e w1 ⟨a1, c1, rfl, hown, hbel⟩)
    go_ret
    exact ⟨_, _, by first | rfl | (rw [List.length_map]; rfl), hown, hbel⟩
  by_cases h3 : how = 3
  · subst h3
    have hc : cas l 3 = hcap l := rfl
    rw [hc]
    go_enter Tryz.func89, Tryz.ntmps89
    go_wp2_with (go_at_call 119; refine (capped_c _ _ _ _ h).mono ?_; rintro e w1 ⟨a1, c1, rfl, hown, hbel⟩)
    go_ret
    exact ⟨_, _, by first | rfl | (rw [List.length_map]; rfl), hown, hbel⟩
  by_cases h4 : how = 4
  · subst h4
    have hc : cas l 4 = pas up l := rfl
    rw [hc]
    go_enter Tryz.func89, Tryz.ntmps89
    go_wp2_with (go_at_call 120; refine (joined_c _ _ (.inl ⟨rfl, rfl⟩) _ _ _ _ h).mono ?_; rintro e w1 ⟨a1, c1, rfl, hown, hbel⟩)
    go_ret
    exact ⟨_, _, by first | rfl | (rw [List.length_map]; rfl), hown, hbel⟩
  by_cases h5 : how = 5
  · subst h5
    have hc : cas l 5 = pas lo l := rfl
    rw [hc]
    go_enter Tryz.func89, Tryz.ntmps89
    go_wp2_with (go_at_call 120; refine (joined_c _ _ (.inr ⟨rfl, rfl⟩) _ _ _ _ h).mono ?_; rintro e w1 ⟨a1, c1, rfl, hown, hbel⟩)
    go_ret
    exact ⟨_, _, by first | rfl | (rw [List.length_map]; rfl), hown, hbel⟩
  rw [cas_other h1 h2 h3 h4 h5]
  have g1 : (how == 1) = false := by simpa using h1
  have g2 : (how == 2) = false := by simpa using h2
  have g3 : (how == 3) = false := by simpa using h3
  have g4 : (how == 4) = false := by simpa using h4
  have g5 : (how == 5) = false := by simpa using h5
  clear h1 h2 h3 h4 h5
  go_enter Tryz.func89, Tryz.ntmps89
  go_wp2_with (go_at_call 121; refine (cloned_c _ _ _ _ h).mono ?_; rintro e w1 ⟨a1, c1, rfl, hown, hbel⟩)
  go_ret
  exact ⟨_, _, rfl, hown, hbel⟩

set_option maxHeartbeats 800000 in
theorem rcase1_c (a : Option Addr) (c : Nat) (l : List Int) (w : World) (h : Sl w a l) :
    Calls Tryz.prog 40 #[.slice a l.length c, .int .i64 1] w (Makes w (l.map up)) := by
  have hl := h.len
  go_enter Tryz.func40, Tryz.ntmps40
  go_wp2_with (at_builtin; refine wpL_app rfl _ _ rfl w.heap.size none a 0 c [] l rfl (Own.nil _ _) rfl h (by simpa using hl) (Nat.le_refl _) ?_; intro a1 c1 w1 hown hgrow hbel; simp only [List.nil_append] at hown ⊢)
  have Hown := hid hown
  go_loopw [6] (fun i wr => ∃ k : Nat, k ≤ l.length ∧ i = .int .i64 k ∧ Own wr w.heap.size a1 c1 (half up k l) ∧ Below w.heap.size w wr) (fun i _ => l.length - (intOf i).toNat)
  case atStart => exact ⟨0, Nat.zero_le _, rfl, by rw [half_zero]; exact Hown.out, hbel⟩
  case round =>
    obtain ⟨k, hk, rfl, hk1, hk2⟩ := hrel
    by_cases hlt : k < l.length
    · have hsh := hk1.shape
      rcases hsh with ⟨_, _, h0⟩ | ⟨g0, rfl, hg1, hg2, hg3⟩
      · have h1 := half_len up k l
        rw [h0] at h1; simp at h1; omega
      · skip
        obtain ⟨b', o', he, hcell⟩ := hk1.sl.at (i := k) (by rw [half_len]; exact hlt)
        simp only [Option.some.injEq, Addr.mk.injEq, and_true] at he
        obtain ⟨rfl, rfl⟩ := he
        have ck := hcell k (by rw [half_len]; exact hlt)
        rw [half_gt hlt, Nat.zero_add] at ck
        have fk := hk1.free k
        have hr := rng_gt h.rng hlt
        have Hk1 := hid hk1
        clear hcell hk1 hown hg3
        go_wp2_with (go_at_call 64; (with_reducible refine (rupper_c _ _ hr).mono ?_); rintro e w' ⟨rfl, rfl⟩)
        go_roundw
        case rel =>
          refine ⟨k + 1, by omega, by go_num, ?_, hk2.setCell (by simpa using hg1) _⟩
          rw [← half_set hlt]
          exact Hk1.out.stored k (up (gt l k)) (up_rng hr)
        case measure => simp [intOf]; omega
    · go_wp2
      go_ret
      rw [half_all up l (show l.length ≤ k from by omega)] at hk1
      exact ⟨_, _, by rw [List.length_map]; rfl, hk1, hk2⟩

set_option maxHeartbeats 800000 in
theorem rcase2_c (a : Option Addr) (c : Nat) (l : List Int) (w : World) (h : Sl w a l) :
    Calls Tryz.prog 40 #[.slice a l.length c, .int .i64 2] w (Makes w (l.map lo)) := by
  have hl := h.len
  go_enter Tryz.func40, Tryz.ntmps40
  go_wp2_with (at_builtin; refine wpL_app rfl _ _ rfl w.heap.size none a 0 c [] l rfl (Own.nil _ _) rfl h (by simpa using hl) (Nat.le_refl _) ?_; intro a1 c1 w1 hown hgrow hbel; simp only [List.nil_append] at hown ⊢)
  have Hown := hid hown
  go_loopw [6] (fun i wr => ∃ k : Nat, k ≤ l.length ∧ i = .int .i64 k ∧ Own wr w.heap.size a1 c1 (half lo k l) ∧ Below w.heap.size w wr) (fun i _ => l.length - (intOf i).toNat)
  case atStart => exact ⟨0, Nat.zero_le _, rfl, by rw [half_zero]; exact Hown.out, hbel⟩
  case round =>
    obtain ⟨k, hk, rfl, hk1, hk2⟩ := hrel
    by_cases hlt : k < l.length
    · have hsh := hk1.shape
      rcases hsh with ⟨_, _, h0⟩ | ⟨g0, rfl, hg1, hg2, hg3⟩
      · have h1 := half_len lo k l
        rw [h0] at h1; simp at h1; omega
      · skip
        obtain ⟨b', o', he, hcell⟩ := hk1.sl.at (i := k) (by rw [half_len]; exact hlt)
        simp only [Option.some.injEq, Addr.mk.injEq, and_true] at he
        obtain ⟨rfl, rfl⟩ := he
        have ck := hcell k (by rw [half_len]; exact hlt)
        rw [half_gt hlt, Nat.zero_add] at ck
        have fk := hk1.free k
        have hr := rng_gt h.rng hlt
        have Hk1 := hid hk1
        clear hcell hk1 hown hg3
        go_wp2_with (go_at_call 65; (with_reducible refine (rlower_c _ _ hr).mono ?_); rintro e w' ⟨rfl, rfl⟩)
        go_roundw
        case rel =>
          refine ⟨k + 1, by omega, by go_num, ?_, hk2.setCell (by simpa using hg1) _⟩
          rw [← half_set hlt]
          exact Hk1.out.stored k (lo (gt l k)) (lo_rng hr)
        case measure => simp [intOf]; omega
    · go_wp2
      go_ret
      rw [half_all lo l (show l.length ≤ k from by omega)] at hk1
      exact ⟨_, _, by rw [List.length_map]; rfl, hk1, hk2⟩

def capk (k : Nat) (l : List Int) : List Int := if k = 0 then l else hcap l
theorem capk_len (k : Nat) (l : List Int) : (capk k l).length = l.length := by unfold capk; split <;> simp [hcap_len]
set_option maxHeartbeats 800000 in
theorem rcase3_c (a : Option Addr) (c : Nat) (l : List Int) (w : World) (h : Sl w a l) :
    Calls Tryz.prog 40 #[.slice a l.length c, .int .i64 3] w (Makes w (hcap l)) := by
  have hl := h.len
  go_enter Tryz.func40, Tryz.ntmps40
  go_wp2_with (at_builtin; refine wpL_app rfl _ _ rfl w.heap.size none a 0 c [] l rfl (Own.nil _ _) rfl h (by simpa using hl) (Nat.le_refl _) ?_; intro a1 c1 w1 hown hgrow hbel; simp only [List.nil_append] at hown ⊢)
  have Hown := hid hown
  go_loopw [6] (fun i wr => ∃ k : Nat, k ≤ l.length ∧ i = .int .i64 k ∧ Own wr w.heap.size a1 c1 (capk k l) ∧ Below w.heap.size w wr) (fun i _ => l.length - (intOf i).toNat)
  case atStart => exact ⟨0, Nat.zero_le _, rfl, Hown.out, hbel⟩
  case round =>
    obtain ⟨k, hk, rfl, hk1, hk2⟩ := hrel
    by_cases hlt : k < l.length
    · by_cases h0 : k = 0
      · have g0 : ((k : Int) == 0) = true := by simpa using h0
        have hsh := hk1.shape
        rcases hsh with ⟨_, _, h9⟩ | ⟨g0, rfl, hg1, hg2, hg3⟩
        · have h1 := capk_len k l
          rw [h9] at h1; simp at h1; omega
        · have H0 := hid h0; clear h0
          obtain ⟨b', o', he, hcell⟩ := hk1.sl.at (i := k) (by rw [capk_len]; exact hlt)
          simp only [Option.some.injEq, Addr.mk.injEq, and_true] at he
          obtain ⟨rfl, rfl⟩ := he
          have ck := hcell k (by rw [capk_len]; exact hlt)
          rw [show capk k l = l from by simp [capk, H0.out], Nat.zero_add] at ck
          have fk := hk1.free k
          have hr := rng_gt h.rng hlt
          have Hk1 := hid hk1
          clear hcell hk1 hown hg3
          go_wp2_with (go_at_call 64; (with_reducible refine (rupper_c _ _ hr).mono ?_); rintro e w' ⟨rfl, rfl⟩)
          go_roundw
          case rel =>
            refine ⟨k + 1, by omega, by go_num, ?_, hk2.setCell (by simpa using hg1) _⟩
            have e : capk (k + 1) l = (capk k l).set k (up (gt l k)) := by
              have := H0.out
              simp only [capk, this, if_true]; rw [if_neg (by omega)]; exact hcap_set (by omega)
            rw [e]
            exact Hk1.out.stored k (up (gt l k)) (up_rng hr)
          case measure => simp [intOf]; omega
      · have g0 : ((k : Int) == 0) = false := by simpa using h0
        have Hk1 := hid hk1
        have H0 := hid h0
        clear hk1 hown h0
        go_wp2
        go_roundw
        case rel => exact ⟨k + 1, by omega, by go_num, (by have := Hk1.out; simpa [capk, H0.out] using this), hk2⟩
        case measure => simp [intOf]; omega
    · go_wp2
      go_ret
      have e : capk k l = hcap l := by
        unfold capk; split
        · have : l = [] := List.length_eq_zero_iff.1 (by omega)
          subst this; rfl
        · rfl
      rw [e] at hk1
      exact ⟨_, _, by rw [hcap_len]; rfl, hk1, hk2⟩
set_option maxHeartbeats 800000 in
theorem rcaseo_c (a : Option Addr) (c : Nat) (l : List Int) (how : Int) (w : World) (h : Sl w a l)
    (g1 : (how == 1) = false) (g2 : (how == 2) = false) (g3 : (how == 3) = false) (g4 : (how == 4) = false) (g5 : (how == 5) = false) :
    Calls Tryz.prog 40 #[.slice a l.length c, .int .i64 how] w (Makes w l) := by
  have hl := h.len
  go_enter Tryz.func40, Tryz.ntmps40
  go_wp2_with (at_builtin; refine wpL_app rfl _ _ rfl w.heap.size none a 0 c [] l rfl (Own.nil _ _) rfl h (by simpa using hl) (Nat.le_refl _) ?_; intro a1 c1 w1 hown hgrow hbel; simp only [List.nil_append] at hown ⊢)
  have Hown := hid hown
  go_loopw [6] (fun i wr => ∃ k : Nat, k ≤ l.length ∧ i = .int .i64 k ∧ wr = w1) (fun i _ => l.length - (intOf i).toNat)
  case atStart => exact ⟨0, Nat.zero_le _, rfl, rfl⟩
  case round =>
    obtain ⟨k, hk, rfl, rfl⟩ := hrel
    clear hown
    by_cases hlt : k < l.length
    · go_wp2
      go_roundw
      case rel => exact ⟨k + 1, by omega, by go_num, by first | rfl | trivial⟩
      case measure => simp [intOf]; omega
    · go_wp2
      go_ret
      exact ⟨_, _, rfl, Hown.out, hbel⟩
set_option maxHeartbeats 800000 in
theorem rcasep_c (a : Option Addr) (c : Nat) (l : List Int) (how : Int) (hh : how = 4 ∨ how = 5) (w : World) (h : Sl w a l) :
    Calls Tryz.prog 40 #[.slice a l.length c, .int .i64 how] w (Makes w (cas l how)) := by
  have hl := h.len
  rcases hh with rfl | rfl
  · have e : cas l 4 = pas (if false = true then lo else up) l := rfl
    rw [e]
    go_enter Tryz.func40, Tryz.ntmps40
    go_wp2_with (first | (at_builtin; refine wpL_app rfl _ _ rfl w.heap.size none a 0 c [] l rfl (Own.nil _ _) rfl h (by simpa using hl) (Nat.le_refl _) ?_; intro a1 c1 w1 hown hgrow hbel; simp only [List.nil_append] at hown ⊢) | (go_at_call 63; refine (pascal_c _ _ _ _ _ (h.bel hbel)).mono ?_; rintro e w2 hmk; obtain ⟨a2, c2, rfl, hown2, hbel2⟩ := hmk))
    go_ret
    exact Makes.of hbel ⟨_, _, rfl, hown2, hbel2⟩
  · have e : cas l 5 = pas (if true = true then lo else up) l := rfl
    rw [e]
    go_enter Tryz.func40, Tryz.ntmps40
    go_wp2_with (first | (at_builtin; refine wpL_app rfl _ _ rfl w.heap.size none a 0 c [] l rfl (Own.nil _ _) rfl h (by simpa using hl) (Nat.le_refl _) ?_; intro a1 c1 w1 hown hgrow hbel; simp only [List.nil_append] at hown ⊢) | (go_at_call 63; refine (pascal_c _ _ _ _ _ (h.bel hbel)).mono ?_; rintro e w2 hmk; obtain ⟨a2, c2, rfl, hown2, hbel2⟩ := hmk))
    go_ret
    exact Makes.of hbel ⟨_, _, rfl, hown2, hbel2⟩
theorem rcase_c (a : Option Addr) (c : Nat) (l : List Int) (how : Int) (w : World) (h : Sl w a l) :
    Calls Tryz.prog 40 #[.slice a l.length c, .int .i64 how] w (Makes w (cas l how)) := by
  by_cases h1 : how = 1
  · subst h1; exact rcase1_c a c l w h
  by_cases h2 : how = 2
  · subst h2; exact rcase2_c a c l w h
  by_cases h3 : how = 3
  · subst h3; exact rcase3_c a c l w h
  by_cases h4 : how = 4
  · exact rcasep_c a c l how (.inl h4) w h
  by_cases h5 : how = 5
  · exact rcasep_c a c l how (.inr h5) w h
  rw [cas_other h1 h2 h3 h4 h5]
  exact rcaseo_c a c l how w h (by simpa using h1) (by simpa using h2) (by simpa using h3) (by simpa using h4) (by simpa using h5)
end Go.Proofs.YtefgjicegbhcaaaGreat
namespace Go.Proofs.YtefgjicegbhcaaaGreat
open Go.RowKit
namespace FmM
structure Fp where
  kind : Int
  grp : Int
  how : Int
  text : List Int
  els : List Int
deriving Inhabited
def escO (c : Int) : Bool := c == 92 || c == 36 || c == 125 || c == 47
def escI (c : Int) : Bool := escO c || c == 58
def esc (i : Bool) (c : Int) : Bool := escO c || (i && c == 58)
def hd (l : List Int) (k : Nat) : Int := l.getD k (-1)
def dig (c : Int) : Bool := decide (48 ≤ c ∧ c ≤ 57)
/-- a text inside a part, up to what ends it -/
def words (stop : Int) : List Int → Option (List Int × List Int)
  | [] => none
  | [c] => if c = stop then some ([], []) else none
  | c :: d :: r => if c = stop then some ([], d :: r)
    else if c = 92 ∧ escI d = true then (words stop r).map (fun x => (d :: x.1, x.2))
    else (words stop (d :: r)).map (fun x => (c :: x.1, x.2))
def number (l : List Int) : Option (Int × List Int) :=
  if dig (hd l 0) = true then
    if dig (hd l 1) = true then
      if dig (hd l 2) = true then none else some (10 * (hd l 0 - 48) + (hd l 1 - 48), l.drop 2)
    else some (hd l 0 - 48, l.drop 1)
  else none
def name (how : Nat) : List Int := match how with
  | 1 => [117, 112, 99, 97, 115, 101]
  | 2 => [100, 111, 119, 110, 99, 97, 115, 101]
  | 3 => [99, 97, 112, 105, 116, 97, 108, 105, 122, 101]
  | 4 => [112, 97, 115, 99, 97, 108, 99, 97, 115, 101]
  | 5 => [99, 97, 109, 101, 108, 99, 97, 115, 101]
  | _ => []
def isPre (a l : List Int) : Bool := decide (l.take a.length = a)
def caseN (n : Int) (l : List Int) : Option (Fp × List Int) :=
  if isPre (name 1 ++ [125]) l then some (⟨1, n, 1, [], []⟩, l.drop 7)
  else if isPre (name 2 ++ [125]) l then some (⟨1, n, 2, [], []⟩, l.drop 9)
  else if isPre (name 3 ++ [125]) l then some (⟨1, n, 3, [], []⟩, l.drop 11)
  else if isPre (name 4 ++ [125]) l then some (⟨1, n, 4, [], []⟩, l.drop 11)
  else if isPre (name 5 ++ [125]) l then some (⟨1, n, 5, [], []⟩, l.drop 10)
  else none
/-- behind the number and the : of a part -/
def choice (n : Int) (l : List Int) : Option (Fp × List Int) :=
  if hd l 0 = 47 then caseN n (l.drop 1)
  else if hd l 0 = 43 then (words 125 (l.drop 1)).map fun x => (⟨2, n, 0, x.1, []⟩, x.2)
  else if hd l 0 = 63 then (words 58 (l.drop 1)).bind fun x => (words 125 x.2).map fun y => (⟨4, n, 0, x.1, y.1⟩, y.2)
  else if hd l 0 = 45 then (words 125 (l.drop 1)).map fun x => (⟨3, n, 0, [], x.1⟩, x.2)
  else (words 125 l).map fun x => (⟨3, n, 0, [], x.1⟩, x.2)
/-- a part, behind its $ -/
def part (l : List Int) : Option (Fp × List Int) :=
  match number l with
  | some x => some (⟨1, x.1, 0, [], []⟩, x.2)
  | none => if hd l 0 = 123 then
      match number (l.drop 1) with
      | none => none
      | some x => if hd x.2 0 = 125 then some (⟨1, x.1, 0, [], []⟩, x.2.drop 1)
        else if hd x.2 0 = 58 then choice x.1 (x.2.drop 1) else none
    else none
/-- parts, and text behind them -/
def wt (acc : List Fp) (txt : List Int) : List Fp := if txt = [] then acc else acc ++ [⟨0, 0, 0, txt, []⟩]
def scanK : Nat → List Fp → List Int → List Int → Option (List Fp × List Int)
  | 0, _, _, _ => none
  | _ + 1, _, _, [] => none
  | k + 1, acc, txt, c :: r =>
    if c = 47 then some (wt acc txt, c :: r)
    else if c = 36 then
      match part r with
      | some x => scanK k (wt acc txt ++ [x.1]) [] x.2
      | none => scanK k acc (txt ++ [36]) r
    else if c = 92 ∧ escO (hd r 0) = true then scanK k acc (txt ++ [hd r 0]) (r.drop 1)
    else scanK k acc (txt ++ [c]) r
def scan (l : List Int) : Option (List Fp × List Int) := scanK (l.length + 1) [] [] l

/-! ### how much is left -/
theorem words_len (stop : Int) : ∀ (n : Nat) (l : List Int), l.length ≤ n → ∀ x, words stop l = some x → x.2.length < l.length := by
  intro n
  induction n with
  | zero => intro l hl x h; cases l with
    | nil => simp [words] at h
    | cons a l => simp at hl
  | succ n ih =>
    intro l hl x h
    match l, hl, h with
    | [], _, h => simp [words] at h
    | [c], _, h =>
      simp only [words] at h; split at h
      · cases h; simp
      · cases h
    | c :: d :: r, hl, h =>
      simp only [words] at h
      split at h
      · cases h; simp
      · split at h
        · obtain ⟨y, hy, rfl⟩ := Option.map_eq_some_iff.1 h
          have := ih r (by simp at hl; omega) y hy
          simp; omega
        · obtain ⟨y, hy, rfl⟩ := Option.map_eq_some_iff.1 h
          have := ih (d :: r) (by simp at hl ⊢; omega) y hy
          simp at this ⊢; omega
theorem hd_nonneg {l : List Int} {k : Nat} (h : hd l k ≠ -1) : k < l.length := by
  rcases Nat.lt_or_ge k l.length with h1 | h1
  · exact h1
  · exfalso; apply h; simp [hd, List.getD, List.getElem?_eq_none h1]
theorem dig_lt {l : List Int} {k : Nat} (h : dig (hd l k) = true) : k < l.length := hd_nonneg (by intro e; rw [e] at h; simp [dig] at h)
theorem number_len {l : List Int} {x : Int × List Int} (h : number l = some x) : x.2.length < l.length := by
  unfold number at h
  split at h
  · rename_i h0
    have := dig_lt h0
    split at h
    · rename_i h1
      have := dig_lt h1
      split at h
      · cases h
      · cases h; simp; omega
    · cases h; simp; omega
  · cases h
theorem number_rng {l : List Int} {x : Int × List Int} (h : number l = some x) : 0 ≤ x.1 ∧ x.1 ≤ 99 := by
  unfold number at h
  split at h
  · rename_i h0
    simp only [dig, decide_eq_true_eq] at h0
    split at h
    · rename_i h1
      simp only [dig, decide_eq_true_eq] at h1
      split at h
      · cases h
      · cases h; dsimp only; omega
    · cases h; dsimp only; omega
  · cases h
theorem pre_len {a l : List Int} (h : isPre a l = true) : a.length ≤ l.length := by
  have h1 : l.take a.length = a := of_decide_eq_true h
  have := congrArg List.length h1
  simp at this; omega
theorem caseN_len {n : Int} {l : List Int} {x : Fp × List Int} (h : caseN n l = some x) : x.2.length < l.length := by
  unfold caseN at h
  repeat' split at h
  all_goals first
    | (rename_i hp; have := pre_len hp; cases h; simp [name] at this ⊢; omega)
    | (cases h)
theorem choice_len {n : Int} {l : List Int} {x : Fp × List Int} (h : choice n l = some x) : x.2.length < l.length := by
  unfold choice at h
  split at h
  · have := caseN_len h; simp at this; omega
  · split at h
    · obtain ⟨y, hy, rfl⟩ := Option.map_eq_some_iff.1 h
      have := words_len _ _ _ (Nat.le_refl _) _ hy; simp at this ⊢; omega
    · split at h
      · obtain ⟨y, hy, h⟩ := Option.bind_eq_some_iff.1 h
        obtain ⟨z, hz, rfl⟩ := Option.map_eq_some_iff.1 h
        have := words_len _ _ _ (Nat.le_refl _) _ hy
        have := words_len _ _ _ (Nat.le_refl _) _ hz
        simp at *; omega
      · split at h
        · obtain ⟨y, hy, rfl⟩ := Option.map_eq_some_iff.1 h
          have := words_len _ _ _ (Nat.le_refl _) _ hy; simp at this ⊢; omega
        · obtain ⟨y, hy, rfl⟩ := Option.map_eq_some_iff.1 h
          have := words_len _ _ _ (Nat.le_refl _) _ hy; simp at this ⊢; omega
theorem part_len {l : List Int} {x : Fp × List Int} (h : part l = some x) : x.2.length < l.length := by
  unfold part at h
  split at h
  · rename_i y hy
    have := number_len hy; cases h; exact this
  · split at h
    · split at h
      · cases h
      · rename_i y hy
        have := number_len hy
        split at h
        · cases h; simp at this ⊢; omega
        · split at h
          · have := choice_len h; simp at *; omega
          · cases h
    · cases h
/-- rounds enough: more do not matter -/
theorem scanK_more : ∀ (k m : Nat) (acc : List Fp) (txt l : List Int), l.length < k → l.length < m → scanK k acc txt l = scanK m acc txt l := by
  intro k
  induction k with
  | zero => intro m acc txt l h; omega
  | succ k ih =>
    intro m acc txt l h1 h2
    obtain ⟨m, rfl⟩ : ∃ j, m = j + 1 := ⟨m - 1, by omega⟩
    cases l with
    | nil => rfl
    | cons c r =>
      simp only [List.length_cons] at h1 h2
      simp only [scanK]
      split
      · rfl
      · split
        · cases hp : part r with
          | none => exact ih _ _ _ _ (by omega) (by omega)
          | some x =>
            have := part_len hp
            exact ih _ _ _ _ (by omega) (by omega)
        · split
          · exact ih _ _ _ _ (by simp; omega) (by simp; omega)
          · exact ih _ _ _ _ (by omega) (by omega)
/-- a scan from any state, rounds enough -/
def scanF (acc : List Fp) (txt l : List Int) : Option (List Fp × List Int) := scanK (l.length + 1) acc txt l
theorem scanF_nil (acc : List Fp) (txt : List Int) : scanF acc txt [] = none := rfl
theorem scanF_end (acc : List Fp) (txt r : List Int) : scanF acc txt (47 :: r) = some (wt acc txt, 47 :: r) := by simp [scanF, scanK]
theorem scanF_part {acc : List Fp} {txt r : List Int} {x : Fp × List Int} (h : part r = some x) : scanF acc txt (36 :: r) = scanF (wt acc txt ++ [x.1]) [] x.2 := by
  have := part_len h
  simp only [scanF, scanK, h, List.length_cons]
  rw [if_neg (by decide), if_pos trivial]
  exact scanK_more _ _ _ _ _ (by omega) (by omega)
theorem scanF_dollar {acc : List Fp} {txt r : List Int} (h : part r = none) : scanF acc txt (36 :: r) = scanF acc (txt ++ [36]) r := by
  simp only [scanF, scanK, h, List.length_cons]
  rw [if_neg (by decide), if_pos trivial]
theorem scanF_esc {acc : List Fp} {txt r : List Int} (h : escO (hd r 0) = true) : scanF acc txt (92 :: r) = scanF acc (txt ++ [hd r 0]) (r.drop 1) := by
  simp only [scanF, scanK, List.length_cons]
  rw [if_neg (by decide), if_neg (by decide), if_pos ⟨trivial, h⟩]
  exact scanK_more _ _ _ _ _ (by simp; omega) (by simp)
theorem scanF_sign {acc : List Fp} {txt r : List Int} {c : Int} (h1 : c ≠ 47) (h2 : c ≠ 36) (h3 : ¬ (c = 92 ∧ escO (hd r 0) = true)) : scanF acc txt (c :: r) = scanF acc (txt ++ [c]) r := by
  simp only [scanF, scanK, List.length_cons]
  rw [if_neg h1, if_neg h2, if_neg h3]
end FmM
end Go.Proofs.YtefgjicegbhcaaaGreat
namespace Go.Proofs.YtefgjicegbhcaaaGreat
open Go.RowKit
namespace FmM
/-- signs with a backslash ahead of some -/
def mkd (i : Bool) : List Int → List Int
  | [] => []
  | c :: r => if esc i c = true then 92 :: c :: mkd i r else c :: mkd i r
theorem mkd_app (i : Bool) (a b : List Int) : mkd i (a ++ b) = mkd i a ++ mkd i b := by
  induction a with
  | nil => rfl
  | cons c a ih => simp only [List.cons_append, mkd]; split <;> simp [ih]
theorem mkd_len (i : Bool) (a : List Int) : (mkd i a).length ≤ 2 * a.length := by
  induction a with
  | nil => simp [mkd]
  | cons c a ih => simp only [mkd]; split <;> simp <;> omega
def digs (n : Int) : List Int := if n < 10 then [n + 48] else [n / 10 + 48, n % 10 + 48]
def print1 (f : Fp) : List Int :=
  if f.kind = 0 then mkd false f.text
  else 36 :: 123 :: (digs f.grp ++ ((
    if f.kind = 1 then (if f.how = 0 then [] else [58, 47] ++ name f.how.toNat)
    else if f.kind = 2 then [58, 43] ++ mkd true f.text
    else if f.kind = 3 then [58, 45] ++ mkd true f.els
    else [58, 63] ++ (mkd true f.text ++ ([58] ++ mkd true f.els))) ++ [125]))
def print (l : List Fp) : List Int := l.flatMap print1
/-- what a part may be -/
def may1 (f : Fp) : Bool :=
  decide (0 ≤ f.grp ∧ f.grp ≤ 99) && (may f.text && (may f.els &&
    (if f.kind = 0 then decide (f.grp = 0 ∧ f.how = 0 ∧ f.text ≠ [] ∧ f.els = [])
     else if f.kind = 1 then decide (0 ≤ f.how ∧ f.how ≤ 5 ∧ f.text = [] ∧ f.els = [])
     else if f.kind = 2 then decide (f.how = 0 ∧ f.els = [])
     else if f.kind = 3 then decide (f.how = 0 ∧ f.text = [])
     else if f.kind = 4 then decide (f.how = 0)
     else false)))
/-- parts in a row; t: the one ahead is a text -/
def mayR : Bool → List Fp → Bool
  | _, [] => true
  | t, f :: l => may1 f && (!(t && decide (f.kind = 0)) && mayR (decide (f.kind = 0)) l)
def mayF (l : List Fp) : Bool := mayR false l

/-! ## what is printed is scanned -/
theorem esc_words {c : Int} (h : esc true c = true) : escI c = true := by simpa [esc, escI] using h
theorem words_mkd (stop : Int) (hs : stop = 125 ∨ stop = 58) (t r : List Int) : words stop (mkd true t ++ stop :: r) = some (t, r) := by
  have hstop : esc true stop = true := by rcases hs with rfl | rfl <;> rfl
  have h92 : (92 : Int) ≠ stop := by rcases hs with rfl | rfl <;> decide
  induction t with
  | nil =>
    simp only [mkd, List.nil_append]
    cases r with
    | nil => simp [words]
    | cons d r => simp [words]
  | cons c t ih =>
    simp only [mkd]
    split
    · rename_i hc
      simp only [List.cons_append, words]
      rw [if_neg h92, if_pos ⟨trivial, esc_words hc⟩, ih]; rfl
    · rename_i hc
      have h1 : c ≠ stop := by intro e; subst e; exact hc hstop
      have h2 : c ≠ 92 := by intro e; subst e; exact hc rfl
      have hne : mkd true t ++ stop :: r ≠ [] := by simp
      obtain ⟨d, q, hq⟩ : ∃ d q, mkd true t ++ stop :: r = d :: q := by
        cases h : mkd true t ++ stop :: r with
        | nil => exact absurd h hne
        | cons d q => exact ⟨d, q, rfl⟩
      simp only [List.cons_append]
      rw [hq] at ih ⊢
      simp only [words]
      rw [if_neg h1, if_neg (fun h => h2 h.1), ih]; rfl
theorem dig_no {c : Int} (h : c < 48) : dig c = false := by simp [dig]; omega
theorem number_digs {n : Int} (h0 : 0 ≤ n) (h1 : n ≤ 99) {d : Int} (r : List Int) (hd0 : dig d = false) : number (digs n ++ d :: r) = some (n, d :: r) := by
  unfold digs
  split
  · rename_i h
    have a : dig (n + 48) = true := by simp [dig]; omega
    simp only [number, hd, List.cons_append, List.nil_append, List.getD_cons_zero, List.getD_cons_succ, a, hd0, if_true]
    simp
  · rename_i h
    have a : dig (n / 10 + 48) = true := by simp [dig]; omega
    have b : dig (n % 10 + 48) = true := by simp [dig]; omega
    simp only [number, hd, List.cons_append, List.nil_append, List.getD_cons_zero, List.getD_cons_succ, a, b, hd0, if_true]
    simp; omega
theorem number_brace (l : List Int) : number (123 :: l) = none := by
  have a : dig 123 = false := by decide
  simp [number, hd, a]
theorem hd0 (c : Int) (l : List Int) : hd (c :: l) 0 = c := rfl
theorem part_of {n : Int} (h0 : 0 ≤ n) (h1 : n ≤ 99) (r : List Int) : part (123 :: (digs n ++ 58 :: r)) = choice n r := by
  have a : dig 58 = false := by decide
  unfold part
  rw [number_brace]
  simp only [hd0, if_true, List.drop_succ_cons, List.drop_zero, number_digs h0 h1 r a]
  rfl
theorem part_group {n : Int} (h0 : 0 ≤ n) (h1 : n ≤ 99) (r : List Int) : part (123 :: (digs n ++ 125 :: r)) = some (⟨1, n, 0, [], []⟩, r) := by
  have a : dig 125 = false := by decide
  unfold part
  rw [number_brace]
  simp only [hd0, if_true, List.drop_succ_cons, List.drop_zero, number_digs h0 h1 r a]
theorem part_case {n : Int} (h : Nat) (h1 : 1 ≤ h ∧ h ≤ 5) (r : List Int) : choice n (47 :: (name h ++ 125 :: r)) = some (⟨1, n, h, [], []⟩, r) := by
  unfold choice
  rw [hd0, if_pos rfl, List.drop_succ_cons, List.drop_zero]
  rcases (show h = 1 ∨ h = 2 ∨ h = 3 ∨ h = 4 ∨ h = 5 by omega) with rfl | rfl | rfl | rfl | rfl <;> simp [caseN, isPre, name]
/-- a part that is printed is read -/
theorem part_print {f : Fp} (h : may1 f = true) (hk : f.kind ≠ 0) (r : List Int) : ∃ q, print1 f = 36 :: q ∧ part (q ++ r) = some (f, r) := by
  obtain ⟨k, g, how, t, e⟩ := f
  simp only [may1, Bool.and_eq_true, decide_eq_true_eq] at h
  obtain ⟨⟨g0, g1⟩, ht, he, h⟩ := h
  unfold print1
  dsimp only at *
  rw [if_neg hk] at h ⊢
  refine ⟨_, rfl, ?_⟩
  simp only [List.append_assoc, List.cons_append, List.nil_append]
  split at h
  · rename_i e1; subst e1
    simp only [decide_eq_true_eq] at h
    obtain ⟨a1, a2, rfl, rfl⟩ := h
    by_cases hz : how = 0
    · subst hz
      simp only [if_true, List.nil_append]
      exact part_group g0 g1 r
    · rw [if_pos rfl, if_neg hz]
      simp only [List.cons_append]
      rw [part_of g0 g1]
      have := part_case (n := g) how.toNat (by omega) r
      rw [show ((how.toNat : Nat) : Int) = how by omega] at this
      exact this
  · rename_i n1
    rw [if_neg n1]
    split at h
    · rename_i e1; subst e1
      simp only [decide_eq_true_eq] at h
      obtain ⟨rfl, rfl⟩ := h
      simp only [if_true, List.cons_append]
      rw [part_of g0 g1]
      simp only [choice, hd0, List.drop_succ_cons, List.drop_zero]
      rw [if_neg (by decide), if_pos trivial, words_mkd 125 (.inl rfl)]; rfl
    · rename_i n2
      rw [if_neg n2]
      split at h
      · rename_i e1; subst e1
        simp only [decide_eq_true_eq] at h
        obtain ⟨rfl, rfl⟩ := h
        simp only [if_true, List.cons_append]
        rw [part_of g0 g1]
        simp only [choice, hd0, List.drop_succ_cons, List.drop_zero]
        rw [if_neg (by decide), if_neg (by decide), if_neg (by decide), if_pos trivial, words_mkd 125 (.inl rfl)]; rfl
      · rename_i n3
        rw [if_neg n3]
        split at h
        · rename_i e1; subst e1
          simp only [decide_eq_true_eq] at h
          subst h
          simp only [List.cons_append, List.append_assoc]
          rw [part_of g0 g1]
          simp only [choice, hd0, List.drop_succ_cons, List.drop_zero]
          rw [if_neg (by decide), if_neg (by decide), if_pos trivial, words_mkd 58 (.inr rfl)]
          simp only [Option.bind_some, words_mkd 125 (.inl rfl)]; rfl
        · cases h
/-- a text that is printed is read as text -/
theorem scan_text (acc : List Fp) (t r : List Int) : ∀ txt, scanF acc txt (mkd false t ++ r) = scanF acc (txt ++ t) r := by
  induction t with
  | nil => intro txt; simp [mkd]
  | cons c t ih =>
    intro txt
    simp only [mkd]
    split
    · rename_i hc
      have h : escO (hd (c :: (mkd false t ++ r)) 0) = true := by simpa [esc, hd0] using hc
      simp only [List.cons_append]
      rw [scanF_esc h, hd0, List.drop_succ_cons, List.drop_zero, ih, List.append_assoc]; rfl
    · rename_i hc
      have h := hc
      simp only [esc, escO, Bool.false_and, Bool.or_false, Bool.or_eq_true, beq_iff_eq, not_or] at h
      simp only [List.cons_append]
      rw [scanF_sign h.2 h.1.1.2 (fun x => h.1.1.1 x.1), ih, List.append_assoc]; rfl
theorem wt_nil (acc : List Fp) : wt acc [] = acc := rfl
theorem scan_print (l : List Fp) (r : List Int) : ∀ acc txt, mayR (!txt.isEmpty) l = true → scanF acc txt (print l ++ 47 :: r) = some (wt acc txt ++ l, 47 :: r) := by
  induction l with
  | nil => intro acc txt _; simp only [print, List.flatMap_nil, List.nil_append, List.append_nil]; exact scanF_end _ _ _
  | cons f l ih =>
    intro acc txt h
    simp only [mayR, Bool.and_eq_true] at h
    obtain ⟨hf, ht, hl⟩ := h
    have e : print (f :: l) ++ 47 :: r = print1 f ++ (print l ++ 47 :: r) := by simp [print]
    rw [e]
    by_cases hk : f.kind = 0
    · have h0 : txt = [] := by
        cases txt with
        | nil => rfl
        | cons a b => simp [hk] at ht
      subst h0
      have hp : print1 f = mkd false f.text := by unfold print1; rw [if_pos hk]
      rw [hp, scan_text]
      obtain ⟨k, g, how, t, e⟩ := f
      dsimp only at hk; subst hk
      simp only [may1, if_true, Bool.and_eq_true, decide_eq_true_eq] at hf
      obtain ⟨_, _, _, rfl, rfl, hne, rfl⟩ := hf
      simp only [decide_true] at hl
      have ht' : (!(([] : List Int) ++ t).isEmpty) = true := by cases t with
        | nil => exact absurd rfl hne
        | cons a b => rfl
      rw [ih acc ([] ++ t) (by rw [ht']; exact hl)]
      simp only [List.nil_append, wt, if_neg hne, if_true, List.append_assoc]; rfl
    · obtain ⟨q, hq, hpart⟩ := part_print hf hk (print l ++ 47 :: r)
      rw [hq, List.cons_append, scanF_part hpart]
      have hz : decide (f.kind = 0) = false := by simpa using hk
      rw [hz] at hl
      dsimp only
      rw [ih (wt acc txt ++ [f]) [] (by simpa using hl), wt_nil]
      simp
theorem scan_back (l : List Fp) (r : List Int) (h : mayF l = true) : scan (print l ++ 47 :: r) = some (l, 47 :: r) := by
  have := scan_print l r [] [] h
  rw [wt_nil, List.nil_append] at this
  exact this

/-! ## what is scanned may be -/
theorem may_cons (a : Int) (l : List Int) : may (a :: l) = (sgn a && may l) := by simp [may]
theorem may_append (a b : List Int) : may (a ++ b) = (may a && may b) := by simp [may]
theorem may_drop {l : List Int} (h : may l = true) (n : Nat) : may (l.drop n) = true := by
  simp only [may, List.all_eq_true] at h ⊢
  intro x hx; exact h x (List.mem_of_mem_drop hx)
theorem words_may (stop : Int) : ∀ (n : Nat) (l : List Int), l.length ≤ n → may l = true → ∀ x, words stop l = some x → may x.1 = true ∧ may x.2 = true := by
  intro n
  induction n with
  | zero => intro l hl hm x h; cases l with
    | nil => simp [words] at h
    | cons a l => simp at hl
  | succ n ih =>
    intro l hl hm x h
    match l, hl, hm, h with
    | [], _, _, h => simp [words] at h
    | [c], _, hm, h =>
      simp only [words] at h; split at h
      · cases h; exact ⟨rfl, rfl⟩
      · cases h
    | c :: d :: r, hl, hm, h =>
      simp only [may_cons, Bool.and_eq_true] at hm
      simp only [words] at h
      split at h
      · cases h; exact ⟨rfl, by simp [may_cons, hm]⟩
      · split at h
        · obtain ⟨y, hy, rfl⟩ := Option.map_eq_some_iff.1 h
          have := ih r (by simp at hl; omega) hm.2.2 y hy
          simp [may_cons, hm, this]
        · obtain ⟨y, hy, rfl⟩ := Option.map_eq_some_iff.1 h
          have := ih (d :: r) (by simp at hl ⊢; omega) (by simp [may_cons, hm]) y hy
          simp [may_cons, hm, this]
theorem number_may {l : List Int} {x : Int × List Int} (h : number l = some x) (hm : may l = true) : may x.2 = true := by
  unfold number at h
  repeat' split at h
  all_goals first | (cases h; done) | (cases h; exact may_drop hm _)
theorem may1_grp {n how : Int} (h : 0 ≤ n ∧ n ≤ 99) (hh : 0 ≤ how ∧ how ≤ 5) : may1 ⟨1, n, how, [], []⟩ = true := by
  simp [may1, may, h, hh]
theorem caseN_may {n : Int} {l : List Int} {x : Fp × List Int} (hn : 0 ≤ n ∧ n ≤ 99) (hm : may l = true) (h : caseN n l = some x) : (may1 x.1 = true ∧ x.1.kind ≠ 0) ∧ may x.2 = true := by
  unfold caseN at h
  repeat' split at h
  all_goals first | (cases h; done) | (cases h; exact ⟨⟨may1_grp hn (by decide), by dsimp only; decide⟩, may_drop hm _⟩)
theorem choice_may {n : Int} {l : List Int} {x : Fp × List Int} (hn : 0 ≤ n ∧ n ≤ 99) (hm : may l = true) (h : choice n l = some x) : (may1 x.1 = true ∧ x.1.kind ≠ 0) ∧ may x.2 = true := by
  unfold choice at h
  split at h
  · exact caseN_may hn (may_drop hm _) h
  · split at h
    · obtain ⟨y, hy, rfl⟩ := Option.map_eq_some_iff.1 h
      have := words_may _ _ _ (Nat.le_refl _) (may_drop hm _) _ hy
      exact ⟨⟨by simp [may1, hn, this]; rfl, by dsimp only; decide⟩, this.2⟩
    · split at h
      · obtain ⟨y, hy, h⟩ := Option.bind_eq_some_iff.1 h
        obtain ⟨z, hz, rfl⟩ := Option.map_eq_some_iff.1 h
        have a := words_may _ _ _ (Nat.le_refl _) (may_drop hm _) _ hy
        have b := words_may _ _ _ (Nat.le_refl _) a.2 _ hz
        exact ⟨⟨by simp [may1, hn, a, b], by dsimp only; decide⟩, b.2⟩
      · split at h
        · obtain ⟨y, hy, rfl⟩ := Option.map_eq_some_iff.1 h
          have := words_may _ _ _ (Nat.le_refl _) (may_drop hm _) _ hy
          exact ⟨⟨by simp [may1, hn, this]; rfl, by dsimp only; decide⟩, this.2⟩
        · obtain ⟨y, hy, rfl⟩ := Option.map_eq_some_iff.1 h
          have := words_may _ _ _ (Nat.le_refl _) hm _ hy
          exact ⟨⟨by simp [may1, hn, this]; rfl, by dsimp only; decide⟩, this.2⟩
theorem part_may {l : List Int} {x : Fp × List Int} (hm : may l = true) (h : part l = some x) : (may1 x.1 = true ∧ x.1.kind ≠ 0) ∧ may x.2 = true := by
  unfold part at h
  split at h
  · rename_i y hy
    cases h
    exact ⟨⟨may1_grp (number_rng hy) (by decide), by dsimp only; decide⟩, number_may hy hm⟩
  · split at h
    · split at h
      · cases h
      · rename_i y hy
        have a := number_rng hy
        have b := number_may hy (may_drop hm _)
        split at h
        · cases h; exact ⟨⟨may1_grp a (by decide), by dsimp only; decide⟩, may_drop b _⟩
        · split at h
          · exact choice_may a (may_drop b _) h
          · cases h
    · cases h
/-- parts that end in no text -/
def endsP (acc : List Fp) : Prop := ∀ f, acc.getLast? = some f → f.kind ≠ 0
theorem mayR_app (l : List Fp) (f : Fp) : ∀ t, mayR t (l ++ [f]) = (mayR t l && (may1 f && !((match l.getLast? with | none => t | some g => decide (g.kind = 0)) && decide (f.kind = 0)))) := by
  induction l with
  | nil => intro t; simp [mayR]
  | cons g l ih =>
    intro t
    simp only [List.cons_append, mayR, ih]
    cases l with
    | nil => simp [Bool.and_assoc]
    | cons h l =>
      obtain ⟨y, hy⟩ : ∃ y, (h :: l).getLast? = some y := ⟨_, List.getLast?_eq_some_getLast (by simp)⟩
      rw [List.getLast?_cons_cons, hy]
      simp only [Bool.and_assoc]
theorem mayF_wt {acc : List Fp} {txt : List Int} (h : mayF acc = true) (he : endsP acc) (ht : may txt = true) : mayF (wt acc txt) = true := by
  unfold wt
  split
  · exact h
  · rename_i hne
    have h' : mayR false acc = true := h
    simp only [mayF, mayR_app, h', Bool.true_and]
    have : may1 ⟨0, 0, 0, txt, []⟩ = true := by simp [may1, ht, hne]; rfl
    rw [this, Bool.true_and]
    cases hl : acc.getLast? with
    | none => rfl
    | some g => have := he g hl; simp [this]
theorem mayF_part {acc : List Fp} {f : Fp} (h : mayF acc = true) (h1 : may1 f = true) (hk : f.kind ≠ 0) : mayF (acc ++ [f]) = true := by
  have h' : mayR false acc = true := h
  simp [mayF, mayR_app, h', h1, hk]
theorem endsP_snoc (acc : List Fp) {f : Fp} (hk : f.kind ≠ 0) : endsP (acc ++ [f]) := by
  intro g hg; simp at hg; subst hg; exact hk
theorem scanK_may : ∀ (k : Nat) (acc : List Fp) (txt l : List Int), mayF acc = true → endsP acc → may txt = true → may l = true → ∀ x, scanK k acc txt l = some x → mayF x.1 = true ∧ ∃ r, x.2 = 47 :: r := by
  intro k
  induction k with
  | zero => intro acc txt l _ _ _ _ x h; simp [scanK] at h
  | succ k ih =>
    intro acc txt l ha he ht hl x h
    cases l with
    | nil => simp [scanK] at h
    | cons c r =>
      simp only [may_cons, Bool.and_eq_true] at hl
      simp only [scanK] at h
      split at h
      · rename_i hc; cases h; exact ⟨mayF_wt ha he ht, r, by rw [hc]⟩
      · split at h
        · cases hp : part r with
          | none => rw [hp] at h; exact ih _ _ _ ha he (by rw [may_append, ht]; decide) hl.2 _ h
          | some y =>
            rw [hp] at h
            have := part_may hl.2 hp
            exact ih _ _ _ (mayF_part (mayF_wt ha he ht) this.1.1 this.1.2) (endsP_snoc _ this.1.2) rfl this.2 _ h
        · split at h
          · rename_i hc
            refine ih _ _ _ ha he ?_ (may_drop hl.2 _) _ h
            rw [may_append, ht, Bool.true_and]
            cases r with
            | nil => simp [hd, escO] at hc
            | cons d r => simp only [may_cons, Bool.and_eq_true] at hl; simp [may, hd0, hl]
          · refine ih _ _ _ ha he ?_ hl.2 _ h
            rw [may_append, ht, Bool.true_and]; simp [may, hl]
theorem scan_may {l : List Int} (h : may l = true) {x : List Fp × List Int} (hs : scan l = some x) : mayF x.1 = true ∧ ∃ r, x.2 = 47 :: r :=
  scanK_may _ [] [] l rfl (by intro f hf; simp at hf) rfl h x hs
/-- what is printed are signs -/
theorem mkd_may (i : Bool) {t : List Int} (h : may t = true) : may (mkd i t) = true := by
  induction t with
  | nil => rfl
  | cons c t ih =>
    simp only [may_cons, Bool.and_eq_true] at h
    simp only [mkd]; split <;> simp [may_cons, h, ih h.2] <;> decide
theorem digs_may {n : Int} (h : 0 ≤ n ∧ n ≤ 99) : may (digs n) = true := by
  unfold digs; split <;> simp [may, sgn] <;> omega
theorem name_may (k : Nat) : may (name k) = true := by
  unfold name; split <;> decide
theorem print1_may {f : Fp} (h : may1 f = true) : may (print1 f) = true := by
  simp only [may1, Bool.and_eq_true, decide_eq_true_eq] at h
  obtain ⟨hg, ht, he, h⟩ := h
  have a := mkd_may true ht
  have b := mkd_may true he
  have c := digs_may hg
  unfold print1
  split
  · exact mkd_may false ht
  · have h1 : sgn 36 = true := by decide
    have h3 : sgn 123 = true := by decide
    have h2 : may [125] = true := by decide
    simp only [may_cons, may_append, c, h1, h2, h3, Bool.true_and, Bool.and_true]
    split
    · split
      · rfl
      · simp only [may_append, name_may, Bool.and_true]; decide
    · split
      · simp only [may_append, a, Bool.and_true]; decide
      · split
        · simp only [may_append, b, Bool.and_true]; decide
        · simp only [may_append, a, b, Bool.and_true, Bool.true_and]; decide
theorem print_may {l : List Fp} (h : ∀ f ∈ l, may1 f = true) : may (print l) = true := by
  induction l with
  | nil => rfl
  | cons f l ih =>
    have : print (f :: l) = print1 f ++ print l := by simp [print]
    rw [this, may_append, print1_may (h f (by simp)), ih (fun g hg => h g (by simp [hg]))]; rfl
theorem mayR_all : ∀ (l : List Fp) (t : Bool), mayR t l = true → ∀ f ∈ l, may1 f = true := by
  intro l
  induction l with
  | nil => intro t _ f hf; cases hf
  | cons g l ih =>
    intro t h f hf
    simp only [mayR, Bool.and_eq_true] at h
    rcases List.mem_cons.1 hf with rfl | hf
    · exact h.1
    · exact ih _ h.2.2 f hf
end FmM
end Go.Proofs.YtefgjicegbhcaaaGreat
namespace Go.Proofs.YtefgjicegbhcaaaGreat
open ReM
namespace ReM
/-- what an instruction does to the open groups (f: the open ones at each place) -/
def LbI (lo hi : Nat) (f : Nat → List Nat) (i : Nat) (q : Ins) : Prop :=
  (q.op = 4 → (lo : Int) ≤ q.x ∧ q.x ≤ hi ∧ (lo : Int) ≤ q.y ∧ q.y ≤ hi ∧ f q.x.toNat = f i ∧ f q.y.toNat = f i) ∧
  (q.op = 5 → (lo : Int) ≤ q.x ∧ q.x ≤ hi ∧ f q.x.toNat = f i) ∧
  (q.op = 3 → ∃ k : Nat, (q.x = 2 * k ∧ f (i + 1) = k :: f i) ∨ (q.x = 2 * k + 1 ∧ f i = k :: f (i + 1))) ∧
  (q.op ≠ 3 → q.op ≠ 4 → q.op ≠ 5 → f (i + 1) = f i)
def LbL (lo hi : Nat) (f : Nat → List Nat) : Nat → List Ins → Prop
  | _, [] => True
  | n, q :: l => LbI lo hi f n q ∧ LbL lo hi f (n + 1) l
theorem LbL.app {lo hi : Nat} {f : Nat → List Nat} {a b : List Ins} : ∀ {n : Nat}, LbL lo hi f n a → LbL lo hi f (n + a.length) b → LbL lo hi f n (a ++ b) := by
  induction a with
  | nil => intro n _ h; simpa using h
  | cons x a ih =>
    intro n h k
    exact ⟨h.1, ih h.2 (by rw [List.length_cons] at k; rw [show n + 1 + a.length = n + (a.length + 1) from by omega]; exact k)⟩
theorem LbI.sh {lo hi lo' hi' : Nat} {f g : Nat → List Nat} {i : Nat} {q : Ins} (j : Nat) (h : LbI lo hi f i q) (hl : lo ≤ i) (hi1 : i + 1 ≤ hi) (hg : ∀ m, lo ≤ m → m ≤ hi → g (m + j) = f m) (h1 : lo' ≤ lo + j) (h2 : hi + j ≤ hi') : LbI lo' hi' g (i + j) (shI1 j q) := by
  obtain ⟨a, b, c, d⟩ := h
  obtain ⟨op, x, y, nt, st⟩ := q
  simp only [LbI, shI1] at *
  have gi := hg i hl (by omega)
  have gi1 := hg (i + 1) (by omega) hi1
  rw [show i + 1 + j = i + j + 1 by omega] at gi1
  refine ⟨fun e => ?_, fun e => ?_, fun e => ?_, fun e3 e4 e5 => ?_⟩
  · obtain ⟨x1, x2, y1, y2, fx, fy⟩ := a e
    simp only [e, true_or, if_true]
    have ex : (x + (j : Int)).toNat = x.toNat + j := by omega
    have ey : (y + (j : Int)).toNat = y.toNat + j := by omega
    refine ⟨by omega, by omega, by omega, by omega, ?_, ?_⟩
    · rw [ex, hg _ (by omega) (by omega), gi]; exact fx
    · rw [ey, hg _ (by omega) (by omega), gi]; exact fy
  · obtain ⟨x1, x2, fx⟩ := b e
    simp only [e, or_true, if_true]
    have ex : (x + (j : Int)).toNat = x.toNat + j := by omega
    refine ⟨by omega, by omega, ?_⟩
    rw [ex, hg _ (by omega) (by omega), gi]; exact fx
  · rw [if_neg (by omega), gi, gi1]; exact c e
  · rw [gi, gi1]; exact d e3 e4 e5
theorem LbL.sh {lo hi lo' hi' : Nat} {f g : Nat → List Nat} {l : List Ins} (j : Nat) (hg : ∀ m, lo ≤ m → m ≤ hi → g (m + j) = f m) (h1 : lo' ≤ lo + j) (h2 : hi + j ≤ hi') : ∀ {n : Nat}, LbL lo hi f n l → lo ≤ n → n + l.length ≤ hi → LbL lo' hi' g (n + j) (shI j l) := by
  induction l with
  | nil => intro n _ _ _; trivial
  | cons x l ih =>
    intro n h hl hh
    rw [List.length_cons] at hh
    refine ⟨h.1.sh j hl (by omega) hg h1 h2, ?_⟩
    have := ih h.2 (by omega) (by omega)
    rwa [show n + 1 + j = n + j + 1 by omega] at this
theorem LbL.as {lo hi lo' hi' : Nat} {f g : Nat → List Nat} {l : List Ins} {n : Nat} (h : LbL lo hi f n l) (hl : lo ≤ n) (hh : n + l.length ≤ hi) (hg : ∀ m, lo ≤ m → m ≤ hi → g m = f m) (h1 : lo' ≤ lo) (h2 : hi ≤ hi') : LbL lo' hi' g n l := by
  have := h.sh 0 (g := g) (fun m a b => hg m a b) (lo' := lo') (hi' := hi') h1 h2 hl hh
  rwa [shI_zero] at this
/-- a piece of a program at n, ahead of it and behind it (and at M's places) the same groups are open -/
def LbA (s : List Nat) (n : Nat) (b : List Ins) (M : List Nat) : Prop :=
  ∃ f : Nat → List Nat, f n = s ∧ f (n + b.length) = s ∧ (∀ m, m ∈ M → n ≤ m ∧ m ≤ n + b.length ∧ f m = s) ∧ LbL n (n + b.length) f n b
theorem LbA.nil (s : List Nat) (n : Nat) : LbA s n [] [] := ⟨fun _ => s, rfl, rfl, (fun m h => by cases h), trivial⟩
theorem LbA.leaf {s : List Nat} {n : Nat} {q : Ins} (h3 : q.op ≠ 3) (h4 : q.op ≠ 4) (h5 : q.op ≠ 5) : LbA s n [q] [] :=
  ⟨fun _ => s, rfl, rfl, (fun m h => by cases h), ⟨fun e => absurd e h4, fun e => absurd e h5, fun e => absurd e h3, fun _ _ _ => rfl⟩, trivial⟩
theorem LbA.sh {s : List Nat} {n : Nat} {b : List Ins} {M : List Nat} (h : LbA s n b M) (j : Nat) : LbA s (n + j) (shI j b) (M.map (· + j)) := by
  obtain ⟨f, h1, h2, h3, h4⟩ := h
  refine ⟨fun m => f (m - j), by simpa using h1, by rw [shI_len]; dsimp only; rw [show n + j + b.length - j = n + b.length by omega]; exact h2, fun m hm => ?_, ?_⟩
  · obtain ⟨k, hk, rfl⟩ := List.mem_map.1 hm
    have := h3 k hk
    rw [shI_len]
    dsimp only
    rw [Nat.add_sub_cancel]
    exact ⟨by omega, by omega, this.2.2⟩
  · rw [shI_len]
    exact h4.sh j (fun m _ _ => by rw [Nat.add_sub_cancel]) (Nat.le_refl _) (by omega) (Nat.le_refl _) (Nat.le_refl _)
theorem LbA.app {s : List Nat} {n : Nat} {a b : List Ins} {M K : List Nat} (h : LbA s n a M) (k : LbA s (n + a.length) b K) : LbA s n (a ++ b) ((n + a.length) :: (M ++ K)) := by
  obtain ⟨f, f1, f2, f3, f4⟩ := h
  obtain ⟨g, g1, g2, g3, g4⟩ := k
  have hf : ∀ m, m ≤ n + a.length → (if m < n + a.length then f m else g m) = f m := fun m hm => by
    by_cases e : m < n + a.length
    · rw [if_pos e]
    · rw [if_neg e, show m = n + a.length by omega, f2, g1]
  have hg : ∀ m, n + a.length ≤ m → (if m < n + a.length then f m else g m) = g m := fun m hm => by rw [if_neg (by omega)]
  refine ⟨fun m => if m < n + a.length then f m else g m, ?_, ?_, fun m hm => ?_, LbL.app ?_ ?_⟩
  · dsimp only; rw [hf _ (by omega)]; exact f1
  · dsimp only; rw [List.length_append, hg _ (by omega), ← Nat.add_assoc]; exact g2
  · dsimp only
    rw [List.length_append]
    rcases List.mem_cons.1 hm with rfl | hm
    · exact ⟨by omega, by omega, by rw [hg _ (Nat.le_refl _)]; exact g1⟩
    · rcases List.mem_append.1 hm with hm | hm
      · have := f3 m hm
        exact ⟨this.1, by omega, by rw [hf _ this.2.1]; exact this.2.2⟩
      · have := g3 m hm
        exact ⟨by omega, by omega, by rw [hg _ this.1]; exact this.2.2⟩
  · rw [List.length_append]
    exact f4.as (Nat.le_refl _) (Nat.le_refl _) (fun m _ hm => hf m hm) (Nat.le_refl _) (by omega)
  · rw [List.length_append]
    exact g4.as (Nat.le_refl _) (Nat.le_refl _) (fun m hm _ => hg m hm) (by omega) (by omega)
/-- an instruction that jumps, ahead of a piece -/
theorem LbA.cons {s : List Nat} {n : Nat} {b : List Ins} {M : List Nat} {q : Ins} (h : LbA s (n + 1) b M) (hq : (q.op = 4 ∧ (∃ x : Nat, q.x = x ∧ x ∈ (n + 1) :: (n + 1 + b.length) :: M) ∧ ∃ y : Nat, q.y = y ∧ y ∈ (n + 1) :: (n + 1 + b.length) :: M) ∨ (q.op = 5 ∧ ∃ x : Nat, q.x = x ∧ x ∈ (n + 1) :: (n + 1 + b.length) :: M)) : LbA s n (q :: b) ((n + 1) :: M) := by
  obtain ⟨f, f1, f2, f3, f4⟩ := h
  have hf : ∀ m, n + 1 ≤ m → (if m ≤ n then s else f m) = f m := fun m hm => by rw [if_neg (by omega)]
  have hn : (if n ≤ n then s else f n) = s := by rw [if_pos (Nat.le_refl _)]
  have at_ : ∀ x : Nat, x ∈ (n + 1) :: (n + 1 + b.length) :: M → n + 1 ≤ x ∧ x ≤ n + 1 + b.length ∧ f x = s := fun x hx => by
    rcases List.mem_cons.1 hx with rfl | hx
    · exact ⟨Nat.le_refl _, by omega, f1⟩
    rcases List.mem_cons.1 hx with rfl | hx
    · exact ⟨by omega, Nat.le_refl _, f2⟩
    · exact f3 x hx
  refine ⟨fun m => if m ≤ n then s else f m, hn, ?_, fun m hm => ?_, ?_, ?_⟩
  · dsimp only; rw [List.length_cons, hf _ (by omega), show n + (b.length + 1) = n + 1 + b.length by omega]; exact f2
  · have := at_ m (by rcases List.mem_cons.1 hm with e | e <;> simp [e])
    dsimp only
    rw [List.length_cons, hf _ this.1]
    exact ⟨by omega, by omega, this.2.2⟩
  · rw [List.length_cons]
    dsimp only [LbI]
    refine ⟨fun e => ?_, fun e => ?_, fun e => ?_, fun _ e4 e5 => ?_⟩
    · rcases hq with ⟨_, ⟨x, hx, mx⟩, y, hy, my⟩ | ⟨e', _⟩
      · have ax := at_ x mx
        have ay := at_ y my
        rw [hx, hy, hn, Int.toNat_natCast, Int.toNat_natCast, hf _ ax.1, hf _ ay.1]
        exact ⟨by omega, by omega, by omega, by omega, ax.2.2, ay.2.2⟩
      · omega
    · rcases hq with ⟨e', _⟩ | ⟨_, x, hx, mx⟩
      · omega
      · have ax := at_ x mx
        rw [hx, hn, Int.toNat_natCast, hf _ ax.1]
        exact ⟨by omega, by omega, ax.2.2⟩
    · rcases hq with ⟨e', _⟩ | ⟨e', _⟩ <;> omega
    · rcases hq with ⟨e', _⟩ | ⟨e', _⟩
      · exact absurd e' e4
      · exact absurd e' e5
  · rw [List.length_cons]
    exact f4.as (Nat.le_refl _) (Nat.le_refl _) (fun m hm _ => hf m hm) (by omega) (by omega)
/-- between two instructions -/
theorem LbA.wrap {s t : List Nat} {n : Nat} {b : List Ins} {M : List Nat} {q r : Ins} (h : LbA t (n + 1) b M)
    (hq : ∀ f : Nat → List Nat, f n = s → f (n + 1) = t → f (n + 1 + b.length) = t → f (n + 2 + b.length) = s → LbI n (n + 2 + b.length) f n q ∧ LbI n (n + 2 + b.length) f (n + 1 + b.length) r) : LbA s n (q :: (b ++ [r])) [] := by
  obtain ⟨f, f1, f2, f3, f4⟩ := h
  have hf : ∀ m, n + 1 ≤ m → m ≤ n + 1 + b.length → (if m ≤ n then s else if m ≤ n + 1 + b.length then f m else s) = f m := fun m h1 h2 => by
    rw [if_neg (by omega), if_pos h2]
  have he : (if n + 2 + b.length ≤ n then s else if n + 2 + b.length ≤ n + 1 + b.length then f (n + 2 + b.length) else s) = s := by
    rw [if_neg (by omega), if_neg (by omega)]
  have hn : (if n ≤ n then s else if n ≤ n + 1 + b.length then f n else s) = s := by rw [if_pos (Nat.le_refl _)]
  have hl : n + (q :: (b ++ [r])).length = n + 2 + b.length := by simp; omega
  obtain ⟨k1, k2⟩ := hq (fun m => if m ≤ n then s else if m ≤ n + 1 + b.length then f m else s) hn ((hf _ (Nat.le_refl _) (by omega)).trans f1) ((hf _ (by omega) (Nat.le_refl _)).trans f2) he
  refine ⟨fun m => if m ≤ n then s else if m ≤ n + 1 + b.length then f m else s, hn, by rw [hl]; exact he, (fun m hm => by cases hm), ?_, LbL.app ?_ ⟨?_, trivial⟩⟩
  · rw [hl]; exact k1
  · rw [hl]
    exact f4.as (Nat.le_refl _) (Nat.le_refl _) hf (by omega) (by omega)
  · rw [hl]; exact k2
theorem LbA.none {s : List Nat} {n : Nat} {b : List Ins} {M : List Nat} (h : LbA s n b M) : LbA s n b [] := by
  obtain ⟨f, f1, f2, f3, f4⟩ := h
  exact ⟨f, f1, f2, (fun m hm => by cases hm), f4⟩
/-- a piece that can stand inside of any open groups -/
def LbB (b : List Ins) : Prop := ∀ s, LbA s 0 b []
theorem LbB.at {b : List Ins} (h : LbB b) (s : List Nat) (n : Nat) : LbA s n (shI n b) [] := by
  have := ((h s).sh n).none
  rwa [Nat.zero_add] at this
theorem LbB.nil : LbB [] := fun s => LbA.nil s 0
theorem LbB.leaf {q : Ins} (h3 : q.op ≠ 3) (h4 : q.op ≠ 4) (h5 : q.op ≠ 5) : LbB [q] := fun _ => LbA.leaf h3 h4 h5
theorem LbB.app {a b : List Ins} (h : LbB a) (k : LbB b) : LbB (a ++ shI a.length b) := fun s =>
  ((h s).app (by rw [Nat.zero_add]; exact k.at s a.length)).none
theorem LbB.cat {bs : List (List Ins)} (h : ∀ b, b ∈ bs → LbB b) : LbB (catB bs) := by
  induction bs with
  | nil => exact LbB.nil
  | cons b bs ih => exact (h b (by simp)).app (ih fun c hc => h c (List.mem_cons_of_mem _ hc))
theorem LbB.alt {bs : List (List Ins)} (h : ∀ b, b ∈ bs → LbB b) (s : List Nat) : ∀ n E, E = n + altLen bs → LbA s n (altC E n bs) [] := by
  induction bs with
  | nil => intro n E _; exact LbA.nil s n
  | cons b bs ih =>
    intro n E hE
    cases bs with
    | nil => exact (h b (by simp)).at s n
    | cons c bs =>
      have hl : altLen (b :: c :: bs) = b.length + 2 + altLen (c :: bs) := rfl
      have hr := ih (fun d hd => h d (List.mem_cons_of_mem _ hd)) (n + b.length + 2) E (by omega)
      have hrl := altC_len E (n + b.length + 2) (c :: bs)
      have hb := (h b (by simp)).at s (n + 1)
      have hj : LbA s (n + 1 + b.length) (iJump E :: altC E (n + b.length + 2) (c :: bs)) [n + 1 + b.length + 1] := by
        rw [show n + b.length + 2 = n + 1 + b.length + 1 by omega] at hr hrl ⊢
        refine hr.cons (.inr ⟨rfl, E, rfl, ?_⟩)
        rw [hrl]
        have : E = n + 1 + b.length + 1 + altLen (c :: bs) := by omega
        simp [this]
      have ha := hb.app (by rw [shI_len]; exact hj)
      refine (ha.cons (.inl ⟨rfl, ⟨n + 1, by simp [iSplit], by simp⟩, n + b.length + 2, by simp [iSplit], ?_⟩)).none
      rw [shI_len]
      have : n + b.length + 2 = n + 1 + b.length + 1 := by omega
      simp [this]
theorem LbB.opt {b : List Ins} (h : LbB b) (z : Bool) (s : List Nat) (E : Nat) : ∀ m n, E = n + m * (b.length + 1) → LbA s n (optC (fun n => spl z (n + 1) (E : Int)) b n m) [] ∧ (optC (fun n => spl z (n + 1) (E : Int)) b n m).length = m * (b.length + 1) := by
  intro m
  induction m with
  | zero => intro n _; exact ⟨LbA.nil s n, by simp [optC]⟩
  | succ m ih =>
    intro n hE
    rw [Nat.succ_mul] at hE
    obtain ⟨r1, r2⟩ := ih (n + 1 + b.length) (by omega)
    have ha := (h.at s (n + 1)).app (by rw [shI_len]; exact r1)
    refine ⟨?_, by simp only [optC, List.length_cons, List.length_append, shI_len, r2, Nat.succ_mul]; omega⟩
    have e1 : (shI (n + 1) b ++ optC (fun n => spl z (n + 1) (E : Int)) b (n + 1 + b.length) m).length = b.length + m * (b.length + 1) := by rw [List.length_append, shI_len, r2]
    refine LbA.none (ha.cons (q := spl z (n + 1) (E : Int)) (.inl ?_))
    rw [e1]
    have e2 : E = n + 1 + (b.length + m * (b.length + 1)) := by omega
    cases z with
    | true => exact ⟨rfl, ⟨E, rfl, by simp [e2]⟩, n + 1, by simp [spl, iSplit], by simp⟩
    | false => exact ⟨rfl, ⟨n + 1, by simp [spl, iSplit], by simp⟩, E, rfl, by simp [e2]⟩
theorem LbB.loop {b : List Ins} (h : LbB b) (z : Bool) : LbB (loopB b z) := fun s => by
  refine LbA.wrap (h.at s 1) fun f f0 f1 f2 f3 => ?_
  rw [shI_len] at f2 f3 ⊢
  refine ⟨⟨fun _ => ?_, fun e => ?_, fun e => ?_, fun _ e => ?_⟩, fun e => by simp [iJump] at e, fun _ => ?_, fun e => by simp [iJump] at e, fun _ _ e => absurd rfl e⟩
  · cases z with
    | true =>
      simp only [spl, if_true, iSplit]
      rw [show ((b.length : Int) + 2).toNat = 0 + 2 + b.length by omega, show (1 : Int).toNat = 0 + 1 from rfl, f0, f1, f3]
      exact ⟨by omega, by omega, by omega, by omega, rfl, rfl⟩
    | false =>
      simp only [spl, iSplit, Bool.false_eq_true, if_false]
      rw [show ((b.length : Int) + 2).toNat = 0 + 2 + b.length by omega, show (1 : Int).toNat = 0 + 1 from rfl, f0, f1, f3]
      exact ⟨by omega, by omega, by omega, by omega, rfl, rfl⟩
  · cases z <;> simp [spl, iSplit] at e
  · cases z <;> simp [spl, iSplit] at e
  · cases z <;> exact absurd rfl e
  · simp only [iJump]
    exact ⟨by omega, by omega, by rw [show (0 : Int).toNat = 0 from rfl, f0]; exact f2.symm⟩
theorem LbB.group {b : List Ins} (h : LbB b) {no : Int} (h0 : 0 ≤ no) : LbB (groupB b no) := by
  unfold groupB
  split
  · exact h
  · intro s
    obtain ⟨k, rfl⟩ : ∃ k : Nat, no = k := ⟨no.toNat, by omega⟩
    refine LbA.wrap (h.at (k :: s) 1) fun f f0 f1 f2 f3 => ?_
    rw [shI_len] at f2 f3 ⊢
    refine ⟨⟨fun e => by simp [iSave] at e, fun e => by simp [iSave] at e, fun _ => ⟨k, .inl ⟨rfl, ?_⟩⟩, fun e => absurd rfl e⟩, fun e => by simp [iSave] at e, fun e => by simp [iSave] at e, fun _ => ⟨k, .inr ⟨rfl, ?_⟩⟩, fun e => absurd rfl e⟩
    · rw [f0]; exact f1
    · rw [f2, show 0 + 1 + b.length + 1 = 0 + 2 + b.length by omega, f3]
theorem blk_lb (k : Nat) : ∀ t : List Rn, (∀ x, x ∈ t → x.kind = 5 → 0 ≤ x.lo) → LbB (blk k t) := by
  induction k with
  | zero => intro t _; exact LbB.nil
  | succ k ih =>
    intro t h
    cases t with
    | nil => exact LbB.nil
    | cons x cs =>
      have hcs := ih cs fun y hy => h y (List.mem_cons_of_mem _ hy)
      have hm : ∀ b, b ∈ (partsL cs).map (blk k) → LbB b := fun b hb => by
        obtain ⟨c, hc, rfl⟩ := List.mem_map.1 hb
        exact ih c fun y hy => h y (List.mem_cons_of_mem _ (((partsF_mem cs.length cs).2 c hc).2 y hy))
      unfold blk
      dsimp only
      split
      · exact LbB.cat hm
      split
      · exact fun s => LbB.alt hm s 0 _ (by omega)
      split
      · exact LbB.leaf (by simp [iSet]) (by simp [iSet]) (by simp [iSet])
      split
      · exact LbB.leaf (by simp [iStart]) (by simp [iStart]) (by simp [iStart])
      split
      · exact LbB.leaf (by simp [iEnd]) (by simp [iEnd]) (by simp [iEnd])
      split
      · rename_i h5; exact hcs.group (h x (by simp) h5)
      split
      · refine LbB.cat fun b hb => ?_
        rcases List.mem_append.1 hb with hb | hb
        · rw [(List.mem_replicate.1 hb).2]; exact hcs
        · rw [List.mem_singleton.1 hb]
          split
          · exact hcs.loop _
          · exact fun s => (hcs.opt _ s _ _ 0 (by omega)).1
      · exact LbB.nil
/-- a whole program -/
structure Lbd (P : List Ins) (f : Nat → List Nat) : Prop where
  at0 : f 0 = []
  fin : f (P.length - 1) = []
  all : ∀ i, i < P.length → LbI 0 P.length f i (igt P i)
theorem LbL.get {lo hi : Nat} {f : Nat → List Nat} {l : List Ins} : ∀ {n : Nat}, LbL lo hi f n l → ∀ i, i < l.length → LbI lo hi f (n + i) (igt l i) := by
  induction l with
  | nil => intro n _ i hi; simp at hi
  | cons q l ih =>
    intro n h i hi
    cases i with
    | zero => exact h.1
    | succ i =>
      have := ih h.2 i (by simpa using hi)
      rw [show n + (i + 1) = n + 1 + i by omega]
      exact this
theorem code_lb {l : List Rn} {g : Nat} (hL : Los l) (hg : gsL l = upto 0 g) : ∃ f, Lbd (codeW l) f := by
  have hlo := lo_le hg hL
  have hb := blk_lb l.length l fun x hx h5 => (hlo x hx h5).1
  obtain ⟨b, hbb⟩ : ∃ b, b = blk l.length l := ⟨_, rfl⟩
  rw [← hbb] at hb
  have hw : LbA [] 0 (iSave 0 :: (shI 1 b ++ [iSave 1])) [] := by
    refine LbA.wrap (hb.at [0] 1) fun f f0 f1 f2 f3 => ?_
    rw [shI_len] at f2 f3 ⊢
    refine ⟨⟨fun e => by simp [iSave] at e, fun e => by simp [iSave] at e, fun _ => ⟨0, .inl ⟨rfl, ?_⟩⟩, fun e => absurd rfl e⟩, fun e => by simp [iSave] at e, fun e => by simp [iSave] at e, fun _ => ⟨0, .inr ⟨rfl, ?_⟩⟩, fun e => absurd rfl e⟩
    · rw [f0]; exact f1
    · rw [f2, show 0 + 1 + b.length + 1 = 0 + 2 + b.length by omega, f3]
  have hm : LbA [] ((iSave 0 :: (shI 1 b ++ [iSave 1])).length) [iMatch] [] := LbA.leaf (by simp [iMatch]) (by simp [iMatch]) (by simp [iMatch])
  obtain ⟨f, f1, f2, f3, f4⟩ := hw.app (by rw [Nat.zero_add]; exact hm)
  have hc : codeW l = (iSave 0 :: (shI 1 b ++ [iSave 1])) ++ [iMatch] := by rw [hbb]; simp [codeW]
  refine ⟨f, f1, ?_, fun i hi => ?_⟩
  · have := f3 (0 + (iSave 0 :: (shI 1 b ++ [iSave 1])).length) (by simp)
    rw [hc, List.length_append, List.length_singleton, Nat.add_sub_cancel]
    rw [Nat.zero_add] at this
    exact this.2.2
  · rw [hc] at hi ⊢
    have := f4.get i hi
    rwa [Nat.zero_add, Nat.zero_add] at this
/-- the groups recorded on a path: open ones have a beginning, others both ends or none -/
structure Prs (f : Nat → List Nat) (p : Pa) : Prop where
  op : ∀ k, k ∈ f p.i → 0 ≤ gt p.r (2 * k) ∧ gt p.r (2 * k) ≤ p.a
  no : ∀ k, 2 * k + 1 < p.r.length → k ∉ f p.i → gt p.r (2 * k) = -1 ∨ (0 ≤ gt p.r (2 * k) ∧ gt p.r (2 * k) ≤ gt p.r (2 * k + 1))
theorem Prs.succ {P : List Ins} {G b : Nat} {s : List Int} {fold : Bool} (M : Made P G) {f : Nat → List Nat} (L : Lbd P f) {p : Pa} (ho : On P G s.length b p) (h : Prs f p) {q : Pa} (hq : q ∈ succs (mch P s fold) p) : Prs f q := by
  obtain ⟨i, a, r⟩ := p
  have h1 := ho.i
  have h4 := ho.len
  obtain ⟨c1, c2, c3, c4⟩ := L.all i ho.i
  obtain ⟨k1, k2⟩ := h
  dsimp only at h1 h4 k1 k2
  have hall := ho.all
  dsimp only at hall
  unfold succs at hq
  change q ∈ (if (igt P i).op = 0 then (if (mch P s fold).ok i a then [(⟨i + 1, a + 1, r⟩ : Pa)] else [])
    else if (igt P i).op = 1 then (if a = 0 then [⟨i + 1, a, r⟩] else [])
    else if (igt P i).op = 2 then (if a = s.length then [⟨i + 1, a, r⟩] else [])
    else if (igt P i).op = 3 then [⟨i + 1, a, r.set (igt P i).x.toNat (a : Int)⟩]
    else if (igt P i).op = 4 then [⟨(igt P i).x.toNat, a, r⟩, ⟨(igt P i).y.toNat, a, r⟩]
    else if (igt P i).op = 5 then [⟨(igt P i).x.toNat, a, r⟩]
    else []) at hq
  have same : ∀ j a', f j = f i → a ≤ a' → Prs f ⟨j, a', r⟩ := fun j a' hj ha =>
    ⟨fun k hk => by dsimp only at hk ⊢; rw [hj] at hk; have := k1 k hk; omega, fun k hk hn => by dsimp only at hk hn ⊢; rw [hj] at hn; exact k2 k hk hn⟩
  split at hq
  · split at hq
    · rw [List.mem_singleton.1 hq]; exact same _ _ (c4 (by omega) (by omega) (by omega)) (by omega)
    · cases hq
  split at hq
  · split at hq
    · rw [List.mem_singleton.1 hq]; exact same _ _ (c4 (by omega) (by omega) (by omega)) (by omega)
    · cases hq
  split at hq
  · split at hq
    · rw [List.mem_singleton.1 hq]; exact same _ _ (c4 (by omega) (by omega) (by omega)) (by omega)
    · cases hq
  split at hq
  · rename_i h0
    rw [List.mem_singleton.1 hq]
    have hs := M.ok.save i h1 h0
    obtain ⟨k, ⟨hx, hf⟩ | ⟨hx, hf⟩⟩ := c3 h0
    · have ex : (igt P i).x.toNat = 2 * k := by omega
      have hxl : 2 * k < r.length := by omega
      rw [ex]
      refine ⟨fun j hj => ?_, fun j hj hn => ?_⟩
      · dsimp only at hj ⊢
        by_cases e : j = k
        · subst e; rw [gt_set_self hxl]; omega
        · rw [gt_set_ne (by omega)]
          rw [hf] at hj
          rcases List.mem_cons.1 hj with e' | hj
          · exact absurd e' e
          · exact k1 j hj
      · dsimp only at hj hn ⊢
        rw [List.length_set] at hj
        rw [hf, List.mem_cons, not_or] at hn
        rw [gt_set_ne (by omega), gt_set_ne (by omega)]
        exact k2 j hj hn.2
    · have ex : (igt P i).x.toNat = 2 * k + 1 := by omega
      have hxl : 2 * k + 1 < r.length := by omega
      have hk := k1 k (by rw [hf]; simp)
      rw [ex]
      refine ⟨fun j hj => ?_, fun j hj hn => ?_⟩
      · dsimp only at hj ⊢
        rw [gt_set_ne (by omega)]
        exact k1 j (by rw [hf]; exact List.mem_cons_of_mem _ hj)
      · dsimp only at hj hn ⊢
        rw [List.length_set] at hj
        by_cases e : j = k
        · subst e; rw [gt_set_ne (by omega), gt_set_self hxl]; exact .inr hk
        · rw [gt_set_ne (by omega), gt_set_ne (by omega)]
          exact k2 j hj (by rw [hf, List.mem_cons, not_or]; exact ⟨e, hn⟩)
  split at hq
  · rename_i h0
    have := c1 h0
    rcases List.mem_cons.1 hq with rfl | hq
    · exact same _ _ this.2.2.2.2.1 (Nat.le_refl _)
    · rw [List.mem_singleton.1 hq]; exact same _ _ this.2.2.2.2.2 (Nat.le_refl _)
  split at hq
  · rename_i h0
    rw [List.mem_singleton.1 hq]; exact same _ _ (c2 h0).2.2 (Nat.le_refl _)
  · cases hq
theorem Run.prs_all {P : List Ins} {G b : Nat} {s : List Int} {fold : Bool} (M : Made P G) {f : Nat → List Nat} (L : Lbd P f) {S S' : List Pa} {v v' : Vis} (h : Run (mch P s fold) S v S' v') : (∀ p, p ∈ S → On P G s.length b p ∧ Prs f p) → ∀ p, p ∈ S' → On P G s.length b p ∧ Prs f p := by
  induction h with
  | refl => exact fun h => h
  | old _ _ ih => exact fun k => ih fun p hp => k p (List.mem_cons_of_mem _ hp)
  | new _ _ _ ih =>
    intro k
    refine ih fun p hp => ?_
    rcases List.mem_append.1 hp with hp | hp
    · have := k _ (List.mem_cons_self ..); exact ⟨this.1.succ M hp, this.2.succ M L this.1 hp⟩
    · exact k p (List.mem_cons_of_mem _ hp)
/-- each group of a match: both ends in their order, or none -/
theorem Hits.pairs {P : List Ins} {G b : Nat} {s : List Int} {fold : Bool} (M : Made P G) {f : Nat → List Nat} (L : Lbd P f) (hb : b ≤ s.length) {v : Vis} {r : List Int} (h : Hits (mch P s fold) (List.replicate (2 * G + 2) (-1)) b v r) : ∀ k, 2 * k + 1 < r.length → gt r (2 * k) = -1 ∨ (0 ≤ gt r (2 * k) ∧ gt r (2 * k) ≤ gt r (2 * k + 1)) := by
  obtain ⟨p, S, v', h1, -, h3, rfl⟩ := h
  have h0 : On P G s.length b ⟨0, b, List.replicate (2 * G + 2) (-1)⟩ := by
    refine ⟨M.ok.pos, Nat.le_refl _, hb, by simp, fun _ => rfl, (fun h => by cases h), fun k hk => .inl ?_, fun e => ?_⟩
    · have hk' : k < 2 * G + 2 := by simpa using hk
      unfold gt; rw [List.getD_eq_getElem?_getD, List.getElem?_replicate, if_pos hk']; rfl
    · have := M.two; change 0 + 1 = _ at e; omega
  have p0 : Prs f ⟨0, b, List.replicate (2 * G + 2) (-1)⟩ := by
    refine ⟨fun k hk => ?_, fun k hk _ => .inl ?_⟩
    · dsimp only at hk; rw [L.at0] at hk; cases hk
    · have hk' : 2 * k + 1 < 2 * G + 2 := by simpa using hk
      unfold gt; rw [List.getD_eq_getElem?_getD, List.getElem?_replicate, if_pos (by omega)]; rfl
  have hp := Run.prs_all M L h1 (fun q hq => by rw [List.mem_singleton.1 hq]; exact ⟨h0, p0⟩) p (by simp)
  have hl := M.last p.i hp.1.i h3
  refine fun k hk => hp.2.no k hk ?_
  have : p.i = P.length - 1 := by omega
  rw [this, L.fin]; simp
end ReM
end Go.Proofs.YtefgjicegbhcaaaGreat
namespace Go.Proofs.YtefgjicegbhcaaaGreat
open Go.RowKit Go.ChangeShapes Go.WideShapes Go.ChangeAt

/-- an int's range -/
def ir (x : Int) : Prop := -9223372036854775808 ≤ x ∧ x ≤ 9223372036854775807
theorem Own.ge {w : World} {base : Nat} {a : Option Addr} {c : Nat} {l : List Int} (h : Own w base a c l) : ∀ k, Blk a k → base ≤ k := fun k hk => by
  rcases Nat.lt_or_ge k base with h1 | h1
  · exact absurd hk (h.offlt h1)
  · exact h1
/-- a part in memory -/
structure Fo where
  kind : Int
  grp : Int
  how : Int
  ta : Option Addr
  text : List Int
  tc : Nat
  ea : Option Addr
  els : List Int
  ec : Nat
instance : Inhabited Fo := ⟨⟨0, 0, 0, none, [], 0, none, [], 0⟩⟩
def Fo.fp (m : Fo) : FmM.Fp := ⟨m.kind, m.grp, m.how, m.text, m.els⟩
def fps (l : List Fo) : List FmM.Fp := l.map Fo.fp
theorem fps_len (l : List Fo) : (fps l).length = l.length := by simp [fps]
theorem fps_app (l r : List Fo) : fps (l ++ r) = fps l ++ fps r := by simp [fps]
def encFo : Enc Fo where
  k := 5
  v := fun m => [.int .i64 m.kind, .int .i64 m.grp, .int .i64 m.how, .slice m.ta m.text.length m.tc, .slice m.ea m.els.length m.ec]
  cap := 1099511627776
  pos := by decide
  len := fun _ => rfl
  one := fun x u h => by simp at h; rcases h with rfl | rfl | rfl | rfl | rfl <;> rfl
/-- the five cells of a part -/
theorem rec_fo {w : World} {b o : Nat} {m : Fo} (h : Rec1 encFo w b o m) :
    w.cell? ⟨b, o, none⟩ = some (.int .i64 m.kind) ∧ w.cell? ⟨b, o + 1, none⟩ = some (.int .i64 m.grp) ∧ w.cell? ⟨b, o + 2, none⟩ = some (.int .i64 m.how) ∧ w.cell? ⟨b, o + 3, none⟩ = some (.slice m.ta m.text.length m.tc) ∧ w.cell? ⟨b, o + 4, none⟩ = some (.slice m.ea m.els.length m.ec) :=
  ⟨h 0 _ rfl, h 1 _ rfl, h 2 _ rfl, h 3 _ rfl, h 4 _ rfl⟩
/-- a world that has all blocks of w but N's -/
def Kp (N : Nat → Prop) (w w' : World) : Prop := w.heap.size ≤ w'.heap.size ∧ ∀ k, k < w.heap.size → ¬ N k → w'.heap[k]? = w.heap[k]?
theorem Kp.refl (N : Nat → Prop) (w : World) : Kp N w w := ⟨Nat.le_refl _, fun _ _ _ => rfl⟩
theorem Kp.go {N M : Nat → Prop} {a b c : World} (h : Kp N a b) (k : Kp M b c) (hn : ∀ i, i < a.heap.size → M i → N i) : Kp N a c := ⟨Nat.le_trans h.1 k.1, fun i hi hx => (k.2 i (Nat.lt_of_lt_of_le hi h.1) (fun h => hx (hn i hi h))).trans (h.2 i hi hx)⟩
theorem Kp.trans {N : Nat → Prop} {a b c : World} (h : Kp N a b) (k : Kp N b c) : Kp N a c := h.go k fun _ _ h => h
theorem Kp.of {N : Nat → Prop} {a b : World} (h : Kpt N a b) : Kp N a b := ⟨h.size, h.block⟩
theorem Kp.bel {N : Nat → Prop} {a b : World} (h : Below a.heap.size a b) : Kp N a b := ⟨h.size, fun k hk _ => h.block k hk⟩
/-- what reads in w reads in every world that has w's blocks -/
theorem Sl.kp {w w' : World} {a : Option Addr} {l : List Int} {N : Nat → Prop} (h : Sl w a l) (k : Kp N w w') (hn : ∀ i, i < w.heap.size → ¬ N i) : Sl w' a l := h.same fun _ _ hl => k.2 _ hl (hn _ hl)
/-- the texts inside: readable in every world that has w's blocks but N's; the numbers are ints -/
structure FoOk (w : World) (N : Nat → Prop) (m : Fo) : Prop where
  text : ∀ w', Kp N w w' → Sl w' m.ta m.text
  tcap : m.text.length ≤ m.tc
  els : ∀ w', Kp N w w' → Sl w' m.ea m.els
  ecap : m.els.length ≤ m.ec
  rk : ir m.kind
  rg : ir m.grp
  rh : ir m.how
def Fos (w : World) (F : Nat → Prop) (l : List Fo) : Prop := ∀ m, m ∈ l → FoOk w F m
theorem Fos.nil (w : World) (F : Nat → Prop) : Fos w F [] := fun m hm => by cases hm
theorem Fos.app {w : World} {F : Nat → Prop} {l r : List Fo} (h : Fos w F l) (hr : Fos w F r) : Fos w F (l ++ r) := fun x hx => by
  rcases List.mem_append.1 hx with hx | hx
  · exact h x hx
  · exact hr x hx
theorem FoOk.go {w w' : World} {N M : Nat → Prop} {m : Fo} (h : FoOk w N m) (k : Kp N w w') (hn : ∀ i, i < w.heap.size → M i → N i) : FoOk w' M m :=
  ⟨fun w2 k2 => h.text w2 (k.go k2 hn), h.tcap, fun w2 k2 => h.els w2 (k.go k2 hn), h.ecap, h.rk, h.rg, h.rh⟩
theorem FoOk.bel {w w' : World} {F : Nat → Prop} {m : Fo} (h : FoOk w F m) (hb : Below w.heap.size w w') : FoOk w' F m := h.go (Kp.bel hb) fun _ _ h => h
theorem FoOk.kpt {w w' : World} {F : Nat → Prop} {m : Fo} (h : FoOk w F m) (hk : Kpt F w w') : FoOk w' F m := h.go (Kp.of hk) fun _ _ h => h
theorem Fos.go {w w' : World} {N M : Nat → Prop} {l : List Fo} (h : Fos w N l) (k : Kp N w w') (hn : ∀ i, i < w.heap.size → M i → N i) : Fos w' M l := fun m hm => (h m hm).go k hn
theorem Fos.bel {w w' : World} {F : Nat → Prop} {l : List Fo} (h : Fos w F l) (hb : Below w.heap.size w w') : Fos w' F l := fun m hm => (h m hm).bel hb
theorem Fos.kpt {w w' : World} {F : Nat → Prop} {l : List Fo} (h : Fos w F l) (hk : Kpt F w w') : Fos w' F l := fun m hm => (h m hm).kpt hk
theorem Tryz.infoFo : (Tryz.prog.info? 71).map (fun i => (i.zero, i.size, i.bytes)) = some (some (.agg #[.int .i64 0, .int .i64 0, .int .i64 0, .slice none 0 0, .slice none 0 0]), 5, 72) := by kernel_rfl
theorem Tryz.elemFo : Tryz.prog.underlying 27 = some (.slice (Tryz.prog.elem 27)) := by kernel_rfl
theorem Tryz.sizeFo (w : World) : (sizeOf (Tryz.prog.elem 27)).run Tryz.prog w = .ok 5 w := by kernel_rfl
theorem Tryz.tyFo : Ty Tryz.prog encFo 27 71 where
  und := Tryz.underlying27
  info := ⟨_, _, Tryz.infoFo, rfl, by decide⟩
  elem := Tryz.elemFo
  size := Tryz.sizeFo
  max := by decide
/-- a list of parts that the call owns -/
def FOwn (w : World) (base : Nat) (a : Option Addr) (c : Nat) (l : List Fo) : Prop := ROwn encFo 71 w base a c l
abbrev FSl (w : World) (a : Option Addr) (l : List Fo) : Prop := RSl encFo w a l
theorem RSl.kp {α : Type} {E : Enc α} {w w' : World} {a : Option Addr} {l : List α} {N : Nat → Prop} (h : RSl E w a l) (k : Kp N w w') (hn : ∀ i, i < w.heap.size → ¬ N i) : RSl E w' a l := h.same fun _ _ hl => k.2 _ hl (hn _ hl)
/-- the cells of a part in a list -/
theorem fo_cells {w : World} {a : Option Addr} {l : List Fo} (h : FSl w a l) {i : Nat} (hi : i < l.length) : ∃ b off, a = some ⟨b, off, none⟩ ∧ b < w.heap.size ∧
    w.cell? ⟨b, off + i * 5, none⟩ = some (.int .i64 (rgt l i).kind) ∧ w.cell? ⟨b, off + i * 5 + 1, none⟩ = some (.int .i64 (rgt l i).grp) ∧ w.cell? ⟨b, off + i * 5 + 2, none⟩ = some (.int .i64 (rgt l i).how) ∧
    w.cell? ⟨b, off + i * 5 + 3, none⟩ = some (.slice (rgt l i).ta (rgt l i).text.length (rgt l i).tc) ∧ w.cell? ⟨b, off + i * 5 + 4, none⟩ = some (.slice (rgt l i).ea (rgt l i).els.length (rgt l i).ec) := by
  obtain ⟨b, off, ha, hc⟩ := h.at hi
  have r := rec_fo (hc i hi)
  exact ⟨b, off, ha, World.block_lt_of_cell? w _ r.1, r⟩
/-- a text among others -/
structure Tx where
  a : Option Addr
  l : List Int
  c : Nat
instance : Inhabited Tx := ⟨⟨none, [], 0⟩⟩
def encTx : Enc Tx where
  k := 1
  v := fun q => [.slice q.a q.l.length q.c]
  cap := 4398046511104
  pos := by decide
  len := fun _ => rfl
  one := fun x u h => by simp at h; subst h; rfl
theorem rec_tx {w : World} {b o : Nat} {m : Tx} (h : Rec1 encTx w b o m) : w.cell? ⟨b, o, none⟩ = some (.slice m.a m.l.length m.c) := h 0 _ rfl
def Txs (w : World) (l : List Tx) : Prop := ∀ m, m ∈ l → Sl w m.a m.l ∧ m.l.length ≤ m.c
theorem Txs.bel {w w' : World} {l : List Tx} (h : Txs w l) (hb : Below w.heap.size w w') : Txs w' l := fun m hm => ⟨(h m hm).1.bel hb, (h m hm).2⟩
theorem Txs.nil (w : World) : Txs w [] := fun m hm => by cases hm
theorem Txs.app {w : World} {l r : List Tx} (h : Txs w l) (hr : Txs w r) : Txs w (l ++ r) := fun x hx => by
  rcases List.mem_append.1 hx with hx | hx
  · exact h x hx
  · exact hr x hx
abbrev TSl (w : World) (a : Option Addr) (l : List Tx) : Prop := RSl encTx w a l
theorem tx_cells {w : World} {a : Option Addr} {l : List Tx} (h : TSl w a l) {i : Nat} (hi : i < l.length) : ∃ b off, a = some ⟨b, off, none⟩ ∧ b < w.heap.size ∧
    w.cell? ⟨b, off + i, none⟩ = some (.slice (rgt l i).a (rgt l i).l.length (rgt l i).c) := by
  obtain ⟨b, off, ha, hc⟩ := h.at hi
  have r := rec_tx (hc i hi)
  have e : encTx.k = 1 := rfl
  rw [e, Nat.mul_one] at r
  exact ⟨b, off, ha, World.block_lt_of_cell? w _ r, r⟩
/-- the text of group k, none where there is no such group -/
def gtx (l : List Tx) (k : Int) : List Int := if 0 ≤ k ∧ k < l.length then (rgt l k.toNat).l else []
theorem Tryz.infoTx : (Tryz.prog.info? 24).map (fun i => (i.zero, i.size, i.bytes)) = some (some (.slice none 0 0), 1, 24) := by kernel_rfl
theorem Tryz.tyTx : Ty Tryz.prog encTx 29 24 where
  und := by kernel_rfl
  info := ⟨_, _, Tryz.infoTx, rfl, by decide⟩
  elem := by kernel_rfl
  size := fun w => by kernel_rfl
  max := by decide
end Go.Proofs.YtefgjicegbhcaaaGreat
namespace Go.Proofs.YtefgjicegbhcaaaGreat
open ReM
namespace FmM
/-- the text of a part, its group's text being g -/
def ptx (f : Fp) (g : List Int) : List Int :=
  if f.kind = 1 then cas g f.how else if f.kind = 3 then (if g = [] then f.els else g)
  else if f.kind = 2 ∨ f.kind = 4 then (if g = [] then f.els else f.text) else f.text
def fillF (g : Int → List Int) (l : List Fp) : List Int := l.flatMap fun f => ptx f (g f.grp)
theorem fillF_app (g : Int → List Int) (a b : List Fp) : fillF g (a ++ b) = fillF g a ++ fillF g b := by simp [fillF]
theorem fillF_nil (g : Int → List Int) : fillF g [] = [] := rfl
theorem fillF_one (g : Int → List Int) (f : Fp) : fillF g [f] = ptx f (g f.grp) := by simp [fillF]
theorem cas_len (l : List Int) (how : Int) : (cas l how).length ≤ l.length := by
  unfold cas
  split
  · simp
  split
  · simp
  split
  · cases l <;> simp [hcap]
  split
  · exact pas_len up l
  split
  · exact pas_len lo l
  · exact Nat.le_refl _
theorem ptx_len (f : Fp) (g : List Int) {K : Nat} (h1 : f.text.length ≤ K) (h2 : f.els.length ≤ K) (h3 : g.length ≤ K) : (ptx f g).length ≤ K := by
  unfold ptx
  split
  · have := cas_len g f.how; omega
  split
  · split <;> assumption
  split
  · split <;> assumption
  · assumption
theorem fillF_len (g : Int → List Int) {K : Nat} : ∀ (l : List Fp), (∀ f, f ∈ l → f.text.length ≤ K ∧ f.els.length ≤ K ∧ (g f.grp).length ≤ K) → (fillF g l).length ≤ l.length * K := by
  intro l
  induction l with
  | nil => intro _; simp [fillF]
  | cons f l ih =>
    intro h
    have h1 := h f (by simp)
    have h2 := ptx_len f (g f.grp) h1.1 h1.2.1 h1.2.2
    have h3 := ih fun x hx => h x (List.mem_cons_of_mem _ hx)
    have e : fillF g (f :: l) = ptx f (g f.grp) ++ fillF g l := rfl
    rw [e, List.length_append, List.length_cons, Nat.succ_mul]
    omega
theorem fillF_ext {g h : Int → List Int} : ∀ {l : List Fp}, (∀ f, f ∈ l → g f.grp = h f.grp) → fillF g l = fillF h l := by
  intro l
  induction l with
  | nil => intro _; rfl
  | cons f l ih =>
    intro k
    have e : ∀ q : Int → List Int, fillF q (f :: l) = ptx f (q f.grp) ++ fillF q l := fun _ => rfl
    rw [e, e, k f (by simp), ih fun x hx => k x (List.mem_cons_of_mem _ hx)]
/-- what stands behind out once the parts are put, or once it is too long -/
def FilR (most : Nat) (out x y : List Int) : Prop := y = out ++ x ∨ (most < y.length ∧ most < (out ++ x).length)
/-! ## a text with matches replaced -/
/-- the text of a group of a match -/
def gcap (t r : List Int) (k : Int) : List Int :=
  if (2 * k).toNat < r.length ∧ 0 ≤ gt r (2 * k).toNat then (t.take (gt r ((2 * k).toNat + 1)).toNat).drop (gt r (2 * k).toNat).toNat else []
def repl (t : List Int) (l : List Fp) : Nat → List (List Int) → List Int
  | e, [] => t.drop e
  | e, r :: F => ((t.take (gt r 0).toNat).drop e) ++ (fillF (gcap t r) l ++ repl t l (gt r 1).toNat F)
/-- matches one behind the other, from e on, in a text of n; all groups with both ends or none -/
inductive Row : Nat → Nat → List (List Int) → Prop
  | done {n e : Nat} : e ≤ n → Row n e []
  | more {n e : Nat} {r : List Int} {F : List (List Int)} : (e : Int) ≤ gt r 0 → gt r 0 ≤ gt r 1 → gt r 1 ≤ n → 2 ≤ r.length → r.length % 2 = 0 →
      (∀ k, 2 * k + 1 < r.length → gt r (2 * k) = -1 ∨ (0 ≤ gt r (2 * k) ∧ gt r (2 * k) ≤ gt r (2 * k + 1) ∧ gt r (2 * k + 1) ≤ n)) → Row n (gt r 1).toNat F → Row n e (r :: F)
theorem Row.le {n e : Nat} {F : List (List Int)} (h : Row n e F) : e ≤ n := by
  cases h with
  | done h => exact h
  | more a b c => omega
theorem Row.mono {n e d : Nat} {F : List (List Int)} (h : Row n e F) (k : d ≤ e) : Row n d F := by
  cases h with
  | done h => exact .done (by omega)
  | more a b c x y z u => exact .more (by omega) b c x y z u
/-- all matches stand in a row -/
theorem AllR.row {P : List Ins} {G : Nat} {s : List Int} {fold : Bool} (M : Made P G) {f : Nat → List Nat} (L : Lbd P f) {a : Nat} {F : List (List Int)} (h : AllR (mch P s fold) (List.replicate (2 * G + 2) (-1)) a F) : ∀ e, e ≤ a → e ≤ s.length → Row s.length e F := by
  induction h with
  | done _ => intro e _ he; exact .done he
  | more h _ ih =>
    intro e ha he
    obtain ⟨b, u, h1, h2, h3, h4, h5⟩ := h.at M
    have hp := Hits.pairs M L h2 h5
    have hs := h3.snd
    have hf := h3.fst
    refine .more (by omega) (by omega) (by omega) (by rw [h3.len]; omega) (by rw [h3.len]; omega) (fun k hk => ?_) (ih _ ?_ (by omega))
    · rcases hp k hk with h | ⟨k1, k2⟩
      · exact .inl h
      · refine .inr ⟨k1, k2, ?_⟩
        rcases h3.all (2 * k + 1) hk with h | h <;> omega
    · unfold nextF; split <;> omega
theorem FindR.row {P : List Ins} {G : Nat} {s : List Int} {fold : Bool} (M : Made P G) {f : Nat → List Nat} (L : Lbd P f) {r : List Int} (h : FindR (mch P s fold) (List.replicate (2 * G + 2) (-1)) 0 (some r)) : Row s.length 0 [r] := by
  obtain ⟨b, u, h1, h2, h3, h4, h5⟩ := h.at M
  have hp := Hits.pairs M L h2 h5
  have hs := h3.snd
  have hf := h3.fst
  refine .more (by omega) (by omega) (by omega) (by rw [h3.len]; omega) (by rw [h3.len]; omega) (fun k hk => ?_) (.done (by omega))
  rcases hp k hk with h | ⟨k1, k2⟩
  · exact .inl h
  · refine .inr ⟨k1, k2, ?_⟩
    rcases h3.all (2 * k + 1) hk with h | h <;> omega
theorem cas_zero (l : List Int) : cas l 0 = l := by simp [cas]
/-- the whole match put in its place: the text stays -/
theorem repl_whole {t : List Int} {e : Nat} {F : List (List Int)} {n : Nat} (h : Row n e F) (hn : n = t.length) : repl t [⟨1, 0, 0, [], []⟩] e F = t.drop e := by
  induction h with
  | done _ => rfl
  | more h1 h2 h3 h4 h5 h6 h7 ih =>
    rename_i e r F
    have hk := h6 0 (by omega)
    have e1 : fillF (gcap t r) [⟨1, 0, 0, [], []⟩] = (t.take (gt r 1).toNat).drop (gt r 0).toNat := by
      rw [fillF_one]
      unfold ptx gcap
      rw [if_pos rfl]
      dsimp only
      rw [if_pos ⟨by show 0 < r.length; omega, by show 0 ≤ gt r 0; omega⟩, cas_zero]
      rfl
    unfold repl
    rw [e1, ih]
    have ea : t.drop (gt r 0).toNat = (t.take (gt r 1).toNat).drop (gt r 0).toNat ++ t.drop (gt r 1).toNat := by
      rw [← List.drop_append_of_le_length (by rw [List.length_take]; omega), List.take_append_drop]
    have eb : t.drop e = (t.take (gt r 0).toNat).drop e ++ t.drop (gt r 0).toNat := by
      rw [← List.drop_append_of_le_length (by rw [List.length_take]; omega), List.take_append_drop]
    rw [← ea, ← eb]
end FmM
end Go.Proofs.YtefgjicegbhcaaaGreat
namespace Go.Proofs.YtefgjicegbhcaaaGreat
open Go.RowKit

/-- what its kind asks of a part -/
def mayFl (f : FmM.Fp) : Bool :=
  if f.kind = 0 then decide (f.grp = 0 ∧ f.how = 0 ∧ f.text ≠ [] ∧ f.els = [])
  else if f.kind = 1 then decide (0 ≤ f.how ∧ f.how ≤ 5 ∧ f.text = [] ∧ f.els = [])
  else if f.kind = 2 then decide (f.how = 0 ∧ f.els = [])
  else if f.kind = 3 then decide (f.how = 0 ∧ f.text = [])
  else if f.kind = 4 then decide (f.how = 0)
  else false
theorem may1_eq (f : FmM.Fp) : FmM.may1 f = (decide (0 ≤ f.grp ∧ f.grp ≤ 99) && (may f.text && (may f.els && mayFl f))) := rfl
/-- a part by value -/
def Fo.val (m : Fo) : Value := .agg #[.int .i64 m.kind, .int .i64 m.grp, .int .i64 m.how, .slice m.ta m.text.length m.tc, .slice m.ea m.els.length m.ec]
set_option maxHeartbeats 16000000 in
theorem mayfields_c (m : Fo) (w : World) :
    Calls Tryz.prog 88 #[m.val] w fun e' w' => e' = .returned (.bool (mayFl m.fp)) ∧ Below w.heap.size w w' := by
  obtain ⟨kind, grp, how, ta, text, tc, ea, els, ec⟩ := m
  have key : ∀ b : Bool, mayFl ⟨kind, grp, how, text, els⟩ = b → Calls Tryz.prog 88 #[(⟨kind, grp, how, ta, text, tc, ea, els, ec⟩ : Fo).val] w (fun e' w' => e' = .returned (.bool b) ∧ Below w.heap.size w w') → Calls Tryz.prog 88 #[(⟨kind, grp, how, ta, text, tc, ea, els, ec⟩ : Fo).val] w (fun e' w' => e' = .returned (.bool (mayFl (⟨kind, grp, how, ta, text, tc, ea, els, ec⟩ : Fo).fp)) ∧ Below w.heap.size w w') := fun b e h => by
    show Calls Tryz.prog 88 _ w (fun e' w' => e' = .returned (.bool (mayFl ⟨kind, grp, how, text, els⟩)) ∧ _)
    rw [e]; exact h
  obtain ⟨tl, htl⟩ : ∃ n, n = text.length := ⟨_, rfl⟩
  obtain ⟨el, hel⟩ : ∃ n, n = els.length := ⟨_, rfl⟩
  have ht : text = [] ↔ tl = 0 := by rw [htl]; exact (List.length_eq_zero_iff).symm
  have he : els = [] ↔ el = 0 := by rw [hel]; exact (List.length_eq_zero_iff).symm
  have hw : ∃ b : Bool, mayFl ⟨kind, grp, how, text, els⟩ = b ∧ b = (if kind = 0 then decide (grp = 0 ∧ how = 0 ∧ ¬ tl = 0 ∧ el = 0) else if kind = 1 then decide (0 ≤ how ∧ how ≤ 5 ∧ tl = 0 ∧ el = 0) else if kind = 2 then decide (how = 0 ∧ el = 0) else if kind = 3 then decide (how = 0 ∧ tl = 0) else if kind = 4 then decide (how = 0) else false) := by
    refine ⟨_, rfl, ?_⟩
    simp only [mayFl, ne_eq, ht, he]
  obtain ⟨b, hb1, hb⟩ := hw
  refine key b hb1 ?_
  unfold Fo.val
  dsimp only
  rw [← htl, ← hel]
  clear key hb1 ht he htl hel
  have Hb := hid hb
  clear hb
  go_enter Tryz.func88, Tryz.ntmps88
  go_upto_region 1 with fail
  go_quiet (fail)
  go_wp2_with fail
  all_goals
    first
      | go_ret
      | skip
    first
      | (refine ⟨ret_bool ?_, by (repeat' (first | exact Below.refl _ _ | assumption | refine bdrewN ?_ _ | refine Below.drew ?_ | refine Below.setCell ?_ (Nat.le_refl _) _ | refine bal ?_ _ | refine bthen ?_ (by assumption)))⟩; rw [Hb.out]; clear Hb; simp_all; done)
      | (refine ⟨ret_bool ?_, by (repeat' (first | exact Below.refl _ _ | assumption | refine bdrewN ?_ _ | refine Below.drew ?_ | refine Below.setCell ?_ (Nat.le_refl _) _ | refine bal ?_ _ | refine bthen ?_ (by assumption)))⟩; rw [Hb.out]; clear Hb; rw [Bool.eq_iff_iff]; simp_all; omega)
      | (refine ⟨ret_bool ?_, by (repeat' (first | exact Below.refl _ _ | assumption | refine bdrewN ?_ _ | refine Below.drew ?_ | refine Below.setCell ?_ (Nat.le_refl _) _ | refine bal ?_ _ | refine bthen ?_ (by assumption)))⟩; rw [Hb.out]; clear Hb; rw [Bool.eq_iff_iff]; simp_all <;> omega)
      | (refine ⟨ret_bool ?_, by (repeat' (first | exact Below.refl _ _ | assumption | refine bdrewN ?_ _ | refine Below.drew ?_ | refine Below.setCell ?_ (Nat.le_refl _) _ | refine bal ?_ _ | refine bthen ?_ (by assumption)))⟩; rw [Hb.out]; clear Hb; (try simp_all); trace_state; sorry)
set_option maxHeartbeats 16000000 in
theorem maypart_c (m : Fo) (N : Nat → Prop) (w : World) (h : FoOk w N m) :
    Calls Tryz.prog 61 #[m.val] w fun e' w' => e' = .returned (.bool (FmM.may1 m.fp)) ∧ Below w.heap.size w w' := by
  obtain ⟨V, hV⟩ : ∃ V, V = w.alloc (.cells #[.int .i64 m.kind, .int .i64 m.grp, .int .i64 m.how, .slice m.ta m.text.length m.tc, .slice m.ea m.els.length m.ec] 71) := ⟨_, rfl⟩
  have bV : Below w.heap.size w V := by subst hV; (repeat' (first | exact Below.refl _ _ | assumption | refine bdrewN ?_ _ | refine Below.drew ?_ | refine bal ?_ _ | refine bthen ?_ (by assumption)))
  have n0 : V.cell? ⟨w.heap.size, 0, none⟩ = some (.int .i64 m.kind) := by rw [hV, cell_alloc_new]; rfl
  have n1 : V.cell? ⟨w.heap.size, 1, none⟩ = some (.int .i64 m.grp) := by rw [hV, cell_alloc_new]; rfl
  have n2 : V.cell? ⟨w.heap.size, 2, none⟩ = some (.int .i64 m.how) := by rw [hV, cell_alloc_new]; rfl
  have n3 : V.cell? ⟨w.heap.size, 3, none⟩ = some (.slice m.ta m.text.length m.tc) := by rw [hV, cell_alloc_new]; rfl
  have n4 : V.cell? ⟨w.heap.size, 4, none⟩ = some (.slice m.ea m.els.length m.ec) := by rw [hV, cell_alloc_new]; rfl
  have MT := hid (may_c m.ta m.tc m.text V (h.text V (Kp.bel bV)))
  have ME := hid (may_c m.ea m.ec m.els V (h.els V (Kp.bel bV)))
  have MF := hid (mayfields_c m V)
  unfold Fo.val at *
  have BV := hid bV
  have HE := hid (may1_eq m.fp)
  clear bV h
  obtain ⟨bt, hbt⟩ : ∃ b, b = may m.text := ⟨_, rfl⟩
  obtain ⟨be, hbe⟩ : ∃ b, b = may m.els := ⟨_, rfl⟩
  obtain ⟨bf, hbf⟩ : ∃ b, b = mayFl m.fp := ⟨_, rfl⟩
  rw [← hbt] at MT
  rw [← hbe] at ME
  rw [← hbf] at MF
  have HR : Hid (FmM.may1 m.fp = (decide (0 ≤ m.grp ∧ m.grp ≤ 99) && (bt && (be && bf)))) := hid (by rw [hbt, hbe, hbf]; exact HE.out)
  clear HE hbt hbe hbf
  obtain ⟨r, hr⟩ : ∃ r, r = FmM.may1 m.fp := ⟨_, rfl⟩
  rw [← hr] at HR ⊢
  clear hr
  go_enter Tryz.func61, Tryz.ntmps61
  go_upto_region 1 with fail
  rw [← hV]; clear hV
  cases bt <;> cases be
  all_goals
    go_wp2_with (first | (go_at_call 49; (with_reducible refine (MT.out).mono ?_); rintro _ _ ⟨rfl, rfl⟩) | (go_at_call 49; (with_reducible refine (ME.out).mono ?_); rintro _ _ ⟨rfl, rfl⟩) | (go_at_call 88; refine (MF.out).mono ?_; rintro _ w2 ⟨rfl, b2⟩))
    all_goals
      first
        | go_ret
        | skip
      (refine ⟨ret_bool ?_, by have := BV.out; (repeat' (first | exact Below.refl _ _ | assumption | refine bdrewN ?_ _ | refine Below.drew ?_ | refine Below.setCell ?_ (Nat.le_refl _) _ | refine bal ?_ _ | refine bthen ?_ (by assumption)))⟩; rw [HR.out]; clear HR; simp_all <;> omega)
theorem mayR_cons (t : Bool) (f : FmM.Fp) (l : List FmM.Fp) : FmM.mayR t (f :: l) = (FmM.may1 f && (!(t && decide (f.kind = 0)) && FmM.mayR (decide (f.kind = 0)) l)) := rfl
set_option maxHeartbeats 16000000 in
set_option maxRecDepth 20000 in
theorem fmay_c (a : Option Addr) (c : Nat) (M : List Fo) (N : Nat → Prop) (w : World) (h : FSl w a M) (hm : Fos w N M) :
    Calls Tryz.prog 36 #[.slice a M.length c] w fun e' w' => e' = .returned (.bool (FmM.mayF (fps M))) ∧ Below w.heap.size w w' := by
  have hl : M.length ≤ 1099511627776 := h.len
  obtain ⟨R, hR⟩ : ∃ R, R = FmM.mayF (fps M) := ⟨_, rfl⟩
  rw [← hR]
  have HR := hid hR
  have HM := hid h
  have HS := hid hm
  clear h hm hR
  go_enter Tryz.func36, Tryz.ntmps36
  go_wp2
  go_loopw [3, 9] (fun tv iv wr => ∃ (k : Nat) (t : Bool), k ≤ M.length ∧ iv = .int .i64 k ∧ tv = .bool t ∧ Hid (R = FmM.mayR t (fps (M.drop k))) ∧ Below w.heap.size w wr) (fun _ iv _ => M.length - (intOf iv).toNat)
  case atStart => exact ⟨0, false, by omega, rfl, rfl, hid (by rw [HR.out]; rfl), Below.refl _ _⟩
  case round =>
    obtain ⟨k, t, hk, rfl, rfl, HT, hb⟩ := hrel
    by_cases hlt : k < M.length
    · obtain ⟨b, off, rfl, hblk, r0, r1, r2, r3, r4⟩ := fo_cells (HM.out.bel hb) hlt
      have HT2 : Hid (R = (FmM.may1 (rgt M k).fp && (!(t && decide ((rgt M k).kind = 0)) && FmM.mayR (decide ((rgt M k).kind = 0)) (fps (M.drop (k + 1)))))) := hid (by rw [HT.out, rgt_drop hlt]; rfl)
      have MO := hid ((HS.out _ (rgt_mem hlt)).bel hb)
      generalize rgt M k = m at *
      obtain ⟨kind, grp, how, ta, text, tc, ea, els, ec⟩ := m
      dsimp only at r0 r1 r2 r3 r4 HT2
      obtain ⟨bm, hbm⟩ : ∃ b, b = FmM.may1 (⟨kind, grp, how, ta, text, tc, ea, els, ec⟩ : Fo).fp := ⟨_, rfl⟩
      rw [← hbm] at HT2
      have MC : Hid (∀ w', Below wr.heap.size wr w' → Calls Tryz.prog 61 #[.agg #[.int .i64 kind, .int .i64 grp, .int .i64 how, .slice ta text.length tc, .slice ea els.length ec]] w' fun e' w2 => e' = .returned (.bool bm) ∧ Below w'.heap.size w' w2) := hid fun w' hb' => by
        rw [hbm]; exact maypart_c _ N w' (MO.out.bel hb')
      clear hbm MO
      by_cases hz : kind = 0
      · rw [decide_eq_true hz] at HT2
        subst hz
        cases t <;> cases bm
        all_goals
          go_wp2_with (go_at_call 61; refine (MC.out _ (by (repeat' (first | exact Below.refl _ _ | assumption | refine bdrewN ?_ _ | refine Below.drew ?_ | refine Below.setCell ?_ (Nat.le_refl _) _ | refine bal ?_ _ | refine bthen ?_ (by assumption))))).mono ?_; rintro _ w2 ⟨rfl, b2⟩)
          first
            | (go_ret; exact ⟨ret_bool (by rw [HT2.out]; rfl), by (repeat' (first | exact Below.refl _ _ | assumption | refine bdrewN ?_ _ | refine Below.drew ?_ | refine Below.setCell ?_ (Nat.le_refl _) _ | refine bal ?_ _ | refine bthen ?_ (by assumption)))⟩)
            | (go_roundw
               case rel => exact ⟨k + 1, true, by omega, by go_num, rfl, hid (by rw [HT2.out]; rfl), by (repeat' (first | exact Below.refl _ _ | assumption | refine bdrewN ?_ _ | refine Below.drew ?_ | refine Below.setCell ?_ (Nat.le_refl _) _ | refine bal ?_ _ | refine bthen ?_ (by assumption)))⟩
               case measure => simp [intOf]; omega)
      · have b0 : (kind == 0) = false := by simpa using hz
        rw [decide_eq_false hz] at HT2
        cases t <;> cases bm
        all_goals
          go_wp2_with (go_at_call 61; refine (MC.out _ (by (repeat' (first | exact Below.refl _ _ | assumption | refine bdrewN ?_ _ | refine Below.drew ?_ | refine Below.setCell ?_ (Nat.le_refl _) _ | refine bal ?_ _ | refine bthen ?_ (by assumption))))).mono ?_; rintro _ w2 ⟨rfl, b2⟩)
          first
            | (go_ret; exact ⟨ret_bool (by rw [HT2.out]; rfl), by (repeat' (first | exact Below.refl _ _ | assumption | refine bdrewN ?_ _ | refine Below.drew ?_ | refine Below.setCell ?_ (Nat.le_refl _) _ | refine bal ?_ _ | refine bthen ?_ (by assumption)))⟩)
            | (go_roundw
               case rel => exact ⟨k + 1, false, by omega, by go_num, rfl, hid (by rw [HT2.out]; rfl), by (repeat' (first | exact Below.refl _ _ | assumption | refine bdrewN ?_ _ | refine Below.drew ?_ | refine Below.setCell ?_ (Nat.le_refl _) _ | refine bal ?_ _ | refine bthen ?_ (by assumption)))⟩
               case measure => simp [intOf]; omega)
    · obtain rfl : k = M.length := by omega
      have HE : Hid (R = true) := hid (by rw [HT.out, List.drop_length]; rfl)
      go_wp2
      go_ret
      exact ⟨ret_bool HE.out.symm, hb⟩
end Go.Proofs.YtefgjicegbhcaaaGreat
namespace Go.Proofs.YtefgjicegbhcaaaGreat
open Go.RowKit FmM

/-- what a call leaves whose answer may still be what was there: a text that can be read -/
def Reads (w : World) (l : List Int) (e : Ending) (w' : World) : Prop :=
  ∃ a c, e = .returned (.slice a l.length c) ∧ l.length ≤ c ∧ Sl w' a l ∧ Below w.heap.size w w'
/-- a closure over groups (f: which function, cs: what it holds): what it tells of group k is g k, in every world like w -/
def Gv (w : World) (N : Nat → Prop) (f : Nat) (cs : Array Value) (g : Int → List Int) : Prop :=
  (f = 37 ∨ f = 108) ∧ ∀ (w' : World) (k : Int), Kp N w w' → 0 ≤ k → k ≤ 99 → Calls Tryz.prog f (#[.int .i64 k] ++ cs) w' (Reads w' (g k))
theorem Gv.kp {w w' : World} {N : Nat → Prop} {f : Nat} {cs : Array Value} {g : Int → List Int} (h : Gv w N f cs g) (k : Kp N w w') : Gv w' N f cs g := ⟨h.1, fun w2 i k2 => h.2 w2 i (k.trans k2)⟩
theorem Own.cap {w : World} {base : Nat} {a : Option Addr} {c : Nat} {l : List Int} (h : Own w base a c l) : l.length ≤ c := by
  rcases h.shape with ⟨_, _, h0⟩ | ⟨_, _, _, _, h0⟩
  · simp [h0]
  · exact h0
theorem Reads.of {w w2 : World} {l l' : List Int} {a : Option Addr} {c : Nat} (he : l' = l) (hc : l.length ≤ c) (hs : Sl w2 a l) (hb : Below w.heap.size w w2) : Reads w l' (.returned (.slice a l.length c)) w2 := by
  subst he; exact ⟨a, c, rfl, hc, hs, hb⟩
set_option maxRecDepth 20000 in
set_option maxHeartbeats 16000000 in
theorem parttext_c (m : Fo) (f : Nat) (cs : Array Value) (g : Int → List Int) (w : World) (N : Nat → Prop) (hm : FoOk w N m) (hr : 0 ≤ m.grp ∧ m.grp ≤ 99) (hg : Gv w N f cs g) :
    Calls Tryz.prog 62 #[m.val, .func (.func f) #[] cs] w (Reads w (ptx m.fp (g m.grp))) := by
  obtain ⟨kind, grp, how, ta, text, tc, ea, els, ec⟩ := m
  obtain ⟨V, hV⟩ : ∃ V, V = w.alloc (.cells #[.int .i64 kind, .int .i64 grp, .int .i64 how, .slice ta text.length tc, .slice ea els.length ec] 71) := ⟨_, rfl⟩
  have bV : Below w.heap.size w V := by subst hV; (repeat' (first | exact Below.refl _ _ | assumption | refine bdrewN ?_ _ | refine Below.drew ?_ | refine bal ?_ _ | refine bthen ?_ (by assumption)))
  have n0 : V.cell? ⟨w.heap.size, 0, none⟩ = some (.int .i64 kind) := by rw [hV, cell_alloc_new]; rfl
  have n1 : V.cell? ⟨w.heap.size, 1, none⟩ = some (.int .i64 grp) := by rw [hV, cell_alloc_new]; rfl
  have n2 : V.cell? ⟨w.heap.size, 2, none⟩ = some (.int .i64 how) := by rw [hV, cell_alloc_new]; rfl
  have n3 : V.cell? ⟨w.heap.size, 3, none⟩ = some (.slice ta text.length tc) := by rw [hV, cell_alloc_new]; rfl
  have n4 : V.cell? ⟨w.heap.size, 4, none⟩ = some (.slice ea els.length ec) := by rw [hV, cell_alloc_new]; rfl
  have nz : w.heap.size < V.heap.size := by rw [hV]; simp
  have HM := hid hm
  have HG := hid (hg.2 V grp (Kp.bel bV) hr.1 hr.2)
  have BV := hid bV
  obtain ⟨G, hG⟩ : ∃ G, G = g grp := ⟨_, rfl⟩
  show Calls Tryz.prog 62 _ w (Reads w (ptx ⟨kind, grp, how, text, els⟩ (g grp)))
  rw [← hG] at HG ⊢
  have hf := hg.1
  clear hm hg bV hr hG
  unfold Fo.val
  dsimp only
  rcases hf with rfl | rfl
  all_goals
    go_enter Tryz.func62, Tryz.ntmps62
    go_upto_region 1 with fail
    rw [← hV]; clear hV
    go_wp2_with fail
    refine (HG.out).mono ?_
    rintro _ w1 ⟨a0, c0, rfl, hc0, hs0, hb0⟩
    have HS := hid hs0
    have HC := hid hc0
    have HB := hid hb0
    have m0 := (hb0.cell nz).trans n0
    have m2 := (hb0.cell nz).trans n2
    have m3 := (hb0.cell nz).trans n3
    have m4 := (hb0.cell nz).trans n4
    clear hs0 hc0 hb0 HG n0 n1 n2 n3 n4
    by_cases k1 : kind = 1
    · subst k1
      have HR := hid (show ptx ⟨1, grp, how, text, els⟩ G = cas G how by simp [ptx])
      have CC := hid (case_c a0 c0 G how w1 HS.out)
      go_wp2_with fail
      refine (CC.out).mono ?_
      rintro _ w2 ⟨a1, c1, rfl, ho, hb2⟩
      go_wp2_with fail
      go_ret
      have b1 := BV.out; have b2 := HB.out
      exact Reads.of HR.out (Own.cap ho) ho.sl (by (repeat' (first | exact Below.refl _ _ | assumption | refine bdrewN ?_ _ | refine Below.drew ?_ | refine Below.setCell ?_ (Nat.le_refl _) _ | refine bal ?_ _ | refine bthen ?_ (by assumption))))
    by_cases k3 : kind = 3
    · subst k3
      by_cases hG : G = []
      · have HR := hid (show ptx ⟨3, grp, how, text, els⟩ G = els by rw [hG]; simp [ptx])
        subst hG
        go_wp2_with fail
        go_ret
        have b1 := BV.out; have b2 := HB.out
        exact Reads.of HR.out HM.out.ecap (HM.out.els _ (Kp.bel (by (repeat' (first | exact Below.refl _ _ | assumption | refine bdrewN ?_ _ | refine Below.drew ?_ | refine Below.setCell ?_ (Nat.le_refl _) _ | refine bal ?_ _ | refine bthen ?_ (by assumption)))))) (by (repeat' (first | exact Below.refl _ _ | assumption | refine bdrewN ?_ _ | refine Below.drew ?_ | refine Below.setCell ?_ (Nat.le_refl _) _ | refine bal ?_ _ | refine bthen ?_ (by assumption))))
      · have HR := hid (show ptx ⟨3, grp, how, text, els⟩ G = G by simp [ptx, hG])
        have hp : 0 < G.length := List.length_pos_iff.2 hG
        have e1 : decide (0 < G.length) = true := decide_eq_true hp
        have e2 : decide ((0 : Int) < (G.length : Int)) = true := decide_eq_true (by omega)
        clear hp hG
        go_wp2_with fail
        go_ret
        have b1 := BV.out; have b2 := HB.out
        exact Reads.of HR.out HC.out HS.out (by (repeat' (first | exact Below.refl _ _ | assumption | refine bdrewN ?_ _ | refine Below.drew ?_ | refine Below.setCell ?_ (Nat.le_refl _) _ | refine bal ?_ _ | refine bthen ?_ (by assumption))))
    have e1 : (kind == 1) = false := by simpa using k1
    have e3 : (kind == 3) = false := by simpa using k3
    by_cases k24 : kind = 2 ∨ kind = 4
    · by_cases hG : G = []
      · have HR := hid (show ptx ⟨kind, grp, how, text, els⟩ G = els by rw [hG]; simp [ptx, k1, k3, k24])
        subst hG
        rcases k24 with rfl | rfl
        all_goals
          go_wp2_with fail
          go_ret
          have b1 := BV.out; have b2 := HB.out
          exact Reads.of HR.out HM.out.ecap (HM.out.els _ (Kp.bel (by (repeat' (first | exact Below.refl _ _ | assumption | refine bdrewN ?_ _ | refine Below.drew ?_ | refine Below.setCell ?_ (Nat.le_refl _) _ | refine bal ?_ _ | refine bthen ?_ (by assumption)))))) (by (repeat' (first | exact Below.refl _ _ | assumption | refine bdrewN ?_ _ | refine Below.drew ?_ | refine Below.setCell ?_ (Nat.le_refl _) _ | refine bal ?_ _ | refine bthen ?_ (by assumption))))
      · have HR := hid (show ptx ⟨kind, grp, how, text, els⟩ G = text by simp [ptx, hG, k1, k3, k24])
        have hp : 0 < G.length := List.length_pos_iff.2 hG
        have e5 : (G.length == 0) = false := by rw [beq_eq_false_iff_ne]; omega
        have e6 : ((G.length : Int) == 0) = false := by rw [beq_eq_false_iff_ne]; omega
        clear hp hG
        rcases k24 with rfl | rfl
        all_goals
          go_wp2_with fail
          go_ret
          have b1 := BV.out; have b2 := HB.out
          exact Reads.of HR.out HM.out.tcap (HM.out.text _ (Kp.bel (by (repeat' (first | exact Below.refl _ _ | assumption | refine bdrewN ?_ _ | refine Below.drew ?_ | refine Below.setCell ?_ (Nat.le_refl _) _ | refine bal ?_ _ | refine bthen ?_ (by assumption)))))) (by (repeat' (first | exact Below.refl _ _ | assumption | refine bdrewN ?_ _ | refine Below.drew ?_ | refine Below.setCell ?_ (Nat.le_refl _) _ | refine bal ?_ _ | refine bthen ?_ (by assumption))))
    · have HR := hid (show ptx ⟨kind, grp, how, text, els⟩ G = text by simp [ptx, k1, k3, k24])
      have e7 : (kind == 2) = false := by rw [beq_eq_false_iff_ne]; omega
      have e8 : (kind == 4) = false := by rw [beq_eq_false_iff_ne]; omega
      clear k1 k3 k24
      go_wp2_with fail
      go_ret
      have b1 := BV.out; have b2 := HB.out
      exact Reads.of HR.out HM.out.tcap (HM.out.text _ (Kp.bel (by (repeat' (first | exact Below.refl _ _ | assumption | refine bdrewN ?_ _ | refine Below.drew ?_ | refine Below.setCell ?_ (Nat.le_refl _) _ | refine bal ?_ _ | refine bthen ?_ (by assumption)))))) (by (repeat' (first | exact Below.refl _ _ | assumption | refine bdrewN ?_ _ | refine Below.drew ?_ | refine Below.setCell ?_ (Nat.le_refl _) _ | refine bal ?_ _ | refine bthen ?_ (by assumption))))
end Go.Proofs.YtefgjicegbhcaaaGreat
namespace Go.Proofs.YtefgjicegbhcaaaGreat
open Go.RowKit FmM

theorem At.fil {w w2 : World} {a az a5 : Option Addr} (h : At w a az) (hz : w.heap.size ≤ w2.heap.size) (k : At w2 az a5) : At w a a5 := fun ad had => by
  rcases k ad had with ⟨ae, he, hb⟩ | h2
  · rw [← hb]; exact h ae he
  · right; omega
theorem Kpt.fil {w w2 w5 : World} {a az : Option Addr} (h : Kpt (Blk a) w w2) (hA : At w a az) (k : Kpt (Blk az) w2 w5) : Kpt (Blk a) w w5 :=
  ⟨k.os.trans h.os, k.tape.trans h.tape, k.output.trans h.output, Nat.le_trans h.size k.size, fun i hi hn => (k.block i (Nat.lt_of_lt_of_le hi h.size) (fun ⟨ad, had, hb⟩ => by
    rcases hA ad had with h1 | h1
    · rw [hb] at h1; exact hn h1
    · omega)).trans (h.block i hi hn)⟩
theorem Kpt.onb' {F : Nat → Prop} {w w2 w3 : World} (h : Kpt F w w2) (b : Below w2.heap.size w2 w3) : Kpt F w w3 :=
  ⟨b.os.trans h.os, b.tape.trans h.tape, b.output.trans h.output, Nat.le_trans h.size b.size, fun k hk hn => (b.block k (Nat.lt_of_lt_of_le hk h.size)).trans (h.block k hk hn)⟩
theorem kpt_none {w w' : World} (h : Kpt (Blk none) w w') : Below w.heap.size w w' := ⟨h.os, h.tape, h.output, h.size, fun k hk => h.block k hk (fun h => by obtain ⟨_, h, _⟩ := h; cases h)⟩
def FilP (w : World) (base : Nat) (a : Option Addr) (most : Nat) (out x : List Int) (b K : Nat) (e : Ending) (w' : World) : Prop :=
  ∃ a' c' L, e = .returned (.slice a' L.length c') ∧ Hid (FilR most out x L) ∧ Own w' base a' c' L ∧ Kpt (Blk a) w w' ∧ At w a a' ∧ L.length ≤ b ∧ (L.length ≤ out.length ∨ L.length ≤ most + K)
theorem fil_more {g : Int → List Int} {M : List Fo} {k : Nat} {out Lz : List Int} {most : Nat} (h : Lz = out ++ fillF g (fps (M.take k))) (hm : most < Lz.length) : FilR most out (fillF g (fps M)) Lz := by
  refine .inr ⟨hm, ?_⟩
  have e : fps M = fps (M.take k) ++ fps (M.drop k) := by rw [← fps_app, List.take_append_drop]
  rw [e, fillF_app, ← List.append_assoc, ← h, List.length_append]
  omega
theorem fil_take {g : Int → List Int} {M : List Fo} {k : Nat} (hk : k < M.length) : fillF g (fps (M.take (k + 1))) = fillF g (fps (M.take k)) ++ ptx (rgt M k).fp (g (rgt M k).grp) := by
  rw [rgt_take hk, fps_app, fillF_app]
  congr 1
  show fillF g [(rgt M k).fp] = _
  rw [fillF_one]; rfl
set_option maxRecDepth 20000 in
set_option maxHeartbeats 16000000 in
theorem filled_c (base : Nat) (a : Option Addr) (c : Nat) (out : List Int) (fa : Option Addr) (fc : Nat) (M : List Fo) (f : Nat) (cs : Array Value) (g : Int → List Int) (most K : Nat) (w : World) (ho : Own w base a c out) (hbs : base ≤ w.heap.size)
    (hM : ∀ w', Kp (Blk a) w w' → FSl w' fa M) (hF : Fos w (Blk a) M) (hr : ∀ m, m ∈ M → 0 ≤ m.grp ∧ m.grp ≤ 99) (hK : ∀ m, m ∈ M → m.text.length ≤ K ∧ m.els.length ≤ K) (hg : Gv w (Blk a) f cs g) (hgK : ∀ k, (g k).length ≤ K) (hb : out.length + M.length * K ≤ 35184372088832) :
    Calls Tryz.prog 38 #[.slice a out.length c, .slice fa M.length fc, .func (.func f) #[] cs, .int .i64 most] w (FilP w base a most out (fillF g (fps M)) (out.length + M.length * K) K) := by
  have hl : M.length ≤ 1099511627776 := (hM w (Kp.refl _ _)).len
  have HO := hid ho
  have HM := hid hM
  have HF := hid hF
  have HR := hid hr
  have HK := hid hK
  have HG := hid hg
  have HGK := hid hgK
  have HB := hid hb
  clear ho hM hF hr hK hg hgK hb
  go_enter Tryz.func38, Tryz.ntmps38
  go_wp2
  go_loopw [0, 10, 13] (fun ov _ iv wr => ∃ (k : Nat) (az : Option Addr) (cz : Nat) (L : List Int), k ≤ M.length ∧ iv = .int .i64 k ∧ ov = .slice az L.length cz ∧ Hid (L = out ++ fillF g (fps (M.take k))) ∧ Hid (Own wr base az cz L) ∧ Hid (Kpt (Blk a) w wr) ∧ Hid (At w a az) ∧ L.length ≤ out.length + k * K ∧ (L.length ≤ out.length ∨ L.length ≤ most + K)) (fun _ _ iv _ => M.length - (intOf iv).toNat)
  case atStart => exact ⟨0, a, c, out, by omega, rfl, rfl, hid (by simp [fps, fillF]), HO, hid (Kpt.refl _ _), hid (fun ad h => .inl ⟨ad, h, rfl⟩), by omega, .inl (Nat.le_refl _)⟩
  case round =>
    obtain ⟨k, az, cz, L, hk, rfl, rfl, HL, HOz, HKp, HA, hLl, hLm⟩ := hrel
    by_cases hlt : k < M.length
    · obtain ⟨b, off, rfl, hblk, r0, r1, r2, r3, r4⟩ := fo_cells (HM.out _ (Kp.of HKp.out)) hlt
      have hblk2 : w.heap.size ≤ wr.heap.size := HKp.out.size
      have MO := hid ((HF.out _ (rgt_mem hlt)).kpt HKp.out)
      have MR := hid (HR.out _ (rgt_mem hlt))
      have MK := hid (HK.out _ (rgt_mem hlt))
      have HT := hid (fil_take (g := g) hlt)
      have hkK : (k + 1) * K ≤ M.length * K := Nat.mul_le_mul_right _ (by omega)
      rw [Nat.succ_mul] at hkK
      generalize rgt M k = m at *
      obtain ⟨kind, grp, how, ta, text, tc, ea, els, ec⟩ := m
      dsimp only at r0 r1 r2 r3 r4
      by_cases hm : most < L.length
      · have e1 : decide (most < L.length) = true := decide_eq_true hm
        have e2 : decide ((most : Int) < (L.length : Int)) = true := decide_eq_true (by omega)
        have HE := hid (fil_more HL.out hm)
        clear hm hkK
        go_wp2_with fail
        go_ret
        exact ⟨az, cz, L, rfl, HE, HOz.out.grow (by (repeat' (first | exact Below.refl _ _ | assumption | refine bdrewN ?_ _ | refine Below.drew ?_ | refine Below.setCell ?_ (Nat.le_refl _) _ | refine bal ?_ _ | refine bthen ?_ (by assumption)))), HKp.out.onb' (by (repeat' (first | exact Below.refl _ _ | assumption | refine bdrewN ?_ _ | refine Below.drew ?_ | refine Below.setCell ?_ (Nat.le_refl _) _ | refine bal ?_ _ | refine bthen ?_ (by assumption)))), HA.out, by have := HB.out; have := Nat.mul_le_mul_right K hk; omega, hLm⟩
      · have e1 : decide (most < L.length) = false := decide_eq_false hm
        have e2 : decide ((most : Int) < (L.length : Int)) = false := decide_eq_false (by omega)
        have hm2 : L.length ≤ most := by omega
        clear hm
        have PC : Hid (∀ w', Below wr.heap.size wr w' → Calls Tryz.prog 62 #[.agg #[.int .i64 kind, .int .i64 grp, .int .i64 how, .slice ta text.length tc, .slice ea els.length ec], .func (.func f) #[] cs] w' (Reads w' (ptx ⟨kind, grp, how, text, els⟩ (g grp)))) := hid fun w' hb' =>
          parttext_c ⟨kind, grp, how, ta, text, tc, ea, els, ec⟩ f cs g w' (Blk a) (MO.out.bel hb') MR.out (HG.out.kp (Kp.of (HKp.out.onb' hb')))
        have TL := hid (ptx_len ⟨kind, grp, how, text, els⟩ (g grp) MK.out.1 MK.out.2 (HGK.out grp))
        change Hid (fillF g (fps (M.take (k + 1))) = fillF g (fps (M.take k)) ++ ptx ⟨kind, grp, how, text, els⟩ (g grp)) at HT
        generalize ptx ⟨kind, grp, how, text, els⟩ (g grp) = T at *
        clear MO
        go_wp2_with fail
        refine (PC.out _ (by (repeat' (first | exact Below.refl _ _ | assumption | refine bdrewN ?_ _ | refine Below.drew ?_ | refine Below.setCell ?_ (Nat.le_refl _) _ | refine bal ?_ _ | refine bthen ?_ (by assumption))))).mono ?_
        rintro _ w2 ⟨a1, c1, rfl, hc1, hs1, hb1⟩
        have HS := hid hs1
        have HW : Hid (Below wr.heap.size wr w2) := hid (by (repeat' (first | exact Below.refl _ _ | assumption | refine bdrewN ?_ _ | refine Below.drew ?_ | refine Below.setCell ?_ (Nat.le_refl _) _ | refine bal ?_ _ | refine bthen ?_ (by assumption))))
        clear hs1 hc1 hb1 PC
        have hbw := HW.out.size
        have HLb := hid hLl
        go_wp2_with (at_builtin; (refine wpL_appn rfl (.tmp 21) (.tmp 24) rfl base az a1 L.length T.length cz c1 L T rfl (by first | rfl | simp | omega) (HOz.out.grow HW.out) rfl (by first | rfl | simp | omega) HS.out (by have := HB.out; have := TL.out; have := HLb.out; omega) (by omega) ?_); intro a5 c5 w5 L5 Hl5 ho5 hb5 hk5 hA5; have HA5 := hid hA5; clear hA5; have Ho5 := hid ho5; clear ho5; have Hk5 := hid hk5; clear hk5; have hz5 := hb5.size)
        go_roundw
        case rel => exact ⟨k + 1, a5, c5, L5, by omega, by go_num, rfl, hid (by rw [Hl5.out, HL.out, HT.out, List.append_assoc]), Ho5, hid ((HKp.out.onb' HW.out).fil HA.out Hk5.out), hid (HA.out.fil (by omega) HA5.out), by rw [Hl5.out, List.length_append, Nat.succ_mul]; have := TL.out; omega, .inr (by rw [Hl5.out, List.length_append]; have := TL.out; omega)⟩
        case measure => simp [intOf]; omega
    · obtain rfl : k = M.length := by omega
      go_wp2
      go_ret
      exact ⟨az, cz, L, rfl, hid (.inl (by rw [HL.out, List.take_length])), HOz.out, HKp.out, HA.out, hLl, hLm⟩
set_option maxHeartbeats 8000000 in
/-- Fill's closure -/
theorem fill1_c (B : Nat) (ga : Option Addr) (gc : Nat) (Gs : List Tx) (k : Int) (w : World) (hc : w.cell? ⟨B, 0, none⟩ = some (.slice ga Gs.length gc)) (hG : TSl w ga Gs) (hT : Txs w Gs) (h0 : 0 ≤ k) :
    Calls Tryz.prog 37 #[.int .i64 k, .pointer (some ⟨B, 0, none⟩)] w (Reads w (gtx Gs k)) := by
  obtain ⟨n, rfl⟩ : ∃ n : Nat, k = n := ⟨k.toNat, by omega⟩
  have hl : Gs.length ≤ 4398046511104 := hG.len
  by_cases hn : n < Gs.length
  · obtain ⟨b, off, rfl, hblk, r0⟩ := tx_cells hG hn
    have HR := hid (show gtx Gs n = (rgt Gs n).l by unfold gtx; rw [if_pos ⟨by omega, by omega⟩, Int.toNat_natCast])
    have MT := hid (hT _ (rgt_mem hn))
    generalize rgt Gs n = m at *
    obtain ⟨ta, tl, tc⟩ := m
    dsimp only at r0
    have e1 : decide ((n : Int) < (Gs.length : Int)) = true := decide_eq_true (by omega)
    clear hG hT
    go_enter Tryz.func37, Tryz.ntmps37
    go_wp2_with fail
    go_ret
    exact Reads.of HR.out MT.out.2 (MT.out.1.bel (by (repeat' (first | exact Below.refl _ _ | assumption | refine bdrewN ?_ _ | refine Below.drew ?_ | refine Below.setCell ?_ (Nat.le_refl _) _ | refine bal ?_ _ | refine bthen ?_ (by assumption))))) (by (repeat' (first | exact Below.refl _ _ | assumption | refine bdrewN ?_ _ | refine Below.drew ?_ | refine Below.setCell ?_ (Nat.le_refl _) _ | refine bal ?_ _ | refine bthen ?_ (by assumption))))
  · have HR := hid (show gtx Gs n = [] by unfold gtx; rw [if_neg (by omega)])
    have e1 : decide ((n : Int) < (Gs.length : Int)) = false := decide_eq_false (by omega)
    have e2 : decide (n < Gs.length) = false := decide_eq_false hn
    clear hG hT
    go_enter Tryz.func37, Tryz.ntmps37
    go_wp2_with fail
    go_ret
    exact Reads.of (l := []) HR.out (by simp) (Sl.nil _ _) (by (repeat' (first | exact Below.refl _ _ | assumption | refine bdrewN ?_ _ | refine Below.drew ?_ | refine Below.setCell ?_ (Nat.le_refl _) _ | refine bal ?_ _ | refine bthen ?_ (by assumption))))
/-- what Fill leaves -/
def fillC (M : List Fp) (Gs : List Tx) : List Int := if mayF M = true then fillF (gtx Gs) M else []
theorem may_grp {M : List Fo} (h : mayF (fps M) = true) : ∀ m, m ∈ M → 0 ≤ m.grp ∧ m.grp ≤ 99 := fun m hm => by
  have h1 := mayR_all _ _ h m.fp (List.mem_map_of_mem hm)
  rw [may1_eq, Bool.and_eq_true] at h1
  exact of_decide_eq_true h1.1
theorem gtx_len {Gs : List Tx} {K : Nat} (h : ∀ m, m ∈ Gs → m.l.length ≤ K) (k : Int) : (gtx Gs k).length ≤ K := by
  unfold gtx
  split
  · rename_i h1; exact h _ (rgt_mem (by omega))
  · simp
set_option maxRecDepth 20000 in
set_option maxHeartbeats 16000000 in
theorem tfill_c (fa : Option Addr) (fc : Nat) (M : List Fo) (ga : Option Addr) (gc : Nat) (Gs : List Tx) (K : Nat) (w : World) (hM : FSl w fa M) (hF : Fos w (fun _ => False) M) (hG : TSl w ga Gs) (hT : Txs w Gs)
    (hK : ∀ m, m ∈ M → m.text.length ≤ K ∧ m.els.length ≤ K) (hgK : ∀ m, m ∈ Gs → m.l.length ≤ K) (hb : M.length * K ≤ 35184372088832) :
    Calls Tryz.prog 11 #[.slice fa M.length fc, .slice ga Gs.length gc] w (Makes w (fillC (fps M) Gs)) := by
  obtain ⟨V, hV⟩ : ∃ V, V = w.alloc (.cells #[.slice ga Gs.length gc] 29) := ⟨_, rfl⟩
  have bV : Below w.heap.size w V := by subst hV; (repeat' (first | exact Below.refl _ _ | assumption | refine bdrewN ?_ _ | refine Below.drew ?_ | refine bal ?_ _ | refine bthen ?_ (by assumption)))
  have n0 : V.cell? ⟨w.heap.size, 0, none⟩ = some (.slice ga Gs.length gc) := by rw [hV, cell_alloc_new]; rfl
  have nz : w.heap.size < V.heap.size := by rw [hV]; simp
  have MC := hid (fmay_c fa fc M (fun _ => False) V (hM.bel bV) (hF.bel bV))
  have HC : Hid (mayF (fps M) = true → ∀ w', Below V.heap.size V w' → Calls Tryz.prog 38 #[.slice none 0 0, .slice fa M.length fc, .func (.func 37) #[] #[.pointer (some ⟨w.heap.size, 0, none⟩)], .int .i64 9223372036854775807] w' (FilP w' V.heap.size none 9223372036854775807 [] (fillF (gtx Gs) (fps M)) (0 + M.length * K) K)) := hid fun hm w' hb' => by
    have bw' : Below w.heap.size w w' := bthen bV hb'
    refine filled_c V.heap.size none 0 [] fa fc M 37 #[.pointer (some ⟨w.heap.size, 0, none⟩)] (gtx Gs) 9223372036854775807 K w' (Own.nil _ _) hb'.size (fun w2 hk => (hM.bel bw').kp hk fun _ _ h => by obtain ⟨_, h, _⟩ := h; cases h) (hF.go (Kp.bel bw') fun _ _ h => by obtain ⟨_, h, _⟩ := h; cases h) (may_grp hm) hK ?_ (gtx_len hgK) (by simpa using hb)
    · refine ⟨.inl rfl, fun w2 k hk h0 h9 => ?_⟩
      have b2 : Below w'.heap.size w' w2 ∨ True := .inr trivial
      have cell : w2.cell? ⟨w.heap.size, 0, none⟩ = some (.slice ga Gs.length gc) := by
        have c1 := (hb'.cell nz).trans n0
        rw [World.cell?_of_block (w := w') (w' := w2) (a := ⟨w.heap.size, 0, none⟩) (hk.2 _ (Nat.lt_of_lt_of_le nz hb'.size) (fun h => by obtain ⟨_, h, _⟩ := h; cases h))]
        exact c1
      exact fill1_c w.heap.size ga gc Gs k w2 cell ((hG.bel bw').same fun ad ha hl => hk.2 _ hl (fun h => by obtain ⟨_, h, _⟩ := h; cases h)) (fun m hm => ⟨((hT m hm).1.bel bw').same fun ad ha hl => hk.2 _ hl (fun h => by obtain ⟨_, h, _⟩ := h; cases h), (hT m hm).2⟩) h0
  have BV := hid bV
  have Hb := hid hb
  obtain ⟨bm, hbm⟩ : ∃ b, b = mayF (fps M) := ⟨_, rfl⟩
  obtain ⟨R, hR⟩ : ∃ R, R = fillC (fps M) Gs := ⟨_, rfl⟩
  have HR : Hid (R = if bm = true then fillF (gtx Gs) (fps M) else []) := hid (by rw [hR, hbm]; rfl)
  rw [← hbm] at HC MC
  rw [← hR]
  clear hR hbm hM hF hG hT hK hgK hb bV n0 nz
  go_enter Tryz.func11, Tryz.ntmps11
  go_upto_region 1 with fail
  rw [← hV]; clear hV
  go_wp2_with fail
  refine (MC.out).mono ?_
  rintro _ w1 ⟨rfl, b1⟩
  have B1 := hid b1
  clear b1
  cases bm with
  | false =>
    go_wp2_with fail
    go_ret
    refine ⟨none, 0, ?_, ?_, ?_⟩
    · rw [HR.out]; rfl
    · rw [HR.out]; exact Own.nil _ _
    · have := BV.out; have := B1.out; (repeat' (first | exact Below.refl _ _ | assumption | refine bdrewN ?_ _ | refine Below.drew ?_ | refine Below.setCell ?_ (Nat.le_refl _) _ | refine bal ?_ _ | refine bthen ?_ (by assumption)))
  | true =>
    go_wp2_with fail
    refine (HC.out (by first | rfl | trivial) _ (by have := B1.out; (repeat' (first | exact Below.refl _ _ | assumption | refine bdrewN ?_ _ | refine Below.drew ?_ | refine Below.setCell ?_ (Nat.le_refl _) _ | refine bal ?_ _ | refine bthen ?_ (by assumption))))).mono ?_
    rintro _ w2 ⟨a', c', L, rfl, hL, ho, hk, hA, hl, _⟩
    have hLR : L = R := by
      rcases hL.out with e | ⟨e, _⟩
      · rw [e, HR.out]; rfl
      · have := ho.2.2; exfalso; have := ho.sl.len; omega
    subst hLR
    go_wp2_with fail
    go_ret
    have h1 := BV.out
    have h2 := B1.out
    have h3 := kpt_none hk
    exact ⟨a', c', rfl, ho.base_le h1.size, by (repeat' (first | exact Below.refl _ _ | assumption | refine bdrewN ?_ _ | refine Below.drew ?_ | refine Below.setCell ?_ (Nat.le_refl _) _ | refine bal ?_ _ | refine bthen ?_ (by assumption)))⟩
end Go.Proofs.YtefgjicegbhcaaaGreat
namespace Go.Proofs.YtefgjicegbhcaaaGreat
open Go.RowKit FmM ReM

/-- all groups of a match: both ends, or none -/
def Prd (n : Nat) (r : List Int) : Prop := r.length % 2 = 0 ∧ r.length ≤ 1000 ∧ ∀ k, 2 * k + 1 < r.length → gt r (2 * k) = -1 ∨ (0 ≤ gt r (2 * k) ∧ gt r (2 * k) ≤ gt r (2 * k + 1) ∧ gt r (2 * k + 1) ≤ n)
set_option maxRecDepth 20000 in
set_option maxHeartbeats 8000000 in
/-- the closure of matched -/
theorem matched1_c (B D : Nat) (ma : Option Addr) (mc : Nat) (r : List Int) (sa : Option Addr) (sc : Nat) (s : List Int) (k : Int) (w : World) (hc : w.cell? ⟨B, 0, none⟩ = some (.slice ma r.length mc)) (hd : w.cell? ⟨D, 0, none⟩ = some (.slice sa s.length sc))
    (hm : I.Sl w ma r) (hs : Sl w sa s) (hsc : s.length ≤ sc) (hp : Prd s.length r) (hr : s.length ≤ 1000) (h0 : 0 ≤ k ∧ k ≤ 99) :
    Calls Tryz.prog 108 #[.int .i64 k, .pointer (some ⟨B, 0, none⟩), .pointer (some ⟨D, 0, none⟩)] w (Reads w (gcap s r k)) := by
  obtain ⟨n, rfl⟩ : ∃ n : Nat, k = n := ⟨k.toNat, by omega⟩
  obtain ⟨q, hq⟩ : ∃ q : Nat, q = 2 * n := ⟨_, rfl⟩
  have wq : (2 : Int) * (n : Int) = (q : Int) := by omega
  have eq : (2 * (n : Int)).toNat = q := by omega
  have wz : wrap64 (q : Int) = (q : Int) := by unfold wrap64; omega
  have hrl := hp.2.1
  have HS := hid hs
  obtain ⟨m, hml⟩ : ∃ m, m = r.length := ⟨_, rfl⟩
  by_cases hlt : q < m
  · obtain ⟨b, off, rfl, hcell⟩ := hm.at (i := q) (by omega)
    have hx := hcell q (by omega)
    have hodd : q + 1 < m := by have := hp.1; omega
    have hy := hcell (q + 1) (by omega)
    have hpq := hp.2.2 n (by omega)
    rw [← hq] at hpq
    obtain ⟨x, ex⟩ : ∃ x, x = gt r q := ⟨_, rfl⟩
    obtain ⟨y, ey⟩ : ∃ y, y = gt r (q + 1) := ⟨_, rfl⟩
    have eg : gcap s r n = if 0 ≤ x then (s.take y.toNat).drop x.toNat else [] := by
      unfold gcap
      rw [eq, ← ex, ← ey]
      by_cases h : 0 ≤ x
      · rw [if_pos ⟨by omega, h⟩, if_pos h]
      · rw [if_neg (fun k => h k.2), if_neg h]
    rw [← ex] at hx hpq
    rw [← ey] at hy hpq
    rw [eg]
    rw [← hml] at hc
    have e1 : decide ((m : Int) ≤ (q : Int)) = false := decide_eq_false (by omega)
    have e2 : decide (m ≤ q) = false := decide_eq_false (by omega)
    have wz1 : wrap64 ((q : Int) + 1) = (q : Int) + 1 := by unfold wrap64; omega
    have Hm := hid hml
    have HR := hid hr
    have HSC := hid hsc
    clear hcell hm hs hp eg hrl ex ey hq hml eq h0 hr hsc
    rcases hpq with hn | ⟨p1, p2, p3⟩
    · have e3 : decide (x < 0) = true := decide_eq_true (by omega)
      rw [if_neg (by omega)]
      clear hn hy hodd
      go_enter Tryz.func108, Tryz.ntmps108
      go_wp2_with fail
      go_ret
      exact Reads.of (l := []) rfl (by simp) (Sl.nil _ _) (by (repeat' (first | exact Below.refl _ _ | assumption | refine bdrewN ?_ _ | refine Below.drew ?_ | refine Below.setCell ?_ (Nat.le_refl _) _ | refine bal ?_ _ | refine bthen ?_ (by assumption))))
    · have e3 : decide (x < 0) = false := decide_eq_false (by omega)
      rw [if_pos p1]
      obtain ⟨x, rfl⟩ : ∃ u : Nat, x = u := ⟨x.toNat, by omega⟩
      obtain ⟨y, rfl⟩ : ∃ u : Nat, y = u := ⟨y.toNat, by omega⟩
      rw [Int.toNat_natCast, Int.toNat_natCast]
      obtain ⟨a', c', E, HE, sE, hEc, hrun⟩ := slice_mid HS.out x y sc (by omega) (by omega) HSC.out
      rw [← HE.out]
      have HSE := hid sE
      have HEc := hid hEc
      clear sE hEc p1 p2 p3
      go_enter Tryz.func108, Tryz.ntmps108
      go_wp2_with fail
      go_quiet (fail)
      go_wp2_with fail
      go_ret
      exact Reads.of rfl HEc.out (HSE.out.bel (by (repeat' (first | exact Below.refl _ _ | assumption | refine bdrewN ?_ _ | refine Below.drew ?_ | refine Below.setCell ?_ (Nat.le_refl _) _ | refine bal ?_ _ | refine bthen ?_ (by assumption))))) (by (repeat' (first | exact Below.refl _ _ | assumption | refine bdrewN ?_ _ | refine Below.drew ?_ | refine Below.setCell ?_ (Nat.le_refl _) _ | refine bal ?_ _ | refine bthen ?_ (by assumption))))
  · have eg : gcap s r n = [] := by
      unfold gcap
      rw [eq, if_neg (fun k => by omega)]
    rw [eg]
    rw [← hml] at hc
    have e1 : decide ((m : Int) ≤ (q : Int)) = true := decide_eq_true (by omega)
    have e2 : decide (m ≤ q) = true := decide_eq_true (by omega)
    clear hm hs hp eg hrl hq hml eq h0 hr hsc hlt
    go_enter Tryz.func108, Tryz.ntmps108
    go_wp2_with fail
    go_ret
    exact Reads.of (l := []) rfl (by simp) (Sl.nil _ _) (by (repeat' (first | exact Below.refl _ _ | assumption | refine bdrewN ?_ _ | refine Below.drew ?_ | refine Below.setCell ?_ (Nat.le_refl _) _ | refine bal ?_ _ | refine bthen ?_ (by assumption))))
theorem comp_lb {p : List Int} {P : List Ins} (h : (P, (0 : Int), (0 : Int)) = compW p) : ∃ f, Lbd P f := by
  rcases compW_cases p with ⟨e, f, h1, h2⟩ | ⟨l, g, -, -, h3, -, h5, -, -, h6, -⟩
  · rw [h1] at h; simp at h; exact absurd h.2.1.symm h2
  · rw [h6] at h
    obtain rfl : P = codeW l := by simpa using h
    exact code_lb h3 h5
/-- what matched leaves: a closure over two new variables -/
def MtdP (w : World) (sa : Option Addr) (n sc : Nat) (ma : Option Addr) (m mc : Nat) (e : Ending) (w' : World) : Prop :=
  ∃ B D, e = .returned (.func (.func 108) #[] #[.pointer (some ⟨B, 0, none⟩), .pointer (some ⟨D, 0, none⟩)]) ∧ w.heap.size ≤ B ∧ w.heap.size ≤ D ∧ w'.cell? ⟨B, 0, none⟩ = some (.slice ma m mc) ∧ w'.cell? ⟨D, 0, none⟩ = some (.slice sa n sc) ∧ Below w.heap.size w w'
set_option maxHeartbeats 4000000 in
theorem matched_c (sa : Option Addr) (n sc : Nat) (ma : Option Addr) (m mc : Nat) (w : World) :
    Calls Tryz.prog 79 #[.slice sa n sc, .slice ma m mc] w (MtdP w sa n sc ma m mc) := by
  go_enter Tryz.func79, Tryz.ntmps79
  go_wp2_with fail
  go_ret
  have z1 : (w.alloc (.cells #[.slice sa n sc] 24)).heap.size = w.heap.size + 1 := by simp
  refine ⟨w.heap.size + 1, w.heap.size, rfl, by omega, Nat.le_refl _, ?_, ?_, by (repeat' (first | exact Below.refl _ _ | assumption | refine bdrewN ?_ _ | refine Below.drew ?_ | refine Below.setCell ?_ (Nat.le_refl _) _ | refine bal ?_ _ | refine bthen ?_ (by assumption)))⟩
  · rw [← z1, cell_alloc_new]; rfl
  · rw [World.cell?_alloc_past _ _ _ (by show w.heap.size < _; omega), cell_alloc_new]; rfl
/-- a text of which e stands behind: what is there so far, what follows makes X; or both are too long -/
def Soon (out rest X : List Int) : Prop := out ++ rest = X ∨ (1000 < out.length ∧ 1000 < X.length)
theorem Soon.piece {out p rest X : List Int} (h : Soon out (p ++ rest) X) : Soon (out ++ p) rest X := by
  rcases h with h | ⟨h1, h2⟩
  · exact .inl (by rw [List.append_assoc]; exact h)
  · exact .inr ⟨by rw [List.length_append]; omega, h2⟩
theorem Soon.fil {out x rest L X : List Int} (h : Soon out (x ++ rest) X) (k : FilR 1000 out x L) : Soon L rest X := by
  rcases h with h | ⟨h1, h2⟩
  · rcases k with rfl | ⟨k1, k2⟩
    · exact .inl (by rw [List.append_assoc]; exact h)
    · refine .inr ⟨k1, ?_⟩
      rw [← h, ← List.append_assoc, List.length_append]; omega
  · refine .inr ⟨?_, h2⟩
    rcases k with rfl | ⟨k1, k2⟩
    · rw [List.length_append]; omega
    · exact k1
def RplP (w : World) (X : List Int) (b : Nat) (e : Ending) (w' : World) : Prop :=
  ∃ a' c' L, e = .returned (.slice a' L.length c') ∧ Hid (L = X ∨ (1000 < L.length ∧ 1000 < X.length)) ∧ Own w' w.heap.size a' c' L ∧ Below w.heap.size w w' ∧ L.length ≤ b
theorem row_cons {n e : Nat} {r : List Int} {F : List (List Int)} (h : FmM.Row n e (r :: F)) : (e : Int) ≤ gt r 0 ∧ gt r 0 ≤ gt r 1 ∧ gt r 1 ≤ n ∧ 2 ≤ r.length ∧ FmM.Row n (gt r 1).toNat F := by
  cases h with
  | more h1 h2 h3 h4 h5 h6 h7 => exact ⟨h1, h2, h3, h4, h7⟩
theorem repl_cons (t : List Int) (l : List Fp) (e : Nat) (r : List Int) (F : List (List Int)) : repl t l e (r :: F) = ((t.take (gt r 0).toNat).drop e) ++ (fillF (gcap t r) l ++ repl t l (gt r 1).toNat F) := rfl
theorem gcap_len {t r : List Int} {K : Nat} (h : t.length ≤ K) (k : Int) : (gcap t r k).length ≤ K := by
  unfold gcap
  split
  · simp; omega
  · simp
theorem lt_cells {w : World} {a : Option Addr} {l : List Lt} (h : RSl encLt w a l) {i : Nat} (hi : i < l.length) : ∃ b off, a = some ⟨b, off, none⟩ ∧ b < w.heap.size ∧
    w.cell? ⟨b, off + i, none⟩ = some (.slice (rgt l i).a (rgt l i).l.length (rgt l i).c) := by
  obtain ⟨b, off, ha, hc⟩ := h.at hi
  have r := rec_lt (hc i hi)
  have e : encLt.k = 1 := rfl
  rw [e, Nat.mul_one] at r
  exact ⟨b, off, ha, World.block_lt_of_cell? w _ r, r⟩
set_option maxRecDepth 20000 in
set_option maxHeartbeats 16000000 in
theorem replaced_c (sa : Option Addr) (sc : Nat) (s : List Int) (qa : Option Addr) (qc : Nat) (Q : List Lt) (fa : Option Addr) (fc : Nat) (M : List Fo) (K : Nat) (w : World) (hs : Sl w sa s) (hsc : s.length ≤ sc) (hs1 : s.length ≤ 1000)
    (hQ : RSl encLt w qa Q) (hq : ∀ q, q ∈ Q → I.Sl w q.a q.l ∧ Prd s.length q.l) (hrow : FmM.Row s.length 0 (Q.map Lt.l)) (hM : FSl w fa M) (hF : Fos w (fun _ => False) M) (hr : ∀ m, m ∈ M → 0 ≤ m.grp ∧ m.grp ≤ 99)
    (hK : ∀ m, m ∈ M → m.text.length ≤ K ∧ m.els.length ≤ K) (hK1 : 1000 ≤ K) (hb : M.length * K + K + 3000 ≤ 35184372088832) :
    Calls Tryz.prog 50 #[.slice sa s.length sc, .slice qa Q.length qc, .slice fa M.length fc] w (RplP w (repl s (fps M) 0 (Q.map Lt.l)) (3000 + K)) := by
  have hl : Q.length ≤ 2199023255552 := hQ.len
  obtain ⟨n, hn⟩ : ∃ n, n = s.length := ⟨_, rfl⟩
  obtain ⟨X, hX⟩ : ∃ X, X = repl s (fps M) 0 (Q.map Lt.l) := ⟨_, rfl⟩
  rw [← hX]
  have HX := hid hX
  have HS := hid hs
  have HQ := hid hQ
  have Hq := hid hq
  have HW := hid hrow
  have HM := hid hM
  have HF := hid hF
  have HR := hid hr
  have HK := hid hK
  have HB := hid hb
  have Hn := hid hn
  rw [← hn] at hsc hs1 ⊢
  have HSC := hid hsc
  clear hs hsc hQ hq hrow hM hF hr hK hb hX hn
  go_enter Tryz.func50, Tryz.ntmps50
  go_wp2
  go_loopw [7, 8, 10, 13] (fun ov ev _ iv wr => ∃ (k e : Nat) (az : Option Addr) (cz : Nat) (L : List Int), k ≤ Q.length ∧ iv = .int .i64 k ∧ ev = .int .i64 e ∧ e ≤ n ∧ ov = .slice az L.length cz ∧ Hid (Soon L (repl s (fps M) e ((Q.drop k).map Lt.l)) X) ∧ Hid (FmM.Row n e ((Q.drop k).map Lt.l)) ∧ Hid (Own wr w.heap.size az cz L) ∧ Below w.heap.size w wr ∧ L.length ≤ 1000 + K + e) (fun _ _ _ iv _ => Q.length - (intOf iv).toNat)
  case atStart => exact ⟨0, 0, none, 0, [], by omega, rfl, rfl, by omega, rfl, hid (.inl (by rw [HX.out]; rfl)), hid (by rw [Hn.out]; exact HW.out), hid (Own.nil _ _), Below.refl _ _, by simp⟩
  case round =>
    obtain ⟨k, e, az, cz, L, hk, rfl, rfl, he, rfl, HSo, HRo, HO, hb, hLl⟩ := hrel
    have HBw := hid hb
    have hbw := hb.size
    clear hb
    by_cases hlt : k < Q.length
    · obtain ⟨b, off, rfl, hblk, r0⟩ := lt_cells (HQ.out.bel HBw.out) hlt
      have HSo2 : Hid (Soon L (repl s (fps M) e ((rgt Q k).l :: (Q.drop (k + 1)).map Lt.l)) X) := hid (by have := HSo.out; rw [rgt_drop hlt] at this; exact this)
      have HRo2 : Hid (FmM.Row n e ((rgt Q k).l :: (Q.drop (k + 1)).map Lt.l)) := hid (by have := HRo.out; rw [rgt_drop hlt] at this; exact this)
      have HQk := hid (Hq.out _ (rgt_mem hlt))
      clear HSo HRo
      generalize rgt Q k = q at *
      obtain ⟨ra, r, rc⟩ := q
      dsimp only at r0 HSo2 HRo2 HQk
      obtain ⟨h1, h2, h3, h4, h5⟩ := row_cons HRo2.out
      obtain ⟨m, hm⟩ : ∃ m, m = r.length := ⟨_, rfl⟩
      obtain ⟨x0, hx0⟩ : ∃ x : Nat, gt r 0 = x := ⟨(gt r 0).toNat, by omega⟩
      obtain ⟨x1, hx1⟩ : ∃ x : Nat, gt r 1 = x := ⟨(gt r 1).toNat, by omega⟩
      obtain ⟨rb, ro, rfl, hcell⟩ := HQk.out.1.at (i := 0) (by omega)
      have c0 := hcell 0 (by omega)
      have c1 := hcell 1 (by omega)
      rw [hx0, Nat.add_zero] at c0
      rw [hx1] at c1
      have hrb : rb < w.heap.size := World.block_lt_of_cell? w _ c0
      have C1 := hid c1
      have d0 := (HBw.out.cell hrb).trans c0
      rw [hx0] at h1 h2
      rw [hx1] at h2 h3 h5
      rw [Int.toNat_natCast] at h5
      have m0 : 0 < m := by omega
      have m1 : 1 < m := by omega
      have HRo3 := hid h5
      obtain ⟨a', c', D, HD, sD, hDc, hrun⟩ := slice_mid (HS.out.bel HBw.out) e x0 sc (by omega) (by rw [← Hn.out]; omega) (by rw [← Hn.out]; exact HSC.out)
      rw [← Hn.out] at hrun
      have hDl : D.length ≤ x0 - e := by rw [HD.out, List.length_drop, List.length_take]; omega
      have HSo3 : Hid (Soon L (D ++ (fillF (gcap s r) (fps M) ++ repl s (fps M) x1 ((Q.drop (k + 1)).map Lt.l))) X) := hid (by
        have := HSo2.out
        rw [repl_cons, hx0, hx1, Int.toNat_natCast, Int.toNat_natCast, ← HD.out] at this; exact this)
      have HSD := hid sD
      have HLl := hid hLl
      rw [← hm] at r0
      have Hm := hid hm
      clear sD hDc hcell h4 h5 HSo2 HRo2 hm c0 c1
      go_wp2_with (at_builtin; (refine wpL_appn rfl (.tmp 17) (.tmp 23) rfl w.heap.size az a' L.length D.length cz c' L D rfl (by first | rfl | simp | omega) HO.out rfl (by first | rfl | simp | omega) HSD.out (by have := HB.out; have := HLl.out; omega) (by omega) ?_); intro a5 c5 w5 L5 Hl5 ho5 hb5 hk5 hA5; have HA5 := hid hA5; clear hA5; have Ho5 := hid ho5; clear ho5; have Hk5 := hid hk5; clear hk5; have hz5 := hb5.size)
      refine (matched_c sa n sc (some ⟨rb, ro, none⟩) m rc w5).mono ?_
      rintro _ w6 ⟨B, E, rfl, hB, hE, cB, cE, b6⟩
      have BW6 : Hid (Below w.heap.size w w6) := hid (by have h1 := HBw.out; have h2 : Below w.heap.size w w5 := h1.trans (hb5.mono (Nat.le_refl _)); exact h2.trans (b6.mono h2.size))
      have hL5 := hid (show L5.length = L.length + D.length by rw [Hl5.out, List.length_append])
      have HO6 := hid (Ho5.out.grow b6)
      have FC : Hid (Calls Tryz.prog 38 #[.slice a5 L5.length c5, .slice fa M.length fc, .func (.func 108) #[] #[.pointer (some ⟨B, 0, none⟩), .pointer (some ⟨E, 0, none⟩)], .int .i64 1000] w6 (FilP w6 w.heap.size a5 1000 L5 (fillF (gcap s r) (fps M)) (L5.length + M.length * K) K)) := hid (by
        have kf : ∀ w', Kp (Blk a5) w6 w' → Kp (fun _ => False) w w' := fun w' hk => (Kp.bel (N := fun _ => False) BW6.out).go hk fun i hi h => by have := HO6.out.ge i h; omega
        refine filled_c w.heap.size a5 c5 L5 fa fc M _ _ (gcap s r) 1000 K w6 HO6.out BW6.out.size (fun w' hk => HM.out.kp (kf w' hk) fun _ _ h => h) (HF.out.go (Kp.bel BW6.out) fun i hi h => by have := HO6.out.ge i h; omega) HR.out HK.out ⟨.inr rfl, fun w2 k hk h0 h9 => ?_⟩ (fun k => gcap_len (by rw [← Hn.out]; omega) k) (by have := HB.out; have := HLl.out; have := hL5.out; omega)
        have bB : B < w6.heap.size := World.block_lt_of_cell? w6 _ cB
        have bE : E < w6.heap.size := World.block_lt_of_cell? w6 _ cE
        have k2 := kf w2 hk
        refine matched1_c B E (some ⟨rb, ro, none⟩) rc r sa sc s k w2 ?_ ?_ (HQk.out.1.same fun ad ha hl => k2.2 _ hl fun h => h) (HS.out.kp k2 fun _ _ h => h) (by rw [← Hn.out]; exact HSC.out) HQk.out.2 (by rw [← Hn.out]; exact hs1) ⟨h0, h9⟩
        · rw [World.cell?_of_block (w := w6) (w' := w2) (a := ⟨B, 0, none⟩) (hk.2 _ bB (Ho5.out.off hB)), cB, Hm.out]
        · rw [World.cell?_of_block (w := w6) (w' := w2) (a := ⟨E, 0, none⟩) (hk.2 _ bE (Ho5.out.off hE)), cE, Hn.out])
      clear cB cE b6 hB hE hrun
      go_wp2_with fail
      refine (FC.out).mono ?_
      rintro _ w7 ⟨a7, c7, L7, rfl, hL7, ho7, hk7, hA7, hl7, hm7⟩
      have b7 : Below w.heap.size w6 w7 := hk7.below (fun k hk => HO6.out.ge k hk) BW6.out.size
      have B7 := hid (BW6.out.trans b7)
      have d1 := (B7.out.cell hrb).trans C1.out
      have HO7 := hid ho7
      have HS7 := hid (HSo3.out.piece.fil (by rw [Hl5.out] at hL7; exact hL7.out))
      have hz7 := B7.out.size
      clear hL7 ho7 hk7 hA7 FC b7
      go_wp2_with fail
      go_roundw
      case rel => exact ⟨k + 1, x1, a7, c7, L7, by omega, by go_num, rfl, by omega, rfl, HS7, HRo3, HO7, B7.out, by have := HLl.out; have := hL5.out; omega⟩
      case measure => simp [intOf]; omega
    · obtain rfl : k = Q.length := by omega
      obtain ⟨a', c', D, HD, sD, hDc, hrun⟩ := slice_from (HS.out.bel HBw.out) e sc (by rw [← Hn.out]; exact he) (by rw [← Hn.out]; exact HSC.out)
      rw [← Hn.out] at hrun
      have hDl : D.length ≤ n := by rw [HD.out, List.length_drop, ← Hn.out]; omega
      have HSD := hid sD
      have HLl := hid hLl
      clear sD hDc
      go_wp2_with (at_builtin; (refine wpL_appn rfl (.tmp 35) (.tmp 38) rfl w.heap.size az a' L.length D.length cz c' L D rfl (by first | rfl | simp | omega) HO.out rfl (by first | rfl | simp | omega) HSD.out (by have := HB.out; have := HLl.out; omega) (by omega) ?_); intro a5 c5 w5 L5 Hl5 ho5 hb5 hk5 hA5; have HA5 := hid hA5; clear hA5; have Ho5 := hid ho5; clear ho5; have Hk5 := hid hk5; clear hk5; have hz5 := hb5.size)
      go_ret
      refine ⟨a5, c5, L5, rfl, hid ?_, Ho5.out, by have := HBw.out; exact this.trans (hb5.mono (Nat.le_refl _)), by rw [Hl5.out, List.length_append]; have := HLl.out; omega⟩
      have hso := HSo.out
      rw [List.drop_length] at hso
      have h2 : Soon (L ++ D) [] X := Soon.piece (by rw [List.append_nil, HD.out]; exact hso)
      rw [Hl5.out]
      rcases h2 with h2 | h2
      · left; rw [List.append_nil] at h2; exact h2
      · right; exact h2
end Go.Proofs.YtefgjicegbhcaaaGreat
namespace Go.Proofs.YtefgjicegbhcaaaGreat
open Go.RowKit FmM ReM

/-- the matches that Run replaces -/
def FndR (m : ReM.Mc) (z : List Int) (all : Bool) (F : List (List Int)) : Prop :=
  if all = true then AllR m z 0 F else (FindR m z 0 none ∧ F = []) ∨ ∃ r, FindR m z 0 (some r) ∧ F = [r]
theorem AllR.lens {P : List Ins} {G : Nat} {s : List Int} {fold : Bool} (M : Made P G) {a : Nat} {F : List (List Int)} (h : AllR (mch P s fold) (List.replicate (2 * G + 2) (-1)) a F) : ∀ r, r ∈ F → r.length = 2 * G + 2 := by
  induction h with
  | done _ => intro r hr; cases hr
  | more h _ ih =>
    intro r hr
    rcases List.mem_cons.1 hr with rfl | hr
    · obtain ⟨b, u, _, _, h3, _⟩ := h.at M; exact h3.len
    · exact ih r hr
theorem Row.prs {n e : Nat} {F : List (List Int)} (h : FmM.Row n e F) : ∀ r, r ∈ F → r.length % 2 = 0 ∧ ∀ k, 2 * k + 1 < r.length → gt r (2 * k) = -1 ∨ (0 ≤ gt r (2 * k) ∧ gt r (2 * k) ≤ gt r (2 * k + 1) ∧ gt r (2 * k + 1) ≤ n) := by
  induction h with
  | done _ => intro r hr; cases hr
  | more h1 h2 h3 h4 h5 h6 _ ih =>
    intro r hr
    rcases List.mem_cons.1 hr with rfl | hr
    · exact ⟨h5, h6⟩
    · exact ih r hr
theorem FndR.ok {P : List Ins} {G : Nat} {s : List Int} {fold all : Bool} (M : Made P G) (hG : G ≤ 9) {f : Nat → List Nat} (L : Lbd P f) {F : List (List Int)} (h : FndR (mch P s fold) (List.replicate (2 * G + 2) (-1)) all F) : FmM.Row s.length 0 F ∧ ∀ r, r ∈ F → Prd s.length r := by
  unfold FndR at h
  split at h
  · have hr := AllR.row M L h 0 (Nat.le_refl _) (Nat.zero_le _)
    refine ⟨hr, fun r hm => ?_⟩
    have h1 := Row.prs hr r hm
    have h2 := AllR.lens M h r hm
    exact ⟨h1.1, by omega, h1.2⟩
  · rcases h with ⟨_, rfl⟩ | ⟨r, h, rfl⟩
    · exact ⟨.done (Nat.zero_le _), fun r hr => by cases hr⟩
    · have hr := FindR.row M L h
      refine ⟨hr, fun q hm => ?_⟩
      have h1 := Row.prs hr q hm
      rw [List.mem_singleton.1 hm] at h1 ⊢
      obtain ⟨b, u, _, _, h3, _⟩ := h.at M
      exact ⟨h1.1, by rw [h3.len]; omega, h1.2⟩
def FoundP (w : World) (x : Fx) (all : Bool) (e' : Ending) (w' : World) : Prop :=
  ∃ qa qc Q, e' = .returned (.slice qa Q.length qc) ∧ RSl encLt w' qa Q ∧ (∀ q, q ∈ Q → I.Sl w' q.a q.l) ∧ Hid (FndR x.mc (zz x) all (Q.map Lt.l)) ∧ Below w.heap.size w w'
set_option maxRecDepth 20000 in
set_option maxHeartbeats 8000000 in
theorem found_c (w : World) (x : Fx) (all : Bool) (f : FxOk w x) (hM : Made (inss x.L) x.G) :
    Calls Tryz.prog 51 #[.pointer (some ⟨x.M, 0, none⟩), .slice x.ta x.t.length x.tc, .bool all] w (FoundP w x all) := by
  obtain ⟨n, hn⟩ : ∃ n, n = x.t.length := ⟨_, rfl⟩
  have AC := hid (all_c10 w x f hM)
  have FC := hid (find_c w x f hM.ok 0 (Nat.zero_le _))
  rw [← hn] at AC FC ⊢
  clear hn f
  cases all with
  | true =>
    clear FC
    go_enter Tryz.func51, Tryz.ntmps51
    go_wp2_with fail
    refine AC.out.mono ?_
    rintro _ w1 ⟨a, c, Q, rfl, hq, hl, hr, hb, _⟩
    go_wp2_with fail
    go_ret
    exact ⟨a, c, Q, rfl, hq.sl, fun q hm => (hl q hm).sl, hr, hb⟩
  | false =>
    clear AC
    go_enter Tryz.func51, Tryz.ntmps51
    go_wp2_with fail
    refine FC.out.mono ?_
    rintro _ w1 ⟨hb, ⟨hf, rfl⟩ | ⟨r, g, c, hf, rfl, ho⟩⟩
    · go_wp2_with fail
      go_ret
      exact ⟨none, 0, [], rfl, RSl.nil _ _, (fun q hm => by cases hm), hid (.inl ⟨hf, rfl⟩), hb⟩
    · have Ho := hid ho
      clear ho
      go_wp2_with fail
      go_ret
      refine ⟨some ⟨w1.heap.size, 0, none⟩, 1, [⟨some ⟨g, 0, none⟩, r, c⟩], rfl, RSl.lit w1 _ _ _ rfl _ rfl (by decide), fun q hm => ?_, hid (.inr ⟨r, hf, rfl⟩), by (repeat' (first | exact Below.refl _ _ | assumption | refine bdrewN ?_ _ | refine Below.drew ?_ | refine Below.setCell ?_ (Nat.le_refl _) _ | refine bal ?_ _ | refine bthen ?_ (by assumption)))⟩
      rw [List.mem_singleton.1 hm]
      exact Ho.out.sl.bel ((Below.refl _ _).alloc (Nat.le_refl _) _)
theorem ret_rn {fn : Func} {post : Ending → World → Prop} {at_ : Act} {w : World} {R : Nat} {e f : Int} {v : Value} (hr : fn.results = #[ResultVar.tmp 10, ResultVar.cell 11 47]) (h2 : at_.tmps[10]?.getD undef = v) (ht : at_.tmps[11]?.getD undef = .pointer (some ⟨R, 0, none⟩)) (hd : at_.defers = [])
    (h : FtC w R e f) (hp : post (.returned (.tuple #[v, .agg #[.int .i64 e, .int .i64 f]])) w) : bodyPost Tryz.prog fn post Exit.ret at_ w :=
  bodyPost_ret (v := .tuple #[v, .agg #[.int .i64 e, .int .i64 f]]) (by simp [results, hr, go_sem, h2, ht, h.c0, h.c1]) hd hp
def runE (v : Value) (e f : Int) : Ending := .returned (.tuple #[v, .agg #[.int .i64 e, .int .i64 f]])
/-- what Run leaves -/
def RunR (w : World) (s p : List Int) (M : List Fo) (all fold : Bool) (e' : Ending) (w' : World) : Prop :=
  Below w.heap.size w w' ∧ ((¬ (s.length ≤ 1000 ∧ may s = true ∧ mayF (fps M) = true) ∧ e' = runE (.slice none 0 0) 1 0) ∨
    ((s.length ≤ 1000 ∧ may s = true ∧ mayF (fps M) = true) ∧ ((∃ e f, compW p = ([], e, f) ∧ e ≠ 0 ∧ e' = runE (.slice none 0 0) e f) ∨
      ∃ P G F, (P, (0 : Int), (0 : Int)) = compW p ∧ Made P G ∧ G ≤ 9 ∧ G = (gsL (parseW p).1).length ∧ FndR (mch P s fold) (List.replicate (2 * G + 2) (-1)) all F ∧
        ((1000 < (repl s (fps M) 0 F).length ∧ e' = runE (.slice none 0 0) 3 0) ∨ ((repl s (fps M) 0 F).length ≤ 1000 ∧ ∃ a c, e' = runE (.slice a (repl s (fps M) 0 F).length c) 0 0 ∧ Own w' w.heap.size a c (repl s (fps M) 0 F))))))
set_option maxRecDepth 20000 in
set_option maxHeartbeats 16000000 in
theorem run_c (sa : Option Addr) (sc : Nat) (s : List Int) (pa : Option Addr) (pc : Nat) (p : List Int) (fa : Option Addr) (fc : Nat) (M : List Fo) (all fold : Bool) (K : Nat) (w : World) (hs : Sl w sa s) (hsc : s.length ≤ sc) (hp : Sl w pa p) (hpc : p.length ≤ pc)
    (hM : FSl w fa M) (hF : Fos w (fun _ => False) M) (hK : ∀ m, m ∈ M → m.text.length ≤ K ∧ m.els.length ≤ K) (hK1 : 1000 ≤ K) (hb : M.length * K + K + 3000 ≤ 35184372088832) :
    Calls Tryz.prog 21 #[.slice sa s.length sc, .slice pa p.length pc, .slice fa M.length fc, .bool all, .bool fold] w (RunR w s p M all fold) := by
  obtain ⟨V, hV⟩ : ∃ V, V = w.alloc (.cells #[.int .i64 0, .int .i64 0] 47) := ⟨_, rfl⟩
  have bV : Below w.heap.size w V := by subst hV; (repeat' (first | exact Below.refl _ _ | assumption | refine bdrewN ?_ _ | refine Below.drew ?_ | refine bal ?_ _ | refine bthen ?_ (by assumption)))
  have F0 : Hid (FtC V w.heap.size 0 0) := by subst hV; exact FtC.new _ _ _ _ _ rfl
  have zV : V.heap.size = w.heap.size + 1 := by subst hV; simp
  have MS := hid (may_c sa sc s V (hs.bel bV))
  have MF : Hid (∀ w', Below w.heap.size w w' → Calls Tryz.prog 36 #[.slice fa M.length fc] w' fun e' w2 => e' = .returned (.bool (mayF (fps M))) ∧ Below w'.heap.size w' w2) := hid fun w' b => fmay_c fa fc M (fun _ => False) w' (hM.bel b) (hF.bel b)
  have HS := hid hs
  have HSC := hid hsc
  have HP := hid hp
  have HPC := hid hpc
  have HM := hid hM
  have HF := hid hF
  have HK := hid hK
  have HB := hid hb
  have BV := hid bV
  obtain ⟨n, hn⟩ : ∃ n, n = s.length := ⟨_, rfl⟩
  have Hn := hid hn
  rw [← hn] at MS ⊢
  obtain ⟨bs, hbs⟩ : ∃ b, b = may s := ⟨_, rfl⟩
  obtain ⟨bf, hbf⟩ : ∃ b, b = mayF (fps M) := ⟨_, rfl⟩
  have Hbs := hid hbs
  have Hbf := hid hbf
  rw [← hbs] at MS
  rw [← hbf] at MF
  have z0 := F0.out.c0
  have z1 := F0.out.c1
  have y0 := F0.out.fz 0
  have y1 := F0.out.fz 1
  clear hs hsc hp hpc hM hF hK hb bV hn hbs hbf
  go_enter Tryz.func21, Tryz.ntmps21
  go_upto_region 1 with fail
  rw [← hV]; clear hV
  have hbad : ∀ w' : World, Below V.heap.size V w' → ¬ (n ≤ 1000 ∧ bs = true ∧ bf = true) → RunR w s p M all fold (runE (.slice none 0 0) 1 0) ((w'.setCell ⟨w.heap.size, 0, none⟩ (.int .i64 1)).setCell ⟨w.heap.size, 1, none⟩ (.int .i64 0)) := fun w' b h => by
    refine ⟨((BV.out.trans (b.mono BV.out.size)).setCell (by exact Nat.le_refl _) _).setCell (by exact Nat.le_refl _) _, .inl ⟨?_, rfl⟩⟩
    rw [← Hn.out, ← Hbs.out, ← Hbf.out]; exact h
  have HBad := hid hbad
  clear hbad
  by_cases hn1 : n ≤ 1000
  · have e1 : decide ((1000 : Int) < (n : Int)) = false := decide_eq_false (by omega)
    have e2 : decide (1000 < n) = false := decide_eq_false (by omega)
    cases bs with
    | false =>
      go_wp2_with (go_at_call 49; (with_reducible refine (MS.out).mono ?_); rintro _ _ ⟨rfl, rfl⟩)
      refine ret_rn Tryz.results21 rfl rfl rfl (FtC.put F0.out 1 0) ?_
      exact HBad.out _ (Below.refl _ _) (by simp)
    | true =>
      go_wp2_with (first | (go_at_call 49; (with_reducible refine (MS.out).mono ?_); rintro _ _ ⟨rfl, rfl⟩))
      refine (MF.out V (by have := BV.out; (repeat' (first | exact Below.refl _ _ | assumption | refine bdrewN ?_ _ | refine Below.drew ?_ | refine Below.setCell ?_ (Nat.le_refl _) _ | refine bal ?_ _ | refine bthen ?_ (by assumption))))).mono ?_
      rintro _ w1 ⟨rfl, b1⟩
      have F1 := hid (F0.out.bel b1)
      have B1 := hid b1
      have x0 := F1.out.c0
      have x1 := F1.out.c1
      have x2 := F1.out.fz 0
      have x3 := F1.out.fz 1
      clear b1 z0 z1 y0 y1 MF MS
      cases bf with
      | false =>
        go_wp2_with fail
        refine ret_rn Tryz.results21 rfl rfl rfl (FtC.put F1.out 1 0) ?_
        exact HBad.out _ B1.out (by simp)
      | true =>
        have NC := hid (new_c pa pc p fold w1 (HP.out.bel (by have h1 := BV.out; have h2 := B1.out; (repeat' (first | exact Below.refl _ _ | assumption | refine bdrewN ?_ _ | refine Below.drew ?_ | refine Below.setCell ?_ (Nat.le_refl _) _ | refine bal ?_ _ | refine bthen ?_ (by assumption))))) HPC.out)
        have hz1 := B1.out.size
        clear HBad x0 x1 x2 x3
        go_wp2_with fail
        refine NC.out.mono ?_
        rintro _ w2 ⟨b2, ⟨e, f, hc, he, rfl⟩ | ⟨M2, a2, c2, L2, G, hN, rfl⟩⟩
        · obtain ⟨V2, hV2⟩ : ∃ V2, V2 = w2.alloc (.cells #[.int .i64 e, .int .i64 f] 47) := ⟨_, rfl⟩
          have G2 : Hid (FtC V2 w2.heap.size e f) := by subst hV2; exact FtC.new _ _ _ _ _ rfl
          have bV2 : Below w2.heap.size w2 V2 := by subst hV2; (repeat' (first | exact Below.refl _ _ | assumption | refine bdrewN ?_ _ | refine Below.drew ?_ | refine bal ?_ _ | refine bthen ?_ (by assumption)))
          have F2 := hid ((F1.out.bel b2).bel bV2)
          have HBl := hid (show Below w.heap.size w V2 by have h1 := BV.out; have h2 := B1.out; (repeat' (first | exact Below.refl _ _ | assumption | refine bdrewN ?_ _ | refine Below.drew ?_ | refine Below.setCell ?_ (Nat.le_refl _) _ | refine bal ?_ _ | refine bthen ?_ (by assumption))))
          have HC := hid hc
          have HE := hid he
          go_upto_region 4 with fail
          rw [← hV2]; clear hV2 bV2 b2 hc
          have y0 := G2.out.c0
          have y1 := G2.out.c1
          have e3 : (e != 0) = true := by simpa using he
          have m0 := F2.out.c0
          have m1 := F2.out.c1
          have m2 := F2.out.fz 0
          have m3 := F2.out.fz 1
          clear he
          go_upto_region 5 with fail
          go_region
          all_goals
            go_wp2_with fail
            refine ret_rn Tryz.results21 rfl rfl rfl (FtC.put (e := 0) (f := 0) (w := V2.drew) ?_ e f) ?_
            · exact F2.out.same rfl
            · exact ⟨(HBl.out.drew.setCell (by exact Nat.le_refl _) _).setCell (by exact Nat.le_refl _) _, .inr ⟨⟨by rw [← Hn.out]; exact hn1, Hbs.out.symm, Hbf.out.symm⟩, .inl ⟨e, f, HC.out, HE.out, rfl⟩⟩⟩
        · obtain ⟨V2, hV2⟩ : ∃ V2, V2 = w2.alloc (.cells #[.int .i64 0, .int .i64 0] 47) := ⟨_, rfl⟩
          have G2 : Hid (FtC V2 w2.heap.size 0 0) := by subst hV2; exact FtC.new _ _ _ _ _ rfl
          have bV2 : Below w2.heap.size w2 V2 := by subst hV2; (repeat' (first | exact Below.refl _ _ | assumption | refine bdrewN ?_ _ | refine Below.drew ?_ | refine bal ?_ _ | refine bthen ?_ (by assumption)))
          have F2 := hid ((F1.out.bel b2).bel bV2)
          have HBl := hid (show Below w.heap.size w V2 by have h1 := BV.out; have h2 := B1.out; (repeat' (first | exact Below.refl _ _ | assumption | refine bdrewN ?_ _ | refine Below.drew ?_ | refine Below.setCell ?_ (Nat.le_refl _) _ | refine bal ?_ _ | refine bthen ?_ (by assumption))))
          have HN := hid hN
          have FX : Hid (FxOk V2 ⟨M2, a2, c2, L2, G, fold, sa, sc, s⟩) := hid (hN.fx bV2 (HS.out.bel HBl.out) HSC.out (by rw [← Hn.out]; exact hn1))
          have FC := hid (found_c V2 ⟨M2, a2, c2, L2, G, fold, sa, sc, s⟩ all FX.out hN.made)
          dsimp only at FC
          rw [← Hn.out] at FC
          have hz2 := HBl.out.size
          clear NC hN
          go_upto_region 4 with fail
          rw [← hV2]; clear hV2 bV2 b2
          have y0 := G2.out.c0
          go_wp2_with fail
          refine FC.out.mono ?_
          rintro _ w5 ⟨qa, qc, Q, rfl, hQ, hq, hf, b5⟩
          obtain ⟨f, hf2⟩ := comp_lb HN.out.prog
          have hok := FndR.ok (s := s) (fold := fold) (all := all) HN.out.made HN.out.G9 hf2 (F := Q.map Lt.l) hf.out
          have HB5 := hid (HBl.out.trans (b5.mono hz2))
          have F5 := hid (F2.out.bel b5)
          have RC := hid (replaced_c sa sc s qa qc Q fa fc M K w5 (HS.out.bel HB5.out) HSC.out (by rw [← Hn.out]; exact hn1) hQ (fun q hm => ⟨hq q hm, hok.2 q.l (List.mem_map_of_mem hm)⟩) hok.1 (HM.out.bel HB5.out) (HF.out.bel HB5.out) (may_grp Hbf.out.symm) HK.out hK1 HB.out)
          rw [← Hn.out] at RC
          have hz5 := HB5.out.size
          clear FC hQ hq b5 y0 hok hf2
          go_wp2_with fail
          refine RC.out.mono ?_
          rintro _ w6 ⟨a6, c6, L6, rfl, hL, ho, b6, hl⟩
          have HB6 := hid (HB5.out.trans (b6.mono hz5))
          have F6 := hid (F5.out.bel b6)
          have HO := hid ho
          have HL := hid hL
          have q0 := F6.out.c0
          have q1 := F6.out.c1
          have q2 := F6.out.fz 0
          have q3 := F6.out.fz 1
          clear RC ho hL b6
          have fin : ∀ e' w', Below w.heap.size w w' → ((1000 < (repl s (fps M) 0 (Q.map Lt.l)).length ∧ e' = runE (.slice none 0 0) 3 0) ∨ ((repl s (fps M) 0 (Q.map Lt.l)).length ≤ 1000 ∧ ∃ a c, e' = runE (.slice a (repl s (fps M) 0 (Q.map Lt.l)).length c) 0 0 ∧ Own w' w.heap.size a c (repl s (fps M) 0 (Q.map Lt.l)))) → RunR w s p M all fold e' w' := fun e' w' b h =>
            ⟨b, .inr ⟨⟨by rw [← Hn.out]; exact hn1, Hbs.out.symm, Hbf.out.symm⟩, .inr ⟨inss L2, G, Q.map Lt.l, HN.out.prog, HN.out.made, HN.out.G9, HN.out.grp, hf.out, h⟩⟩⟩
          have Fin := hid fin
          clear fin
          by_cases hX : 1000 < L6.length
          · have e3 : decide ((1000 : Int) < (L6.length : Int)) = true := decide_eq_true (by omega)
            have e4 : decide (1000 < L6.length) = true := decide_eq_true hX
            have HX := hid (show 1000 < (repl s (fps M) 0 (Q.map Lt.l)).length by
              rcases HL.out with h | h
              · rw [← h]; exact hX
              · exact h.2)
            clear hX hl
            go_wp2_with fail
            refine ret_rn Tryz.results21 rfl rfl rfl (FtC.put F6.out 3 0) ?_
            exact Fin.out _ _ ((HB6.out.setCell (by exact Nat.le_refl _) _).setCell (by exact Nat.le_refl _) _) (.inl ⟨HX.out, rfl⟩)
          · have e3 : decide ((1000 : Int) < (L6.length : Int)) = false := decide_eq_false (by omega)
            have e4 : decide (1000 < L6.length) = false := decide_eq_false hX
            have HX := hid (show repl s (fps M) 0 (Q.map Lt.l) = L6 by
              rcases HL.out with h | h
              · exact h.symm
              · exact absurd h.1 hX)
            have HX2 := hid (show L6.length ≤ 1000 by omega)
            clear hX hl
            go_wp2_with fail
            refine ret_rn Tryz.results21 rfl rfl rfl (FtC.put F6.out 0 0) ?_
            refine Fin.out _ _ ((HB6.out.setCell (by exact Nat.le_refl _) _).setCell (by exact Nat.le_refl _) _) (.inr ?_)
            rw [HX.out]
            refine ⟨HX2.out, a6, c6, rfl, ?_⟩
            have hne : ∀ ad, a6 = some ad → ad.block ≠ w.heap.size := fun ad had e => by
              have := HO.out.ge ad.block ⟨ad, had, rfl⟩; have := F5.out.lt; omega
            exact ((HO.out.setOther ⟨w.heap.size, 0, none⟩ _ hne).setOther ⟨w.heap.size, 1, none⟩ _ hne).base_le (by omega)
  · have e1 : decide ((1000 : Int) < (n : Int)) = true := decide_eq_true (by omega)
    have e2 : decide (1000 < n) = true := decide_eq_true (by omega)
    go_wp2_with fail
    refine ret_rn Tryz.results21 rfl rfl rfl (FtC.put F0.out 1 0) ?_
    exact HBad.out _ (Below.refl _ _) (fun h => hn1 h.1)
end Go.Proofs.YtefgjicegbhcaaaGreat
namespace Go.Proofs.YtefgjicegbhcaaaGreat
open Go.RowKit FmM ReM

def upF : Fo := ⟨1, 0, 1, none, [], 0, none, [], 0⟩
def pB : List Ins := (compW [98]).1
theorem comp_pb : compW [98] = (pB, 0, 0) := by kernel_rfl
theorem grp_pb : (gsL (parseW [98]).1).length = 0 := by kernel_rfl
theorem find_pb : FindR (mch pB [97, 98] false) [-1, -1] 0 (some [1, 2]) := findX_finds 10 0 none_ _ (by kernel_rfl)
theorem upF_ok (w : World) : FoOk w (fun _ => False) upF := ⟨fun _ _ => Sl.nil _ _, by decide, fun _ _ => Sl.nil _ _, by decide, by unfold ir upF; decide, by unfold ir upF; decide, by unfold ir upF; decide⟩
theorem upF_sl (w : World) (b : Nat) (hb : b = w.heap.size) : FSl (w.alloc (.cells #[.int .i64 1, .int .i64 0, .int .i64 1, .slice none 0 0, .slice none 0 0] 71)) (some ⟨b, 0, none⟩) [upF] := RSl.lit w upF _ b hb _ rfl (by decide)
theorem runk1_c (a b fa : Option Addr) (w : World) (hs : Sl w a [97, 98]) (hp : Sl w b [98]) (hM : FSl w fa [upF]) :
    Calls Tryz.prog 21 #[.slice a 2 2, .slice b 1 1, .slice fa 1 1, .bool false, .bool false] w fun e' w' => Below w.heap.size w w' ∧ ∃ a c, e' = runE (.slice a 2 c) 0 0 ∧ Own w' w.heap.size a c [97, 66] := by
  refine (run_c a 2 [97, 98] b 1 [98] fa 1 [upF] false false 1000 w hs (by decide) hp (by decide) hM (fun m hm => by rw [List.mem_singleton.1 hm]; exact upF_ok w) (fun m hm => by rw [List.mem_singleton.1 hm]; decide) (by decide) (by decide)).mono ?_
  rintro e' w' ⟨hb, ⟨h, -⟩ | ⟨-, ⟨e, f, h1, h2, -⟩ | ⟨P, G, F, hP, hM, hG9, hG, hF, hr⟩⟩⟩
  · exact absurd (by decide) h
  · rw [comp_pb] at h1; simp only [Prod.mk.injEq] at h1; exact absurd h1.2.1.symm h2
  · refine ⟨hb, ?_⟩
    rw [grp_pb] at hG
    subst hG
    rw [comp_pb] at hP
    obtain rfl : P = pB := by simpa using hP
    have hF1 : F = [[1, 2]] := by
      rcases hF with ⟨h, -⟩ | ⟨r, h, rfl⟩
      · have := FindR.one h find_pb; cases this
      · have := FindR.one h find_pb
        simp at this; rw [this]
    subst hF1
    have hX : repl [97, 98] (fps [upF]) 0 [[1, 2]] = [97, 66] := by decide
    rw [hX] at hr
    rcases hr with ⟨h, -⟩ | ⟨-, a, c, h1, h2⟩
    · exact absurd h (by decide)
    · exact ⟨a, c, h1, h2⟩
theorem runk2_c (b : Option Addr) (w : World) (hp : Sl w b [40]) :
    Calls Tryz.prog 21 #[.slice none 0 0, .slice b 1 1, .slice none 0 0, .bool true, .bool false] w fun e' w' => Below w.heap.size w w' ∧ e' = runE (.slice none 0 0) 5 1 := by
  refine (run_c none 0 [] b 1 [40] none 0 [] true false 1000 w (Sl.nil _ _) (by decide) hp (by decide) (RSl.nil _ _) (Fos.nil _ _) (fun m hm => by cases hm) (by decide) (by decide)).mono ?_
  rintro e' w' ⟨hb, ⟨h, -⟩ | ⟨-, ⟨e, f, h1, h2, rfl⟩ | ⟨P, G, F, hP, -⟩⟩⟩
  · exact absurd (by decide) h
  · rw [comp_par] at h1
    simp only [Prod.mk.injEq, true_and] at h1
    obtain ⟨rfl, rfl⟩ := h1
    exact ⟨hb, rfl⟩
  · rw [comp_par] at hP; simp at hP
theorem runk3_c (a : Option Addr) (w : World) (hs : Sl w a [-1]) :
    Calls Tryz.prog 21 #[.slice a 1 1, .slice none 0 0, .slice none 0 0, .bool false, .bool false] w fun e' w' => Below w.heap.size w w' ∧ e' = runE (.slice none 0 0) 1 0 := by
  refine (run_c a 1 [-1] none 0 [] none 0 [] false false 1000 w hs (by decide) (Sl.nil _ _) (by decide) (RSl.nil _ _) (Fos.nil _ _) (fun m hm => by cases hm) (by decide) (by decide)).mono ?_
  rintro e' w' ⟨hb, ⟨-, h⟩ | ⟨h, -⟩⟩
  · exact ⟨hb, h⟩
  · exact absurd h (by decide)
theorem fillk_c (fa ga : Option Addr) (xa : Option Addr) (w : World) (hM : FSl w fa [upF]) (hG : TSl w ga [⟨xa, [120], 1⟩]) (hx : Sl w xa [120]) :
    Calls Tryz.prog 11 #[.slice fa 1 1, .slice ga 1 1] w (Makes w [88]) := by
  have h := tfill_c fa 1 [upF] ga 1 [⟨xa, [120], 1⟩] 10 w hM (fun m hm => by rw [List.mem_singleton.1 hm]; exact upF_ok w) hG (fun m hm => by rw [List.mem_singleton.1 hm]; exact ⟨hx, Nat.le_refl 1⟩) (fun m hm => by rw [List.mem_singleton.1 hm]; decide) (fun m hm => by rw [List.mem_singleton.1 hm]; show [120].length ≤ 10; decide) (by decide)
  have e : fillC (fps [upF]) [⟨xa, [120], 1⟩] = [88] := by
    unfold fillC
    rw [if_pos (by decide)]
    show ptx upF.fp (gtx [⟨xa, [120], 1⟩] 0) = _
    have : gtx [⟨xa, [120], 1⟩] 0 = [120] := rfl
    rw [this]; decide
  rw [e] at h
  exact h
set_option maxRecDepth 20000 in
set_option maxHeartbeats 16000000 in
theorem known12_c (w : World) : Calls Tryz.prog 15 #[] w fun e' w' => e' = .returned (.bool true) ∧ Below w.heap.size w w' := by
  obtain ⟨V1, hV1⟩ : ∃ V1, V1 = w.alloc (.cells #[.int .i64 1, .int .i64 0, .int .i64 1, .slice none 0 0, .slice none 0 0] 71) := ⟨_, rfl⟩
  have b1 : Below w.heap.size w V1 := by subst hV1; (repeat' (first | exact Below.refl _ _ | assumption | refine bdrewN ?_ _ | refine Below.drew ?_ | refine bal ?_ _ | refine bthen ?_ (by assumption)))
  have m1 : FSl V1 (some ⟨w.heap.size, 0, none⟩) [upF] := by subst hV1; exact upF_sl w _ rfl
  obtain ⟨V2, hV2⟩ : ∃ V2, V2 = V1.alloc (.cells #[.int .i32 97, .int .i32 98] 21) := ⟨_, rfl⟩
  have b2 : Below V1.heap.size V1 V2 := by subst hV2; (repeat' (first | exact Below.refl _ _ | assumption | refine bdrewN ?_ _ | refine Below.drew ?_ | refine bal ?_ _ | refine bthen ?_ (by assumption)))
  have s2 : Sl V2 (some ⟨w.heap.size + 1, 0, none⟩) [97, 98] := by rw [hV2, hV1]; exact (Sl.lit' _ [97, 98] _ _ (by simp) (by simp) (by simp [rng]) _ rfl)
  obtain ⟨V3, hV3⟩ : ∃ V3, V3 = V2.alloc (.cells #[.int .i32 98] 21) := ⟨_, rfl⟩
  have b3 : Below V2.heap.size V2 V3 := by subst hV3; (repeat' (first | exact Below.refl _ _ | assumption | refine bdrewN ?_ _ | refine Below.drew ?_ | refine bal ?_ _ | refine bthen ?_ (by assumption)))
  have s3 : Sl V3 (some ⟨w.heap.size + 1 + 1, 0, none⟩) [98] := by rw [hV3, hV2, hV1]; exact (Sl.lit' _ [98] _ _ (by simp) (by simp) (by simp [rng]) _ rfl)
  have z3 : V3.heap.size = w.heap.size + 1 + 1 + 1 := by rw [hV3, hV2, hV1]; simp
  have C1 := hid (runk1_c _ _ _ V3 (s2.bel b3) s3 ((m1.bel b2).bel b3))
  have B3 := hid (show Below w.heap.size w V3 by (repeat' (first | exact Below.refl _ _ | assumption | refine bdrewN ?_ _ | refine Below.drew ?_ | refine Below.setCell ?_ (Nat.le_refl _) _ | refine bal ?_ _ | refine bthen ?_ (by assumption))))
  have M3 := hid ((m1.bel b2).bel b3)
  clear b1 m1 b2 s2 b3 s3
  go_enter Tryz.func15, Tryz.ntmps15
  go_wp2_with fail
  rw [← hV1, ← hV2, ← hV3]
  clear hV1 hV2 hV3
  refine C1.out.mono ?_
  rintro _ w4 ⟨b4, a4, c4, rfl, o4⟩
  unfold runE
  have B4 := hid (B3.out.trans (b4.mono B3.out.size))
  have M4 := hid (M3.out.bel b4)
  have O4 := hid o4
  have z4 := b4.size
  clear C1 b4 o4 B3 M3
  obtain ⟨V4, hV4⟩ : ∃ V4, V4 = w4.alloc (.cells #[.int .i64 0, .int .i64 0] 47) := ⟨_, rfl⟩
  have F4 := hid (show FtC V4 w4.heap.size 0 0 by rw [hV4]; exact FtC.new _ _ _ _ _ rfl)
  have b4 : Below w4.heap.size w4 V4 := by rw [hV4]; (repeat' (first | exact Below.refl _ _ | assumption | refine bdrewN ?_ _ | refine Below.drew ?_ | refine bal ?_ _ | refine bthen ?_ (by assumption)))
  obtain ⟨V5, hV5⟩ : ∃ V5, V5 = V4.alloc (.cells #[.int .i32 40] 21) := ⟨_, rfl⟩
  have b5 : Below V4.heap.size V4 V5 := by subst hV5; (repeat' (first | exact Below.refl _ _ | assumption | refine bdrewN ?_ _ | refine Below.drew ?_ | refine bal ?_ _ | refine bthen ?_ (by assumption)))
  have s5 : Sl V5 (some ⟨w4.heap.size + 1, 0, none⟩) [40] := by rw [hV5, hV4]; exact (Sl.lit' _ [40] _ _ (by simp) (by simp) (by simp [rng]) _ rfl)
  have b45 := b4.trans (b5.mono b4.size)
  have B5 := hid (B4.out.trans (b45.mono B4.out.size))
  have M5 := hid (M4.out.bel b45)
  have O5 := hid (O4.out.grow b45)
  have F5 := hid (F4.out.bel b5)
  have z5 : V5.heap.size = w4.heap.size + 1 + 1 := by rw [hV5, hV4]; simp
  have C2 := hid (runk2_c _ V5 s5)
  clear b4 b5 s5 b45 M4 O4 F4 B4
  go_wp2_with fail
  rw [← hV4, ← hV5]
  clear hV4 hV5
  refine C2.out.mono ?_
  rintro _ w6 ⟨b6, rfl⟩
  unfold runE
  have B6 := hid (B5.out.trans (b6.mono B5.out.size))
  have M6 := hid (M5.out.bel b6)
  have O6 := hid (O5.out.grow b6)
  have F6 := hid (F5.out.bel b6)
  have z6 := b6.size
  clear C2 b6 B5 M5 O5 F5
  obtain ⟨V7, hV7⟩ : ∃ V7, V7 = w6.alloc (.cells #[.int .i64 5, .int .i64 1] 47) := ⟨_, rfl⟩
  have G7 := hid (show FtC V7 w6.heap.size 5 1 by rw [hV7]; exact FtC.new _ _ _ _ _ rfl)
  have b7 : Below w6.heap.size w6 V7 := by rw [hV7]; (repeat' (first | exact Below.refl _ _ | assumption | refine bdrewN ?_ _ | refine Below.drew ?_ | refine bal ?_ _ | refine bthen ?_ (by assumption)))
  obtain ⟨V8, hV8⟩ : ∃ V8, V8 = V7.alloc (.cells #[.int .i32 (-1)] 21) := ⟨_, rfl⟩
  have b8 : Below V7.heap.size V7 V8 := by subst hV8; (repeat' (first | exact Below.refl _ _ | assumption | refine bdrewN ?_ _ | refine Below.drew ?_ | refine bal ?_ _ | refine bthen ?_ (by assumption)))
  have s8 : Sl V8 (some ⟨w6.heap.size + 1, 0, none⟩) [-1] := by rw [hV8, hV7]; exact (Sl.lit' _ [-1] _ _ (by simp) (by simp) (by simp [rng]) _ rfl)
  have b78 := b7.trans (b8.mono b7.size)
  have B8 := hid (B6.out.trans (b78.mono B6.out.size))
  have M8 := hid (M6.out.bel b78)
  have O8 := hid (O6.out.grow b78)
  have F8 := hid (F6.out.bel b78)
  have G8 := hid (G7.out.bel b8)
  have z8 : V8.heap.size = w6.heap.size + 1 + 1 := by rw [hV8, hV7]; simp
  have C3 := hid (runk3_c _ V8 s8)
  clear b7 b8 s8 b78 M6 O6 F6 G7 B6
  go_wp2_with fail
  rw [← hV7, ← hV8]
  clear hV7 hV8
  refine C3.out.mono ?_
  rintro _ w9 ⟨b9, rfl⟩
  unfold runE
  have B9 := hid (B8.out.trans (b9.mono B8.out.size))
  have M9 := hid (M8.out.bel b9)
  have O9 := hid (O8.out.grow b9)
  have F9 := hid (F8.out.bel b9)
  have G9 := hid (G8.out.bel b9)
  have z9 := b9.size
  clear C3 b9 B8 M8 O8 F8 G8
  obtain ⟨V10, hV10⟩ : ∃ V10, V10 = w9.alloc (.cells #[.int .i64 1, .int .i64 0] 47) := ⟨_, rfl⟩
  have H10 := hid (show FtC V10 w9.heap.size 1 0 by rw [hV10]; exact FtC.new _ _ _ _ _ rfl)
  have b10 : Below w9.heap.size w9 V10 := by rw [hV10]; (repeat' (first | exact Below.refl _ _ | assumption | refine bdrewN ?_ _ | refine Below.drew ?_ | refine bal ?_ _ | refine bthen ?_ (by assumption)))
  obtain ⟨V11, hV11⟩ : ∃ V11, V11 = V10.alloc (.cells #[.int .i32 97, .int .i32 66] 21) := ⟨_, rfl⟩
  have b11 : Below V10.heap.size V10 V11 := by subst hV11; (repeat' (first | exact Below.refl _ _ | assumption | refine bdrewN ?_ _ | refine Below.drew ?_ | refine bal ?_ _ | refine bthen ?_ (by assumption)))
  have s11 : Sl V11 (some ⟨w9.heap.size + 1, 0, none⟩) [97, 66] := by rw [hV11, hV10]; exact (Sl.lit' _ [97, 66] _ _ (by simp) (by simp) (by simp [rng]) _ rfl)
  have b1011 := b10.trans (b11.mono b10.size)
  have B11 := hid (B9.out.trans (b1011.mono B9.out.size))
  have M11 := hid (M9.out.bel b1011)
  have O11 := hid (O9.out.grow b1011)
  have F11 := hid (F9.out.bel b1011)
  have G11 := hid (G9.out.bel b1011)
  have H11 := hid (H10.out.bel b11)
  have z11 : V11.heap.size = w9.heap.size + 1 + 1 := by rw [hV11, hV10]; simp
  have C4 := hid (rsame_c a4 (some ⟨w9.heap.size + 1, 0, none⟩) c4 2 [97, 66] [97, 66] V11 O11.out.sl s11)
  clear b10 b11 s11 b1011 M9 O9 F9 G9 H10 B9
  go_wp2_with fail
  rw [← hV10, ← hV11]
  clear hV10 hV11
  refine C4.out.mono ?_
  rintro _ _ ⟨rfl, n12, rfl⟩
  rw [eqM_self]
  have b12 : Below V11.heap.size V11 (V11.drewN n12) := bdrewN (Below.refl _ _) _
  have B12 := hid (B11.out.trans (b12.mono B11.out.size))
  have M12 := hid (M11.out.bel b12)
  have F12 := hid (F11.out.bel b12)
  have G12 := hid (G11.out.bel b12)
  have H12 := hid (H11.out.bel b12)
  clear C4 b12 B11 M11 F11 G11 H11
  generalize V11.drewN n12 = V12 at *
  have f0 := F12.out.c0
  have g0 := G12.out.c0
  have g1 := G12.out.c1
  have h0 := H12.out.c0
  obtain ⟨V13, hV13⟩ : ∃ V13, V13 = V12.alloc (.cells #[.int .i32 120] 21) := ⟨_, rfl⟩
  have b13 : Below V12.heap.size V12 V13 := by subst hV13; (repeat' (first | exact Below.refl _ _ | assumption | refine bdrewN ?_ _ | refine Below.drew ?_ | refine bal ?_ _ | refine bthen ?_ (by assumption)))
  have s13 : Sl V13 (some ⟨V12.heap.size, 0, none⟩) [120] := by rw [hV13]; exact (Sl.lit' _ [120] _ _ (by simp) (by simp) (by simp [rng]) _ rfl)
  obtain ⟨V14, hV14⟩ : ∃ V14, V14 = V13.alloc (.cells #[.slice (some ⟨V12.heap.size, 0, none⟩) 1 1] 24) := ⟨_, rfl⟩
  have b14 : Below V13.heap.size V13 V14 := by subst hV14; (repeat' (first | exact Below.refl _ _ | assumption | refine bdrewN ?_ _ | refine Below.drew ?_ | refine bal ?_ _ | refine bthen ?_ (by assumption)))
  have t14 : TSl V14 (some ⟨V12.heap.size + 1, 0, none⟩) [⟨some ⟨V12.heap.size, 0, none⟩, [120], 1⟩] := by rw [hV14, hV13]; exact RSl.lit _ _ _ _ (by simp) _ rfl (by decide)
  have b134 := b13.trans (b14.mono b13.size)
  have B14 := hid (B12.out.trans (b134.mono B12.out.size))
  have C5 := hid (fillk_c _ _ _ V14 (M12.out.bel b134) t14 (s13.bel b14))
  clear b13 s13 b14 t14 b134 M12 B12 F12 G12 H12
  go_wp2_with fail
  rw [← hV13, ← hV14]
  clear hV13 hV14
  refine C5.out.mono ?_
  rintro _ w15 ⟨a15, c15, rfl, o15, b15⟩
  have B15 := hid (B14.out.trans (b15.mono B14.out.size))
  obtain ⟨V16, hV16⟩ : ∃ V16, V16 = w15.alloc (.cells #[.int .i32 88] 21) := ⟨_, rfl⟩
  have b16 : Below w15.heap.size w15 V16 := by subst hV16; (repeat' (first | exact Below.refl _ _ | assumption | refine bdrewN ?_ _ | refine Below.drew ?_ | refine bal ?_ _ | refine bthen ?_ (by assumption)))
  have s16 : Sl V16 (some ⟨w15.heap.size, 0, none⟩) [88] := by rw [hV16]; exact (Sl.lit' _ [88] _ _ (by simp) (by simp) (by simp [rng]) _ rfl)
  have C6 := hid (rsame_c a15 (some ⟨w15.heap.size, 0, none⟩) c15 1 [88] [88] V16 (o15.sl.bel b16) s16)
  have B16 := hid (B15.out.trans (b16.mono B15.out.size))
  clear b16 s16 o15 b15 f0 g0 g1 h0 B14 B15 C5
  go_wp2_with fail
  rw [← hV16]
  clear hV16
  refine C6.out.mono ?_
  rintro _ _ ⟨rfl, n17, rfl⟩
  rw [eqM_self]
  go_wp2_with fail
  go_ret
  exact ⟨rfl, bdrewN B16.out _⟩
end Go.Proofs.YtefgjicegbhcaaaGreat
namespace Go.Proofs.YtefgjicegbhcaaaGreat
open Go.RowKit Go.ChangeShapes Go.WideShapes Go.ChangeAt Go.Deep Go.Joins

theorem Tryz.cellsInt : Tryz.prog.cellsOf 3 = 1 := by kernel_rfl
theorem Tryz.cellsRunes : Tryz.prog.cellsOf 24 = 1 := by kernel_rfl
/-- the records' cells in memory -/
def RecAt {α : Type} (k : Nat) (cv : α → List Value) (W : World) (a : Option Addr) (l : List α) : Prop :=
  l = [] ∨ ∃ b off, a = some ⟨b, off, none⟩ ∧ ∀ (i : Nat) (hi : i < l.length) (j : Nat) (u : Value), (cv l[i])[j]? = some u → W.cell? ⟨b, off + i * k + j, none⟩ = some u
theorem RecAt.rsl {α : Type} [Inhabited α] {E : Enc α} {w : World} {a : Option Addr} {l : List α} (h : RecAt E.k E.v w a l) (hl : l.length ≤ E.cap) : RSl E w a l := by
  refine ⟨hl, ?_⟩
  rcases h with h | ⟨b, off, ha, hc⟩
  · exact .inl h
  · refine .inr ⟨b, off, ha, fun n u hu => ?_⟩
    have hn : n < l.length * E.k := by
      have := (List.getElem?_eq_some_iff.1 hu).1
      rwa [rflat_len] at this
    have hi : n / E.k < l.length := Nat.div_lt_of_lt_mul (by rw [Nat.mul_comm]; exact hn)
    have hj : n % E.k < E.k := Nat.mod_lt _ E.pos
    have hnn : n / E.k * E.k + n % E.k = n := by rw [Nat.mul_comm]; exact Nat.div_add_mod n E.k
    have e := rflat_at (E := E) l hi hj
    rw [hnn, hu, rgt_get hi] at e
    have := hc _ hi _ u e.symm
    rwa [Nat.add_assoc, hnn] at this
section
variable {H : Type} {enc : TypeId × Value → H}
set_option maxRecDepth 20000 in
/-- a slice of records opened, each with what was read of it -/
theorem open_recsD {α : Type} [Inhabited α] {T E : TypeId} {k : Nat} {cv : α → List Value} {R : α → DataW H → Prop} {W : World} {base : Nat} {v : Value} {d : DataW H} {p : List MemPlace}
    (hT : Tryz.prog.underlying T = some (.slice E)) (hk : Tryz.prog.cellsOf E = k) (hkp : 0 < k)
    (hone : ∀ (fuel : Nat) (cs : List Value) (x : DataW H × List MemPlace), DataW.trod enc Tryz.prog W 0 (fun _ => true) true fuel E cs = some x → ∃ m : α, cs = cv m ∧ R m x.1)
    (hv : Value.okWide Tryz.prog W .any base T v) (h : DataW.Trod enc Tryz.prog W 0 (fun _ => true) true T v d p) :
    ∃ (a : Option Addr) (l : List α) (c : Nat), v = .slice a l.length c ∧ l.length ≤ c ∧ ((d = .nil ∧ c = 0 ∧ l = []) ∨ ∃ es sp, d = .slice es sp ∧ es.length + sp.length = c ∧ ∀ m, m ∈ l → ∃ D, D ∈ es ∧ R m D) ∧ RecAt k cv W a l := by
  obtain ⟨a0, len, cap, rfl⟩ := okWide_slice hT hv
  obtain ⟨fuel, hf⟩ := h
  rcases open_slice hT hf with ⟨hcs, hx⟩ | ⟨a, len', cap', m, n, D, Pl, hcs, hb, hl, hm, hmm, hx, hi⟩
  · simp only [Value.cells, List.cons.injEq, and_true, Value.slice.injEq] at hcs
    obtain ⟨rfl, rfl, rfl⟩ := hcs
    simp only [Prod.mk.injEq] at hx
    exact ⟨none, [], 0, rfl, by simp, .inl ⟨hx.1, rfl, rfl⟩, .inl rfl⟩
  · simp only [Value.cells, List.cons.injEq, and_true, Value.slice.injEq] at hcs
    obtain ⟨rfl, rfl, rfl⟩ := hcs
    simp only [if_true] at hmm
    subst hmm
    simp only [Prod.mk.injEq] at hx
    have hall : ∀ i, i < len → ∃ e : α, R e (D i) ∧ ∃ b off, a = ⟨b, off, none⟩ ∧ ∀ (j : Nat) (u : Value), (cv e)[j]? = some u → W.cell? ⟨b, off + i * k + j, none⟩ = some u := by
      intro i hil
      obtain ⟨cs', hc, ht⟩ := hi i (by omega)
      obtain ⟨M, rfl, hS⟩ := hone _ _ _ ht
      rw [hk] at hc
      obtain ⟨_, hcl, hat⟩ := World.cells?_some hc
      refine ⟨M, hS, ?_⟩
      have hsp : a.spot = none := by
        obtain ⟨cs0, hc0, _⟩ := hi 0 (by omega)
        rw [hk] at hc0
        obtain ⟨_, hcl0, hat0⟩ := World.cells?_some hc0
        have := hat0 0 (by omega)
        rw [List.getElem?_eq_getElem (by omega)] at this
        obtain ⟨b, o, sp⟩ := a
        cases sp with
        | none => rfl
        | some s =>
          simp only [Nat.zero_mul, Addr.add, if_true, World.cell?] at this
          split at this <;> simp_all
      obtain ⟨b, o, sp⟩ := a
      simp only at hsp; subst hsp
      have hadd : ∀ o n, (⟨b, o, none⟩ : Addr).add n = ⟨b, o + n, none⟩ := fun o n => by unfold Addr.add; split <;> simp_all
      refine ⟨b, o, rfl, fun j u hu => ?_⟩
      have hj : j < k := by
        have := (List.getElem?_eq_some_iff.1 hu).1
        omega
      have q := hat j hj
      rw [hadd, hadd, hu] at q
      exact q
    obtain ⟨f, hfc⟩ := choose_lt hall
    refine ⟨some a, (List.range len).map f, m, by simp, by simpa using hl, .inr ⟨_, _, hx.1, by simp; omega, ?_⟩, ?_⟩
    · intro x hxm
      obtain ⟨i, hi, rfl⟩ := List.mem_map.1 hxm
      exact ⟨D i, List.mem_map.2 ⟨i, hi, rfl⟩, (hfc i (List.mem_range.1 hi)).1⟩
    · by_cases h0 : len = 0
      · left; subst h0; rfl
      · obtain ⟨_, b, off, rfl, _⟩ := hfc 0 (by omega)
        refine .inr ⟨b, off, rfl, fun i hi j u hu => ?_⟩
        have hil : i < len := by simpa using hi
        obtain ⟨_, b', off', he, h3⟩ := hfc i hil
        simp only [Addr.mk.injEq, and_true] at he
        obtain ⟨rfl, rfl⟩ := he
        exact h3 j u (by simpa using hu)
/-- a slice of runes that was read: what its capacity is -/
def Cp (Y : DataW H) (c : Nat) : Prop := Y = .nil ∧ c = 0 ∨ ∃ es sp, Y = .slice es sp ∧ es.length + sp.length = c
/-- what the cell of a []int32 reads as -/
theorem runes_cell {W : World} {fuel : Nat} {cs : List Value} {y : DataW H × List MemPlace} (hf : DataW.trod enc Tryz.prog W 0 (fun _ => true) true fuel 24 cs = some y) :
    ∃ a l c, cs = [.slice a (l : List Int).length c] ∧ l.length ≤ c ∧ Cp y.1 c ∧ (l.length ≤ 35184372088832 → Sl W a l) := by
  rcases open_ints Tryz.underlying24 Tryz.underlying21 Tryz.cellsI32 hf with ⟨hcs, hx⟩ | ⟨a, len', cap', zs, hcs, _, hl, hm, hz, hx, hcell, hwz⟩
  · exact ⟨none, [], 0, hcs, by simp, .inl ⟨by rw [hx], rfl⟩, fun _ => Sl.nil _ _⟩
  · simp only [if_true] at hz
    have hlen : (zs.take len').length = len' := by rw [List.length_take]; omega
    refine ⟨some a, zs.take len', cap', by rw [hlen]; exact hcs, by omega, .inr ⟨_, _, by rw [hx], by simp [lits]; omega⟩, fun hle => ?_⟩
    refine ⟨by omega, fun x hx => wf_i32 (hwz x (List.mem_of_mem_take hx)), ?_⟩
    by_cases h0 : zs.take len' = []
    · exact .inl h0
    · have hpos : 0 < len' := by
        rcases Nat.eq_zero_or_pos len' with h | h
        · subst h; simp at h0
        · exact h
      have hsp : a.spot = none := by
        have := hcell 0 (by omega)
        obtain ⟨b, o, sp⟩ := a
        cases sp with
        | none => rfl
        | some s =>
          simp only [Addr.add, if_true, World.cell?] at this
          split at this <;> simp_all
      obtain ⟨b, o, sp⟩ := a
      simp only at hsp; subst hsp
      refine .inr ⟨b, o, rfl, fun i hi => ?_⟩
      have h1 := hcell i (by omega)
      rw [gt_get hi]
      have h2 : (⟨b, o, none⟩ : Addr).add i = ⟨b, o + i, none⟩ := by unfold Addr.add; split <;> simp_all
      rw [h2] at h1
      rw [h1]
      simp [List.getD, List.getElem?_eq_getElem (show i < zs.length by omega)]
theorem bulk_mem {D : DataW H} : ∀ {es : List (DataW H)}, D ∈ es → Rows.uptoBulk D ≤ Rows.uptoBulkAll es
  | E :: es, h => by
    simp only [Rows.uptoBulkAll]
    rcases List.mem_cons.1 h with rfl | h
    · omega
    · have := bulk_mem h; omega
theorem cp_bulk {Y : DataW H} {c : Nat} (h : Cp Y c) : c ≤ Rows.uptoBulk Y := bulk_cap h
/-- a text that was read among others -/
def TxR (W : World) (m : Tx) (D : DataW H) : Prop := Cp D m.c ∧ m.l.length ≤ m.c ∧ (m.l.length ≤ 35184372088832 → Sl W m.a m.l)
set_option maxRecDepth 20000 in
theorem open_txs {W : World} {base : Nat} {v : Value} {d : DataW H} {p : List MemPlace} (hv : Value.okWide Tryz.prog W .any base 29 v)
    (h : DataW.Trod enc Tryz.prog W 0 (fun _ => true) true 29 v d p) :
    ∃ (a : Option Addr) (l : List Tx) (c : Nat), v = .slice a l.length c ∧ l.length ≤ c ∧ ((d = .nil ∧ c = 0 ∧ l = []) ∨ ∃ es sp, d = .slice es sp ∧ es.length + sp.length = c ∧ ∀ m, m ∈ l → ∃ D, D ∈ es ∧ TxR W m D) ∧ RecAt encTx.k encTx.v W a l :=
  open_recsD (k := 1) (cv := encTx.v) (R := TxR W) Tryz.underlying29 Tryz.cellsRunes (by decide) (fun fuel cs x hx => by
    obtain ⟨a, l, c, rfl, h1, h2, h3⟩ := runes_cell hx
    exact ⟨⟨a, l, c⟩, rfl, h2, h1, h3⟩) hv h
set_option maxRecDepth 20000 in
/-- texts within a bulk -/
theorem txs_bulk {W : World} {d : DataW H} {l : List Tx} {c : Nat} (h : (d = .nil ∧ c = 0 ∧ l = []) ∨ ∃ es sp, d = .slice es sp ∧ es.length + sp.length = c ∧ ∀ m, m ∈ l → ∃ D, D ∈ es ∧ TxR W m D) {n : Nat} (hn : n ≤ 35184372088832) (hd : Rows.uptoBulk d ≤ n) : c ≤ n ∧ Txs W l ∧ ∀ m, m ∈ l → m.l.length ≤ n := by
  rcases h with ⟨rfl, rfl, rfl⟩ | ⟨es, sp, rfl, rfl, h⟩
  · exact ⟨Nat.zero_le _, Txs.nil _, fun m hm => by cases hm⟩
  · simp only [Rows.uptoBulk] at hd
    have h1 := bulk_length es
    have h2 := bulk_length sp
    have hl : ∀ m, m ∈ l → m.l.length ≤ m.c ∧ m.c ≤ n ∧ (m.l.length ≤ 35184372088832 → Sl W m.a m.l) := fun m hm => by
      obtain ⟨D, hD, k1, k2, k3⟩ := h m hm
      have := bulk_mem hD
      have := cp_bulk k1
      exact ⟨k2, by omega, k3⟩
    exact ⟨by omega, fun m hm => by have := hl m hm; exact ⟨this.2.2 (by omega), this.1⟩, fun m hm => by have := hl m hm; omega⟩
theorem Tryz.cellsFo : Tryz.prog.cellsOf 71 = 5 := by kernel_rfl
/-- a part that was read among others -/
def FoR (W : World) (m : Fo) (D : DataW H) : Prop := ∃ Y Z, D = .agg [.lit (.int .i64 m.kind), .lit (.int .i64 m.grp), .lit (.int .i64 m.how), Y, Z] ∧ Cp Y m.tc ∧ Cp Z m.ec ∧ m.text.length ≤ m.tc ∧ m.els.length ≤ m.ec ∧
  (m.text.length ≤ 35184372088832 → m.els.length ≤ 35184372088832 → FoOk W (fun _ => False) m)
set_option maxRecDepth 20000 in
theorem form_cells {W : World} {fuel : Nat} {cs : List Value} {x : DataW H × List MemPlace} (h : DataW.trod enc Tryz.prog W 0 (fun _ => true) true fuel 71 cs = some x) :
    ∃ m : Fo, cs = encFo.v m ∧ FoR W m x.1 := by
  obtain ⟨xs, n, _, hx, hcl, hlen, hg⟩ := DataW.trod_struct Tryz.underlying71 h
  rw [Tryz.cellsFo] at hcl
  match xs, hlen with
  | [y0, y1, y2, y3, y4], _ =>
    obtain ⟨e0, e1, e2, e3, e4, rfl⟩ : ∃ e0 e1 e2 e3 e4, cs = [e0, e1, e2, e3, e4] := by
      match cs, hcl with
      | [e0, e1, e2, e3, e4], _ => exact ⟨e0, e1, e2, e3, e4, rfl⟩
    have g0 : DataW.trod enc Tryz.prog W 0 (fun _ => true) true n 3 (List.take (Tryz.prog.cellsOf 3) [e0, e1, e2, e3, e4]) = some y0 := hg 0 _ rfl
    have g1 : DataW.trod enc Tryz.prog W 0 (fun _ => true) true n 3 (List.take (Tryz.prog.cellsOf 3) [e1, e2, e3, e4]) = some y1 := hg 1 _ rfl
    have g2 : DataW.trod enc Tryz.prog W 0 (fun _ => true) true n 3 (List.take (Tryz.prog.cellsOf 3) [e2, e3, e4]) = some y2 := hg 2 _ rfl
    have g3 : DataW.trod enc Tryz.prog W 0 (fun _ => true) true n 24 (List.take (Tryz.prog.cellsOf 24) [e3, e4]) = some y3 := hg 3 _ rfl
    have g4 : DataW.trod enc Tryz.prog W 0 (fun _ => true) true n 24 (List.take (Tryz.prog.cellsOf 24) [e4]) = some y4 := hg 4 _ rfl
    rw [Tryz.cellsInt] at g0 g1 g2
    rw [Tryz.cellsRunes] at g3 g4
    simp only [List.take_succ_cons, List.take_zero] at g0 g1 g2 g3 g4
    obtain ⟨z0, h0, r0, w0⟩ := DataW.trod_int Tryz.underlying3 g0
    obtain ⟨z1, h1, r1, w1⟩ := DataW.trod_int Tryz.underlying3 g1
    obtain ⟨z2, h2, r2, w2⟩ := DataW.trod_int Tryz.underlying3 g2
    obtain ⟨a1, l1, c1, h3, hlc1, hY1, hS1⟩ := runes_cell g3
    obtain ⟨a2, l2, c2, h4, hlc2, hY2, hS2⟩ := runes_cell g4
    simp only [List.cons.injEq, and_true] at h0 h1 h2 h3 h4
    subst h0 h1 h2 h3 h4
    refine ⟨⟨z0, z1, z2, a1, l1, c1, a2, l2, c2⟩, rfl, y3.1, y4.1, by rw [hx]; simp [r0, r1, r2], hY1, hY2, hlc1, hlc2, fun p q => ⟨fun w' k => (hS1 p).kp k fun _ _ h => h, hlc1, fun w' k => (hS2 q).kp k fun _ _ h => h, hlc2, wf_i64 w0, wf_i64 w1, wf_i64 w2⟩⟩
set_option maxRecDepth 20000 in
theorem open_fos {W : World} {base : Nat} {v : Value} {d : DataW H} {p : List MemPlace} (hv : Value.okWide Tryz.prog W .any base 27 v)
    (h : DataW.Trod enc Tryz.prog W 0 (fun _ => true) true 27 v d p) :
    ∃ (a : Option Addr) (l : List Fo) (c : Nat), v = .slice a l.length c ∧ l.length ≤ c ∧ ((d = .nil ∧ c = 0 ∧ l = []) ∨ ∃ es sp, d = .slice es sp ∧ es.length + sp.length = c ∧ ∀ m, m ∈ l → ∃ D, D ∈ es ∧ FoR W m D) ∧ RecAt encFo.k encFo.v W a l :=
  open_recsD (k := 5) (cv := encFo.v) (R := FoR W) Tryz.underlying27 Tryz.cellsFo (by decide) (fun fuel cs x hx => form_cells hx) hv h
set_option maxRecDepth 20000 in
theorem fos_bulk {W : World} {d : DataW H} {l : List Fo} {c : Nat} (h : (d = .nil ∧ c = 0 ∧ l = []) ∨ ∃ es sp, d = .slice es sp ∧ es.length + sp.length = c ∧ ∀ m, m ∈ l → ∃ D, D ∈ es ∧ FoR W m D) {n : Nat} (hn : n ≤ 35184372088832) (hd : Rows.uptoBulk d ≤ n) : c ≤ n ∧ Fos W (fun _ => False) l ∧ ∀ m, m ∈ l → m.text.length ≤ n ∧ m.els.length ≤ n := by
  rcases h with ⟨rfl, rfl, rfl⟩ | ⟨es, sp, rfl, rfl, h⟩
  · exact ⟨Nat.zero_le _, Fos.nil _ _, fun m hm => by cases hm⟩
  · simp only [Rows.uptoBulk] at hd
    have h1 := bulk_length es
    have h2 := bulk_length sp
    have hl : ∀ m, m ∈ l → m.text.length ≤ n ∧ m.els.length ≤ n ∧ (m.text.length ≤ 35184372088832 → m.els.length ≤ 35184372088832 → FoOk W (fun _ => False) m) := fun m hm => by
      obtain ⟨D, hD, Y, Z, rfl, k1, k2, k3, k4, k5⟩ := h m hm
      have b1 := bulk_mem hD
      have b2 := cp_bulk k1
      have b3 := cp_bulk k2
      simp only [Rows.uptoBulk, Rows.uptoBulkAll] at b1
      exact ⟨by omega, by omega, k5⟩
    exact ⟨by omega, fun m hm => by have := hl m hm; exact this.2.2 (by omega) (by omega), fun m hm => by have := hl m hm; omega⟩
end
end Go.Proofs.YtefgjicegbhcaaaGreat
