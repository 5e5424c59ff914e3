/- Contracts of layer 1: the document's own Case, and what is lent. -/
import Derived.Test.YtfjcojkmlbaifaaSignsR
namespace Go.Proofs.Ytfjcojkmlbaifaa
open Go.RowKit

set_option maxHeartbeats 800000 in
theorem rcase1_c (a : Option Addr) (c : Nat) (l : List Int) (w : World) (h : Sl w a l) :
    Calls Try.prog 19 #[.slice a l.length c, .int .i64 1] w (Makes w (l.map up)) := by
  have hl := h.len
  go_enter Try.func19, Try.ntmps19
  go_wp2_with (at_builtin; refine wpL_app rfl _ _ rfl w.heap.size none a 0 c [] l rfl (Own.nil _ _) rfl h (by simpa using hl) (Nat.le_refl _) ?_; intro a1 c1 w1 hown hgrow hbel; simp only [List.nil_append] at hown ⊢)
  have Hown := hid hown
  go_loopw [6] (fun i wr => ∃ k : Nat, k ≤ l.length ∧ i = .int .i64 k ∧ Own wr w.heap.size a1 c1 (half up k l) ∧ Below w.heap.size w wr) (fun i _ => l.length - (intOf i).toNat)
  case atStart => exact ⟨0, Nat.zero_le _, rfl, by rw [half_zero]; exact Hown.out, hbel⟩
  case round =>
    obtain ⟨k, hk, rfl, hk1, hk2⟩ := hrel
    by_cases hlt : k < l.length
    · have hsh := hk1.shape
      rcases hsh with ⟨_, _, h0⟩ | ⟨g0, rfl, hg1, hg2, hg3⟩
      · have h1 := half_len up k l
        rw [h0] at h1; simp at h1; omega
      · skip
        obtain ⟨b', o', he, hcell⟩ := hk1.sl.at (i := k) (by rw [half_len]; exact hlt)
        simp only [Option.some.injEq, Addr.mk.injEq, and_true] at he
        obtain ⟨rfl, rfl⟩ := he
        have ck := hcell k (by rw [half_len]; exact hlt)
        rw [half_gt hlt, Nat.zero_add] at ck
        have fk := hk1.free k
        have hr := rng_gt h.rng hlt
        have Hk1 := hid hk1
        clear hcell hk1 hown hg3
        go_wp2_with (go_at_call 26; (with_reducible refine (rupper_c _ _ hr).mono ?_); rintro e w' ⟨rfl, rfl⟩)
        go_roundw
        case rel =>
          refine ⟨k + 1, by omega, by go_num, ?_, hk2.setCell (by simpa using hg1) _⟩
          rw [← half_set hlt]
          exact Hk1.out.stored k (up (gt l k)) (up_rng hr)
        case measure => simp [intOf]; omega
    · go_wp2
      go_ret
      rw [half_all up l (show l.length ≤ k from by omega)] at hk1
      exact ⟨_, _, by rw [List.length_map]; rfl, hk1, hk2⟩

set_option maxHeartbeats 800000 in
theorem rcase2_c (a : Option Addr) (c : Nat) (l : List Int) (w : World) (h : Sl w a l) :
    Calls Try.prog 19 #[.slice a l.length c, .int .i64 2] w (Makes w (l.map lo)) := by
  have hl := h.len
  go_enter Try.func19, Try.ntmps19
  go_wp2_with (at_builtin; refine wpL_app rfl _ _ rfl w.heap.size none a 0 c [] l rfl (Own.nil _ _) rfl h (by simpa using hl) (Nat.le_refl _) ?_; intro a1 c1 w1 hown hgrow hbel; simp only [List.nil_append] at hown ⊢)
  have Hown := hid hown
  go_loopw [6] (fun i wr => ∃ k : Nat, k ≤ l.length ∧ i = .int .i64 k ∧ Own wr w.heap.size a1 c1 (half lo k l) ∧ Below w.heap.size w wr) (fun i _ => l.length - (intOf i).toNat)
  case atStart => exact ⟨0, Nat.zero_le _, rfl, by rw [half_zero]; exact Hown.out, hbel⟩
  case round =>
    obtain ⟨k, hk, rfl, hk1, hk2⟩ := hrel
    by_cases hlt : k < l.length
    · have hsh := hk1.shape
      rcases hsh with ⟨_, _, h0⟩ | ⟨g0, rfl, hg1, hg2, hg3⟩
      · have h1 := half_len lo k l
        rw [h0] at h1; simp at h1; omega
      · skip
        obtain ⟨b', o', he, hcell⟩ := hk1.sl.at (i := k) (by rw [half_len]; exact hlt)
        simp only [Option.some.injEq, Addr.mk.injEq, and_true] at he
        obtain ⟨rfl, rfl⟩ := he
        have ck := hcell k (by rw [half_len]; exact hlt)
        rw [half_gt hlt, Nat.zero_add] at ck
        have fk := hk1.free k
        have hr := rng_gt h.rng hlt
        have Hk1 := hid hk1
        clear hcell hk1 hown hg3
        go_wp2_with (go_at_call 27; (with_reducible refine (rlower_c _ _ hr).mono ?_); rintro e w' ⟨rfl, rfl⟩)
        go_roundw
        case rel =>
          refine ⟨k + 1, by omega, by go_num, ?_, hk2.setCell (by simpa using hg1) _⟩
          rw [← half_set hlt]
          exact Hk1.out.stored k (lo (gt l k)) (lo_rng hr)
        case measure => simp [intOf]; omega
    · go_wp2
      go_ret
      rw [half_all lo l (show l.length ≤ k from by omega)] at hk1
      exact ⟨_, _, by rw [List.length_map]; rfl, hk1, hk2⟩

def capk (k : Nat) (l : List Int) : List Int := if k = 0 then l else hcap l
theorem capk_len (k : Nat) (l : List Int) : (capk k l).length = l.length := by unfold capk; split <;> simp [hcap_len]
set_option maxHeartbeats 800000 in
theorem rcase3_c (a : Option Addr) (c : Nat) (l : List Int) (w : World) (h : Sl w a l) :
    Calls Try.prog 19 #[.slice a l.length c, .int .i64 3] w (Makes w (hcap l)) := by
  have hl := h.len
  go_enter Try.func19, Try.ntmps19
  go_wp2_with (at_builtin; refine wpL_app rfl _ _ rfl w.heap.size none a 0 c [] l rfl (Own.nil _ _) rfl h (by simpa using hl) (Nat.le_refl _) ?_; intro a1 c1 w1 hown hgrow hbel; simp only [List.nil_append] at hown ⊢)
  have Hown := hid hown
  go_loopw [6] (fun i wr => ∃ k : Nat, k ≤ l.length ∧ i = .int .i64 k ∧ Own wr w.heap.size a1 c1 (capk k l) ∧ Below w.heap.size w wr) (fun i _ => l.length - (intOf i).toNat)
  case atStart => exact ⟨0, Nat.zero_le _, rfl, Hown.out, hbel⟩
  case round =>
    obtain ⟨k, hk, rfl, hk1, hk2⟩ := hrel
    by_cases hlt : k < l.length
    · by_cases h0 : k = 0
      · have g0 : ((k : Int) == 0) = true := by simpa using h0
        have hsh := hk1.shape
        rcases hsh with ⟨_, _, h9⟩ | ⟨g0, rfl, hg1, hg2, hg3⟩
        · have h1 := capk_len k l
          rw [h9] at h1; simp at h1; omega
        · have H0 := hid h0; clear h0
          obtain ⟨b', o', he, hcell⟩ := hk1.sl.at (i := k) (by rw [capk_len]; exact hlt)
          simp only [Option.some.injEq, Addr.mk.injEq, and_true] at he
          obtain ⟨rfl, rfl⟩ := he
          have ck := hcell k (by rw [capk_len]; exact hlt)
          rw [show capk k l = l from by simp [capk, H0.out], Nat.zero_add] at ck
          have fk := hk1.free k
          have hr := rng_gt h.rng hlt
          have Hk1 := hid hk1
          clear hcell hk1 hown hg3
          go_wp2_with (go_at_call 26; (with_reducible refine (rupper_c _ _ hr).mono ?_); rintro e w' ⟨rfl, rfl⟩)
          go_roundw
          case rel =>
            refine ⟨k + 1, by omega, by go_num, ?_, hk2.setCell (by simpa using hg1) _⟩
            have e : capk (k + 1) l = (capk k l).set k (up (gt l k)) := by
              have := H0.out
              simp only [capk, this, if_true]; rw [if_neg (by omega)]; exact hcap_set (by omega)
            rw [e]
            exact Hk1.out.stored k (up (gt l k)) (up_rng hr)
          case measure => simp [intOf]; omega
      · have g0 : ((k : Int) == 0) = false := by simpa using h0
        have Hk1 := hid hk1
        have H0 := hid h0
        clear hk1 hown h0
        go_wp2
        go_roundw
        case rel => exact ⟨k + 1, by omega, by go_num, (by have := Hk1.out; simpa [capk, H0.out] using this), hk2⟩
        case measure => simp [intOf]; omega
    · go_wp2
      go_ret
      have e : capk k l = hcap l := by
        unfold capk; split
        · have : l = [] := List.length_eq_zero_iff.1 (by omega)
          subst this; rfl
        · rfl
      rw [e] at hk1
      exact ⟨_, _, by rw [hcap_len]; rfl, hk1, hk2⟩
set_option maxHeartbeats 800000 in
theorem rcaseo_c (a : Option Addr) (c : Nat) (l : List Int) (how : Int) (w : World) (h : Sl w a l)
    (g1 : (how == 1) = false) (g2 : (how == 2) = false) (g3 : (how == 3) = false) (g4 : (how == 4) = false) (g5 : (how == 5) = false) :
    Calls Try.prog 19 #[.slice a l.length c, .int .i64 how] w (Makes w l) := by
  have hl := h.len
  go_enter Try.func19, Try.ntmps19
  go_wp2_with (at_builtin; refine wpL_app rfl _ _ rfl w.heap.size none a 0 c [] l rfl (Own.nil _ _) rfl h (by simpa using hl) (Nat.le_refl _) ?_; intro a1 c1 w1 hown hgrow hbel; simp only [List.nil_append] at hown ⊢)
  have Hown := hid hown
  go_loopw [6] (fun i wr => ∃ k : Nat, k ≤ l.length ∧ i = .int .i64 k ∧ wr = w1) (fun i _ => l.length - (intOf i).toNat)
  case atStart => exact ⟨0, Nat.zero_le _, rfl, rfl⟩
  case round =>
    obtain ⟨k, hk, rfl, rfl⟩ := hrel
    clear hown
    by_cases hlt : k < l.length
    · go_wp2
      go_roundw
      case rel => exact ⟨k + 1, by omega, by go_num, by first | rfl | trivial⟩
      case measure => simp [intOf]; omega
    · go_wp2
      go_ret
      exact ⟨_, _, rfl, Hown.out, hbel⟩
set_option maxHeartbeats 800000 in
theorem rcasep_c (a : Option Addr) (c : Nat) (l : List Int) (how : Int) (hh : how = 4 ∨ how = 5) (w : World) (h : Sl w a l) :
    Calls Try.prog 19 #[.slice a l.length c, .int .i64 how] w (Makes w (cas l how)) := by
  have hl := h.len
  rcases hh with rfl | rfl
  · have e : cas l 4 = pas (if false = true then lo else up) l := rfl
    rw [e]
    go_enter Try.func19, Try.ntmps19
    go_wp2_with (first | (at_builtin; refine wpL_app rfl _ _ rfl w.heap.size none a 0 c [] l rfl (Own.nil _ _) rfl h (by simpa using hl) (Nat.le_refl _) ?_; intro a1 c1 w1 hown hgrow hbel; simp only [List.nil_append] at hown ⊢) | (go_at_call 35; refine (pascal_c _ _ _ _ _ (h.bel hbel)).mono ?_; rintro e w2 hmk; obtain ⟨a2, c2, rfl, hown2, hbel2⟩ := hmk))
    go_ret
    exact Makes.of hbel ⟨_, _, rfl, hown2, hbel2⟩
  · have e : cas l 5 = pas (if true = true then lo else up) l := rfl
    rw [e]
    go_enter Try.func19, Try.ntmps19
    go_wp2_with (first | (at_builtin; refine wpL_app rfl _ _ rfl w.heap.size none a 0 c [] l rfl (Own.nil _ _) rfl h (by simpa using hl) (Nat.le_refl _) ?_; intro a1 c1 w1 hown hgrow hbel; simp only [List.nil_append] at hown ⊢) | (go_at_call 35; refine (pascal_c _ _ _ _ _ (h.bel hbel)).mono ?_; rintro e w2 hmk; obtain ⟨a2, c2, rfl, hown2, hbel2⟩ := hmk))
    go_ret
    exact Makes.of hbel ⟨_, _, rfl, hown2, hbel2⟩
theorem rcase_c (a : Option Addr) (c : Nat) (l : List Int) (how : Int) (w : World) (h : Sl w a l) :
    Calls Try.prog 19 #[.slice a l.length c, .int .i64 how] w (Makes w (cas l how)) := by
  by_cases h1 : how = 1
  · subst h1; exact rcase1_c a c l w h
  by_cases h2 : how = 2
  · subst h2; exact rcase2_c a c l w h
  by_cases h3 : how = 3
  · subst h3; exact rcase3_c a c l w h
  by_cases h4 : how = 4
  · exact rcasep_c a c l how (.inl h4) w h
  by_cases h5 : how = 5
  · exact rcasep_c a c l how (.inr h5) w h
  rw [cas_other h1 h2 h3 h4 h5]
  exact rcaseo_c a c l how w h (by simpa using h1) (by simpa using h2) (by simpa using h3) (by simpa using h4) (by simpa using h5)
end Go.Proofs.Ytfjcojkmlbaifaa
