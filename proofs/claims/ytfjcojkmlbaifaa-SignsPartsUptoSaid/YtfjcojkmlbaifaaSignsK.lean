/- Contracts of layer 1: what is lent and kept; known. -/
import Derived.Test.YtfjcojkmlbaifaaSignsC
namespace Go.Proofs.Ytfjcojkmlbaifaa
open Go.RowKit

def Lends (w : World) (l : List Int) (e : Ending) (w' : World) : Prop :=
  ∃ g c, e = .returned (.slice (some ⟨g, 0, none⟩) l.length c) ∧ l.length + 2 ≤ c ∧ w.heap.size ≤ g ∧ Own w' w.heap.size (some ⟨g, 0, none⟩) c (l ++ [-77, -78]) ∧ Below w.heap.size w w'

set_option maxHeartbeats 400000 in
theorem lend_c (a : Option Addr) (c : Nat) (l : List Int) (w : World) (h : Sl w a l) (hb : l.length ≤ 35184372088830) :
    Calls Try.prog 11 #[.slice a l.length c] w (Lends w l) := by
  have hl := h.len
  go_enter Try.func11, Try.ntmps11
  go_wp2_with (first | (at_builtin; refine wpL_app rfl (.const (.slice none 0 0)) (.tmp 4) rfl w.heap.size none a 0 c [] l rfl (Own.nil _ _) rfl h (by simpa using hl) (Nat.le_refl _) ?_; intro a1 c1 w1 hown hgrow hbel; simp only [List.nil_append] at hown ⊢; have Hown := hid hown; clear hown hgrow; have hs := hbel.size) | (at_builtin; refine wpL_app rfl (.tmp 5) (.tmp 6) rfl w.heap.size a1 (some ⟨w1.heap.size, 0, none⟩) c1 2 l [-77, -78] rfl (Hown.out.alloc _) rfl (Sl.lit' w1 [-77, -78] _ _ rfl (by simp) (by simp [rng]) _ rfl) (by simp; omega) (by simp; omega) ?_))
  intro a2 c2 w2 hown hgrow hbel2
  rcases hown.shape with ⟨_, _, h0⟩ | ⟨g0, rfl, hg1, hg2, hg3⟩
  · simp at h0
  · have Hown2 := hid hown; clear hown hgrow
    have hg4 : l.length + 2 ≤ c2 := by simpa using hg3
    have hc : l.length < c2 := by omega
    go_wp2
    go_ret
    exact ⟨_, _, rfl, hg4, hg1, Hown2.out, (bal hbel _).trans hbel2⟩

set_option maxHeartbeats 400000 in
theorem spoil_c (base : Nat) (a : Option Addr) (c : Nat) (l : List Int) (w : World) (h : Own w base a c l) :
    Calls Try.prog 20 #[.slice a l.length c] w fun e w' => e = .returned (.tuple #[]) ∧ Below base w w' := by
  have hl := h.2.2
  go_enter Try.func20, Try.ntmps20
  go_wp2
  go_loopw [2] (fun i wr => ∃ k : Nat, k ≤ l.length ∧ i = .int .i64 k ∧ Own wr base a c (half (fun _ => -9) k l) ∧ Below base w wr) (fun i _ => l.length - (intOf i).toNat)
  case atStart => exact ⟨0, Nat.zero_le _, rfl, by rw [half_zero]; exact h, Below.refl _ _⟩
  case round =>
    obtain ⟨k, hk, rfl, hk1, hk2⟩ := hrel
    by_cases hlt : k < l.length
    · have hsh := hk1.shape
      rcases hsh with ⟨_, _, h0⟩ | ⟨g0, rfl, hg1, hg2, hg3⟩
      · have h1 := half_len (fun _ => -9) k l
        rw [h0] at h1; simp at h1; omega
      · obtain ⟨b', o', he, hcell⟩ := hk1.sl.at (i := k) (by rw [half_len]; exact hlt)
        simp only [Option.some.injEq, Addr.mk.injEq, and_true] at he
        obtain ⟨rfl, rfl⟩ := he
        have ck := hcell k (by rw [half_len]; exact hlt)
        rw [half_gt hlt, Nat.zero_add] at ck
        have fk := hk1.free k
        have Hk1 := hid hk1
        have H := hid h
        clear hcell hk1 hg3 h
        go_wp2
        go_roundw
        case rel =>
          refine ⟨k + 1, by omega, by go_num, ?_, hk2.setCell (by simpa using hg1) _⟩
          rw [← half_set hlt]
          exact Hk1.out.stored k (-9) (by omega)
        case measure => simp [intOf]; omega
    · go_wp2
      go_end0
      exact ⟨rfl, hk2⟩

set_option maxHeartbeats 400000 in
theorem kept_c (g c : Nat) (a2 : Option Addr) (c2 : Nat) (l : List Int) (w : World) (h : Sl w (some ⟨g, 0, none⟩) (l ++ [-77, -78])) (hc : l.length + 2 ≤ c) (h2 : Sl w a2 l) :
    Calls Try.prog 21 #[.slice (some ⟨g, 0, none⟩) l.length c, .slice a2 l.length c2] w fun e w' => e = .returned (.bool true) ∧ ∃ n, w' = w.drewN n := by
  have hl := h.len
  simp at hl
  have hx : Sl w (some ⟨g, 0, none⟩) l := by have := h.take l.length; simpa using this
  obtain ⟨b', o', he, hcell⟩ := h.at (i := l.length) (by simp)
  simp only [Option.some.injEq, Addr.mk.injEq, and_true] at he
  obtain ⟨rfl, rfl⟩ := he
  have ck1 := hcell l.length (by simp)
  have ck2 := hcell (l.length + 1) (by simp)
  have e1 : gt (l ++ [-77, -78]) l.length = -77 := by rw [gt_app_right (Nat.le_refl _)]; simp [gt]
  have e2 : gt (l ++ [-77, -78]) (l.length + 1) = -78 := by rw [gt_app_right (by omega)]; simp [gt]
  rw [e1, Nat.zero_add] at ck1
  rw [e2, Nat.zero_add] at ck2
  have he : eqM l l = true := by simp [eqM]
  clear e1 e2 hcell
  go_enter Try.func21, Try.ntmps21
  go_wp2_with (go_at_call 15; refine (rsame_c _ _ _ _ _ _ _ hx h2).mono ?_; rintro e w' ⟨rfl, n, rfl⟩)
  go_ret
  exact ⟨rfl, _, rfl⟩

set_option maxHeartbeats 1000000 in
theorem known_c (w : World) : Calls Try.prog 10 #[] w fun e w' => e = .returned (.bool true) ∧ Below w.heap.size w w' := by
  have m1 : may [97, 1114111] = true := by decide
  have m2 : may [55296] = false := by decide
  have k1 : cls 95 = 3 := by decide
  have k2 : cls (-1) = 0 := by decide
  have k3 : up 97 = 65 := by decide
  have k4 : lo 65 = 97 := by decide
  have p1 : cas [97, 45, 98, 95, 99] 4 = [65, 66, 67] := by decide
  have p2 : cas [88, 121, 32, 233] 5 = [120, 121, 201] := by decide
  have q1 : eqM [65, 66, 67] [65, 66, 67] = true := by decide
  have q2 : eqM [120, 121, 201] [120, 121, 201] = true := by decide
  have r1 : less [] [65, 66, 67] = true := by decide
  go_enter Try.func10, Try.ntmps10
  go_wp2_with fail
  refine (case_c _ _ [97, 45, 98, 95, 99] _ _ (Sl.lit' _ [97, 45, 98, 95, 99] _ _ (by simp) (by simp) (by simp [rng]) _ rfl)).mono ?_
  rintro e w1 ⟨a1, c1, rfl, hown1, hbel1⟩
  rw [p1] at hown1 ⊢
  have s1 := hown1.sl
  have Hown1 := hid hown1; clear hown1
  go_wp2_with fail
  refine (case_c _ _ [88, 121, 32, 233] _ _ (Sl.lit' _ [88, 121, 32, 233] _ _ (by simp) (by simp) (by simp [rng]) _ rfl)).mono ?_
  rintro e w2 ⟨a2, c2, rfl, hown2, hbel2⟩
  rw [p2] at hown2 ⊢
  have s2 := hown2.sl
  have Hown2 := hid hown2; clear hown2
  go_wp2_with fail
  refine (may_c _ _ [97, 1114111] _ (Sl.lit' _ [97, 1114111] _ _ (by simp) (by simp) (by simp [rng]) _ rfl)).mono ?_
  rintro e w' ⟨rfl, rfl⟩
  go_wp2_with fail
  refine (may_c _ _ [55296] _ (Sl.lit' _ [55296] _ _ (by simp) (by simp) (by simp [rng]) _ rfl)).mono ?_
  rintro e w' ⟨rfl, rfl⟩
  go_wp2_with (first | (go_at_call 24; (with_reducible refine (class_c _ _).mono ?_); rintro e w' ⟨rfl, rfl⟩) | (go_at_call 22; (with_reducible refine (upper_c _ _ (by omega)).mono ?_); rintro e w' ⟨rfl, rfl⟩) | (go_at_call 23; (with_reducible refine (lower_c _ _ (by omega)).mono ?_); rintro e w' ⟨rfl, rfl⟩))
  refine (rsame_c _ _ _ _ [65, 66, 67] [65, 66, 67] _ (by (repeat' (first | assumption | exact Sl.nil _ _ | refine Sl.drewN ?_ _ | refine Sl.drew ?_ | refine Sl.alloc ?_ _ | refine Sl.bel ?_ (by assumption)))) (Sl.lit' _ [65, 66, 67] _ _ (by simp) (by simp) (by simp [rng]) _ rfl)).mono ?_
  rintro e w' ⟨rfl, n1, rfl⟩
  rw [q1]
  go_wp2_with fail
  refine (rsame_c _ _ _ _ [120, 121, 201] [120, 121, 201] _ (by (repeat' (first | assumption | exact Sl.nil _ _ | refine Sl.drewN ?_ _ | refine Sl.drew ?_ | refine Sl.alloc ?_ _ | refine Sl.bel ?_ (by assumption)))) (by first | exact (Sl.lit' _ [120, 121, 201] _ _ (by simp) (by simp) (by simp [rng]) _ rfl) | exact Sl.drewN (Sl.lit' _ [120, 121, 201] _ _ (by simp) (by simp) (by simp [rng]) _ rfl) _)).mono ?_
  rintro e w' ⟨rfl, n2, rfl⟩
  rw [q2]
  go_wp2_with fail
  refine (less_c _ _ _ _ [] [65, 66, 67] _ (Sl.nil _ _) (by (repeat' (first | assumption | exact Sl.nil _ _ | refine Sl.drewN ?_ _ | refine Sl.drew ?_ | refine Sl.alloc ?_ _ | refine Sl.bel ?_ (by assumption))))).mono ?_
  rintro e w' ⟨rfl, rfl⟩
  rw [r1]
  go_wp2
  go_ret
  exact ⟨rfl, by (repeat' (first | exact Below.refl _ _ | assumption | refine bdrewN ?_ _ | refine Below.drew ?_ | refine bal ?_ _ | refine bthen ?_ (by assumption)))⟩
end Go.Proofs.Ytfjcojkmlbaifaa
