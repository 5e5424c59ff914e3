/- Layer 4's law: back. -/
import Derived.Test.YtcekoifbgfeahaaLla
namespace Go.Proofs.Ytcekoifbgfeahaa
open Go.RowKit

theorem lsc_nx_ge {l : List Int} {i : Nat} (h : i ≤ l.length) : i ≤ nx l (lsc l i).2 := by
  rcases Nat.lt_or_ge (nx l (lsc l i).2) i with h1 | h1
  · exact absurd (nx_at (by omega)) (lsc_no (nx_ge _ _) h1)
  · exact h1

set_option maxHeartbeats 4000000 in
theorem back_l (a : Option Addr) (c : Nat) (l : List Int) (x1 : Int) (W : World) (h : Sl W a l) (hlc : l.length ≤ c) (hln : l.length ≤ 35184372087808) :
    Calls Try.prog 6 #[.slice a l.length c, .int .i64 x1] W fun e W' => e = .returned (.bool true) ∧ Below W.heap.size W W' := by
  have S := hid (show ∀ w', Below W.heap.size W w' → Sl w' a l from fun w' hb => h.bel hb)
  clear h
  go_enter Try.func6, Try.ntmps6
  go_wp2_with fail
  refine (index_i x1 _ _ (by omega) (by omega)).mono ?_
  rintro e w' ⟨⟨i, hi, rfl⟩, rfl⟩
  have hil : i ≤ l.length := by omega
  have e0 : lpB l i = true := by simp [lpB]; omega
  have e1 : lpL l i = (lsc l i).1 := by simp [lpL, e0]
  have e2 : lpC l i = i - (lsc l i).2 := by simp [lpC, e0]
  have e3 : lpE l i = 0 := by simp [lpE, e0]
  have hst := (lin_nat l (lsc l i).1).trans (lsc_st hil)
  have hg1 := lsc_nx_ge hil
  have hg2 := lsc_le l i
  have hg3 := nx_le (l := l) (a := (lsc l i).2) (by omega)
  have hg4 := lsc_pre l i
  have hg5 : nx l (lsc l i).2 < l.length → gt l (nx l (lsc l i).2) = 10 := nx_at
  have f1 : lsV l (lsc l i).1 = (lsc l i).2 := by simp [lsV, hst]
  have f2 : lsE l (lsc l i).1 = 0 := by simp [lsE, hst]
  have f3 : lwV l (lsc l i).1 = nx l (lsc l i).2 - (lsc l i).2 := by simp [lwV, hst]
  have f4 : loV l (lsc l i).1 (i - (lsc l i).2) = i := by
    have : loB l (lsc l i).1 (i - (lsc l i).2) = true := by simp only [loB, hst, f3, decide_eq_true_eq]; refine ⟨rfl, ?_, ?_⟩ <;> omega
    simp only [loV, this, if_true, f1]; omega
  have f5 : loE l (lsc l i).1 (i - (lsc l i).2) = 0 := by
    have : loB l (lsc l i).1 (i - (lsc l i).2) = true := by simp only [loB, hst, f3, decide_eq_true_eq]; refine ⟨rfl, ?_, ?_⟩ <;> omega
    simp only [loE, this, if_true]
  have f6 : loE l (lsc l i).1 ((nx l (lsc l i).2 : Int) - (lsc l i).2 + 1) = 2 := by
    have : loB l (lsc l i).1 ((nx l (lsc l i).2 : Int) - (lsc l i).2 + 1) = false := by simp only [loB, hst, f3, decide_eq_false_iff_not]; omega
    simp only [loE, this]; rfl
  have f7 : ((nx l (lsc l i).2 - (lsc l i).2 : Nat) : Int) = (nx l (lsc l i).2 : Int) - (lsc l i).2 := by omega
  generalize (lsc l i).1 = n at *
  generalize (lsc l i).2 = f at *
  generalize nx l f = m at *
  have E := hid (And.intro e1 (And.intro e2 e3))
  have F := hid (And.intro f1 (And.intro f2 (And.intro f3 (And.intro f4 (And.intro f5 f6)))))
  have F7 := hid f7
  clear e0 e1 e2 e3 f1 f2 f3 f4 f5 f6 f7 hst
  have G4 := hid hg4
  have G5 := hid hg5
  clear hg4 hg5
  go_wp2_with fail
  refine (place_c a c l i W (S.out _ (Below.refl _ _)) hlc).mono ?_
  rw [E.out.1, E.out.2.1, E.out.2.2]
  rintro e w' ⟨rfl, rfl⟩
  go_wp2_with fail
  refine (offset_c a c l n (i - f) W (S.out _ (Below.refl _ _)) (by omega)).mono ?_
  rw [F.out.2.2.2.1, F.out.2.2.2.2.1]
  rintro e w1 ⟨rfl, hx1⟩
  go_wp2_with fail
  refine (start_c a c l n w1 (S.out _ hx1)).mono ?_
  rw [F.out.1, F.out.2.1]
  rintro e w2 ⟨rfl, hb2⟩
  have hx2 := bthen hx1 hb2
  clear hb2
  go_wp2_with fail
  refine (width_c a c l n w2 (S.out _ hx2)).mono ?_
  rw [F.out.2.2.1, F.out.2.1, F7.out]
  rintro e w3 ⟨rfl, hb3⟩
  have hx3 := bthen hx2 hb3
  clear hb3
  have b1 : ((f : Int) + (i - f) != i) = false := by simp; omega
  go_wp2_with fail
  refine (offset_c a c l n (m - f + 1) w3 (S.out _ hx3) (by omega)).mono ?_
  rw [F.out.2.2.2.2.2]
  generalize loV l n (m - f + 1) = y
  rintro e w4 ⟨rfl, hb4⟩
  have hx4 := bthen hx3 hb4
  clear hb4
  have Sx := S.out _ hx4
  have c3 : ((f : Int) + (m - f)) = m := by omega
  by_cases hm : m = l.length
  · have c1 : ((f : Int) + (m - f) == l.length) = true := by simp; omega
    by_cases hf : f = 0
    · have c2 : ((f : Int) == 0) = true := by simp; omega
      go_wp2_with fail
      refine (known_l w4).mono ?_
      rintro e w5 ⟨rfl, hb5⟩
      have hx5 := bthen hx4 hb5
      go_wp2
      go_ret
      exact ⟨rfl, hx5⟩
    · have c2 : ((f : Int) == 0) = false := by simp; omega
      obtain ⟨b, o, rfl, hc⟩ := Sx.at (i := f - 1) (by omega)
      have ck := hc (f - 1) (by omega)
      rw [show gt l (f - 1) = 10 from by rcases G4.out with h | h; omega; exact h] at ck
      clear hc
      go_wp2_with fail
      refine (known_l w4).mono ?_
      rintro e w5 ⟨rfl, hb5⟩
      have hx5 := bthen hx4 hb5
      go_wp2
      go_ret
      exact ⟨rfl, hx5⟩
  · have c1 : ((f : Int) + (m - f) == l.length) = false := by simp; omega
    have c4 : ((m : Int) == l.length) = false := by simp; omega
    obtain ⟨b, o, rfl, hc⟩ := Sx.at (i := m) (by omega)
    have cm := hc m (by omega)
    rw [G5.out (by omega)] at cm
    by_cases hf : f = 0
    · subst hf
      go_wp2_with fail
      refine (known_l w4).mono ?_
      rintro e w5 ⟨rfl, hb5⟩
      have hx5 := bthen hx4 hb5
      go_wp2
      go_ret
      exact ⟨rfl, hx5⟩
    · have c2 : ((f : Int) == 0) = false := by simp; omega
      have ck := hc (f - 1) (by omega)
      rw [show gt l (f - 1) = 10 from by rcases G4.out with h | h; omega; exact h] at ck
      clear hc
      go_wp2_with fail
      refine (known_l w4).mono ?_
      rintro e w5 ⟨rfl, hb5⟩
      have hx5 := bthen hx4 hb5
      go_wp2
      go_ret
      exact ⟨rfl, hx5⟩
end Go.Proofs.Ytcekoifbgfeahaa
