/- Package tabs: isHome (both), turn, cmp.Compare at uint, the order handed to the sort. -/
import Derived.Test.YthkkpcfmifhllaaSrE
import Derived.Test.YthkkpcfmifhllaaFld
import Derived.Test.YthkkpcfmifhllaaTbN
namespace Go.Proofs.Ythkkpcfmifhllaa
open Go.RowKit Go.ChangeShapes

/-- a field as a value -/
def Fl.val (m : Fl) : Value := .agg (encFl.v m).toArray
/-- when a number has its turn -/
def trn (x : Int) : Int := if x ≤ 0 then x + 18446744073709551615 else x - 1
theorem trn_rng {x : Int} (h : -9223372036854775808 ≤ x ∧ x ≤ 9223372036854775807) : 0 ≤ trn x ∧ trn x ≤ 18446744073709551615 := by unfold trn; split <;> omega

set_option maxRecDepth 20000 in
set_option maxHeartbeats 4000000 in
theorem turn_c (w : World) (x : Int) (h : -9223372036854775808 ≤ x ∧ x ≤ 9223372036854775807) :
    Calls Try.prog 20 #[.int .i64 x] w fun e w' => e = .returned (.int .u64 (trn x)) ∧ w' = w := by
  go_enter Try.func20, Try.ntmps20
  go_wp2
  go_ret
  refine ⟨?_, rfl⟩
  have e : IntKind.u64.wrap (IntKind.u64.wrap x - 1) = trn x := by
    rw [IntKind.wrap_u64, IntKind.wrap_u64]; unfold trn; split <;> omega
  show Ending.returned (.int .u64 _) = _
  rw [e]
/-- what cmp.Compare tells -/
def cmI (x y : Int) : Int := if x < y then -1 else if y < x then 1 else 0
theorem cfv_eq (K : Int → Int) (x y : Int) : cfv K x y = cmI (K x) (K y) := rfl
set_option maxRecDepth 20000 in
set_option maxHeartbeats 4000000 in
theorem isnan_c (w : World) (x : Int) : Calls Try.prog 24 #[.int .u64 x] w fun e w' => e = .returned (.bool false) ∧ w' = w := by
  go_enter Try.func24, Try.ntmps24
  have hx : (x != x) = false := by simp
  go_wp2
  go_ret
  exact ⟨by first | rfl | simp, rfl⟩
set_option maxRecDepth 20000 in
set_option maxHeartbeats 4000000 in
theorem compare_c (w : World) (x y : Int) : Calls Try.prog 19 #[.int .u64 x, .int .u64 y] w fun e w' => e = .returned (.int .i64 (cmI x y)) ∧ w' = w := by
  go_enter Try.func19, Try.ntmps19
  by_cases h1 : x < y
  · have e : cmI x y = -1 := by unfold cmI; rw [if_pos h1]
    have He := hid e; clear e
    go_wp2_with (first | (go_at_call 24; (with_reducible refine (isnan_c _ _).mono ?_); rintro e w' ⟨rfl, rfl⟩))
    go_ret
    rw [He.out]; exact ⟨rfl, rfl⟩
  · by_cases h2 : y < x
    · have e : cmI x y = 1 := by unfold cmI; rw [if_neg h1, if_pos h2]
      have He := hid e; clear e
      go_wp2_with (first | (go_at_call 24; (with_reducible refine (isnan_c _ _).mono ?_); rintro e w' ⟨rfl, rfl⟩))
      go_ret
      rw [He.out]; exact ⟨rfl, rfl⟩
    · have e : cmI x y = 0 := by unfold cmI; rw [if_neg h1, if_neg h2]
      have He := hid e; clear e
      go_wp2_with (first | (go_at_call 24; (with_reducible refine (isnan_c _ _).mono ?_); rintro e w' ⟨rfl, rfl⟩))
      go_ret
      rw [He.out]; exact ⟨rfl, rfl⟩
/-- the key of a field, by its place -/
def keyF (l : List Fl) (x : Int) : Int := trn (rgt l x.toNat).num
theorem fl_num {w : World} {a : Option Addr} {l : List Fl} (h : RSl encFl w a l) {i : Nat} (hi : i < l.length) :
    ∃ b off, a = some ⟨b, off, none⟩ ∧ w.cell? ⟨b, off + i * 11, none⟩ = some (.int .i64 (rgt l i).kind) ∧ w.cell? ⟨b, off + i * 11 + 1, none⟩ = some (.int .i64 (rgt l i).num) := by
  obtain ⟨b, off, ha, hc⟩ := h.at hi
  have h := rec_fl (hc i hi)
  exact ⟨b, off, ha, h.1, h.2.1⟩
/-- fields whose numbers are ints -/
def OkF (l : List Fl) : Prop := ∀ m, m ∈ l → FlOk m
theorem OkF.num {l : List Fl} (h : OkF l) {i : Nat} (hi : i < l.length) : -9223372036854775808 ≤ (rgt l i).num ∧ (rgt l i).num ≤ 9223372036854775807 := (h _ (rgt_mem hi)).2
theorem OkF.kind {l : List Fl} (h : OkF l) {i : Nat} (hi : i < l.length) : -9223372036854775808 ≤ (rgt l i).kind ∧ (rgt l i).kind ≤ 9223372036854775807 := (h _ (rgt_mem hi)).1
set_option maxRecDepth 20000 in
set_option maxHeartbeats 4000000 in
theorem closure_c (w : World) (q c : Nat) (a : Option Addr) (l : List Fl) (x y : Int) (hq : w.cell? ⟨q, 0, none⟩ = some (.slice a l.length c)) (hl : RSl encFl w a l) (hok : OkF l) (hx : 0 ≤ x) (hx2 : x < l.length) (hy : 0 ≤ y) (hy2 : y < l.length) :
    Calls Try.prog 18 #[.int .i64 x, .int .i64 y, .pointer (some ⟨q, 0, none⟩)] w fun e w' => e = .returned (.int .i64 (cfv (keyF l) x y)) ∧ ∃ k, w' = w.drewN k := by
  obtain ⟨i, rfl⟩ : ∃ i : Nat, x = i := ⟨x.toNat, by omega⟩
  obtain ⟨j, rfl⟩ : ∃ j : Nat, y = j := ⟨y.toNat, by omega⟩
  obtain ⟨b, off, rfl, _, c1⟩ := fl_num hl (i := i) (by omega)
  obtain ⟨b', off', he, _, c2⟩ := fl_num hl (i := j) (by omega)
  simp only [Option.some.injEq, Addr.mk.injEq, and_true] at he
  obtain ⟨rfl, rfl⟩ := he
  have r1 := hid (hok.num (i := i) (by omega))
  have r2 := hid (hok.num (i := j) (by omega))
  have hln : l.length ≤ 1099511627776 := hl.len
  obtain ⟨X, hX⟩ : ∃ X, X = (rgt l i).num := ⟨_, rfl⟩
  obtain ⟨Y, hY⟩ : ∃ Y, Y = (rgt l j).num := ⟨_, rfl⟩
  obtain ⟨V, hV⟩ : ∃ V, V = cfv (keyF l) i j := ⟨_, rfl⟩
  have e : V = cmI (trn X) (trn Y) := by rw [hV, hX, hY]; rfl
  rw [← hV]
  rw [← hX] at c1 r1
  rw [← hY] at c2 r2
  rw [e]
  clear hX hY hV e hl hok V
  go_enter Try.func18, Try.ntmps18
  go_wp2
  go_quiet (first | (go_at_call 20; (with_reducible refine Calls.quiet_of_same (turn_c _ _ ?_)); first | exact r1.out | exact r2.out) | (go_at_call 19; exact Calls.quiet_of_same (compare_c _ _ _)))
  go_wp2
  go_ret
  exact ⟨rfl, _, rfl⟩
end Go.Proofs.Ythkkpcfmifhllaa
