/- Package standishkeep and the plain lists of standishref1: what is lent, kept, spoilt; Cut, Clean, Index, Join. (A seat of layer 1 takes SignsK in its stead.) -/
import Derived.Test.YtijhkpbnalnpbaaDoorSignsL
namespace Go.Proofs.YtijhkpbnalnpbaaDoor
open Go.RowKit

def half (g : Int → Int) (k : Nat) (l : List Int) : List Int := (l.take k).map g ++ l.drop k
theorem half_len (g : Int → Int) (k : Nat) (l : List Int) : (half g k l).length = l.length := by simp [half]; omega
theorem half_gt {g : Int → Int} {k : Nat} {l : List Int} (hk : k < l.length) : gt (half g k l) k = gt l k := by
  unfold half; rw [gt_app_right (by simp; omega)]
  simp only [List.length_map, List.length_take]
  rw [Nat.min_eq_left (by omega), Nat.sub_self, gt_get (by simp; omega), gt_get hk]; simp
theorem half_set {g : Int → Int} {k : Nat} {l : List Int} (hk : k < l.length) : (half g k l).set k (g (gt l k)) = half g (k + 1) l := by
  unfold half
  have e : ((l.take k).map g).length = k := by simp; omega
  rw [List.set_append_right _ _ (by omega), e, Nat.sub_self, drop_cons hk, List.set_cons_zero, take_succ hk]
  simp
theorem half_zero (g : Int → Int) (l : List Int) : half g 0 l = l := by simp [half]
theorem half_all (g : Int → Int) (l : List Int) {k : Nat} (h : l.length ≤ k) : half g k l = l.map g := by
  simp [half, List.take_of_length_le h, List.drop_of_length_le h]


theorem Own.alloc {w : World} {base : Nat} {a : Option Addr} {c : Nat} {l : List Int} (h : Own w base a c l) (o : Obj) : Own (w.alloc o) base a c l := ⟨h.1.alloc o, h.2⟩
theorem Makes.of {w w1 w' : World} {l : List Int} {e : Ending} (hb : Below w.heap.size w w1) (h : Makes w1 l e w') : Makes w l e w' := by
  obtain ⟨a, c, he, hown, hbel⟩ := h
  exact ⟨a, c, he, hown.base_le hb.size, hb.trans (hbel.mono hb.size)⟩

def Lends (w : World) (l : List Int) (e : Ending) (w' : World) : Prop :=
  ∃ g c, e = .returned (.slice (some ⟨g, 0, none⟩) l.length c) ∧ l.length + 2 ≤ c ∧ w.heap.size ≤ g ∧ Own w' w.heap.size (some ⟨g, 0, none⟩) c (l ++ [-77, -78]) ∧ Below w.heap.size w w'

set_option maxHeartbeats 400000 in
theorem spoil_c (base : Nat) (a : Option Addr) (c : Nat) (l : List Int) (w : World) (h : Own w base a c l) :
    Calls Tryd.prog 21 #[.slice a l.length c] w fun e w' => e = .returned (.tuple #[]) ∧ Below base w w' := by
  have hl := h.2.2
  go_enter Tryd.func21, Tryd.ntmps21
  go_wp2
  go_loopw [2] (fun i wr => ∃ k : Nat, k ≤ l.length ∧ i = .int .i64 k ∧ Own wr base a c (half (fun _ => -9) k l) ∧ Below base w wr) (fun i _ => l.length - (intOf i).toNat)
  case atStart => exact ⟨0, Nat.zero_le _, rfl, by rw [half_zero]; exact h, Below.refl _ _⟩
  case round =>
    obtain ⟨k, hk, rfl, hk1, hk2⟩ := hrel
    by_cases hlt : k < l.length
    · have hsh := hk1.shape
      rcases hsh with ⟨_, _, h0⟩ | ⟨g0, rfl, hg1, hg2, hg3⟩
      · have h1 := half_len (fun _ => -9) k l
        rw [h0] at h1; simp at h1; omega
      · obtain ⟨b', o', he, hcell⟩ := hk1.sl.at (i := k) (by rw [half_len]; exact hlt)
        simp only [Option.some.injEq, Addr.mk.injEq, and_true] at he
        obtain ⟨rfl, rfl⟩ := he
        have ck := hcell k (by rw [half_len]; exact hlt)
        rw [half_gt hlt, Nat.zero_add] at ck
        have fk := hk1.free k
        have Hk1 := hid hk1
        have H := hid h
        clear hcell hk1 hg3 h
        go_wp2
        go_roundw
        case rel =>
          refine ⟨k + 1, by omega, by go_num, ?_, hk2.setCell (by simpa using hg1) _⟩
          rw [← half_set hlt]
          exact Hk1.out.stored k (-9) (by omega)
        case measure => simp [intOf]; omega
    · go_wp2
      go_end0
      exact ⟨rfl, hk2⟩

/-- a longer owned slice, seen shorter -/
theorem Own.pre {w : World} {base : Nat} {g c : Nat} {l r : List Int} (h : Own w base (some ⟨g, 0, none⟩) c (l ++ r)) : Own w base (some ⟨g, 0, none⟩) c l := by
  obtain ⟨⟨h1, h2⟩, h3, h4⟩ := h
  refine ⟨⟨by simp, ?_⟩, fun x hx => h3 x (by simp [hx]), by simp at h4; omega⟩
  rcases h2 with ⟨h2, _⟩ | ⟨g', cap, cur, hv, hg, hh, hn, hm, hs, ht⟩
  · simp at h2
  · simp only [Value.slice.injEq, Option.some.injEq, Addr.mk.injEq, and_true] at hv
    obtain ⟨rfl, hl, rfl⟩ := hv
    refine .inr ⟨g, c, cur, rfl, hg, hh, by simp at hn; omega, hm, hs, ?_⟩
    have e := congrArg (List.take l.length) ht
    rw [List.take_take, List.map_append, List.take_append_of_le_length (by simp), List.length_append] at e
    rw [Nat.min_eq_left (by omega)] at e
    rw [Nat.mul_one, e, List.take_of_length_le (by simp)]

def cl1 (x : Int) : Int := if sgn x = true then x else 110
def cln (l : List Int) : List Int := l.map cl1
theorem cln_may (l : List Int) : may (cln l) = true := by
  simp only [may, cln, List.all_map, List.all_eq_true, Function.comp]
  intro x _
  unfold cl1; split
  · assumption
  · rfl
theorem cln_len (l : List Int) : (cln l).length = l.length := by simp [cln]
theorem band_le (x : Int) (m : Nat) (hm : m < 9223372036854775808) : 0 ≤ bits .and .i64 x m ∧ bits .and .i64 x m ≤ m := by
  have h1 : (BitVec.ofInt 64 x &&& BitVec.ofInt 64 (m : Int)).toNat ≤ m := by
    rw [BitVec.toNat_and]
    refine Nat.le_trans Nat.and_le_right ?_
    rw [BitVec.ofInt_natCast, BitVec.toNat_ofNat]
    exact Nat.mod_le _ _
  have h2 : bits .and .i64 x m = IntKind.i64.wrap ((BitVec.ofInt 64 x &&& BitVec.ofInt 64 (m : Int)).toNat : Int) := rfl
  rw [h2, IntKind.wrap_i64]
  omega
set_option maxHeartbeats 400000 in
theorem index_c (k : Int) (n : Nat) (w : World) (hn : 0 < n) (hn2 : n ≤ 1000000) :
    Calls Tryd.prog 11 #[.int .i64 k, .int .i64 n] w fun e w' => (∃ i : Nat, i < n ∧ e = .returned (.int .i64 i)) ∧ w = w' := by
  have hb := band_le k 4294967295 (by decide)
  rw [show ((4294967295 : Nat) : Int) = 4294967295 from rfl] at hb
  obtain ⟨m, hm⟩ := Int.eq_ofNat_of_zero_le hb.1
  rw [hm] at hb
  have hx : (bits .and .i64 k 4294967295).tmod n = ((m % n : Nat) : Int) := by rw [hm]; rfl
  have Hx := hid hx
  clear hx
  go_enter Tryd.func11, Tryd.ntmps11
  go_wp2
  go_ret
  refine ⟨⟨m % n, Nat.mod_lt _ hn, ret_int ?_⟩, rfl⟩
  first | exact Hx.out | (have := Hx.out; rw [hm] at this; exact this)

end Go.Proofs.YtijhkpbnalnpbaaDoor
