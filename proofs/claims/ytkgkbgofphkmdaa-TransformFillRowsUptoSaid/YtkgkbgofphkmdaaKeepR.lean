/- Package standishkeep and the plain lists of standishref1: what is lent, kept, spoilt; Cut, Clean, Index, Join. (A seat of layer 1 takes SignsK in its stead.) -/
import Derived.Test.YtkgkbgofphkmdaaSignsL
namespace Go.Proofs.Ytkgkbgofphkmdaa
open Go.RowKit

def half (g : Int → Int) (k : Nat) (l : List Int) : List Int := (l.take k).map g ++ l.drop k
theorem half_len (g : Int → Int) (k : Nat) (l : List Int) : (half g k l).length = l.length := by simp [half]; omega
theorem half_gt {g : Int → Int} {k : Nat} {l : List Int} (hk : k < l.length) : gt (half g k l) k = gt l k := by
  unfold half; rw [gt_app_right (by simp; omega)]
  simp only [List.length_map, List.length_take]
  rw [Nat.min_eq_left (by omega), Nat.sub_self, gt_get (by simp; omega), gt_get hk]; simp
theorem half_set {g : Int → Int} {k : Nat} {l : List Int} (hk : k < l.length) : (half g k l).set k (g (gt l k)) = half g (k + 1) l := by
  unfold half
  have e : ((l.take k).map g).length = k := by simp; omega
  rw [List.set_append_right _ _ (by omega), e, Nat.sub_self, drop_cons hk, List.set_cons_zero, take_succ hk]
  simp
theorem half_zero (g : Int → Int) (l : List Int) : half g 0 l = l := by simp [half]
theorem half_all (g : Int → Int) (l : List Int) {k : Nat} (h : l.length ≤ k) : half g k l = l.map g := by
  simp [half, List.take_of_length_le h, List.drop_of_length_le h]


theorem Own.alloc {w : World} {base : Nat} {a : Option Addr} {c : Nat} {l : List Int} (h : Own w base a c l) (o : Obj) : Own (w.alloc o) base a c l := ⟨h.1.alloc o, h.2⟩
theorem Makes.of {w w1 w' : World} {l : List Int} {e : Ending} (hb : Below w.heap.size w w1) (h : Makes w1 l e w') : Makes w l e w' := by
  obtain ⟨a, c, he, hown, hbel⟩ := h
  exact ⟨a, c, he, hown.base_le hb.size, hb.trans (hbel.mono hb.size)⟩

def Lends (w : World) (l : List Int) (e : Ending) (w' : World) : Prop :=
  ∃ g c, e = .returned (.slice (some ⟨g, 0, none⟩) l.length c) ∧ l.length + 2 ≤ c ∧ w.heap.size ≤ g ∧ Own w' w.heap.size (some ⟨g, 0, none⟩) c (l ++ [-77, -78]) ∧ Below w.heap.size w w'

/-- a longer owned slice, seen shorter -/
theorem Own.pre {w : World} {base : Nat} {g c : Nat} {l r : List Int} (h : Own w base (some ⟨g, 0, none⟩) c (l ++ r)) : Own w base (some ⟨g, 0, none⟩) c l := by
  obtain ⟨⟨h1, h2⟩, h3, h4⟩ := h
  refine ⟨⟨by simp, ?_⟩, fun x hx => h3 x (by simp [hx]), by simp at h4; omega⟩
  rcases h2 with ⟨h2, _⟩ | ⟨g', cap, cur, hv, hg, hh, hn, hm, hs, ht⟩
  · simp at h2
  · simp only [Value.slice.injEq, Option.some.injEq, Addr.mk.injEq, and_true] at hv
    obtain ⟨rfl, hl, rfl⟩ := hv
    refine .inr ⟨g, c, cur, rfl, hg, hh, by simp at hn; omega, hm, hs, ?_⟩
    have e := congrArg (List.take l.length) ht
    rw [List.take_take, List.map_append, List.take_append_of_le_length (by simp), List.length_append] at e
    rw [Nat.min_eq_left (by omega)] at e
    rw [Nat.mul_one, e, List.take_of_length_le (by simp)]

def cl1 (x : Int) : Int := if sgn x = true then x else 110
def cln (l : List Int) : List Int := l.map cl1
theorem cln_may (l : List Int) : may (cln l) = true := by
  simp only [may, cln, List.all_map, List.all_eq_true, Function.comp]
  intro x _
  unfold cl1; split
  · assumption
  · rfl
theorem cln_len (l : List Int) : (cln l).length = l.length := by simp [cln]
theorem band_le (x : Int) (m : Nat) (hm : m < 9223372036854775808) : 0 ≤ bits .and .i64 x m ∧ bits .and .i64 x m ≤ m := by
  have h1 : (BitVec.ofInt 64 x &&& BitVec.ofInt 64 (m : Int)).toNat ≤ m := by
    rw [BitVec.toNat_and]
    refine Nat.le_trans Nat.and_le_right ?_
    rw [BitVec.ofInt_natCast, BitVec.toNat_ofNat]
    exact Nat.mod_le _ _
  have h2 : bits .and .i64 x m = IntKind.i64.wrap ((BitVec.ofInt 64 x &&& BitVec.ofInt 64 (m : Int)).toNat : Int) := rfl
  rw [h2, IntKind.wrap_i64]
  omega
set_option maxHeartbeats 400000 in
theorem index_c (k : Int) (n : Nat) (w : World) (hn : 0 < n) (hn2 : n ≤ 1000000) :
    Calls Try.prog 6 #[.int .i64 k, .int .i64 n] w fun e w' => (∃ i : Nat, i < n ∧ e = .returned (.int .i64 i)) ∧ w = w' := by
  have hb := band_le k 4294967295 (by decide)
  rw [show ((4294967295 : Nat) : Int) = 4294967295 from rfl] at hb
  obtain ⟨m, hm⟩ := Int.eq_ofNat_of_zero_le hb.1
  rw [hm] at hb
  have hx : (bits .and .i64 k 4294967295).tmod n = ((m % n : Nat) : Int) := by rw [hm]; rfl
  have Hx := hid hx
  clear hx
  go_enter Try.func6, Try.ntmps6
  go_wp2
  go_ret
  refine ⟨⟨m % n, Nat.mod_lt _ hn, ret_int ?_⟩, rfl⟩
  first | exact Hx.out | (have := Hx.out; rw [hm] at this; exact this)

set_option maxHeartbeats 400000 in
theorem join_c (a1 a2 : Option Addr) (c1 c2 : Nat) (l1 l2 : List Int) (w : World) (h1 : Sl w a1 l1) (h2 : Sl w a2 l2) (hl : l1.length + l2.length ≤ 35184373137408) :
    Calls Try.prog 13 #[.slice a1 l1.length c1, .slice a2 l2.length c2] w (Makes w (l1 ++ l2)) := by
  go_enter Try.func13, Try.ntmps13
  have H1 := hid h1; have H2 := hid h2; clear h1 h2
  have e : Hid (∀ w', Below w.heap.size w w' → Sl w' a2 l2) := fun w' hb => H2.out.bel hb
  go_wp2_with (first | (at_builtin; refine wpL_app rfl (.const (.slice none 0 0)) (.tmp 5) rfl w.heap.size none a1 0 c1 [] l1 rfl (Own.nil _ _) rfl H1.out (by simpa using H1.out.len) (Nat.le_refl _) ?_; intro a3 c3 w3 hown hgrow hb3; simp only [List.nil_append] at hown ⊢; have Ho3 := hid hown; clear hown hgrow; have hz3 := hb3.size) | (at_builtin; refine wpL_app rfl (.tmp 6) (.tmp 7) rfl w.heap.size a3 a2 c3 c2 l1 l2 rfl Ho3.out rfl (e.out _ hb3) hl hz3 ?_; intro a4 c4 w4 hown hgrow hb4; have Ho4 := hid hown; clear hown hgrow))
  go_ret
  exact ⟨_, _, by rw [List.length_append]; rfl, Ho4.out, hb3.trans hb4⟩
end Go.Proofs.Ytkgkbgofphkmdaa
