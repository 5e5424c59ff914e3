/- Package standishkeep and the plain lists of standishref1: what is lent, kept, spoilt; Cut, Clean, Index, Join. (A seat of layer 1 takes SignsK in its stead.) -/
import Derived.Test.YtefgjicegbhcaaaGreatSignsL
namespace Go.Proofs.YtefgjicegbhcaaaGreat
open Go.RowKit

def half (g : Int → Int) (k : Nat) (l : List Int) : List Int := (l.take k).map g ++ l.drop k
theorem half_len (g : Int → Int) (k : Nat) (l : List Int) : (half g k l).length = l.length := by simp [half]; omega
theorem half_gt {g : Int → Int} {k : Nat} {l : List Int} (hk : k < l.length) : gt (half g k l) k = gt l k := by
  unfold half; rw [gt_app_right (by simp; omega)]
  simp only [List.length_map, List.length_take]
  rw [Nat.min_eq_left (by omega), Nat.sub_self, gt_get (by simp; omega), gt_get hk]; simp
theorem half_set {g : Int → Int} {k : Nat} {l : List Int} (hk : k < l.length) : (half g k l).set k (g (gt l k)) = half g (k + 1) l := by
  unfold half
  have e : ((l.take k).map g).length = k := by simp; omega
  rw [List.set_append_right _ _ (by omega), e, Nat.sub_self, drop_cons hk, List.set_cons_zero, take_succ hk]
  simp
theorem half_zero (g : Int → Int) (l : List Int) : half g 0 l = l := by simp [half]
theorem half_all (g : Int → Int) (l : List Int) {k : Nat} (h : l.length ≤ k) : half g k l = l.map g := by
  simp [half, List.take_of_length_le h, List.drop_of_length_le h]


theorem Own.alloc {w : World} {base : Nat} {a : Option Addr} {c : Nat} {l : List Int} (h : Own w base a c l) (o : Obj) : Own (w.alloc o) base a c l := ⟨h.1.alloc o, h.2⟩
theorem Makes.of {w w1 w' : World} {l : List Int} {e : Ending} (hb : Below w.heap.size w w1) (h : Makes w1 l e w') : Makes w l e w' := by
  obtain ⟨a, c, he, hown, hbel⟩ := h
  exact ⟨a, c, he, hown.base_le hb.size, hb.trans (hbel.mono hb.size)⟩

def Lends (w : World) (l : List Int) (e : Ending) (w' : World) : Prop :=
  ∃ g c, e = .returned (.slice (some ⟨g, 0, none⟩) l.length c) ∧ l.length + 2 ≤ c ∧ w.heap.size ≤ g ∧ Own w' w.heap.size (some ⟨g, 0, none⟩) c (l ++ [-77, -78]) ∧ Below w.heap.size w w'

set_option maxHeartbeats 400000 in
theorem lend_c (a : Option Addr) (c : Nat) (l : List Int) (w : World) (h : Sl w a l) (hb : l.length ≤ 35184373137406) :
    Calls Tryz.prog 22 #[.slice a l.length c] w (Lends w l) := by
  have hl := h.len
  go_enter Tryz.func22, Tryz.ntmps22
  go_wp2_with (first | (at_builtin; refine wpL_app rfl (.const (.slice none 0 0)) (.tmp 4) rfl w.heap.size none a 0 c [] l rfl (Own.nil _ _) rfl h (by simpa using hl) (Nat.le_refl _) ?_; intro a1 c1 w1 hown hgrow hbel; simp only [List.nil_append] at hown ⊢; have Hown := hid hown; clear hown hgrow; have hs := hbel.size) | (at_builtin; refine wpL_app rfl (.tmp 5) (.tmp 6) rfl w.heap.size a1 (some ⟨w1.heap.size, 0, none⟩) c1 2 l [-77, -78] rfl (Hown.out.alloc _) rfl (Sl.lit' w1 [-77, -78] _ _ rfl (by simp) (by simp [rng]) _ rfl) (by simp; omega) (by simp; omega) ?_))
  intro a2 c2 w2 hown hgrow hbel2
  rcases hown.shape with ⟨_, _, h0⟩ | ⟨g0, rfl, hg1, hg2, hg3⟩
  · simp at h0
  · have Hown2 := hid hown; clear hown hgrow
    have hg4 : l.length + 2 ≤ c2 := by simpa using hg3
    have hc : l.length < c2 := by omega
    go_wp2
    go_ret
    exact ⟨_, _, rfl, hg4, hg1, Hown2.out, (bal hbel _).trans hbel2⟩

set_option maxHeartbeats 400000 in
theorem spoil_c (base : Nat) (a : Option Addr) (c : Nat) (l : List Int) (w : World) (h : Own w base a c l) :
    Calls Tryz.prog 14 #[.slice a l.length c] w fun e w' => e = .returned (.tuple #[]) ∧ Below base w w' := by
  have hl := h.2.2
  go_enter Tryz.func14, Tryz.ntmps14
  go_wp2
  go_loopw [2] (fun i wr => ∃ k : Nat, k ≤ l.length ∧ i = .int .i64 k ∧ Own wr base a c (half (fun _ => -9) k l) ∧ Below base w wr) (fun i _ => l.length - (intOf i).toNat)
  case atStart => exact ⟨0, Nat.zero_le _, rfl, by rw [half_zero]; exact h, Below.refl _ _⟩
  case round =>
    obtain ⟨k, hk, rfl, hk1, hk2⟩ := hrel
    by_cases hlt : k < l.length
    · have hsh := hk1.shape
      rcases hsh with ⟨_, _, h0⟩ | ⟨g0, rfl, hg1, hg2, hg3⟩
      · have h1 := half_len (fun _ => -9) k l
        rw [h0] at h1; simp at h1; omega
      · obtain ⟨b', o', he, hcell⟩ := hk1.sl.at (i := k) (by rw [half_len]; exact hlt)
        simp only [Option.some.injEq, Addr.mk.injEq, and_true] at he
        obtain ⟨rfl, rfl⟩ := he
        have ck := hcell k (by rw [half_len]; exact hlt)
        rw [half_gt hlt, Nat.zero_add] at ck
        have fk := hk1.free k
        have Hk1 := hid hk1
        have H := hid h
        clear hcell hk1 hg3 h
        go_wp2
        go_roundw
        case rel =>
          refine ⟨k + 1, by omega, by go_num, ?_, hk2.setCell (by simpa using hg1) _⟩
          rw [← half_set hlt]
          exact Hk1.out.stored k (-9) (by omega)
        case measure => simp [intOf]; omega
    · go_wp2
      go_end0
      exact ⟨rfl, hk2⟩

set_option maxHeartbeats 400000 in
theorem kept_c (g c : Nat) (a2 : Option Addr) (c2 : Nat) (l : List Int) (w : World) (h : Sl w (some ⟨g, 0, none⟩) (l ++ [-77, -78])) (hc : l.length + 2 ≤ c) (h2 : Sl w a2 l) :
    Calls Tryz.prog 24 #[.slice (some ⟨g, 0, none⟩) l.length c, .slice a2 l.length c2] w fun e w' => e = .returned (.bool true) ∧ ∃ n, w' = w.drewN n := by
  have hl := h.len
  simp at hl
  have hx : Sl w (some ⟨g, 0, none⟩) l := by have := h.take l.length; simpa using this
  obtain ⟨b', o', he, hcell⟩ := h.at (i := l.length) (by simp)
  simp only [Option.some.injEq, Addr.mk.injEq, and_true] at he
  obtain ⟨rfl, rfl⟩ := he
  have ck1 := hcell l.length (by simp)
  have ck2 := hcell (l.length + 1) (by simp)
  have e1 : gt (l ++ [-77, -78]) l.length = -77 := by rw [gt_app_right (Nat.le_refl _)]; simp [gt]
  have e2 : gt (l ++ [-77, -78]) (l.length + 1) = -78 := by rw [gt_app_right (by omega)]; simp [gt]
  rw [e1, Nat.zero_add] at ck1
  rw [e2, Nat.zero_add] at ck2
  have he : eqM l l = true := by simp [eqM]
  clear e1 e2 hcell
  go_enter Tryz.func24, Tryz.ntmps24
  go_wp2_with (go_at_call 12; refine (rsame_c _ _ _ _ _ _ _ hx h2).mono ?_; rintro e w' ⟨rfl, n, rfl⟩)
  go_ret
  exact ⟨rfl, _, rfl⟩


/-- a longer owned slice, seen shorter -/
theorem Own.pre {w : World} {base : Nat} {g c : Nat} {l r : List Int} (h : Own w base (some ⟨g, 0, none⟩) c (l ++ r)) : Own w base (some ⟨g, 0, none⟩) c l := by
  obtain ⟨⟨h1, h2⟩, h3, h4⟩ := h
  refine ⟨⟨by simp, ?_⟩, fun x hx => h3 x (by simp [hx]), by simp at h4; omega⟩
  rcases h2 with ⟨h2, _⟩ | ⟨g', cap, cur, hv, hg, hh, hn, hm, hs, ht⟩
  · simp at h2
  · simp only [Value.slice.injEq, Option.some.injEq, Addr.mk.injEq, and_true] at hv
    obtain ⟨rfl, hl, rfl⟩ := hv
    refine .inr ⟨g, c, cur, rfl, hg, hh, by simp at hn; omega, hm, hs, ?_⟩
    have e := congrArg (List.take l.length) ht
    rw [List.take_take, List.map_append, List.take_append_of_le_length (by simp), List.length_append] at e
    rw [Nat.min_eq_left (by omega)] at e
    rw [Nat.mul_one, e, List.take_of_length_le (by simp)]

def cl1 (x : Int) : Int := if sgn x = true then x else 110
def cln (l : List Int) : List Int := l.map cl1
theorem cln_may (l : List Int) : may (cln l) = true := by
  simp only [may, cln, List.all_map, List.all_eq_true, Function.comp]
  intro x _
  unfold cl1; split
  · assumption
  · rfl
theorem cln_len (l : List Int) : (cln l).length = l.length := by simp [cln]
theorem band_le (x : Int) (m : Nat) (hm : m < 9223372036854775808) : 0 ≤ bits .and .i64 x m ∧ bits .and .i64 x m ≤ m := by
  have h1 : (BitVec.ofInt 64 x &&& BitVec.ofInt 64 (m : Int)).toNat ≤ m := by
    rw [BitVec.toNat_and]
    refine Nat.le_trans Nat.and_le_right ?_
    rw [BitVec.ofInt_natCast, BitVec.toNat_ofNat]
    exact Nat.mod_le _ _
  have h2 : bits .and .i64 x m = IntKind.i64.wrap ((BitVec.ofInt 64 x &&& BitVec.ofInt 64 (m : Int)).toNat : Int) := rfl
  rw [h2, IntKind.wrap_i64]
  omega
set_option maxHeartbeats 400000 in
theorem join_c (a1 a2 : Option Addr) (c1 c2 : Nat) (l1 l2 : List Int) (w : World) (h1 : Sl w a1 l1) (h2 : Sl w a2 l2) (hl : l1.length + l2.length ≤ 35184373137408) :
    Calls Tryz.prog 48 #[.slice a1 l1.length c1, .slice a2 l2.length c2] w (Makes w (l1 ++ l2)) := by
  go_enter Tryz.func48, Tryz.ntmps48
  have H1 := hid h1; have H2 := hid h2; clear h1 h2
  have e : Hid (∀ w', Below w.heap.size w w' → Sl w' a2 l2) := fun w' hb => H2.out.bel hb
  go_wp2_with (first | (at_builtin; refine wpL_app rfl (.const (.slice none 0 0)) (.tmp 5) rfl w.heap.size none a1 0 c1 [] l1 rfl (Own.nil _ _) rfl H1.out (by simpa using H1.out.len) (Nat.le_refl _) ?_; intro a3 c3 w3 hown hgrow hb3; simp only [List.nil_append] at hown ⊢; have Ho3 := hid hown; clear hown hgrow; have hz3 := hb3.size) | (at_builtin; refine wpL_app rfl (.tmp 6) (.tmp 7) rfl w.heap.size a3 a2 c3 c2 l1 l2 rfl Ho3.out rfl (e.out _ hb3) hl hz3 ?_; intro a4 c4 w4 hown hgrow hb4; have Ho4 := hid hown; clear hown hgrow))
  go_ret
  exact ⟨_, _, by rw [List.length_append]; rfl, Ho4.out, hb3.trans hb4⟩
end Go.Proofs.YtefgjicegbhcaaaGreat
