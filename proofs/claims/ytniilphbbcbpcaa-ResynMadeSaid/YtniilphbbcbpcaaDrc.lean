/- The document's reader: behind a backslash. -/
import Derived.Test.YtniilphbbcbpcaaDrd
namespace Go.Proofs.Ytniilphbbcbpcaa
open Go.RowKit ReM

def BehP (B : Nat) (w : World) (r : Nat) (a : Option Addr) (c : Nat) (p : List Int) (i x y : Nat) (e f : Int) (res : Option (List Int × Bool)) (e' : Ending) (w' : World) : Prop := match res with
  | some (l, b) => ∃ a2 c2, e' = .returned (.tuple #[.slice a2 l.length c2, .bool b]) ∧ Own w' w.heap.size a2 c2 l ∧ Rdr B w' r a c p (i + 2) x y e f ∧ KR r w w'
  | none => e' = .returned (.tuple #[.slice none 0 0, .bool true]) ∧ Rdr B w' r a c p (i + 2) x y e f ∧ KR r w w'
theorem lo_big {q : Int} (h : 128 ≤ q) : lo q ≠ 100 ∧ lo q ≠ 119 ∧ lo q ≠ 115 := by
  unfold lo; simp only [cpt, decide_eq_true_eq]
  split <;> omega
theorem mean_l (q ll : Int) (h : ll = lo q) : mean CC q = if ll = 100 ∧ q < 128 then some ([48, 57], decide (q ≠ ll)) else if ll = 119 ∧ q < 128 then some ([97, 122, 65, 90, 48, 57, 95, 95], decide (q ≠ ll)) else
    if ll = 115 ∧ q < 128 then some ([32, 32, 9, 9, 10, 10], decide (q ≠ ll)) else if q = 110 then some ([10, 10], false) else if q = 116 then some ([9, 9], false) else if cls q = 4 ∨ cls q = 1 then some ([q, q], false) else none := by
  subst h
  unfold mean
  dsimp only [CC]
  simp only [decide_eq_true_eq]
theorem beh_lit {B : Nat} {w : World} {r : Nat} {a : Option Addr} {c : Nat} {p : List Int} {i x y : Nat} {e f : Int} (l : List Int) (b b' : Bool) (hb : b = b') (k n m : Nat) (cs : Array Value) (W1 : World) (hk : k = W1.heap.size) (hn : n = l.length) (hm : m = l.length) (hw : w.heap.size ≤ W1.heap.size)
    (hl : l.length ≤ 1000) (hr : rng l) (hcs : cs = (l.map (Value.int .i32)).toArray) (hR : Rdr B W1 r a c p (i + 2) x y e f) (hK : KR r w W1) :
    BehP B w r a c p i x y e f (some (l, b)) (.returned (.tuple #[.slice (some ⟨k, 0, none⟩) n m, .bool b'])) (W1.alloc (.cells cs 21)) := by
  subst hb; subst hk; subst hn; subst hm
  exact ⟨_, _, rfl, Own.lit' _ l _ _ _ rfl hw hl hr cs hcs rfl, hR.alloc _, hK.alloc _⟩
theorem dec_bne (q l : Int) : decide (q ≠ l) = (q != l) := by rw [Bool.eq_iff_iff]; simp
set_option maxRecDepth 20000 in
set_option maxHeartbeats 16000000 in
theorem dbehind_c (B : Nat) (w : World) (r : Nat) (a : Option Addr) (c : Nat) (p : List Int) (i x y : Nat) (e f : Int) (h : Rdr B w r a c p i x y e f) (hT : Txt1 p) (hi : i ≤ 2000) :
    Calls Try.prog 83 #[.pointer (some ⟨r, 0, none⟩)] w (BehP B w r a c p i x y e f (mean CC (nx p (i + 1)))) := by
  have hl := hT.1
  have hqr := nx_rng h.sl.rng (i + 1)
  have hq0 : nx p (i + 1) < 0 → nx p (i + 1) = -1 := fun hh => by
    rcases Nat.lt_or_ge (i + 1) p.length with h1 | h1
    · have := hT.nxp h1; omega
    · exact nx_end h1
  have W0 : IntKind.i64.wrap ((i : Int) + 1) = ((i + 1 : Nat) : Int) := by rw [IntKind.wrap_i64]; omega
  have W1 : IntKind.i64.wrap (((i + 1 : Nat) : Int) + 1) = ((i + 2 : Nat) : Int) := by rw [IntKind.wrap_i64]; omega
  push_cast at W1
  (have c0 := h.c0; have c1 := h.c1; have c2 := h.c2; have c3 := h.c3; have c4 := h.c4; have c5 := h.c5; have f1 := h.fz 1; have f2 := h.fz 2; have f3 := h.fz 3; have f4 := h.fz 4; have f5 := h.fz 5; have rl := h.lt; have Hh := hid h; clear h)
  have H1 := hid (Hh.out.set1 (i + 1))
  have K1 := hid ((KR.refl r w).set (o := 1) (.int .i64 ((i + 1 : Nat) : Int)))
  clear Hh hT
  obtain ⟨q, hq⟩ : ∃ q, q = nx p (i + 1) := ⟨_, rfl⟩
  have HQ := hid hq
  rw [← hq] at hqr hq0 ⊢
  obtain ⟨ll, hll⟩ : ∃ ll, ll = lo q := ⟨_, rfl⟩
  have HL := hid hll
  obtain ⟨X, hX⟩ : ∃ X, X = mean CC q := ⟨_, rfl⟩
  have hM := hid (hX.trans (mean_l q ll hll))
  rw [← hX]
  have HZ := hid (show w.heap.size ≤ w.heap.size from Nat.le_refl _)
  clear hq
  have HX := hid hX
  clear hX hll
  go_enter Try.func83, Try.ntmps83
  go_wp2_with fail; refine (dnext_c B _ r a c p (i + 1) x y e f H1.out).mono ?_; rintro _ w2 ⟨rfl, h2, k2⟩; have H2 := hid h2; have K2 := hid k2; clear h2 k2
  rw [← HQ.out]
  have h2 := H2.out
  have z2 : w.heap.size ≤ (w2.setCell ⟨r, 1, none⟩ (.int .i64 ((i : Int) + 1 + 1))).heap.size := by have := K2.out.size; simpa using this
  have R3 : Hid (Rdr B (w2.setCell ⟨r, 1, none⟩ (.int .i64 ((i : Int) + 1 + 1))) r a c p (i + 2) x y e f) := by
    have := h2.set1 (i + 2)
    rw [show ((i + 2 : Nat) : Int) = (i : Int) + 1 + 1 by omega] at this
    exact hid this
  have K3 : Hid (KR r w (w2.setCell ⟨r, 1, none⟩ (.int .i64 ((i : Int) + 1 + 1)))) := hid ((K1.out.tr K2.out).set _)
  (have c0 := h2.c0; have c1 := h2.c1; have c2 := h2.c2; have c3 := h2.c3; have c4 := h2.c4; have c5 := h2.c5; have f1 := h2.fz 1; have f2 := h2.fz 2; have f3 := h2.fz 3; have f4 := h2.fz 4; have f5 := h2.fz 5; have rl := h2.lt; have Hh2 := hid h2; clear h2)
  have Z2 := hid z2
  clear z2
  go_wp2_with (first | (go_at_call 90; refine (rlower_c _ _ hqr).mono ?_; rintro _ w9 ⟨rfl, rfl⟩; rw [← HL.out]) | (go_at_call 91; refine (rclass_c _ _).mono ?_; rintro _ w9 ⟨rfl, rfl⟩))
  all_goals refine ret_tt Try.results83 rfl rfl rfl ?_
  all_goals clear c0 c1 c2 c3 c4 c5 f1 f2 f3 f4 f5
  all_goals have hx := hM.out
  all_goals have hln := HL.out
  all_goals simp only [beq_iff_eq, beq_eq_false_iff_ne, ne_eq] at *
  all_goals as_aux_lemma =>
    have hB := fun h => lo_big (q := q) h
    have hN := fun h : q < 0 => (hq0 h)
    have hM1 : mean CC (-1) = none := mean_end
    by_cases hq1 : q < 0
    · have hq2 := hN hq1
      rw [HX.out, hq2, mean_end]
      first | exact ⟨rfl, R3.out, K3.out⟩ | (exfalso; omega)
    · repeat' split at hx
      all_goals first
        | (exfalso; omega)
        | (rw [hx]; exact ⟨rfl, R3.out, K3.out⟩)
        | (rw [hx]; exact beh_lit _ _ _ (by first | rfl | exact dec_bne _ _ | (rw [dec_bne]; simp_all; done)) _ _ _ _ _ (by simp) rfl rfl Z2.out (by simp) (by first | (unfold rng; simp; done) | exact rng_cons hqr (rng_one hqr)) rfl R3.out K3.out)
        | (exfalso; have := hB (by omega); simp_all; done)
end Go.Proofs.Ytniilphbbcbpcaa
