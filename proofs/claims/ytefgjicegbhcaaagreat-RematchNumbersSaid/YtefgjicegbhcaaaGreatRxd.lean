/- The code's reader: a backslash and its sign (escaped), a part of a class (part). -/
import Derived.Test.YtefgjicegbhcaaaGreatRxc
namespace Go.Proofs.YtefgjicegbhcaaaGreat
open Go.RowKit ReM

theorem Kpt.step {G : Nat → Prop} {a w w' : World} {F : Nat → Prop} (h : Kpt G a w) (k : Kpt F w w') (hF : ∀ k, F k → G k ∨ a.heap.size ≤ k) : Kpt G a w' :=
  ⟨k.os.trans h.os, k.tape.trans h.tape, k.output.trans h.output, Nat.le_trans h.size k.size, fun i hi hn => (k.block i (Nat.lt_of_lt_of_le hi h.size) (fun hf => by rcases hF i hf with h | h; exact hn h; omega)).trans (h.block i hi hn)⟩
theorem Kpt.putN {G : Nat → Prop} {a w : World} (h : Kpt G a w) (R : Nat) (hR : a.heap.size ≤ R) (k d lo hi z n s : Value) : Kpt G a (putN w R k d lo hi z n s) :=
  h.bel (putN_below (Below.refl a.heap.size w) R hR k d lo hi z n s) (Nat.le_refl _)
/-- of new memory: a store -/
theorem Kpt.setN {G : Nat → Prop} {a w : World} (h : Kpt G a w) (R o : Nat) (hR : a.heap.size ≤ R) (v : Value) : Kpt G a (w.setCell ⟨R, o, none⟩ v) :=
  h.bel ((Below.refl a.heap.size w).setCell (by exact hR) v) (Nat.le_refl _)
theorem Rdr.putN {B : Nat} {w : World} {r : Nat} {a : Option Addr} {c : Nat} {p : List Int} {i x y : Nat} {e f : Int} (h : Rdr B w r a c p i x y e f) (R : Nat) (hR : B ≤ R) (k d lo hi z n s : Value) : Rdr B (putN w R k d lo hi z n s) r a c p i x y e f :=
  h.below (putN_below (Below.refl B w) R hR k d lo hi z n s) (Nat.le_refl _)
/-- an owned list, at or behind a bound, in a world where other blocks turned -/
theorem alloc_heap (w : World) (o : Obj) {k : Nat} (h : k < w.heap.size) : (w.alloc o).heap[k]? = w.heap[k]? := ((Below.refl w.heap.size w).alloc (Nat.le_refl _) o).block k h
/-- a new set, beside the reader -/
def SetK (r : Nat) (w : World) (l : List Int) (a : Option Addr) (c : Nat) (L : List Int) (w' : World) : Prop := Hid (L = l) ∧ Own w' w.heap.size a c L ∧ KR r w w'
def EscE (B : Nat) (w : World) (r : Nat) (a : Option Addr) (c : Nat) (p : List Int) (i x y : Nat) (e' : Ending) (w' : World) : Prop := match mean CC (nx p i) with
  | some (l, ng) => ∃ a2 c2 L, e' = .returned (nodV ng a2 L.length c2) ∧ SetK r w l a2 c2 L w' ∧ Rdr B w' r a c p (i + 1) x y 0 0
  | none => e' = .returned (nodV false none 0 0) ∧ KR r w w' ∧ Rdr B w' r a c p p.length x y 5 i
theorem one_var (w : World) : ∃ V, V = w.alloc (.cells #[.int .i64 0, .int .i64 0, .int .i64 0, .int .i64 0, .bool false, .bool false, .slice none 0 0] 128) ∧
    NdC V w.heap.size 0 0 0 0 false false (.slice none 0 0) ∧ Below w.heap.size w V ∧ V.heap.size = w.heap.size + 1 :=
  ⟨_, rfl, NdC.new _ _ _ _ _ _ _ _ _ _ rfl, by (repeat' (first | exact Below.refl _ _ | assumption | refine bdrewN ?_ _ | refine Below.drew ?_ | refine bal ?_ _ | refine bthen ?_ (by assumption))), by simp⟩
set_option maxHeartbeats 4000000 in
theorem escaped_c (B : Nat) (w : World) (r : Nat) (a : Option Addr) (c : Nat) (p : List Int) (i x y : Nat) (h : Rdr B w r a c p i x y 0 0) (hi : i ≤ p.length) (hT : Txt1 p) :
    Calls Tryz.prog 137 #[.pointer (some ⟨r, 0, none⟩)] w (EscE B w r a c p i x y) := by
  unfold EscE
  obtain ⟨V, hV, nr, bV, zV⟩ := one_var w
  have hB := h.Bw
  have hrB := h.rB
  have hrw : r < w.heap.size := by omega
  have hrg := nx_rng h.sl.rng i
  have hl1 := hT.1
  have C := hid (next_o B V r a c p i x y 0 0 (h.bel bV) hi)
  have M := hid (fun w => meant_c (nx p i) w hrg)
  clear h hrg
  cases hm : mean CC (nx p i) with
  | none =>
    go_enter Tryz.func137, Tryz.ntmps137
    go_wp2_with fail
    rw [← hV]; clear hV
    refine C.out.mono ?_
    rintro _ w1 ⟨rfl, h1, k1⟩
    go_wp2_with fail
    refine (M.out w1).mono ?_
    rintro _ w2 hx
    unfold MeantE at hx
    rw [hm] at hx
    obtain ⟨rfl, b2⟩ := hx
    have nr2 := (nr.kpt k1 (by omega)).bel b2
    have h2 := h1.bel b2
    have K2 : Hid (KR r w w2) := ((Kpt.of bV).tr k1).bel b2 (by have := k1.size; omega)
    have hz := Nat.le_trans k1.size b2.size
    have NR := hid nr2
    clear h1 k1 b2 hm M C
    (have r0 := nr2.c0; have r1 := nr2.c1; have r2 := nr2.c2; have r3 := nr2.c3; have r4 := nr2.c4; have r5 := nr2.c5; have r6 := nr2.c6; have rf0 := nr2.fz 0; have rf1 := nr2.fz 1; have rf2 := nr2.fz 2; have rf3 := nr2.fz 3; have rf4 := nr2.fz 4; have rf5 := nr2.fz 5; have rf6 := nr2.fz 6; have rz := nr2.lt; clear nr2)
    (have c0 := h2.c0; have c1 := h2.c1; have c2 := h2.c2; have c3 := h2.c3; have c4 := h2.c4; have c5 := h2.c5; have f1 := h2.fz 1; have f2 := h2.fz 2; have f3 := h2.fz 3; have f4 := h2.fz 4; have f5 := h2.fz 5; have rl := h2.lt; have Hh2 := hid h2; clear h2)
    clear nr
    unfold nodV
    go_wp2_with fail
    refine (fail_one 5 i B _ r a c p i x y 0 (Hh2.out.alloc _)).mono ?_
    rintro _ w3 ⟨rfl, h3, k3⟩
    have H3 := hid h3
    have K3 := hid k3
    have nn3 := (NdC.new w2 2 0 0 0 false false (.slice none 0 0) 128 _ rfl).kpt k3 (by omega)
    have nr3 := (NR.out.alloc (.cells #[.int .i64 2, .int .i64 0, .int .i64 0, .int .i64 0, .bool false, .bool false, .slice none 0 0] 128)).kpt k3 (by omega)
    have hz3 := k3.size
    clear k3 h3 r0 r1 r2 r3 r4 r5 r6 rf0 rf1 rf2 rf3 rf4 rf5 rf6
    clear rl c0 c1 c2 c3 c4 c5 f1 f2 f3 f4 f5
    (have r0 := nr3.c0; have r1 := nr3.c1; have r2 := nr3.c2; have r3 := nr3.c3; have r4 := nr3.c4; have r5 := nr3.c5; have r6 := nr3.c6; have rf0 := nr3.fz 0; have rf1 := nr3.fz 1; have rf2 := nr3.fz 2; have rf3 := nr3.fz 3; have rf4 := nr3.fz 4; have rf5 := nr3.fz 5; have rf6 := nr3.fz 6; have rz := nr3.lt; clear nr3)
    (have n0 := nn3.c0; have n1 := nn3.c1; have n2 := nn3.c2; have n3 := nn3.c3; have n4 := nn3.c4; have n5 := nn3.c5; have n6 := nn3.c6; have nf0 := nn3.fz 0; have nf1 := nn3.fz 1; have nf2 := nn3.fz 2; have nf3 := nn3.fz 3; have nf4 := nn3.fz 4; have nf5 := nn3.fz 5; have nf6 := nn3.fz 6; have nz := nn3.lt; clear nn3)
    go_wp2_with fail
    refine bodyPost_ret (v := nodV false none 0 0) (by simp [results, Tryz.results137, go_sem, nodV, r0, r1, r2, r3, r4, r5, r6]) rfl ⟨rfl, ?_, ?_⟩
    · exact (((K2.out.alloc _).tr K3.out).putN _ (Nat.le_refl _) _ _ _ _ _ _ _)
    · exact H3.out.putN _ hB _ _ _ _ _ _ _
  | some v =>
    obtain ⟨l, ng⟩ := v
    have hL0 := mean_len hm
    have hnx : i < p.length := by
      rcases Nat.lt_or_ge i p.length with h1 | h1
      · exact h1
      · rw [nx_end h1, mean_end] at hm; cases hm
    go_enter Tryz.func137, Tryz.ntmps137
    go_wp2_with fail
    rw [← hV]; clear hV
    refine C.out.mono ?_
    rintro _ w1 ⟨rfl, h1, k1⟩
    go_wp2_with fail
    refine (M.out w1).mono ?_
    rintro _ w2 hx
    unfold MeantE at hx
    rw [hm] at hx
    obtain ⟨a2, d2, L, rfl, hL, ho, b2⟩ := hx
    have b1 : ((L.length : Int) == 0) = false := by
      rw [hL.out]
      cases l with
      | nil => exact absurd rfl hL0.2
      | cons q t => simp; omega
    have nr2 := (nr.kpt k1 (by omega)).bel b2
    have h2 := h1.bel b2
    have K2 : Hid (KR r w w2) := ((Kpt.of bV).tr k1).bel b2 (by have := k1.size; omega)
    have hz := Nat.le_trans k1.size b2.size
    have hz1 := k1.size
    have Ho := hid ho
    have NR := hid nr2
    clear h1 k1 b2 hm M C hL0 ho
    (have r0 := nr2.c0; have r1 := nr2.c1; have r2 := nr2.c2; have r3 := nr2.c3; have r4 := nr2.c4; have r5 := nr2.c5; have r6 := nr2.c6; have rf0 := nr2.fz 0; have rf1 := nr2.fz 1; have rf2 := nr2.fz 2; have rf3 := nr2.fz 3; have rf4 := nr2.fz 4; have rf5 := nr2.fz 5; have rf6 := nr2.fz 6; have rz := nr2.lt; clear nr2)
    (have c0 := h2.c0; have c1 := h2.c1; have c2 := h2.c2; have c3 := h2.c3; have c4 := h2.c4; have c5 := h2.c5; have f1 := h2.fz 1; have f2 := h2.fz 2; have f3 := h2.fz 3; have f4 := h2.fz 4; have f5 := h2.fz 5; have rl := h2.lt; have Hh2 := hid h2; clear h2)
    clear nr
    unfold nodV
    go_wp2_with fail
    refine ret_nd Tryz.results137 rfl rfl (((NR.out.setO (by omega) _ _).putN 2 0 0 0 false ng _).alloc _) ⟨_, _, L, rfl, ⟨hL, ?_, ?_⟩, ?_⟩
    · refine (Ho.out.stay fun k hk hl => ?_).base_le (by omega)
      refine (alloc_heap _ _ (by simpa using hl)).trans ((putN_heap _ _ _ _ _ _ _ _ _ (by omega)).trans (Below.heap_setCell _ _ _ _ (by show k ≠ r; omega)))
    · exact (((K2.out.set _).putN _ (Nat.le_refl _) _ _ _ _ _ _ _).alloc _)
    · exact (((Hh2.out.set1 (i + 1)).putN _ hB _ _ _ _ _ _ _).alloc _)
/-- a part of a class, as a member -/
def PartE (B : Nat) (w : World) (r : Nat) (a : Option Addr) (c : Nat) (p : List Int) (i x y : Nat) (e' : Ending) (w' : World) : Prop := match member CC i (p.drop i) with
  | .ok l o s' => ∃ a2 c2 L, e' = .returned (.slice a2 L.length c2) ∧ o = one l ∧ SetK r w l a2 c2 L w' ∧ ∃ j, i < j ∧ j ≤ p.length ∧ s' = p.drop j ∧ Rdr B w' r a c p j x y 0 0
  | .bad k => ∃ l a2 c2 L, e' = .returned (.slice a2 L.length c2) ∧ one l = false ∧ l.length ≤ 8 ∧ SetK r w l a2 c2 L w' ∧ Rdr B w' r a c p p.length x y 5 k
set_option maxHeartbeats 4000000 in
theorem part_c (B : Nat) (w : World) (r : Nat) (a : Option Addr) (c : Nat) (p : List Int) (i x y : Nat) (h : Rdr B w r a c p i x y 0 0) (hi : i < p.length) (hT : Txt1 p) (hn : nx p i ≠ 93) :
    Calls Tryz.prog 150 #[.pointer (some ⟨r, 0, none⟩)] w (PartE B w r a c p i x y) := by
  unfold PartE
  rw [drop_nx hi]
  have hB := h.Bw
  have hrB := h.rB
  have hrg := nx_rng h.sl.rng i
  have hl1 := hT.1
  have C := hid (next_o B w r a c p i x y 0 0 h (by omega))
  clear h
  by_cases h92 : nx p i = 92
  · have hm : member CC i (nx p i :: p.drop (i + 1)) = match mean CC (nx p (i + 1)) with
        | some (l, false) => .ok l (one l) (p.drop (i + 2))
        | _ => .bad (i + 1) := by
      rw [h92]
      rcases Nat.lt_or_ge (i + 1) p.length with h1 | h1
      · rw [drop_nx h1]
        simp only [member, if_true]
        cases hh : mean CC (nx p (i + 1)) with
        | none => rfl
        | some v => obtain ⟨l, b⟩ := v; cases b <;> rfl
      · rw [drop_end h1, nx_end h1, mean_end]; rfl
    rw [hm]
    rw [h92] at C
    clear hm hn hrg h92
    cases hm : mean CC (nx p (i + 1)) with
    | none =>
      go_enter Tryz.func150, Tryz.ntmps150
      go_wp2_with fail
      refine C.out.mono ?_
      rintro _ w1 ⟨rfl, h1, k1⟩
      have K1 := hid k1
      clear k1
      (have c0 := h1.c0; have c1 := h1.c1; have c2 := h1.c2; have c3 := h1.c3; have c4 := h1.c4; have c5 := h1.c5; have f1 := h1.fz 1; have f2 := h1.fz 2; have f3 := h1.fz 3; have f4 := h1.fz 4; have f5 := h1.fz 5; have rl := h1.lt; have Hh1 := hid h1; clear h1)
      go_wp2_with fail
      refine (escaped_c B _ r a c p (i + 1) x y (Hh1.out.set1 (i + 1)) (by omega) hT).mono ?_
      rintro _ w2 he
      unfold EscE at he
      rw [hm] at he
      obtain ⟨rfl, k2, h2⟩ := he
      have H2 := hid h2
      have K2 := hid k2
      have hz2 := k2.size
      simp at hz2
      clear k2 h2 hm C
      clear rl c0 c1 c2 c3 c4 c5 f1 f2 f3 f4 f5
      unfold nodV
      go_wp2_with fail
      go_ret
      exact ⟨[], none, 0, [], rfl, rfl, by simp, ⟨rfl, Own.nil _ _, ((K1.out.set _).tr K2.out).alloc _⟩, H2.out.alloc _⟩
    | some v =>
      obtain ⟨l, ng⟩ := v
      have hl8 := (mean_len hm).1
      cases ng with
      | false =>
        have hnx : i + 1 < p.length := by
          rcases Nat.lt_or_ge (i + 1) p.length with h1 | h1
          · exact h1
          · rw [nx_end h1, mean_end] at hm; cases hm
        go_enter Tryz.func150, Tryz.ntmps150
        go_wp2_with fail
        refine C.out.mono ?_
        rintro _ w1 ⟨rfl, h1, k1⟩
        have K1 := hid k1
        clear k1
        (have c0 := h1.c0; have c1 := h1.c1; have c2 := h1.c2; have c3 := h1.c3; have c4 := h1.c4; have c5 := h1.c5; have f1 := h1.fz 1; have f2 := h1.fz 2; have f3 := h1.fz 3; have f4 := h1.fz 4; have f5 := h1.fz 5; have rl := h1.lt; have Hh1 := hid h1; clear h1)
        go_wp2_with fail
        refine (escaped_c B _ r a c p (i + 1) x y (Hh1.out.set1 (i + 1)) (by omega) hT).mono ?_
        rintro _ w2 he
        unfold EscE at he
        rw [hm] at he
        obtain ⟨a2, d2, L, rfl, ⟨hL, ho, k2⟩, h2⟩ := he
        have H2 := hid h2
        have K2 := hid k2
        have Ho := hid ho
        have hz1 := K1.out.size
        have hz2 := k2.size
        simp at hz2
        clear k2 h2 hm C ho
        clear rl c0 c1 c2 c3 c4 c5 f1 f2 f3 f4 f5
        unfold nodV
        go_wp2_with fail
        go_ret
        exact ⟨a2, d2, L, by first | rfl | trivial, by first | rfl | trivial, ⟨hL, (Ho.out.base_le (by simpa using hz1)).alloc _, ((K1.out.set _).tr K2.out).alloc _⟩, i + 2, by omega, by omega, rfl, H2.out.alloc _⟩
      | true =>
        have h1l := mean_not hm
        go_enter Tryz.func150, Tryz.ntmps150
        go_wp2_with fail
        refine C.out.mono ?_
        rintro _ w1 ⟨rfl, h1, k1⟩
        have K1 := hid k1
        clear k1
        (have c0 := h1.c0; have c1 := h1.c1; have c2 := h1.c2; have c3 := h1.c3; have c4 := h1.c4; have c5 := h1.c5; have f1 := h1.fz 1; have f2 := h1.fz 2; have f3 := h1.fz 3; have f4 := h1.fz 4; have f5 := h1.fz 5; have rl := h1.lt; have Hh1 := hid h1; clear h1)
        go_wp2_with fail
        refine (escaped_c B _ r a c p (i + 1) x y (Hh1.out.set1 (i + 1)) (by omega) hT).mono ?_
        rintro _ w2 he
        unfold EscE at he
        rw [hm] at he
        obtain ⟨a2, d2, L, rfl, ⟨hL, ho, k2⟩, h2⟩ := he
        have H2 := hid h2
        have K2 := hid k2
        have Ho := hid ho
        have hz1 := K1.out.size
        have hz2 := k2.size
        simp at hz2
        clear k2 hm C ho
        clear rl c0 c1 c2 c3 c4 c5 f1 f2 f3 f4 f5
        (have c0 := h2.c0; have c1 := h2.c1; have c2 := h2.c2; have c3 := h2.c3; have c4 := h2.c4; have c5 := h2.c5; have f1 := h2.fz 1; have f2 := h2.fz 2; have f3 := h2.fz 3; have f4 := h2.fz 4; have f5 := h2.fz 5; have rl := h2.lt; have Hh2 := hid h2; clear h2)
        unfold nodV
        go_wp2_with fail
        have nn := NdC.new w2 2 0 0 0 false true (.slice a2 L.length d2) 128 _ rfl
        refine (fail_one 5 _ B _ r a c p (i + 2) x y 0 (Hh2.out.alloc _)).mono ?_
        rintro _ w3 ⟨rfl, h3, k3⟩
        have nn3 := nn.kpt k3 (by omega)
        have hzz : w2.heap.size ≤ w3.heap.size := Nat.le_trans (by simp) k3.size
        have H3 := hid h3
        have K3 := hid k3
        clear nn k3 h3
        clear rl c0 c1 c2 c3 c4 c5 f1 f2 f3 f4 f5
        (have n0 := nn3.c0; have n1 := nn3.c1; have n2 := nn3.c2; have n3 := nn3.c3; have n4 := nn3.c4; have n5 := nn3.c5; have n6 := nn3.c6; have nf0 := nn3.fz 0; have nf1 := nn3.fz 1; have nf2 := nn3.fz 2; have nf3 := nn3.fz 3; have nf4 := nn3.fz 4; have nf5 := nn3.fz 5; have nf6 := nn3.fz 6; have nz := nn3.lt; clear nn3)
        go_wp2_with fail
        go_ret
        refine ⟨l, a2, d2, L, rfl, h1l, hl8, ⟨hL, ?_, ((K1.out.set _).tr (K2.out.alloc _)).tr K3.out⟩, by simpa using H3.out⟩
        refine ((Ho.out.base_le (by simpa using hz1)).alloc _).stay fun k hk hl => K3.out.block k hl (by omega)
  · have hm : member CC i (nx p i :: p.drop (i + 1)) = .ok [nx p i, nx p i] true (p.drop (i + 1)) := by
      simp only [member, if_neg h92, if_neg hn]
    rw [hm]
    have b1 : (nx p i == 92) = false := by simpa using h92
    generalize nx p i = q at *
    clear hm hn h92
    go_enter Tryz.func150, Tryz.ntmps150
    go_wp2_with fail
    refine C.out.mono ?_
    rintro _ w1 ⟨rfl, h1, k1⟩
    have K1 := hid k1
    clear k1
    (have c0 := h1.c0; have c1 := h1.c1; have c2 := h1.c2; have c3 := h1.c3; have c4 := h1.c4; have c5 := h1.c5; have f1 := h1.fz 1; have f2 := h1.fz 2; have f3 := h1.fz 3; have f4 := h1.fz 4; have f5 := h1.fz 5; have rl := h1.lt; have Hh1 := hid h1; clear h1)
    go_wp2_with fail
    refine (only_c q _ hrg).mono ?_
    rintro _ w2 ⟨a2, d2, L, rfl, hL, ho, b2⟩
    have Ho := hid ho
    have B2 := hid b2
    clear ho b2
    go_wp2_with fail
    go_ret
    have hz := K1.out.size
    exact ⟨a2, d2, L, rfl, (one_same q).symm, ⟨hL, Ho.out.base_le (by simpa using hz), (K1.out.set _).bel B2.out (by simpa using hz)⟩, i + 1, by omega, by omega, rfl, (Hh1.out.set1 (i + 1)).bel B2.out⟩
end Go.Proofs.YtefgjicegbhcaaaGreat
