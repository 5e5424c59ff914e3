/- The code's reader: what a backslash means, all signs: meant; escaped, part. -/
import Derived.Test.YtefgjicegbhcaaaGreatRxb
namespace Go.Proofs.YtefgjicegbhcaaaGreat
open Go.RowKit ReM

/-- a variable that holds a node -/
structure NdC (w : World) (b : Nat) (k d lo hi : Int) (z n : Bool) (s : Value) : Prop where
  c0 : w.cell? ⟨b, 0, none⟩ = some (.int .i64 k)
  c1 : w.cell? ⟨b, 1, none⟩ = some (.int .i64 d)
  c2 : w.cell? ⟨b, 2, none⟩ = some (.int .i64 lo)
  c3 : w.cell? ⟨b, 3, none⟩ = some (.int .i64 hi)
  c4 : w.cell? ⟨b, 4, none⟩ = some (.bool z)
  c5 : w.cell? ⟨b, 5, none⟩ = some (.bool n)
  c6 : w.cell? ⟨b, 6, none⟩ = some s
  fz : ∀ o, w.frozen? ⟨b, o, none⟩ = false
theorem NdC.lt {w : World} {b : Nat} {k d lo hi : Int} {z n : Bool} {s : Value} (h : NdC w b k d lo hi z n s) : b < w.heap.size := World.block_lt_of_cell? w _ h.c0
theorem NdC.same {w w' : World} {b : Nat} {k d lo hi : Int} {z n : Bool} {s : Value} (h : NdC w b k d lo hi z n s) (he : w'.heap[b]? = w.heap[b]?) : NdC w' b k d lo hi z n s := by
  have c : ∀ o, w'.cell? ⟨b, o, none⟩ = w.cell? ⟨b, o, none⟩ := fun o => World.cell?_of_block (w := w) (w' := w') (a := ⟨b, o, none⟩) he
  have f : ∀ o, w'.frozen? ⟨b, o, none⟩ = w.frozen? ⟨b, o, none⟩ := fun o => World.frozen?_of_block (w := w) (w' := w') (a := ⟨b, o, none⟩) he
  exact ⟨by rw [c]; exact h.c0, by rw [c]; exact h.c1, by rw [c]; exact h.c2, by rw [c]; exact h.c3, by rw [c]; exact h.c4, by rw [c]; exact h.c5, by rw [c]; exact h.c6, fun o => by rw [f]; exact h.fz o⟩
theorem NdC.bel {w w' : World} {b : Nat} {k d lo hi : Int} {z n : Bool} {s : Value} (h : NdC w b k d lo hi z n s) (hb : Below w.heap.size w w') : NdC w' b k d lo hi z n s := h.same (hb.block b h.lt)
theorem NdC.alloc {w : World} {b : Nat} {k d lo hi : Int} {z n : Bool} {s : Value} (h : NdC w b k d lo hi z n s) (o : Obj) : NdC (w.alloc o) b k d lo hi z n s := h.bel ((Below.refl _ _).alloc (Nat.le_refl _) _)
theorem NdC.kpt {w w' : World} {F : Nat → Prop} {b : Nat} {k d lo hi : Int} {z n : Bool} {s : Value} (h : NdC w b k d lo hi z n s) (hk : Kpt F w w') (hn : ¬ F b) : NdC w' b k d lo hi z n s := h.same (hk.block b h.lt hn)
theorem NdC.new (w : World) (k d lo hi : Int) (z n : Bool) (s : Value) (T : TypeId) (b : Nat) (hb : b = w.heap.size) :
    NdC (w.alloc (.cells #[.int .i64 k, .int .i64 d, .int .i64 lo, .int .i64 hi, .bool z, .bool n, s] T)) b k d lo hi z n s := by
  subst hb
  refine ⟨by rw [cell_alloc_new]; rfl, by rw [cell_alloc_new]; rfl, by rw [cell_alloc_new]; rfl, by rw [cell_alloc_new]; rfl, by rw [cell_alloc_new]; rfl, by rw [cell_alloc_new]; rfl, by rw [cell_alloc_new]; rfl, fun o => ?_⟩
  simp
theorem SetM.back {w V w1 w2 : World} {l : List Int} {a : Option Addr} {c : Nat} {L : List Int} (h : SetM V l a c L w1) (hb : Below w.heap.size w V) (hs : Below w.heap.size w1 w2) (hr : ∀ k, V.heap.size ≤ k → k < w1.heap.size → w2.heap[k]? = w1.heap[k]?) : SetM w l a c L w2 := by
  obtain ⟨h1, h2, h3⟩ := h
  have hz := hb.size
  refine ⟨h1, ?_, (hb.trans (h3.mono hz)).trans hs⟩
  have h4 := h2.base_le (base' := w.heap.size) hz
  exact h4.same fun ad ha hl => hr _ (h2.1.lt _ (by rw [ha]; rfl)).1 hl
/-- the two variables of meant: the result, the node -/
theorem two_vars (w : World) : ∃ V, V = (w.alloc (.cells #[.int .i64 0, .int .i64 0, .int .i64 0, .int .i64 0, .bool false, .bool false, .slice none 0 0] 128)).alloc (.cells #[.int .i64 2, .int .i64 0, .int .i64 0, .int .i64 0, .bool false, .bool false, .slice none 0 0] 128) ∧
    NdC V w.heap.size 0 0 0 0 false false (.slice none 0 0) ∧ NdC V (w.heap.size + 1) 2 0 0 0 false false (.slice none 0 0) ∧ Below w.heap.size w V ∧ V.heap.size = w.heap.size + 2 :=
  ⟨_, rfl, (NdC.new _ _ _ _ _ _ _ _ _ _ rfl).alloc _, NdC.new _ _ _ _ _ _ _ _ _ _ (by simp), by (repeat' (first | exact Below.refl _ _ | assumption | refine bdrewN ?_ _ | refine Below.drew ?_ | refine bal ?_ _ | refine bthen ?_ (by assumption))), by simp⟩
/-- a whole node stored into a variable -/
def putN (w : World) (R : Nat) (k d lo hi z n s : Value) : World :=
  ((((((w.setCell ⟨R, 0, none⟩ k).setCell ⟨R, 1, none⟩ d).setCell ⟨R, 2, none⟩ lo).setCell ⟨R, 3, none⟩ hi).setCell ⟨R, 4, none⟩ z).setCell ⟨R, 5, none⟩ n).setCell ⟨R, 6, none⟩ s
theorem putN_heap (w : World) (R : Nat) (k d lo hi z n s : Value) {j : Nat} (hj : j ≠ R) : (putN w R k d lo hi z n s).heap[j]? = w.heap[j]? := by
  unfold putN
  iterate 7 rw [Below.heap_setCell _ _ _ _ hj]
theorem putN_size (w : World) (R : Nat) (k d lo hi z n s : Value) : (putN w R k d lo hi z n s).heap.size = w.heap.size := by simp [putN]
theorem putN_below {B : Nat} {a w : World} (h : Below B a w) (R : Nat) (hR : B ≤ R) (k d lo hi z n s : Value) : Below B a (putN w R k d lo hi z n s) :=
  ((((((h.setCell (by exact hR) _).setCell (by exact hR) _).setCell (by exact hR) _).setCell (by exact hR) _).setCell (by exact hR) _).setCell (by exact hR) _).setCell (by exact hR) _
theorem NdC.putN {w : World} {R : Nat} {k0 d0 lo0 hi0 : Int} {z0 n0 : Bool} {s0 : Value} (h : NdC w R k0 d0 lo0 hi0 z0 n0 s0) (k d lo hi : Int) (z n : Bool) (s : Value) : NdC (putN w R (.int .i64 k) (.int .i64 d) (.int .i64 lo) (.int .i64 hi) (.bool z) (.bool n) s) R k d lo hi z n s := by
  have same : ∀ {w : World} {o : Nat} {u v : Value}, w.cell? ⟨R, o, none⟩ = some u → (w.setCell ⟨R, o, none⟩ v).cell? ⟨R, o, none⟩ = some v := fun h => by rw [World.cell?_setCell_same (h := h)]
  have ot : ∀ {w : World} {o o' : Nat} {u v : Value}, o ≠ o' → w.cell? ⟨R, o', none⟩ = some u → (w.setCell ⟨R, o, none⟩ v).cell? ⟨R, o', none⟩ = some u := fun hn h => cell_set1 h hn
  unfold Go.Proofs.YtefgjicegbhcaaaGreat.putN
  refine ⟨?_, ?_, ?_, ?_, ?_, ?_, ?_, fun o => by simp only [World.frozen?_setCell]; exact h.fz o⟩
  · exact ot (by decide) (ot (by decide) (ot (by decide) (ot (by decide) (ot (by decide) (ot (by decide) (same h.c0))))))
  · exact ot (by decide) (ot (by decide) (ot (by decide) (ot (by decide) (ot (by decide) (same (ot (by decide) h.c1))))))
  · exact ot (by decide) (ot (by decide) (ot (by decide) (ot (by decide) (same (ot (by decide) (ot (by decide) h.c2))))))
  · exact ot (by decide) (ot (by decide) (ot (by decide) (same (ot (by decide) (ot (by decide) (ot (by decide) h.c3))))))
  · exact ot (by decide) (ot (by decide) (same (ot (by decide) (ot (by decide) (ot (by decide) (ot (by decide) h.c4))))))
  · exact ot (by decide) (same (ot (by decide) (ot (by decide) (ot (by decide) (ot (by decide) (ot (by decide) h.c5))))))
  · exact same (ot (by decide) (ot (by decide) (ot (by decide) (ot (by decide) (ot (by decide) (ot (by decide) h.c6))))))
theorem NdC.setO {w : World} {R : Nat} {k d lo hi : Int} {z n : Bool} {s : Value} (h : NdC w R k d lo hi z n s) {b : Nat} (hb : R ≠ b) (o : Nat) (v : Value) : NdC (w.setCell ⟨b, o, none⟩ v) R k d lo hi z n s :=
  h.same (Below.heap_setCell _ _ _ _ hb)
/-- a result that lies in a variable of its own -/
theorem ret_nd {fn : Func} {post : Ending → World → Prop} {at_ : Act} {w : World} {R : Nat} {k d lo hi : Int} {z n : Bool} {s : Value} (hr : fn.results = #[ResultVar.cell 2 128]) (ht : at_.tmps[2]?.getD undef = .pointer (some ⟨R, 0, none⟩)) (hd : at_.defers = [])
    (h : NdC w R k d lo hi z n s) (hp : post (.returned (.agg #[.int .i64 k, .int .i64 d, .int .i64 lo, .int .i64 hi, .bool z, .bool n, s])) w) : bodyPost Tryz.prog fn post Exit.ret at_ w :=
  bodyPost_ret (v := .agg #[.int .i64 k, .int .i64 d, .int .i64 lo, .int .i64 hi, .bool z, .bool n, s]) (by simp [results, hr, go_sem, ht, h.c0, h.c1, h.c2, h.c3, h.c4, h.c5, h.c6]) hd hp
theorem SetM.ret {w V w1 : World} {l : List Int} {a : Option Addr} {c : Nat} {L : List Int} (h : SetM V l a c L w1) (hb : Below w.heap.size w V) (zV : V.heap.size = w.heap.size + 2) (x k d lo hi z n s : Value) :
    SetM w l a c L (putN (w1.setCell ⟨w.heap.size + 1, 6, none⟩ x) w.heap.size k d lo hi z n s) := by
  refine h.back hb (putN_below ((Below.refl _ _).setCell (by show w.heap.size ≤ w.heap.size + 1; omega) _) _ (Nat.le_refl _) _ _ _ _ _ _ _) fun j hj _ => ?_
  rw [putN_heap _ _ _ _ _ _ _ _ _ (by omega), Below.heap_setCell _ _ _ _ (by show j ≠ w.heap.size + 1; omega)]
set_option maxHeartbeats 4000000 in
theorem meant_110 (w : World) : Calls Tryz.prog 144 #[.int .i32 110] w fun e' w' => ∃ a c L, e' = .returned (nodV false a L.length c) ∧ SetM w [10, 10] a c L w' := by
  obtain ⟨V, hV, nr, nn, bV, zV⟩ := two_vars w
  go_enter Tryz.func144, Tryz.ntmps144
  go_wp2_with fail
  rw [← hV]; clear hV
  refine (only_c 10 V (by omega)).mono ?_
  rintro _ w1 ⟨a, c, L, rfl, h1⟩
  have nr1 := nr.bel h1.2.2
  have nn1 := nn.bel h1.2.2
  (have r0 := nr1.c0; have r1 := nr1.c1; have r2 := nr1.c2; have r3 := nr1.c3; have r4 := nr1.c4; have r5 := nr1.c5; have r6 := nr1.c6; have rf0 := nr1.fz 0; have rf1 := nr1.fz 1; have rf2 := nr1.fz 2; have rf3 := nr1.fz 3; have rf4 := nr1.fz 4; have rf5 := nr1.fz 5; have rf6 := nr1.fz 6; have rz := nr1.lt; clear nr1)
  (have n0 := nn1.c0; have n1 := nn1.c1; have n2 := nn1.c2; have n3 := nn1.c3; have n4 := nn1.c4; have n5 := nn1.c5; have n6 := nn1.c6; have nf0 := nn1.fz 0; have nf1 := nn1.fz 1; have nf2 := nn1.fz 2; have nf3 := nn1.fz 3; have nf4 := nn1.fz 4; have nf5 := nn1.fz 5; have nf6 := nn1.fz 6; have nz := nn1.lt; clear nn1)
  have H1 := hid h1
  have hz1 := h1.2.2.size
  clear h1 nr nn
  go_wp2_with fail
  refine bodyPost_ret (v := nodV false a L.length c) (by simp [results, Tryz.results144, go_sem, nodV, r0, r1, r2, r3, r4, r5, r6]) rfl ⟨_, _, L, rfl, ?_⟩
  exact H1.out.ret bV zV _ _ _ _ _ _ _ _
set_option maxHeartbeats 4000000 in
theorem meant_116 (w : World) : Calls Tryz.prog 144 #[.int .i32 116] w fun e' w' => ∃ a c L, e' = .returned (nodV false a L.length c) ∧ SetM w [9, 9] a c L w' := by
  obtain ⟨V, hV, nr, nn, bV, zV⟩ := two_vars w
  go_enter Tryz.func144, Tryz.ntmps144
  go_wp2_with fail
  rw [← hV]; clear hV
  refine (only_c 9 V (by omega)).mono ?_
  rintro _ w1 ⟨a, c, L, rfl, h1⟩
  have nr1 := nr.bel h1.2.2
  have nn1 := nn.bel h1.2.2
  (have r0 := nr1.c0; have r1 := nr1.c1; have r2 := nr1.c2; have r3 := nr1.c3; have r4 := nr1.c4; have r5 := nr1.c5; have r6 := nr1.c6; have rf0 := nr1.fz 0; have rf1 := nr1.fz 1; have rf2 := nr1.fz 2; have rf3 := nr1.fz 3; have rf4 := nr1.fz 4; have rf5 := nr1.fz 5; have rf6 := nr1.fz 6; have rz := nr1.lt; clear nr1)
  (have n0 := nn1.c0; have n1 := nn1.c1; have n2 := nn1.c2; have n3 := nn1.c3; have n4 := nn1.c4; have n5 := nn1.c5; have n6 := nn1.c6; have nf0 := nn1.fz 0; have nf1 := nn1.fz 1; have nf2 := nn1.fz 2; have nf3 := nn1.fz 3; have nf4 := nn1.fz 4; have nf5 := nn1.fz 5; have nf6 := nn1.fz 6; have nz := nn1.lt; clear nn1)
  have H1 := hid h1
  have hz1 := h1.2.2.size
  clear h1 nr nn
  go_wp2_with fail
  refine bodyPost_ret (v := nodV false a L.length c) (by simp [results, Tryz.results144, go_sem, nodV, r0, r1, r2, r3, r4, r5, r6]) rfl ⟨_, _, L, rfl, ?_⟩
  exact H1.out.ret bV zV _ _ _ _ _ _ _ _
set_option maxHeartbeats 4000000 in
theorem meant_self (r : Int) (w : World) (hr : -2147483648 ≤ r ∧ r ≤ 2147483647) (h1 : r ≠ 68) (h2 : r ≠ 100) (h3 : r ≠ 87) (h4 : r ≠ 119) (h5 : r ≠ 83) (h6 : r ≠ 115) (h7 : r ≠ 110) (h8 : r ≠ 116) (hc : cls r = 4 ∨ cls r = 1) :
    Calls Tryz.prog 144 #[.int .i32 r] w fun e' w' => ∃ a c L, e' = .returned (nodV false a L.length c) ∧ SetM w [r, r] a c L w' := by
  obtain ⟨V, hV, nr, nn, bV, zV⟩ := two_vars w
  have t1 : (r == 68) = false := by simpa using h1
  have t2 : (r == 100) = false := by simpa using h2
  have t3 : (r == 87) = false := by simpa using h3
  have t4 : (r == 119) = false := by simpa using h4
  have t5 : (r == 83) = false := by simpa using h5
  have t6 : (r == 115) = false := by simpa using h6
  have t7 : (r == 110) = false := by simpa using h7
  have t8 : (r == 116) = false := by simpa using h8
  have C := hid (class_c r V)
  have Hr := hid hr
  have hc' : cls r = 4 ∨ (cls r == 4) = false ∧ cls r = 1 := by
    rcases hc with h | h
    · exact .inl h
    · exact .inr ⟨by simp [h], h⟩
  clear h1 h2 h3 h4 h5 h6 h7 h8 hr hc
  rcases hc' with hc | ⟨hb, hc⟩
  all_goals
    go_enter Tryz.func144, Tryz.ntmps144
    go_wp2_with fail
    rw [← hV]; clear hV
    refine C.out.mono ?_
    rintro _ _ ⟨rfl, rfl⟩
    rw [hc]
    go_wp2_with fail
    refine (only_c r V Hr.out).mono ?_
    rintro _ w1 ⟨a, c, L, rfl, h1⟩
    have nr1 := nr.bel h1.2.2
    have nn1 := nn.bel h1.2.2
    (have r0 := nr1.c0; have r1 := nr1.c1; have r2 := nr1.c2; have r3 := nr1.c3; have r4 := nr1.c4; have r5 := nr1.c5; have r6 := nr1.c6; have rf0 := nr1.fz 0; have rf1 := nr1.fz 1; have rf2 := nr1.fz 2; have rf3 := nr1.fz 3; have rf4 := nr1.fz 4; have rf5 := nr1.fz 5; have rf6 := nr1.fz 6; have rz := nr1.lt; clear nr1)
    (have n0 := nn1.c0; have n1 := nn1.c1; have n2 := nn1.c2; have n3 := nn1.c3; have n4 := nn1.c4; have n5 := nn1.c5; have n6 := nn1.c6; have nf0 := nn1.fz 0; have nf1 := nn1.fz 1; have nf2 := nn1.fz 2; have nf3 := nn1.fz 3; have nf4 := nn1.fz 4; have nf5 := nn1.fz 5; have nf6 := nn1.fz 6; have nz := nn1.lt; clear nn1)
    have H1 := hid h1
    have hz1 := h1.2.2.size
    clear h1 nr nn
    go_wp2_with fail
    refine bodyPost_ret (v := nodV false a L.length c) (by simp [results, Tryz.results144, go_sem, nodV, r0, r1, r2, r3, r4, r5, r6]) rfl ⟨_, _, L, rfl, ?_⟩
    exact H1.out.ret bV zV _ _ _ _ _ _ _ _
set_option maxHeartbeats 4000000 in
theorem meant_none (r : Int) (w : World) (h1 : r ≠ 68) (h2 : r ≠ 100) (h3 : r ≠ 87) (h4 : r ≠ 119) (h5 : r ≠ 83) (h6 : r ≠ 115) (h7 : r ≠ 110) (h8 : r ≠ 116) (hc : ¬ (cls r = 4 ∨ cls r = 1)) :
    Calls Tryz.prog 144 #[.int .i32 r] w fun e' w' => e' = .returned (nodV false none 0 0) ∧ Below w.heap.size w w' := by
  obtain ⟨V, hV, nr, nn, bV, zV⟩ := two_vars w
  have t1 : (r == 68) = false := by simpa using h1
  have t2 : (r == 100) = false := by simpa using h2
  have t3 : (r == 87) = false := by simpa using h3
  have t4 : (r == 119) = false := by simpa using h4
  have t5 : (r == 83) = false := by simpa using h5
  have t6 : (r == 115) = false := by simpa using h6
  have t7 : (r == 110) = false := by simpa using h7
  have t8 : (r == 116) = false := by simpa using h8
  have C := hid (class_c r V)
  have b1 : (cls r == 4) = false := by simp; exact fun h => hc (.inl h)
  have b2 : (cls r == 1) = false := by simp; exact fun h => hc (.inr h)
  generalize cls r = cv at *
  clear h1 h2 h3 h4 h5 h6 h7 h8 hc
  go_enter Tryz.func144, Tryz.ntmps144
  go_wp2_with fail
  rw [← hV]; clear hV
  refine C.out.mono ?_
  rintro _ _ ⟨rfl, rfl⟩
  (have r0 := nr.c0; have r1 := nr.c1; have r2 := nr.c2; have r3 := nr.c3; have r4 := nr.c4; have r5 := nr.c5; have r6 := nr.c6; have rf0 := nr.fz 0; have rf1 := nr.fz 1; have rf2 := nr.fz 2; have rf3 := nr.fz 3; have rf4 := nr.fz 4; have rf5 := nr.fz 5; have rf6 := nr.fz 6; have rz := nr.lt; clear nr)
  (have n0 := nn.c0; have n1 := nn.c1; have n2 := nn.c2; have n3 := nn.c3; have n4 := nn.c4; have n5 := nn.c5; have n6 := nn.c6; have nf0 := nn.fz 0; have nf1 := nn.fz 1; have nf2 := nn.fz 2; have nf3 := nn.fz 3; have nf4 := nn.fz 4; have nf5 := nn.fz 5; have nf6 := nn.fz 6; have nz := nn.lt; clear nn)
  go_wp2_with fail
  refine bodyPost_ret (v := nodV false none 0 0) (by simp [results, Tryz.results144, go_sem, nodV, r0, r1, r2, r3, r4, r5, r6]) rfl ⟨rfl, ?_⟩
  exact putN_below bV _ (Nat.le_refl _) _ _ _ _ _ _ _
theorem meant_c (r : Int) (w : World) (hr : -2147483648 ≤ r ∧ r ≤ 2147483647) : Calls Tryz.prog 144 #[.int .i32 r] w (MeantE w r) := by
  unfold MeantE
  rw [mean_is]
  by_cases h1 : r = 68
  · subst h1; exact meant_68 w
  by_cases h2 : r = 100
  · subst h2; exact meant_100 w
  by_cases h3 : r = 87
  · subst h3; exact meant_87 w
  by_cases h4 : r = 119
  · subst h4; exact meant_119 w
  by_cases h5 : r = 83
  · subst h5; exact meant_83 w
  by_cases h6 : r = 115
  · subst h6; exact meant_115 w
  by_cases h7 : r = 110
  · subst h7; exact meant_110 w
  by_cases h8 : r = 116
  · subst h8; exact meant_116 w
  rw [if_neg h1, if_neg h2, if_neg h3, if_neg h4, if_neg h5, if_neg h6, if_neg h7, if_neg h8]
  by_cases hc : cls r = 4 ∨ cls r = 1
  · rw [if_pos hc]; exact meant_self r w hr h1 h2 h3 h4 h5 h6 h7 h8 hc
  · rw [if_neg hc]; exact meant_none r w h1 h2 h3 h4 h5 h6 h7 h8 hc
end Go.Proofs.YtefgjicegbhcaaaGreat
