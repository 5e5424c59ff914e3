/- The code's reader: an atom and its repeat (repeated). -/
import Derived.Test.YtefgjicegbhcaaaGreatRxh
import Derived.Test.YtefgjicegbhcaaaGreatReZ
namespace Go.Proofs.YtefgjicegbhcaaaGreat
open Go.RowKit ReM

theorem rns_cons (m : Rm) (M : List Rm) : rns (m :: M) = m.rn :: rns M := rfl
/-- the sets of a list of nodes: each owned, no two in one block -/
structure Sets (base : Nat) (w : World) (M : List Rm) : Prop where
  own : ∀ m, m ∈ M → Own w base m.sa m.sc m.set
  apart : M.Pairwise fun m m' => ∀ k, Blk m.sa k → ¬ Blk m'.sa k
theorem Sets.nil (base : Nat) (w : World) : Sets base w [] := ⟨(fun m hm => by cases hm), List.Pairwise.nil⟩
/-- a list's block is none of its sets' -/
theorem own_types {w : World} {b1 b2 s1 s2 : Nat} {e1 e2 : TypeId} {v1 v2 : Value} {n1 n2 : Nat} {x1 x2 : List Value} (h1 : w.ownsRow b1 e1 s1 v1 n1 x1) (h2 : w.ownsRow b2 e2 s2 v2 n2 x2) (he : e1 ≠ e2) {k : Nat} (k1 : v1.ownBlock = some k) (k2 : v2.ownBlock = some k) : False := by
  rcases h1.2 with ⟨rfl, _⟩ | ⟨g, cap, cur, rfl, _, hh, _⟩
  · simp [Value.ownBlock] at k1
  · rcases h2.2 with ⟨rfl, _⟩ | ⟨g', cap', cur', rfl, _, hh', _⟩
    · simp [Value.ownBlock] at k2
    · simp only [Value.ownBlock, Option.some.injEq] at k1 k2
      subst k1; subst k2
      rw [hh] at hh'
      simp only [Option.some.injEq, Obj.cells.injEq] at hh'
      exact he hh'.2.1
theorem Sets.same {base : Nat} {w w' : World} {M : List Rm} (h : Sets base w M) (hb : ∀ m, m ∈ M → ∀ k, Blk m.sa k → k < w.heap.size → w'.heap[k]? = w.heap[k]?) : Sets base w' M :=
  ⟨fun m hm => (h.own m hm).same fun ad ha hl => hb m hm _ ⟨ad, ha, rfl⟩ hl, h.apart⟩
theorem Sets.stay {base : Nat} {w w' : World} {M : List Rm} (h : Sets base w M) (hb : ∀ k, base ≤ k → k < w.heap.size → w'.heap[k]? = w.heap[k]?) : Sets base w' M :=
  h.same fun m hm k hk hl => hb k ((h.own m hm).1.lt _ (by obtain ⟨ad, ha, rfl⟩ := hk; rw [ha]; rfl)).1 hl
theorem Sets.kr {base r : Nat} {w w' : World} {M : List Rm} (h : Sets base w M) (k : KR r w w') (hr : r < base) : Sets base w' M := h.stay fun j hj hl => k.block j hl (by omega)
theorem Sets.bel {base : Nat} {w w' : World} {M : List Rm} (h : Sets base w M) (hb : Below w.heap.size w w') : Sets base w' M := h.stay fun j _ hl => hb.block j hl
/-- in a world where the list's block alone has turned -/
theorem Sets.list {base base2 : Nat} {w w' : World} {M : List Rm} {a : Option Addr} {c : Nat} {L : List Rm} (h : Sets base w M) (ho : RO w base2 a c L) (k : Kpt (Blk a) w w') : Sets base w' M :=
  h.same fun m hm j hj hl => k.block j hl fun hb => by
    obtain ⟨ad, ha, rfl⟩ := hj
    obtain ⟨ae, he, hb⟩ := hb
    exact own_types (h.own m hm).1 ho.1 (by decide) (k := ad.block) (by rw [ha]; rfl) (by rw [he, ← hb]; rfl)
theorem Sets.base_le {base base' : Nat} {w : World} {M : List Rm} (h : Sets base w M) (hb : base' ≤ base) : Sets base' w M := ⟨fun m hm => (h.own m hm).base_le hb, h.apart⟩
theorem Sets.low {base : Nat} {w : World} {M : List Rm} (h : Sets base w M) : Sets base w (M.map Rm.low) := by
  refine ⟨fun m hm => ?_, ?_⟩
  · obtain ⟨x, hx, rfl⟩ := List.mem_map.1 hm
    exact h.own x hx
  · rw [List.pairwise_map]; exact h.apart
theorem blk_none {k : Nat} (h : Blk none k) : False := by obtain ⟨ad, h, _⟩ := h; cases h
/-- a node without a set in front -/
theorem Sets.cons0 {base : Nat} {w : World} {M : List Rm} (h : Sets base w M) {m : Rm} (h1 : m.sa = none) (h2 : m.sc = 0) (h3 : m.set = []) : Sets base w (m :: M) := by
  refine ⟨fun x hx => ?_, ?_⟩
  · rcases List.mem_cons.1 hx with rfl | hx
    · rw [h1, h2, h3]; exact Own.nil _ _
    · exact h.own x hx
  · rw [List.pairwise_cons]
    refine ⟨fun m' _ k hk => ?_, h.apart⟩
    rw [h1] at hk; exact (blk_none hk).elim
/-- earlier ones and later ones -/
theorem Sets.app {base b2 : Nat} {w : World} {M M' : List Rm} (h : Sets base w M) (h' : Sets b2 w M') (hb : base ≤ b2) (hlt : ∀ m, m ∈ M → ∀ k, Blk m.sa k → k < b2) : Sets base w (M ++ M') := by
  refine ⟨fun m hm => ?_, ?_⟩
  · rcases List.mem_append.1 hm with hm | hm
    · exact h.own m hm
    · exact (h'.own m hm).base_le hb
  · rw [List.pairwise_append]
    refine ⟨h.apart, h'.apart, fun m hm m' hm' k hk hk' => ?_⟩
    have h1 := hlt m hm k hk
    have h2 := ((h'.own m' hm').1.lt k (by obtain ⟨ad, ha, rfl⟩ := hk'; rw [ha]; rfl)).1
    omega
theorem Sets.lt {base : Nat} {w : World} {M : List Rm} (h : Sets base w M) : ∀ m, m ∈ M → ∀ k, Blk m.sa k → k < w.heap.size := fun m hm k hk => ((h.own m hm).1.lt k (by obtain ⟨ad, ha, rfl⟩ := hk; rw [ha]; rfl)).2
/-- a set's node -/
theorem Sets.one {base : Nat} {w : World} {m : Rm} (h : Own w base m.sa m.sc m.set) : Sets base w [m] := ⟨fun x hx => by simp at hx; subst hx; exact h, by simp⟩

theorem bel_none' {w w' : World} (h : Kpt (Blk none) w w') : Below w.heap.size w w' := ⟨h.os, h.tape, h.output, h.size, fun k hk => h.block k hk blk_none⟩
/-- what a reading leaves; n1, d1: how long, how deep its list may be, by how far it went -/
def OutP (res : Rg) (B base : Nat) (w : World) (r : Nat) (a : Option Addr) (c : Nat) (p : List Int) (i x k1 k2 : Nat) (F : Nat → Prop) (e' : Ending) (w' : World) : Prop := match res with
  | .ok l s' g' => ∃ a2 c2 L j, e' = .returned (.slice a2 L.length c2) ∧ rns L = l ∧ RO w' base a2 c2 L ∧ Sets base w' L ∧ i ≤ j ∧ j ≤ p.length ∧ Sml (4 * (j - i) + k1 - 2) (4 * (p.length - i) + k2 - 2) L ∧ s' = p.drop j ∧ g' ≤ 9 ∧ Rdr B w' r a c p j x g' 0 0 ∧ Kpt F w w'
  | .bad e f => ∃ a2 c2 L y, e' = .returned (.slice a2 L.length c2) ∧ RO w' base a2 c2 L ∧ Sml (4 * (p.length - i) + k1 - 2) (4 * (p.length - i) + k2 - 2) L ∧ e ≠ 0 ∧ Rdr B w' r a c p p.length x y e f ∧ Kpt F w w'
set_option maxHeartbeats 8000000 in
theorem repeated_none (B : Nat) (w : World) (r : Nat) (a : Option Addr) (c : Nat) (p : List Int) (j x y : Nat) (e f : Int) (h : Rdr B w r a c p j x y e f) (hj : j ≤ p.length)
    (h1 : nx p j ≠ 43) (h2 : nx p j ≠ 42) (h3 : nx p j ≠ 63) (h4 : nx p j ≠ 123) (am : Option Addr) (cm : Nat) (M : List Rm) :
    Calls Tryz.prog 125 #[.pointer (some ⟨r, 0, none⟩), .slice am M.length cm] w fun e' w' => e' = .returned (.slice am M.length cm) ∧ Rdr B w' r a c p j x y e f ∧ KR r w w' := by
  obtain ⟨V, hV⟩ : ∃ V, V = w.alloc (.cells #[.int .i64 6, .int .i64 0, .int .i64 0, .int .i64 0, .bool false, .bool false, .slice none 0 0] 128) := ⟨_, rfl⟩
  have hV' : Rdr B V r a c p j x y e f := by subst hV; exact h.alloc _
  have kV : KR r w V := by subst hV; exact (KR.refl _ _).alloc _
  have KV := hid kV
  have HV := hid hV'
  (have c0 := h.c0; have c1 := h.c1; have c2 := h.c2; have c3 := h.c3; have c4 := h.c4; have c5 := h.c5; have f1 := h.fz 1; have f2 := h.fz 2; have f3 := h.fz 3; have f4 := h.fz 4; have f5 := h.fz 5; have rl := h.lt; have Hh := hid h; clear h)
  go_enter Tryz.func125, Tryz.ntmps125
  go_wp2_with fail
  rw [← hV]; clear hV kV hV'
  refine (takes_no 43 B V r a c p j x y e f HV.out hj h1).mono ?_
  rintro _ w1 ⟨rfl, t1, k1⟩
  have H1 := hid t1
  have K1 := hid k1
  clear t1 k1
  go_wp2_with fail; refine (takes_no 42 B _ r a c p j x y e f H1.out hj h2).mono ?_; rintro _ w2 ⟨rfl, h2, k2⟩; have H2 := hid h2; have K2 := hid k2; clear h2 k2
  go_wp2_with fail; refine (takes_no 63 B _ r a c p j x y e f H2.out hj h3).mono ?_; rintro _ w3 ⟨rfl, h3, k3⟩; have H3 := hid h3; have K3 := hid k3; clear h3 k3
  go_wp2_with fail; refine (takes_no 123 B _ r a c p j x y e f H3.out hj h4).mono ?_; rintro _ w4 ⟨rfl, h4, k4⟩; have H4 := hid h4; have K4 := hid k4; clear h4 k4
  go_wp2_with fail
  go_ret
  exact ⟨rfl, H4.out, (((KV.out.tr K1.out).tr K2.out).tr K3.out).tr K4.out⟩
def RepP (res : Rg) (B base : Nat) (w : World) (r : Nat) (a : Option Addr) (c : Nat) (p : List Int) (j x n0 d0 : Nat) (F : Nat → Prop) (e' : Ending) (w' : World) : Prop := match res with
  | .ok l s' g' => ∃ a2 c2 L j', e' = .returned (.slice a2 L.length c2) ∧ rns L = l ∧ RO w' base a2 c2 L ∧ Sets base w' L ∧ j ≤ j' ∧ j' ≤ p.length ∧ Sml (n0 + 1) (d0 + 1) L ∧ s' = p.drop j' ∧ Rdr B w' r a c p j' x g' 0 0 ∧ Kpt F w w'
  | .bad e f => ∃ a2 c2 L y, e' = .returned (.slice a2 L.length c2) ∧ RO w' base a2 c2 L ∧ Sml (n0 + 1) (d0 + 1) L ∧ e ≠ 0 ∧ Rdr B w' r a c p p.length x y e f ∧ Kpt F w w'
/-- behind the numbers of a repeat -/
def Mid (res : Rg) (A : List Rn) (g : Nat) (B : Nat) (w : World) (r : Nat) (a : Option Addr) (c : Nat) (p : List Int) (j x N : Nat) (wx : World) : Prop :=
  (∃ lo hi jm, res = finI p A g lo hi jm ∧ j ≤ jm ∧ jm ≤ p.length ∧ NdC wx N 6 0 lo hi false false (.slice none 0 0) ∧ Rdr B wx r a c p jm x g 0 0 ∧ KR r w wx) ∨
  (∃ lo hi f, res = .bad 5 f ∧ NdC wx N 6 0 lo hi false false (.slice none 0 0) ∧ Rdr B wx r a c p p.length x g 5 f ∧ KR r w wx)
theorem NdC.set2 {w : World} {R : Nat} {k d lo hi : Int} {z n : Bool} {s : Value} (h : NdC w R k d lo hi z n s) (v : Int) : NdC (w.setCell ⟨R, 2, none⟩ (.int .i64 v)) R k d v hi z n s :=
  ⟨cell_set1 h.c0 (by decide), cell_set1 h.c1 (by decide), by rw [World.cell?_setCell_same (h := h.c2)], cell_set1 h.c3 (by decide), cell_set1 h.c4 (by decide), cell_set1 h.c5 (by decide), cell_set1 h.c6 (by decide), fun o => by rw [World.frozen?_setCell]; exact h.fz o⟩
theorem NdC.set3 {w : World} {R : Nat} {k d lo hi : Int} {z n : Bool} {s : Value} (h : NdC w R k d lo hi z n s) (v : Int) : NdC (w.setCell ⟨R, 3, none⟩ (.int .i64 v)) R k d lo v z n s :=
  ⟨cell_set1 h.c0 (by decide), cell_set1 h.c1 (by decide), cell_set1 h.c2 (by decide), by rw [World.cell?_setCell_same (h := h.c3)], cell_set1 h.c4 (by decide), cell_set1 h.c5 (by decide), cell_set1 h.c6 (by decide), fun o => by rw [World.frozen?_setCell]; exact h.fz o⟩
theorem NdC.set4 {w : World} {R : Nat} {k d lo hi : Int} {z n : Bool} {s : Value} (h : NdC w R k d lo hi z n s) (v : Bool) : NdC (w.setCell ⟨R, 4, none⟩ (.bool v)) R k d lo hi v n s :=
  ⟨cell_set1 h.c0 (by decide), cell_set1 h.c1 (by decide), cell_set1 h.c2 (by decide), cell_set1 h.c3 (by decide), by rw [World.cell?_setCell_same (h := h.c4)], cell_set1 h.c5 (by decide), cell_set1 h.c6 (by decide), fun o => by rw [World.frozen?_setCell]; exact h.fz o⟩
set_option maxHeartbeats 16000000 in
theorem repeated_c (B base : Nat) (w : World) (r : Nat) (a : Option Addr) (c : Nat) (p : List Int) (j x g : Nat) (h : Rdr B w r a c p j x g 0 0) (hj : j ≤ p.length) (hl : p.length ≤ 1000)
    (am : Option Addr) (cm : Nat) (M : List Rm) (ho : RO w base am cm M) (hS : Sets base w M) (n0 d0 : Nat) (hs : Sml n0 d0 M) (hn : n0 ≤ 100000 ∧ d0 ≤ 100000) (hB : B ≤ base) (hbw : base ≤ w.heap.size) :
    Calls Tryz.prog 125 #[.pointer (some ⟨r, 0, none⟩), .slice am M.length cm] w (RepP (repsI p (rns M) g j) B base w r a c p j x n0 d0 (fun k => k = r ∨ Blk am k)) := by
  have hrB := h.rB
  have hrw : r < w.heap.size := h.lt
  obtain ⟨V, hV⟩ : ∃ V, V = w.alloc (.cells #[.int .i64 6, .int .i64 0, .int .i64 0, .int .i64 0, .bool false, .bool false, .slice none 0 0] 128) := ⟨_, rfl⟩
  have nn : NdC V w.heap.size 6 0 0 0 false false (.slice none 0 0) := by subst hV; exact NdC.new _ _ _ _ _ _ _ _ _ _ rfl
  have HV : Hid (Rdr B V r a c p j x g 0 0) := by subst hV; exact h.alloc _
  have KV : Hid (KR r w V) := by subst hV; exact (KR.refl _ _).alloc _
  have zV : V.heap.size = w.heap.size + 1 := by subst hV; simp
  have NN := hid nn
  have Ho := hid ho
  have HS := hid hS
  have Hs := hid hs
  clear nn ho hS hs
  (have c0 := h.c0; have c1 := h.c1; have c2 := h.c2; have c3 := h.c3; have c4 := h.c4; have c5 := h.c5; have f1 := h.fz 1; have f2 := h.fz 2; have f3 := h.fz 3; have f4 := h.fz 4; have f5 := h.fz 5; have rl := h.lt; have Hh := hid h; clear h)
  go_enter Tryz.func125, Tryz.ntmps125
  go_upto_block 0 with fail
  rw [← hV]; clear hV
  clear rl c0 c1 c2 c3 c4 c5 f1 f2 f3 f4 f5
  go_cut [] (fun wx => Mid (repsI p (rns M) g j) (rns M) g B w r a c p j x w.heap.size wx)
  case first =>
    by_cases h43 : nx p j = 43
    · have hjl := nx_is h43 (by decide)
      have eR := hid (show repsI p (rns M) g j = finI p (rns M) g 1 (-1) (j + 1) by unfold repsI; rw [if_pos h43])
      go_wp2_with fail
      refine (takes_yes 43 B _ r a c p j x g 0 0 HV.out hjl hl h43).mono ?_
      rintro _ w1 ⟨rfl, h1, k1⟩
      have H1 := hid h1
      have K1 := hid (KV.out.tr k1)
      have N1 := hid (NN.out.kpt k1 (by omega))
      clear h1 k1
      have nn := N1.out
      (have n0 := nn.c0; have n1 := nn.c1; have n2 := nn.c2; have n3 := nn.c3; have n4 := nn.c4; have n5 := nn.c5; have n6 := nn.c6; have nf0 := nn.fz 0; have nf1 := nn.fz 1; have nf2 := nn.fz 2; have nf3 := nn.fz 3; have nf4 := nn.fz 4; have nf5 := nn.fz 5; have nf6 := nn.fz 6; have nz := nn.lt; clear nn)
      go_wp2_with fail
      go_meet
      exact .inl ⟨1, -1, j + 1, eR.out, by omega, by omega, (N1.out.set2 1).set3 (-1), (H1.out.setOff _ _ (by omega) _).setOff _ _ (by omega) _, (K1.out.setN _ _ (Nat.le_refl _) _).setN _ _ (Nat.le_refl _) _⟩
    by_cases h42 : nx p j = 42
    · have hjl := nx_is h42 (by decide)
      have eR := hid (show repsI p (rns M) g j = finI p (rns M) g 0 (-1) (j + 1) by unfold repsI; rw [if_neg h43, if_pos h42])
      go_wp2_with fail
      refine (takes_no 43 B _ r a c p j x g 0 0 HV.out hj h43).mono ?_
      rintro _ w1 ⟨rfl, h1, k1⟩
      have H1 := hid h1
      have K1 := hid (KV.out.tr k1)
      have N1 := hid (NN.out.kpt k1 (by omega))
      clear h1 k1
      go_wp2_with fail
      refine (takes_yes 42 B _ r a c p j x g 0 0 H1.out hjl hl h42).mono ?_
      rintro _ w2 ⟨rfl, h1, k1⟩
      have H2 := hid h1
      have K2 := hid (K1.out.tr k1)
      have N2 := hid (N1.out.kpt k1 (by omega))
      clear h1 k1
      have nn := N2.out
      (have n0 := nn.c0; have n1 := nn.c1; have n2 := nn.c2; have n3 := nn.c3; have n4 := nn.c4; have n5 := nn.c5; have n6 := nn.c6; have nf0 := nn.fz 0; have nf1 := nn.fz 1; have nf2 := nn.fz 2; have nf3 := nn.fz 3; have nf4 := nn.fz 4; have nf5 := nn.fz 5; have nf6 := nn.fz 6; have nz := nn.lt; clear nn)
      go_wp2_with fail
      go_meet
      exact .inl ⟨0, -1, j + 1, eR.out, by omega, by omega, N2.out.set3 (-1), H2.out.setOff _ _ (by omega) _, K2.out.setN _ _ (Nat.le_refl _) _⟩
    by_cases h63 : nx p j = 63
    · have hjl := nx_is h63 (by decide)
      have eR := hid (show repsI p (rns M) g j = finI p (rns M) g 0 1 (j + 1) by unfold repsI; rw [if_neg h43, if_neg h42, if_pos h63])
      go_wp2_with fail
      refine (takes_no 43 B _ r a c p j x g 0 0 HV.out hj h43).mono ?_
      rintro _ w1 ⟨rfl, h1, k1⟩
      have H1 := hid h1
      have K1 := hid (KV.out.tr k1)
      have N1 := hid (NN.out.kpt k1 (by omega))
      clear h1 k1
      go_wp2_with fail
      refine (takes_no 42 B _ r a c p j x g 0 0 H1.out hj h42).mono ?_
      rintro _ w2 ⟨rfl, h1, k1⟩
      have H2 := hid h1
      have K2 := hid (K1.out.tr k1)
      have N2 := hid (N1.out.kpt k1 (by omega))
      clear h1 k1
      go_wp2_with fail
      refine (takes_yes 63 B _ r a c p j x g 0 0 H2.out hjl hl h63).mono ?_
      rintro _ w3 ⟨rfl, h1, k1⟩
      have H3 := hid h1
      have K3 := hid (K2.out.tr k1)
      have N3 := hid (N2.out.kpt k1 (by omega))
      clear h1 k1
      have nn := N3.out
      (have n0 := nn.c0; have n1 := nn.c1; have n2 := nn.c2; have n3 := nn.c3; have n4 := nn.c4; have n5 := nn.c5; have n6 := nn.c6; have nf0 := nn.fz 0; have nf1 := nn.fz 1; have nf2 := nn.fz 2; have nf3 := nn.fz 3; have nf4 := nn.fz 4; have nf5 := nn.fz 5; have nf6 := nn.fz 6; have nz := nn.lt; clear nn)
      go_wp2_with fail
      go_meet
      exact .inl ⟨0, 1, j + 1, eR.out, by omega, by omega, N3.out.set3 (1), H3.out.setOff _ _ (by omega) _, K3.out.setN _ _ (Nat.le_refl _) _⟩
    by_cases h123 : nx p j = 123
    · have hjl := nx_is h123 (by decide)
      have eR := hid (show repsI p (rns M) g j = (match timesI p j with | .ok lo hi j' => finI p (rns M) g lo hi j' | .bad k => .bad 5 k) by unfold repsI; rw [if_neg h43, if_neg h42, if_neg h63, if_pos h123]; cases timesI p j <;> rfl)
      go_wp2_with fail
      refine (takes_no 43 B _ r a c p j x g 0 0 HV.out hj h43).mono ?_
      rintro _ w1 ⟨rfl, h1, k1⟩
      have H1 := hid h1
      have K1 := hid (KV.out.tr k1)
      have N1 := hid (NN.out.kpt k1 (by omega))
      clear h1 k1
      go_wp2_with fail
      refine (takes_no 42 B _ r a c p j x g 0 0 H1.out hj h42).mono ?_
      rintro _ w2 ⟨rfl, h1, k1⟩
      have H2 := hid h1
      have K2 := hid (K1.out.tr k1)
      have N2 := hid (N1.out.kpt k1 (by omega))
      clear h1 k1
      go_wp2_with fail
      refine (takes_no 63 B _ r a c p j x g 0 0 H2.out hj h63).mono ?_
      rintro _ w3 ⟨rfl, h1, k1⟩
      have H3 := hid h1
      have K3 := hid (K2.out.tr k1)
      have N3 := hid (N2.out.kpt k1 (by omega))
      clear h1 k1
      go_wp2_with fail
      refine (takes_yes 123 B _ r a c p j x g 0 0 H3.out hjl hl h123).mono ?_
      rintro _ w4 ⟨rfl, h1, k1⟩
      have H4 := hid h1
      have K4 := hid (K3.out.tr k1)
      have N4 := hid (N3.out.kpt k1 (by omega))
      clear h1 k1
      have Bn := hid (bounds_c B w4 r a c p j x g H4.out hjl hl)
      cases hT : timesI p j with
      | ok lo hi j' =>
        have hj' := times_at hT hjl
        have eR2 := hid (show repsI p (rns M) g j = finI p (rns M) g lo hi j' by rw [eR.out, hT])
        have Bn2 := Bn.out
        rw [hT] at Bn2
        have Bn3 := hid Bn2
        clear hT Bn Bn2
        go_wp2_with fail
        refine Bn3.out.mono ?_
        rintro _ w8 ⟨rfl, h1, k1⟩
        have H8 := hid h1
        have K8 := hid (K4.out.tr k1)
        have N8 := hid (N4.out.kpt k1 (by omega))
        clear h1 k1
        have nn := N8.out
        (have n0 := nn.c0; have n1 := nn.c1; have n2 := nn.c2; have n3 := nn.c3; have n4 := nn.c4; have n5 := nn.c5; have n6 := nn.c6; have nf0 := nn.fz 0; have nf1 := nn.fz 1; have nf2 := nn.fz 2; have nf3 := nn.fz 3; have nf4 := nn.fz 4; have nf5 := nn.fz 5; have nf6 := nn.fz 6; have nz := nn.lt; clear nn)
        go_wp2_with fail
        go_meet
        exact .inl ⟨lo, hi, j', eR2.out, by omega, by omega, (N8.out.set2 lo).set3 hi, (H8.out.setOff _ _ (by omega) _).setOff _ _ (by omega) _, (K8.out.setN _ _ (Nat.le_refl _) _).setN _ _ (Nat.le_refl _) _⟩
      | bad k =>
        have eR2 := hid (show repsI p (rns M) g j = .bad 5 k by rw [eR.out, hT])
        have Bn2 := Bn.out
        rw [hT] at Bn2
        have Bn3 := hid Bn2
        clear hT Bn Bn2
        go_wp2_with fail
        refine Bn3.out.mono ?_
        rintro _ w8 ⟨lo, hi, rfl, h1, k1⟩
        have H8 := hid h1
        have K8 := hid (K4.out.tr k1)
        have N8 := hid (N4.out.kpt k1 (by omega))
        clear h1 k1
        have nn := N8.out
        (have n0 := nn.c0; have n1 := nn.c1; have n2 := nn.c2; have n3 := nn.c3; have n4 := nn.c4; have n5 := nn.c5; have n6 := nn.c6; have nf0 := nn.fz 0; have nf1 := nn.fz 1; have nf2 := nn.fz 2; have nf3 := nn.fz 3; have nf4 := nn.fz 4; have nf5 := nn.fz 5; have nf6 := nn.fz 6; have nz := nn.lt; clear nn)
        go_wp2_with fail
        go_meet
        exact .inr ⟨lo, hi, k, eR2.out, (N8.out.set2 lo).set3 hi, (H8.out.setOff _ _ (by omega) _).setOff _ _ (by omega) _, (K8.out.setN _ _ (Nat.le_refl _) _).setN _ _ (Nat.le_refl _) _⟩
    have eR := hid (show repsI p (rns M) g j = .ok (rns M) (p.drop j) g by unfold repsI; rw [if_neg h43, if_neg h42, if_neg h63, if_neg h123])
    go_wp2_with fail
    refine (takes_no 43 B _ r a c p j x g 0 0 HV.out hj h43).mono ?_
    rintro _ w1 ⟨rfl, h1, k1⟩
    have H1 := hid h1
    have K1 := hid (KV.out.tr k1)
    clear h1 k1
    go_wp2_with fail
    refine (takes_no 42 B _ r a c p j x g 0 0 H1.out hj h42).mono ?_
    rintro _ w2 ⟨rfl, h1, k1⟩
    have H2 := hid h1
    have K2 := hid (K1.out.tr k1)
    clear h1 k1
    go_wp2_with fail
    refine (takes_no 63 B _ r a c p j x g 0 0 H2.out hj h63).mono ?_
    rintro _ w3 ⟨rfl, h1, k1⟩
    have H3 := hid h1
    have K3 := hid (K2.out.tr k1)
    clear h1 k1
    go_wp2_with fail
    refine (takes_no 123 B _ r a c p j x g 0 0 H3.out hj h123).mono ?_
    rintro _ w4 ⟨rfl, h1, k1⟩
    have H4 := hid h1
    have K4 := hid (K3.out.tr k1)
    clear h1 k1
    go_wp2_with fail
    go_ret
    rw [eR.out]
    exact ⟨am, cm, M, j, rfl, rfl, Ho.out.kr K4.out (by omega), HS.out.kr K4.out (by omega), Nat.le_refl _, hj, Hs.out.mono (by omega) (by omega), rfl, H4.out, K4.out.mono fun k hk => .inl hk⟩
  case rest =>
    rename World => w3
    rcases hcut with ⟨lo, hi, jm, eR, hjm, hjn, hn3, hr3, k3⟩ | ⟨lo, hi, f, eR, hn3, hr3, k3⟩
    · by_cases h63 : nx p jm = 63
      · have hjl := nx_is h63 (by decide)
        have eR := hid eR
        unfold finI at eR
        rw [if_pos h63] at eR
        go_wp2_with fail
        refine (takes_yes 63 B w3 r a c p jm x g 0 0 hr3 hjl hl h63).mono ?_
        rintro _ w4 ⟨rfl, h4, k4⟩
        have nq := hn3.kpt k4 (by omega)
        have H4 := hid h4
        have K4 := hid (k3.tr k4)
        have N4 := hid nq
        clear h4 k4 hn3 hr3 k3
        (have n0 := nq.c0; have n1 := nq.c1; have n2 := nq.c2; have n3 := nq.c3; have n4 := nq.c4; have n5 := nq.c5; have n6 := nq.c6; have nf0 := nq.fz 0; have nf1 := nq.fz 1; have nf2 := nq.fz 2; have nf3 := nq.fz 3; have nf4 := nq.fz 4; have nf5 := nq.fz 5; have nf6 := nq.fz 6; have nz := nq.lt; clear nq)
        go_wp2_with fail
        have K5 := hid (K4.out.setN w.heap.size 4 (Nat.le_refl _) (.bool true))
        have H5 := hid (H4.out.setOff w.heap.size 4 (by omega) (.bool true))
        refine (holding_c base ⟨6, 0, lo, hi, true, false, none, [], 0⟩ am cm M _ (Ho.out.kr K5.out (by omega)) (Hs.out.mono hn.1 hn.2)).mono ?_
        rintro _ w6 ⟨a2, c2, L, rfl, hL, ho2, k6⟩
        have S6 := hid (((HS.out.kr K5.out (by omega)).list (Ho.out.kr K5.out (by omega)) k6).low.cons0 (m := ⟨6, 0, lo, hi, true, false, none, [], 0⟩) rfl rfl rfl)
        have O6 := hid (ho2.base_le (base' := base) (by have := K5.out.size; omega))
        have K6 := hid (Kpt.step (K5.out.mono (fun k hk => .inl hk) : Kpt (fun k => k = r ∨ Blk am k) _ _) k6 (fun k hk => .inl (.inr hk)))
        have R6 := hid (H5.out.kpt k6 (fun k hk => by have := (Ho.out.lt hk).1; omega))
        clear ho2 k6
        go_wp2_with fail
        go_ret
        rw [eR.out]
        exact ⟨a2, c2, L, jm + 1, rfl, by rw [hL.out, rns_cons, rns_low]; rfl, O6.out, by rw [hL.out]; exact S6.out, by omega, by omega, by rw [hL.out]; exact Hs.out.low.cons rfl, rfl, R6.out, K6.out⟩
      · have eR := hid eR
        unfold finI at eR
        rw [if_neg h63] at eR
        go_wp2_with fail
        refine (takes_no 63 B w3 r a c p jm x g 0 0 hr3 hjn h63).mono ?_
        rintro _ w4 ⟨rfl, h4, k4⟩
        have nq := hn3.kpt k4 (by omega)
        have H4 := hid h4
        have K4 := hid (k3.tr k4)
        have N4 := hid nq
        clear h4 k4 hn3 hr3 k3
        (have n0 := nq.c0; have n1 := nq.c1; have n2 := nq.c2; have n3 := nq.c3; have n4 := nq.c4; have n5 := nq.c5; have n6 := nq.c6; have nf0 := nq.fz 0; have nf1 := nq.fz 1; have nf2 := nq.fz 2; have nf3 := nq.fz 3; have nf4 := nq.fz 4; have nf5 := nq.fz 5; have nf6 := nq.fz 6; have nz := nq.lt; clear nq)
        go_wp2_with fail
        have K5 := hid (K4.out.setN w.heap.size 4 (Nat.le_refl _) (.bool false))
        have H5 := hid (H4.out.setOff w.heap.size 4 (by omega) (.bool false))
        refine (holding_c base ⟨6, 0, lo, hi, false, false, none, [], 0⟩ am cm M _ (Ho.out.kr K5.out (by omega)) (Hs.out.mono hn.1 hn.2)).mono ?_
        rintro _ w6 ⟨a2, c2, L, rfl, hL, ho2, k6⟩
        have S6 := hid (((HS.out.kr K5.out (by omega)).list (Ho.out.kr K5.out (by omega)) k6).low.cons0 (m := ⟨6, 0, lo, hi, false, false, none, [], 0⟩) rfl rfl rfl)
        have O6 := hid (ho2.base_le (base' := base) (by have := K5.out.size; omega))
        have K6 := hid (Kpt.step (K5.out.mono (fun k hk => .inl hk) : Kpt (fun k => k = r ∨ Blk am k) _ _) k6 (fun k hk => .inl (.inr hk)))
        have R6 := hid (H5.out.kpt k6 (fun k hk => by have := (Ho.out.lt hk).1; omega))
        clear ho2 k6
        go_wp2_with fail
        go_ret
        rw [eR.out]
        exact ⟨a2, c2, L, jm, rfl, by rw [hL.out, rns_cons, rns_low]; rfl, O6.out, by rw [hL.out]; exact S6.out, hjm, hjn, by rw [hL.out]; exact Hs.out.low.cons rfl, rfl, R6.out, K6.out⟩
    · have eR := hid eR
      go_wp2_with fail
      refine (takes_no 63 B w3 r a c p p.length x g 5 f hr3 (Nat.le_refl _) (by rw [nx_end (Nat.le_refl _)]; decide)).mono ?_
      rintro _ w4 ⟨rfl, h4, k4⟩
      have nq := hn3.kpt k4 (by omega)
      have H4 := hid h4
      have K4 := hid (k3.tr k4)
      have N4 := hid nq
      clear h4 k4 hn3 hr3 k3
      (have n0 := nq.c0; have n1 := nq.c1; have n2 := nq.c2; have n3 := nq.c3; have n4 := nq.c4; have n5 := nq.c5; have n6 := nq.c6; have nf0 := nq.fz 0; have nf1 := nq.fz 1; have nf2 := nq.fz 2; have nf3 := nq.fz 3; have nf4 := nq.fz 4; have nf5 := nq.fz 5; have nf6 := nq.fz 6; have nz := nq.lt; clear nq)
      go_wp2_with fail
      have K5 := hid (K4.out.setN w.heap.size 4 (Nat.le_refl _) (.bool false))
      have H5 := hid (H4.out.setOff w.heap.size 4 (by omega) (.bool false))
      refine (holding_c base ⟨6, 0, lo, hi, false, false, none, [], 0⟩ am cm M _ (Ho.out.kr K5.out (by omega)) (Hs.out.mono hn.1 hn.2)).mono ?_
      rintro _ w6 ⟨a2, c2, L, rfl, hL, ho2, k6⟩
      have S6 := hid (((HS.out.kr K5.out (by omega)).list (Ho.out.kr K5.out (by omega)) k6).low.cons0 (m := ⟨6, 0, lo, hi, false, false, none, [], 0⟩) rfl rfl rfl)
      have O6 := hid (ho2.base_le (base' := base) (by have := K5.out.size; omega))
      have K6 := hid (Kpt.step (K5.out.mono (fun k hk => .inl hk) : Kpt (fun k => k = r ∨ Blk am k) _ _) k6 (fun k hk => .inl (.inr hk)))
      have R6 := hid (H5.out.kpt k6 (fun k hk => by have := (Ho.out.lt hk).1; omega))
      clear ho2 k6
      go_wp2_with fail
      go_ret
      rw [eR.out]
      exact ⟨a2, c2, L, g, rfl, O6.out, by rw [hL.out]; exact Hs.out.low.cons rfl, by decide, R6.out, K6.out⟩
end Go.Proofs.YtefgjicegbhcaaaGreat
