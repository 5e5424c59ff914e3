/- What the code answers for a name: vars.Value. -/
import Derived.Test.YtijhkpbnalnpbaaDoorVv
namespace Go.Proofs.YtijhkpbnalnpbaaDoor
open Go.RowKit

/-- what Value tells -/
def ValE (w : World) (m : En) (l : List Int) (used : Int) (e : Ending) (w' : World) : Prop :=
  Below w.heap.size w w' ∧ ((okV m l used = none ∧ e = .returned (.tuple #[.slice none 0 0, .bool false, .int .i64 used])) ∨
    ∃ k L a c, k < 24 ∧ okV m l used = some k ∧ 0 ≤ used ∧ used ≤ 1000 ∧ Hid (L = tellL m used.toNat k) ∧ e = .returned (.tuple #[.slice a L.length c, .bool true, .int .i64 (used + takesN k)]) ∧ Own w' w.heap.size a c L)
theorem nDigits_small5 (n : Nat) (h : n < 100000) : Lib.nDigits n ≤ 5 := nDigits_le 4 n (by simpa using h)
theorem baseL_len (l : List Int) : (baseL l).length ≤ l.length := by
  unfold baseL baseAt; split
  · simp only [List.length_take]; omega
  · exact Nat.le_refl _
theorem moL_len (i : Nat) : (moL i).length ≤ 9 := by unfold moL; split <;> decide
theorem dyL_len (i : Nat) : (dyL i).length ≤ 9 := by unfold dyL; split <;> decide
theorem uuidL_len (m : En) (u : Nat) : (uuidL (hexesL m u 5)).length ≤ 100 := by
  have := hexesL_len m u 5
  simp only [uuidL, List.length_append, List.length_take, List.length_drop, List.length_cons, List.length_nil, this]
  omega
theorem tellL_len {m : En} (X : TxsMay m) (u k : Nat) : (tellL m u k).length ≤ 1000 := by
  have h0 := X.l0; have h1 := X.l1; have h2 := X.l2; have h3 := X.l3; have h4 := X.l4; have h5 := X.l5; have hi := X.ix
  have hb := baseL_len m.t3
  have d1 := nDigits_small5 m.ix.toNat (by omega)
  have d2 := nDigits_small5 (m.ix.toNat + 1) (by omega)
  have e1 := moL_len (m.k1.toNat - 1)
  have e2 := dyL_len m.k6.toNat
  have e3 := uuidL_len m u
  unfold tellL
  split <;> first | omega | (simp only [itoaL, digs_len, List.length_append, List.length_take, List.length_cons, List.length_nil]; omega)
/-- the box of an environment -/
structure BoxAt (w : World) (b : Nat) (m : En) : Prop where
  c : ∀ i v, (enC m)[i]? = some v → w.cell? ⟨b, i, none⟩ = some v
theorem BoxAt.new (w : World) (m : En) (T : TypeId) : BoxAt (w.alloc (.cells (enC m) T)) w.heap.size m := ⟨fun i v h => by rw [cell_alloc_new]; exact h⟩
theorem BoxAt.bel {w w' : World} {b : Nat} {m : En} (h : BoxAt w b m) (hl : b < w.heap.size) (hb : Below w.heap.size w w') : BoxAt w' b m := ⟨fun i v hv => (hb.cell (p := ⟨b, i, none⟩) hl).trans (h.c i v hv)⟩
set_option maxHeartbeats 4000000 in
set_option maxRecDepth 100000 in
theorem value_c (m : En) (a : Option Addr) (c : Nat) (l : List Int) (used : Int) (w : World) (hm : Hid (EnOk w m)) (hs : Hid (Sl w a l)) (hu : i64 used) (hg : Hid (Gl w)) :
    Calls Tryd.prog 13 #[.agg (enC m), .slice a l.length c, .int .i64 used] w (ValE w m l used) := by
  have HX0 := hid (BoxAt.new w m 26)
  have MAY : Hid (∀ w, Hid (EnOk w m) → Hid (Gl w) → Calls Tryd.prog 19 #[.agg #[.slice m.a0 m.t0.length m.c0, .slice m.a1 m.t1.length m.c1, .slice m.a2 m.t2.length m.c2, .slice m.a3 m.t3.length m.c3, .slice m.a4 m.t4.length m.c4, .slice m.a5 m.t5.length m.c5, .int .i64 m.ix, .int .i64 m.k0, .int .i64 m.k1, .int .i64 m.k2, .int .i64 m.k3, .int .i64 m.k4, .int .i64 m.k5, .int .i64 m.k6, .slice m.da m.dl.length m.dc]] w (MayP w (mayE m))) := hid fun w h1 h2 => may_e m w h1 h2
  simp only [enC] at HX0 ⊢
  go_enter Tryd.func13, Tryd.ntmps13
  go_wp2_with fail
  generalize hW0 : w.alloc (.cells #[.slice m.a0 m.t0.length m.c0, .slice m.a1 m.t1.length m.c1, .slice m.a2 m.t2.length m.c2, .slice m.a3 m.t3.length m.c3, .slice m.a4 m.t4.length m.c4, .slice m.a5 m.t5.length m.c5, .int .i64 m.ix, .int .i64 m.k0, .int .i64 m.k1, .int .i64 m.k2, .int .i64 m.k3, .int .i64 m.k4, .int .i64 m.k5, .int .i64 m.k6, .slice m.da m.dl.length m.dc] 26) = W0 at HX0 ⊢
  have hb0 : Hid (Below w.heap.size w W0) := hid (by rw [← hW0]; exact bal (Below.refl _ _) _)
  have hz0 : W0.heap.size = w.heap.size + 1 := by rw [← hW0]; simp
  clear hW0
  refine (find_c a c l W0 (hs.out.bel hb0.out) (hid (hg.out.bel hb0.out))).mono ?_
  rintro e w1 ⟨hb1, ⟨hr, rfl⟩ | ⟨k, hk, hr, rfl⟩⟩
  · have hbw := hid (hb0.out.trans (hb1.mono hb0.out.size))
    have ho : Hid (okV m l used = none) := hid (by simp [okV, hr])
    clear hb1 hr
    go_wp2
    refine bodyPost_ret (v := .tuple #[.slice none 0 0, .bool false, .int .i64 used]) (by simp [results, Tryd.results13, go_sem]) rfl ⟨hbw.out.trans ((Below.refl w1.heap.size w1).alloc (Nat.le_refl _) _ |>.mono hbw.out.size), .inl ⟨ho.out, rfl⟩⟩
  · have hbw := hid (hb0.out.trans (hb1.mono hb0.out.size))
    have HX1 := hid (HX0.out.bel (by omega) hb1)
    have hz1 := hb1.size
    have TC : Hid (∀ (p : Nat) (u : Nat) (w : World), Hid (TelAt w p m u) → Hid (EnP w p m) → Hid (mayE m = true) → u ≤ 4000 → Hid (Gl w) → 8 ≤ p →
        Calls Tryd.prog 24 #[.pointer (some ⟨p, 0, none⟩), rowV k] w (TellE w p m (u + takesN k) (tellL m u k))) := hid fun p u w h1 h2 h3 h4 h5 h6 => text_c k hk p m u w h1 h2 h3 h4 h5 h6
    clear hb1
    simp only [rowV] at TC ⊢
    generalize bStr (nameL k) = N at TC ⊢
    generalize hte : teN k = te at TC ⊢
    generalize hpa : paN k = pa at TC ⊢
    clear hte hpa
    go_wp2_with fail
    generalize hW1 : w1.alloc (.cells #[.string N, .int .i64 te, .int .i64 pa] 48) = W1
    have hb1 : Hid (Below w.heap.size w W1) := hid (by rw [← hW1]; exact hbw.out.trans ((Below.refl w1.heap.size w1).alloc (Nat.le_refl _) _ |>.mono hbw.out.size))
    have HX2 : Hid (BoxAt W1 w.heap.size m) := hid (by rw [← hW1]; exact HX1.out.bel (by omega) (bal (Below.refl _ _) _))
    have hz2 : W1.heap.size = w1.heap.size + 1 := by rw [← hW1]; simp
    have v0 : W1.cell? ⟨w1.heap.size, 0, none⟩ = some (.string N) := by rw [← hW1, cell_alloc_new]; rfl
    have v1 : W1.cell? ⟨w1.heap.size, 1, none⟩ = some (.int .i64 te) := by rw [← hW1, cell_alloc_new]; rfl
    have v2 : W1.cell? ⟨w1.heap.size, 2, none⟩ = some (.int .i64 pa) := by rw [← hW1, cell_alloc_new]; rfl
    have hEW : Hid (EnOk W1 m) := hid (hm.out.bel hb1.out)
    have hgW : Hid (Gl W1) := hid (hg.out.bel hb1.out)
    clear hW1
    refine (vbetween_c used 0 1000 W1).mono ?_
    rintro e w' ⟨rfl, rfl⟩
    cases hq1 : bti used 0 1000 with
    | false =>
      have ho : Hid (okV m l used = none) := hid (by simp [okV, hq1])
      clear hq1
      go_wp2
      exact bodyPost_ret (v := .tuple #[.slice none 0 0, .bool false, .int .i64 used]) (by simp [results, Tryd.results13, go_sem]) rfl ⟨hb1.out, .inl ⟨ho.out, rfl⟩⟩
    | true =>
      have hur : Hid (0 ≤ used ∧ used ≤ 1000) := hid (by simpa [bti] using hq1)
      have Hq1 := hid hq1
      clear hq1
      have d0 : W1.cell? ⟨w.heap.size, 0, none⟩ = some (.slice m.a0 m.t0.length m.c0) := (HX2.out).c 0 _ rfl
      have d1 : W1.cell? ⟨w.heap.size, 1, none⟩ = some (.slice m.a1 m.t1.length m.c1) := (HX2.out).c 1 _ rfl
      have d2 : W1.cell? ⟨w.heap.size, 2, none⟩ = some (.slice m.a2 m.t2.length m.c2) := (HX2.out).c 2 _ rfl
      have d3 : W1.cell? ⟨w.heap.size, 3, none⟩ = some (.slice m.a3 m.t3.length m.c3) := (HX2.out).c 3 _ rfl
      have d4 : W1.cell? ⟨w.heap.size, 4, none⟩ = some (.slice m.a4 m.t4.length m.c4) := (HX2.out).c 4 _ rfl
      have d5 : W1.cell? ⟨w.heap.size, 5, none⟩ = some (.slice m.a5 m.t5.length m.c5) := (HX2.out).c 5 _ rfl
      have d6 : W1.cell? ⟨w.heap.size, 6, none⟩ = some (.int .i64 m.ix) := (HX2.out).c 6 _ rfl
      have d7 : W1.cell? ⟨w.heap.size, 7, none⟩ = some (.int .i64 m.k0) := (HX2.out).c 7 _ rfl
      have d8 : W1.cell? ⟨w.heap.size, 8, none⟩ = some (.int .i64 m.k1) := (HX2.out).c 8 _ rfl
      have d9 : W1.cell? ⟨w.heap.size, 9, none⟩ = some (.int .i64 m.k2) := (HX2.out).c 9 _ rfl
      have d10 : W1.cell? ⟨w.heap.size, 10, none⟩ = some (.int .i64 m.k3) := (HX2.out).c 10 _ rfl
      have d11 : W1.cell? ⟨w.heap.size, 11, none⟩ = some (.int .i64 m.k4) := (HX2.out).c 11 _ rfl
      have d12 : W1.cell? ⟨w.heap.size, 12, none⟩ = some (.int .i64 m.k5) := (HX2.out).c 12 _ rfl
      have d13 : W1.cell? ⟨w.heap.size, 13, none⟩ = some (.int .i64 m.k6) := (HX2.out).c 13 _ rfl
      have d14 : W1.cell? ⟨w.heap.size, 14, none⟩ = some (.slice m.da m.dl.length m.dc) := (HX2.out).c 14 _ rfl
      go_wp2_with fail
      refine (MAY.out W1 hEW hgW).mono ?_
      rintro e w2 ⟨rfl, hb2⟩
      clear d0 d1 d2 d3 d4 d5 d6 d7 d8 d9 d10 d11 d12 d13 d14
      have hbw2 := hid (hb1.out.trans (hb2.mono hb1.out.size))
      cases hq2 : mayE m with
      | false =>
        have ho : Hid (okV m l used = none) := hid (by simp [okV, hq2])
        clear hq2 hb2
        go_wp2
        exact bodyPost_ret (v := .tuple #[.slice none 0 0, .bool false, .int .i64 used]) (by simp [results, Tryd.results13, go_sem]) rfl ⟨hbw2.out, .inl ⟨ho.out, rfl⟩⟩
      | true =>
        have Hq2 := hid hq2
        have ho : Hid (okV m l used = some k) := hid (by simp [okV, hq2, Hq1.out, hr])
        have HX3 := hid (HX2.out.bel (by omega) hb2)
        have hz3 := hb2.size
        have y0 := (hb2.cell (p := ⟨w1.heap.size, 0, none⟩) (by show w1.heap.size < _; omega)).trans v0
        have y1 := (hb2.cell (p := ⟨w1.heap.size, 1, none⟩) (by show w1.heap.size < _; omega)).trans v1
        have y2 := (hb2.cell (p := ⟨w1.heap.size, 2, none⟩) (by show w1.heap.size < _; omega)).trans v2
        clear hq2 hb2 hr v0 v1 v2
        have hl9 : w1.heap.size < w2.heap.size := by omega
        obtain ⟨u, rfl⟩ : ∃ u : Nat, used = (u : Int) := ⟨used.toNat, by have := hur.out; omega⟩
        have hu4 : u ≤ 1000 := by have := hur.out; omega
        have d0 : w2.cell? ⟨w.heap.size, 0, none⟩ = some (.slice m.a0 m.t0.length m.c0) := (HX3.out).c 0 _ rfl
        have d1 : w2.cell? ⟨w.heap.size, 1, none⟩ = some (.slice m.a1 m.t1.length m.c1) := (HX3.out).c 1 _ rfl
        have d2 : w2.cell? ⟨w.heap.size, 2, none⟩ = some (.slice m.a2 m.t2.length m.c2) := (HX3.out).c 2 _ rfl
        have d3 : w2.cell? ⟨w.heap.size, 3, none⟩ = some (.slice m.a3 m.t3.length m.c3) := (HX3.out).c 3 _ rfl
        have d4 : w2.cell? ⟨w.heap.size, 4, none⟩ = some (.slice m.a4 m.t4.length m.c4) := (HX3.out).c 4 _ rfl
        have d5 : w2.cell? ⟨w.heap.size, 5, none⟩ = some (.slice m.a5 m.t5.length m.c5) := (HX3.out).c 5 _ rfl
        have d6 : w2.cell? ⟨w.heap.size, 6, none⟩ = some (.int .i64 m.ix) := (HX3.out).c 6 _ rfl
        have d7 : w2.cell? ⟨w.heap.size, 7, none⟩ = some (.int .i64 m.k0) := (HX3.out).c 7 _ rfl
        have d8 : w2.cell? ⟨w.heap.size, 8, none⟩ = some (.int .i64 m.k1) := (HX3.out).c 8 _ rfl
        have d9 : w2.cell? ⟨w.heap.size, 9, none⟩ = some (.int .i64 m.k2) := (HX3.out).c 9 _ rfl
        have d10 : w2.cell? ⟨w.heap.size, 10, none⟩ = some (.int .i64 m.k3) := (HX3.out).c 10 _ rfl
        have d11 : w2.cell? ⟨w.heap.size, 11, none⟩ = some (.int .i64 m.k4) := (HX3.out).c 11 _ rfl
        have d12 : w2.cell? ⟨w.heap.size, 12, none⟩ = some (.int .i64 m.k5) := (HX3.out).c 12 _ rfl
        have d13 : w2.cell? ⟨w.heap.size, 13, none⟩ = some (.int .i64 m.k6) := (HX3.out).c 13 _ rfl
        have d14 : w2.cell? ⟨w.heap.size, 14, none⟩ = some (.slice m.da m.dl.length m.dc) := (HX3.out).c 14 _ rfl
        go_wp2_with fail
        clear d0 d1 d2 d3 d4 d5 d6 d7 d8 d9 d10 d11 d12 d13 d14 y0 y1 y2
        generalize hW3 : w2.alloc (.cells #[.slice m.a0 m.t0.length m.c0, .slice m.a1 m.t1.length m.c1, .slice m.a2 m.t2.length m.c2, .slice m.a3 m.t3.length m.c3, .slice m.a4 m.t4.length m.c4, .slice m.a5 m.t5.length m.c5, .int .i64 m.ix, .int .i64 m.k0, .int .i64 m.k1, .int .i64 m.k2, .int .i64 m.k3, .int .i64 m.k4, .int .i64 m.k5, .int .i64 m.k6, .slice m.da m.dl.length m.dc, .int .i64 u] 53) = W3
        have hb3 : Hid (Below w.heap.size w W3) := hid (by rw [← hW3]; exact hbw2.out.trans ((Below.refl w2.heap.size w2).alloc (Nat.le_refl _) _ |>.mono hbw2.out.size))
        have hT3 : Hid (TelAt W3 w2.heap.size m u) := hid (by
          rw [← hW3]
          refine ⟨fun i v hv => ?_, by rw [cell_alloc_new]; rfl, by simp⟩
          rw [cell_alloc_new]
          have : i < 15 := (Array.getElem?_eq_some_iff.1 hv).1
          rcases (show i = 0 ∨ i = 1 ∨ i = 2 ∨ i = 3 ∨ i = 4 ∨ i = 5 ∨ i = 6 ∨ i = 7 ∨ i = 8 ∨ i = 9 ∨ i = 10 ∨ i = 11 ∨ i = 12 ∨ i = 13 ∨ i = 14 by omega) with rfl | rfl | rfl | rfl | rfl | rfl | rfl | rfl | rfl | rfl | rfl | rfl | rfl | rfl | rfl <;> exact hv)
        have hwz : w.heap.size ≤ w2.heap.size := hbw2.out.size
        have hE3 : Hid (EnP W3 w2.heap.size m) := hid fun w' hw' => hm.out.bel (hb3.out.trans (hw'.mono hwz))
        have h8 : 8 ≤ w2.heap.size := by have := hg.out.lt; omega
        clear hW3
        refine (TC.out w2.heap.size u W3 hT3 hE3 Hq2 (by omega) (hid (hg.out.bel hb3.out)) h8).mono ?_
        rintro e w4 ⟨s, rfl, hs4, hT4⟩
        have c15 := hT4.at_.c15
        have hl4 := hT4.at_.lt
        have hbw4 := hid (hb3.out.trans (hT4.bel.mono hwz))
        have hLL : Hid ((tellL m u k).length ≤ 1000) := hid (tellL_len (mayE_tx Hq2.out) u k)
        have hmay := hid hs4.may
        have cv := conv_runes hs4 (by have := hLL.out; omega)
        clear hT4 hs4
        generalize hL : tellL m u k = L at cv hLL hmay
        have HL := hid hL
        clear hL
        go_wp2_with fail
        go_region
        all_goals go_wp2
        all_goals go_ret3
        all_goals refine ⟨?_, .inr ⟨k, L, _, _, hk, ho.out, hur.out.1, hur.out.2, hid (by rw [Int.toNat_natCast]; exact HL.out.symm), rfl, conv_own hmay.out (by have := hLL.out; omega) _ w4 _ _ rfl hbw4.out.size⟩⟩
        all_goals exact ((hbw4.out.trans ((Below.refl w4.heap.size w4).alloc (Nat.le_refl _) _ |>.mono hbw4.out.size)).drew).drew
end Go.Proofs.YtijhkpbnalnpbaaDoor
