/- An environment as an argument of a law: opened; what the reach pays of it. -/
import Derived.Test.YtijhkpbnalnpbaaDoorVa
import Derived.OpenShut
import Derived.Deep.Slices
import Derived.Deep.Fields
import Derived.Lib.SmallJoins
namespace Go.Proofs.YtijhkpbnalnpbaaDoor
open Go.RowKit Go.ChangeShapes Go.WideShapes Go.ChangeAt Go.Deep Go.Joins

theorem Tryd.cellsEnv : Tryd.prog.cellsOf 26 = 15 := by kernel_rfl
theorem Tryd.cellsRunesE : Tryd.prog.cellsOf 22 = 1 := by kernel_rfl
theorem Tryd.cellsIntsE : Tryd.prog.cellsOf 24 = 1 := by kernel_rfl
theorem Tryd.cellsIntE : Tryd.prog.cellsOf 3 = 1 := by kernel_rfl
theorem Tryd.cellsClockE : Tryd.prog.cellsOf 23 = 7 := by kernel_rfl

section
variable {H : Type} {enc : TypeId × Value → H}
def CpE (Y : DataW H) (c : Nat) : Prop := Y = .nil ∧ c = 0 ∨ ∃ es sp, Y = .slice es sp ∧ es.length + sp.length = c
theorem rcellE {W : World} {fuel : Nat} {cs : List Value} {y : DataW H × List MemPlace} (hf : DataW.trod enc Tryd.prog W 0 (fun _ => true) true fuel 22 cs = some y) :
    ∃ a l c, cs = [.slice a (l : List Int).length c] ∧ l.length ≤ c ∧ CpE y.1 c ∧ (l.length ≤ 35184372088832 → Sl W a l) := by
  rcases open_ints Tryd.underlying22 Tryd.underlying21 Tryd.cellsI32 hf with ⟨hcs, hx⟩ | ⟨a, len', cap', zs, hcs, _, hl, hm, hz, hx, hcell, hwz⟩
  · exact ⟨none, [], 0, hcs, by simp, .inl ⟨by rw [hx], rfl⟩, fun _ => Sl.nil _ _⟩
  · simp only [if_true] at hz
    have hlen : (zs.take len').length = len' := by rw [List.length_take]; omega
    refine ⟨some a, zs.take len', cap', by rw [hlen]; exact hcs, by omega, .inr ⟨_, _, by rw [hx], by simp [lits]; omega⟩, fun hle => ?_⟩
    refine ⟨by omega, fun x hx => wf_i32 (hwz x (List.mem_of_mem_take hx)), ?_⟩
    by_cases h0 : zs.take len' = []
    · exact .inl h0
    · have hpos : 0 < len' := by
        rcases Nat.eq_zero_or_pos len' with h | h
        · subst h; simp at h0
        · exact h
      have hsp : a.spot = none := by
        have := hcell 0 (by omega)
        obtain ⟨b, o, sp⟩ := a
        cases sp with
        | none => rfl
        | some s =>
          simp only [Addr.add, if_true, World.cell?] at this
          split at this <;> simp_all
      obtain ⟨b, o, sp⟩ := a
      simp only at hsp; subst hsp
      refine .inr ⟨b, o, rfl, fun i hi => ?_⟩
      have h1 := hcell i (by omega)
      rw [gt_get hi]
      have h2 : (⟨b, o, none⟩ : Addr).add i = ⟨b, o + i, none⟩ := by unfold Addr.add; split <;> simp_all
      rw [h2] at h1
      rw [h1]
      simp [List.getD, List.getElem?_eq_getElem (show i < zs.length by omega)]
theorem icellE {W : World} {fuel : Nat} {cs : List Value} {y : DataW H × List MemPlace} (hf : DataW.trod enc Tryd.prog W 0 (fun _ => true) true fuel 24 cs = some y) :
    ∃ a l c, cs = [.slice a (l : List Int).length c] ∧ l.length ≤ c ∧ CpE y.1 c ∧ (l.length ≤ 17592186044416 → I.Sl W a l) := by
  rcases open_ints Tryd.underlying24 Tryd.underlying3 I.Tryd.cellsInt hf with ⟨hcs, hx⟩ | ⟨a, len', cap', zs, hcs, _, hl, hm, hz, hx, hcell, hwz⟩
  · exact ⟨none, [], 0, hcs, by simp, .inl ⟨by rw [hx], rfl⟩, fun _ => I.Sl.nil _ _⟩
  · simp only [if_true] at hz
    have hlen : (zs.take len').length = len' := by rw [List.length_take]; omega
    refine ⟨some a, zs.take len', cap', by rw [hlen]; exact hcs, by omega, .inr ⟨_, _, by rw [hx], by simp [lits]; omega⟩, fun hle => ?_⟩
    refine ⟨hle, fun x hx => wf_i64 (hwz x (List.mem_of_mem_take hx)), ?_⟩
    by_cases h0 : zs.take len' = []
    · exact .inl h0
    · have hpos : 0 < len' := by
        rcases Nat.eq_zero_or_pos len' with h | h
        · subst h; simp at h0
        · exact h
      have hsp : a.spot = none := by
        have := hcell 0 (by omega)
        obtain ⟨b, o, sp⟩ := a
        cases sp with
        | none => rfl
        | some s =>
          simp only [Addr.add, if_true, World.cell?] at this
          split at this <;> simp_all
      obtain ⟨b, o, sp⟩ := a
      simp only at hsp; subst hsp
      refine .inr ⟨b, o, rfl, fun i hi => ?_⟩
      have h1 := hcell i (by omega)
      rw [gt_get hi]
      have h2 : (⟨b, o, none⟩ : Addr).add i = ⟨b, o + i, none⟩ := by unfold Addr.add; split <;> simp_all
      rw [h2] at h1
      rw [h1]
      simp [List.getD, List.getElem?_eq_getElem (show i < zs.length by omega)]
set_option maxRecDepth 100000 in
theorem clockE {W : World} {fuel : Nat} {cs : List Value} {y : DataW H × List MemPlace} (h : DataW.trod enc Tryd.prog W 0 (fun _ => true) true fuel 23 cs = some y) :
    ∃ k0 k1 k2 k3 k4 k5 k6 : Int, cs = [.int .i64 k0, .int .i64 k1, .int .i64 k2, .int .i64 k3, .int .i64 k4, .int .i64 k5, .int .i64 k6] ∧ y.1 = .agg [.lit (.int .i64 k0), .lit (.int .i64 k1), .lit (.int .i64 k2), .lit (.int .i64 k3), .lit (.int .i64 k4), .lit (.int .i64 k5), .lit (.int .i64 k6)] := by
  obtain ⟨xs, n, _, hx, hcl, hlen, hg⟩ := DataW.trod_array Tryd.underlying23 h
  rw [Tryd.cellsClockE] at hcl
  rw [Tryd.cellsIntE] at hg
  match xs, hlen with
  | [y0, y1, y2, y3, y4, y5, y6], _ =>
    obtain ⟨e0, e1, e2, e3, e4, e5, e6, rfl⟩ : ∃ e0 e1 e2 e3 e4 e5 e6, cs = [e0, e1, e2, e3, e4, e5, e6] := by
      match cs, hcl with
      | [e0, e1, e2, e3, e4, e5, e6], _ => exact ⟨e0, e1, e2, e3, e4, e5, e6, rfl⟩
    have g0 : DataW.trod enc Tryd.prog W 0 (fun _ => true) true n 3 [e0] = some y0 := hg 0 (by omega)
    obtain ⟨z0, h0, r0, _⟩ := DataW.trod_int Tryd.underlying3 g0
    have g1 : DataW.trod enc Tryd.prog W 0 (fun _ => true) true n 3 [e1] = some y1 := hg 1 (by omega)
    obtain ⟨z1, h1, r1, _⟩ := DataW.trod_int Tryd.underlying3 g1
    have g2 : DataW.trod enc Tryd.prog W 0 (fun _ => true) true n 3 [e2] = some y2 := hg 2 (by omega)
    obtain ⟨z2, h2, r2, _⟩ := DataW.trod_int Tryd.underlying3 g2
    have g3 : DataW.trod enc Tryd.prog W 0 (fun _ => true) true n 3 [e3] = some y3 := hg 3 (by omega)
    obtain ⟨z3, h3, r3, _⟩ := DataW.trod_int Tryd.underlying3 g3
    have g4 : DataW.trod enc Tryd.prog W 0 (fun _ => true) true n 3 [e4] = some y4 := hg 4 (by omega)
    obtain ⟨z4, h4, r4, _⟩ := DataW.trod_int Tryd.underlying3 g4
    have g5 : DataW.trod enc Tryd.prog W 0 (fun _ => true) true n 3 [e5] = some y5 := hg 5 (by omega)
    obtain ⟨z5, h5, r5, _⟩ := DataW.trod_int Tryd.underlying3 g5
    have g6 : DataW.trod enc Tryd.prog W 0 (fun _ => true) true n 3 [e6] = some y6 := hg 6 (by omega)
    obtain ⟨z6, h6, r6, _⟩ := DataW.trod_int Tryd.underlying3 g6
    simp only [List.cons.injEq, and_true] at h0 h1 h2 h3 h4 h5 h6
    subst h0 h1 h2 h3 h4 h5 h6
    exact ⟨z0, z1, z2, z3, z4, z5, z6, rfl, by rw [hx]; simp [r0, r1, r2, r3, r4, r5, r6]⟩
set_option maxRecDepth 100000 in
theorem open_env {W : World} {base : Nat} {v : Value} {d : DataW H} {p : List MemPlace} (hv : Value.okWide Tryd.prog W .any base 26 v)
    (h : DataW.Trod enc Tryd.prog W 0 (fun _ => true) true 26 v d p) :
    ∃ (m : En) (Y0 Y1 Y2 Y3 Y4 Y5 Z : DataW H), v = .agg (enC m) ∧ d = .agg [Y0, Y1, Y2, Y3, Y4, Y5, .lit (.int .i64 m.ix), .agg [.lit (.int .i64 m.k0), .lit (.int .i64 m.k1), .lit (.int .i64 m.k2), .lit (.int .i64 m.k3), .lit (.int .i64 m.k4), .lit (.int .i64 m.k5), .lit (.int .i64 m.k6)], Z] ∧
      (CpE Y0 m.c0 ∧ CpE Y1 m.c1 ∧ CpE Y2 m.c2 ∧ CpE Y3 m.c3 ∧ CpE Y4 m.c4 ∧ CpE Y5 m.c5 ∧ CpE Z m.dc) ∧ (m.t0.length ≤ m.c0 ∧ m.t1.length ≤ m.c1 ∧ m.t2.length ≤ m.c2 ∧ m.t3.length ≤ m.c3 ∧ m.t4.length ≤ m.c4 ∧ m.t5.length ≤ m.c5 ∧ m.dl.length ≤ m.dc) ∧
      (m.t0.length ≤ 35184372088832 → m.t1.length ≤ 35184372088832 → m.t2.length ≤ 35184372088832 → m.t3.length ≤ 35184372088832 → m.t4.length ≤ 35184372088832 → m.t5.length ≤ 35184372088832 → m.dl.length ≤ 17592186044416 → EnOk W m) := by
  obtain ⟨cs0, rfl, hsz⟩ := okWide_struct Tryd.underlying26 hv
  obtain ⟨fuel, hf⟩ := h
  obtain ⟨cs, rfl⟩ : ∃ cs : List Value, cs0 = cs.toArray := ⟨cs0.toList, by simp⟩
  have hf' : DataW.trod enc Tryd.prog W 0 (fun _ => true) true fuel 26 cs = some (d, p) := by simpa [Value.cells] using hf
  clear hf hsz hv
  obtain ⟨xs, n, _, hx, hcl, hlen, hg⟩ := DataW.trod_struct Tryd.underlying26 hf'
  rw [Tryd.cellsEnv] at hcl
  match xs, hlen with
  | [y0, y1, y2, y3, y4, y5, y6, y7, y8], _ =>
    obtain ⟨e0, e1, e2, e3, e4, e5, e6, e7, e8, e9, e10, e11, e12, e13, e14, rfl⟩ : ∃ e0 e1 e2 e3 e4 e5 e6 e7 e8 e9 e10 e11 e12 e13 e14, cs = [e0, e1, e2, e3, e4, e5, e6, e7, e8, e9, e10, e11, e12, e13, e14] := by
      match cs, hcl with
      | [e0, e1, e2, e3, e4, e5, e6, e7, e8, e9, e10, e11, e12, e13, e14], _ => exact ⟨e0, e1, e2, e3, e4, e5, e6, e7, e8, e9, e10, e11, e12, e13, e14, rfl⟩
    have g0 : DataW.trod enc Tryd.prog W 0 (fun _ => true) true n 22 (List.take (Tryd.prog.cellsOf 22) [e0, e1, e2, e3, e4, e5, e6, e7, e8, e9, e10, e11, e12, e13, e14]) = some y0 := hg 0 _ rfl
    have g1 : DataW.trod enc Tryd.prog W 0 (fun _ => true) true n 22 (List.take (Tryd.prog.cellsOf 22) [e1, e2, e3, e4, e5, e6, e7, e8, e9, e10, e11, e12, e13, e14]) = some y1 := hg 1 _ rfl
    have g2 : DataW.trod enc Tryd.prog W 0 (fun _ => true) true n 22 (List.take (Tryd.prog.cellsOf 22) [e2, e3, e4, e5, e6, e7, e8, e9, e10, e11, e12, e13, e14]) = some y2 := hg 2 _ rfl
    have g3 : DataW.trod enc Tryd.prog W 0 (fun _ => true) true n 22 (List.take (Tryd.prog.cellsOf 22) [e3, e4, e5, e6, e7, e8, e9, e10, e11, e12, e13, e14]) = some y3 := hg 3 _ rfl
    have g4 : DataW.trod enc Tryd.prog W 0 (fun _ => true) true n 22 (List.take (Tryd.prog.cellsOf 22) [e4, e5, e6, e7, e8, e9, e10, e11, e12, e13, e14]) = some y4 := hg 4 _ rfl
    have g5 : DataW.trod enc Tryd.prog W 0 (fun _ => true) true n 22 (List.take (Tryd.prog.cellsOf 22) [e5, e6, e7, e8, e9, e10, e11, e12, e13, e14]) = some y5 := hg 5 _ rfl
    have g6 : DataW.trod enc Tryd.prog W 0 (fun _ => true) true n 3 (List.take (Tryd.prog.cellsOf 3) [e6, e7, e8, e9, e10, e11, e12, e13, e14]) = some y6 := hg 6 _ rfl
    have g7 : DataW.trod enc Tryd.prog W 0 (fun _ => true) true n 23 (List.take (Tryd.prog.cellsOf 23) [e7, e8, e9, e10, e11, e12, e13, e14]) = some y7 := hg 7 _ rfl
    have g8 : DataW.trod enc Tryd.prog W 0 (fun _ => true) true n 24 (List.take (Tryd.prog.cellsOf 24) [e14]) = some y8 := hg 8 _ rfl
    rw [Tryd.cellsRunesE] at g0 g1 g2 g3 g4 g5
    rw [Tryd.cellsIntE] at g6
    rw [Tryd.cellsClockE] at g7
    rw [Tryd.cellsIntsE] at g8
    simp only [List.take_succ_cons, List.take_zero] at g0 g1 g2 g3 g4 g5 g6 g7 g8
    obtain ⟨a0, l0, c0, h0, hlc0, hY0, hS0⟩ := rcellE g0
    obtain ⟨a1, l1, c1, h1, hlc1, hY1, hS1⟩ := rcellE g1
    obtain ⟨a2, l2, c2, h2, hlc2, hY2, hS2⟩ := rcellE g2
    obtain ⟨a3, l3, c3, h3, hlc3, hY3, hS3⟩ := rcellE g3
    obtain ⟨a4, l4, c4, h4, hlc4, hY4, hS4⟩ := rcellE g4
    obtain ⟨a5, l5, c5, h5, hlc5, hY5, hS5⟩ := rcellE g5
    obtain ⟨z, h6, r6, _⟩ := DataW.trod_int Tryd.underlying3 g6
    obtain ⟨k0, k1, k2, k3, k4, k5, k6, h7, r7⟩ := clockE g7
    obtain ⟨da, dl, dc, h8, hlc8, hY8, hS8⟩ := icellE g8
    simp only [List.cons.injEq, and_true] at h0 h1 h2 h3 h4 h5 h6 h7 h8
    obtain ⟨q0, q1, q2, q3, q4, q5, q6⟩ := h7
    subst h0 h1 h2 h3 h4 h5 h6 q0 q1 q2 q3 q4 q5 q6 h8
    refine ⟨⟨a0, l0, c0, a1, l1, c1, a2, l2, c2, a3, l3, c3, a4, l4, c4, a5, l5, c5, z, k0, k1, k2, k3, k4, k5, k6, da, dl, dc⟩, y0.1, y1.1, y2.1, y3.1, y4.1, y5.1, y8.1, rfl, ?_, ⟨hY0, hY1, hY2, hY3, hY4, hY5, hY8⟩, ⟨hlc0, hlc1, hlc2, hlc3, hlc4, hlc5, hlc8⟩, fun p0 p1 p2 p3 p4 p5 p6 => ⟨hS0 p0, hS1 p1, hS2 p2, hS3 p3, hS4 p4, hS5 p5, hS8 p6, hlc0, hlc1, hlc2, hlc3, hlc4, hlc5, hlc8⟩⟩
    have := (Prod.mk.inj hx).1
    rw [this]
    simp [r6, r7]
theorem env_weight0 (es sp : List (DataW H)) (Y1 Y2 Y3 Y4 Y5 L C Z : DataW H) : (es.length + sp.length) * 4 ∈ (DataW.agg [.slice es sp, Y1, Y2, Y3, Y4, Y5, L, C, Z] : DataW H).weights Tryd.prog 26 := by
  simp [DataW.weights, DataW.weightsEach, Tryd.underlying26, Tryd.underlying22, Tryd.bytesI32]
theorem env_weight1 (es sp : List (DataW H)) (Y0 Y2 Y3 Y4 Y5 L C Z : DataW H) : (es.length + sp.length) * 4 ∈ (DataW.agg [Y0, .slice es sp, Y2, Y3, Y4, Y5, L, C, Z] : DataW H).weights Tryd.prog 26 := by
  simp [DataW.weights, DataW.weightsEach, Tryd.underlying26, Tryd.underlying22, Tryd.bytesI32]
theorem env_weight2 (es sp : List (DataW H)) (Y0 Y1 Y3 Y4 Y5 L C Z : DataW H) : (es.length + sp.length) * 4 ∈ (DataW.agg [Y0, Y1, .slice es sp, Y3, Y4, Y5, L, C, Z] : DataW H).weights Tryd.prog 26 := by
  simp [DataW.weights, DataW.weightsEach, Tryd.underlying26, Tryd.underlying22, Tryd.bytesI32]
theorem env_weight3 (es sp : List (DataW H)) (Y0 Y1 Y2 Y4 Y5 L C Z : DataW H) : (es.length + sp.length) * 4 ∈ (DataW.agg [Y0, Y1, Y2, .slice es sp, Y4, Y5, L, C, Z] : DataW H).weights Tryd.prog 26 := by
  simp [DataW.weights, DataW.weightsEach, Tryd.underlying26, Tryd.underlying22, Tryd.bytesI32]
theorem env_weight4 (es sp : List (DataW H)) (Y0 Y1 Y2 Y3 Y5 L C Z : DataW H) : (es.length + sp.length) * 4 ∈ (DataW.agg [Y0, Y1, Y2, Y3, .slice es sp, Y5, L, C, Z] : DataW H).weights Tryd.prog 26 := by
  simp [DataW.weights, DataW.weightsEach, Tryd.underlying26, Tryd.underlying22, Tryd.bytesI32]
theorem env_weight5 (es sp : List (DataW H)) (Y0 Y1 Y2 Y3 Y4 L C Z : DataW H) : (es.length + sp.length) * 4 ∈ (DataW.agg [Y0, Y1, Y2, Y3, Y4, .slice es sp, L, C, Z] : DataW H).weights Tryd.prog 26 := by
  simp [DataW.weights, DataW.weightsEach, Tryd.underlying26, Tryd.underlying22, Tryd.bytesI32]
theorem env_weight6 (es sp : List (DataW H)) (Y0 Y1 Y2 Y3 Y4 Y5 L C : DataW H) : (es.length + sp.length) * 8 ∈ (DataW.agg [Y0, Y1, Y2, Y3, Y4, Y5, L, C, .slice es sp] : DataW H).weights Tryd.prog 26 := by
  simp [DataW.weights, DataW.weightsEach, Tryd.underlying26, Tryd.underlying24, I.Tryd.bytesInt]
/-- the reach pays an environment -/
theorem env_sized {ts : List TypeId} {ds : List (DataW H)} {m : En} {Y0 Y1 Y2 Y3 Y4 Y5 L C Z : DataW H} (hsz : (DataW.weightsEach Tryd.prog ts ds).all (· ≤ reachBytes) = true) (j : Nat) (ht : ts[j]? = some 26) (hd : ds[j]? = some (.agg [Y0, Y1, Y2, Y3, Y4, Y5, L, C, Z]))
    (h : CpE Y0 m.c0 ∧ CpE Y1 m.c1 ∧ CpE Y2 m.c2 ∧ CpE Y3 m.c3 ∧ CpE Y4 m.c4 ∧ CpE Y5 m.c5 ∧ CpE Z m.dc) : m.c0 ≤ 35184372087808 ∧ m.c1 ≤ 35184372087808 ∧ m.c2 ≤ 35184372087808 ∧ m.c3 ≤ 35184372087808 ∧ m.c4 ≤ 35184372087808 ∧ m.c5 ≤ 35184372087808 ∧ m.dc ≤ 17592186043904 := by
  obtain ⟨h0, h1, h2, h3, h4, h5, h6⟩ := h
  refine ⟨?_, ?_, ?_, ?_, ?_, ?_, ?_⟩
  · rcases h0 with ⟨_, h⟩ | ⟨es, sp, rfl, hl⟩
    · omega
    · have := List.all_eq_true.1 hsz _ (DataW.weights_mem_each ht hd _ (env_weight0 es sp _ _ _ _ _ _ _ _))
      have h9 : (es.length + sp.length) * 4 ≤ reachBytes := by simpa using this
      simp only [reachBytes] at h9
      omega
  · rcases h1 with ⟨_, h⟩ | ⟨es, sp, rfl, hl⟩
    · omega
    · have := List.all_eq_true.1 hsz _ (DataW.weights_mem_each ht hd _ (env_weight1 es sp _ _ _ _ _ _ _ _))
      have h9 : (es.length + sp.length) * 4 ≤ reachBytes := by simpa using this
      simp only [reachBytes] at h9
      omega
  · rcases h2 with ⟨_, h⟩ | ⟨es, sp, rfl, hl⟩
    · omega
    · have := List.all_eq_true.1 hsz _ (DataW.weights_mem_each ht hd _ (env_weight2 es sp _ _ _ _ _ _ _ _))
      have h9 : (es.length + sp.length) * 4 ≤ reachBytes := by simpa using this
      simp only [reachBytes] at h9
      omega
  · rcases h3 with ⟨_, h⟩ | ⟨es, sp, rfl, hl⟩
    · omega
    · have := List.all_eq_true.1 hsz _ (DataW.weights_mem_each ht hd _ (env_weight3 es sp _ _ _ _ _ _ _ _))
      have h9 : (es.length + sp.length) * 4 ≤ reachBytes := by simpa using this
      simp only [reachBytes] at h9
      omega
  · rcases h4 with ⟨_, h⟩ | ⟨es, sp, rfl, hl⟩
    · omega
    · have := List.all_eq_true.1 hsz _ (DataW.weights_mem_each ht hd _ (env_weight4 es sp _ _ _ _ _ _ _ _))
      have h9 : (es.length + sp.length) * 4 ≤ reachBytes := by simpa using this
      simp only [reachBytes] at h9
      omega
  · rcases h5 with ⟨_, h⟩ | ⟨es, sp, rfl, hl⟩
    · omega
    · have := List.all_eq_true.1 hsz _ (DataW.weights_mem_each ht hd _ (env_weight5 es sp _ _ _ _ _ _ _ _))
      have h9 : (es.length + sp.length) * 4 ≤ reachBytes := by simpa using this
      simp only [reachBytes] at h9
      omega
  · rcases h6 with ⟨_, h⟩ | ⟨es, sp, rfl, hl⟩
    · omega
    · have := List.all_eq_true.1 hsz _ (DataW.weights_mem_each ht hd _ (env_weight6 es sp _ _ _ _ _ _ _ _))
      have h9 : (es.length + sp.length) * 8 ≤ reachBytes := by simpa using this
      simp only [reachBytes] at h9
      omega
end
end Go.Proofs.YtijhkpbnalnpbaaDoor
