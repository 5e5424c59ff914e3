/- Layer 10 in memory: try of a search. Layer 10 in memory: a slice of one number repeated (slices.Repeat), an empty bitmap. Layer 10 in memory: a new search, Find. Layer 10 in memory: Find of a matcher, Groups of one. -/
import Derived.Test.YtefgjicegbhcaaaGreatMtg
import Derived.Deep.CutBlock
import Derived.Deep.DeepCutAuto
import Derived.Test.YtefgjicegbhcaaaGreatMtA
import Derived.Laws.CopyOwn
import Derived.Deep.OwnRows
namespace Go.Proofs.YtefgjicegbhcaaaGreat
open Go.RowKit ReM

def TryP (w0 : World) (x : Fx) (y : Sx) (a : Nat) (vis : Vis) (e' : Ending) (w' : World) : Prop :=
  ∃ b R ua uc U la lc S V, e' = .returned (.bool b) ∧ Srch w0 w' x y R ua uc U la lc S V ∧
    (b = true → Hits x.mc (zz x) a vis R) ∧ (b = false → ∃ v, S = [] ∧ Inv x R U S V v ∧ Fails x.mc (zz x) a vis v)
set_option maxRecDepth 20000 in
set_option maxHeartbeats 60000000 in
theorem try_c (w0 w : World) (x : Fx) (y : Sx) (R : List Int) (ua : Option Addr) (uc : Nat) (U : List RcM) (la : Option Addr) (lc : Nat) (V : List Nat) (vis : Vis) (h : Srch w0 w x y R ua uc U la lc [] V) (f : FxOk w0 x) (hP : PgOk (inss x.L) x.G)
    (hI : Inv x R U [] V vis) (a : Nat) (ha : a ≤ x.t.length) :
    Calls Tryz.prog 47 #[.pointer (some ⟨y.r, 0, none⟩), .int .i64 a] w (TryP w0 x y a vis) := by
  obtain ⟨r, hr⟩ : ∃ r, r = y.r := ⟨_, rfl⟩
  have Hr := hid hr
  have HF := hid f
  have HP := hid hP
  have H0 := hid h
  have HI0 := hid hI
  have Ha := hid ha
  have hpos : 0 < x.L.length := by have := hP.pos; rw [inss_len] at this; exact this
  have c4 := h.c4
  have fz4 := h.fz 4
  have hrl := h.rl
  rw [← hr] at c4 fz4 hrl
  change World.cell? _ _ = some (.slice la 0 lc) at c4
  have nbr : ¬ Blk la r := fun hb => by have := (h.lef.lt hb).1; rw [← hr] at this; omega
  have KN := hid (fun w' (k : Kpt (Blk la) w w') => show w'.cell? ⟨r, 4, none⟩ = some (.slice la 0 lc) ∧ w'.frozen? ⟨r, 4, none⟩ = false from
    ⟨k.cell c4 nbr, by rw [k.frozen (by show r < _; omega) nbr]; exact fz4⟩)
  have hBw : r + 1 ≤ w.heap.size := by omega
  have HIp : Hid (Inv x R U [⟨0, a, 0⟩] V vis) := by
    have hI' := hI
    refine hid ⟨hI.Rl, hI.Rz, hI.Us, fun p hp => ?_, by simp, hI.Vw, hI.Vl, hI.Vv, hI.Zz, hI.Uc, by have := unv_le (nN x) V; simp only [List.length_singleton]; show 1 + unv (nN x) V ≤ nN x + 1; omega⟩
    rw [List.mem_singleton.1 hp]
    exact ⟨hpos, ha, Nat.zero_le _⟩
  have hab : Hid (absS U R [⟨0, a, 0⟩] = [⟨0, a, zz x⟩]) := by
    have : unW (U.drop 0) R = zz x := by rw [List.drop_zero]; exact hI.Zz
    show Hid ([(⟨0, a, unW (U.drop 0) R⟩ : Pa)] = [⟨0, a, zz x⟩])
    rw [this]
    exact hid rfl
  have ZX := hid hpos
  show Calls Tryz.prog 47 #[.pointer (some ⟨y.r, 0, none⟩), .int .i64 a] w _
  rw [← hr]
  clear h f hP hI ha hr hpos nbr
  go_enter Tryz.func47, Tryz.ntmps47
  go_wp2_with ((at_builtin; go_loud (refine wpL_rapp Tryz.tyPm rfl (.tmp 11) (.tmp 14) rfl (r + 1) la (some ⟨w.heap.size, 0, none⟩) 0 1 lc 1 [] [⟨0, a, 0⟩] rfl (by first | rfl | simp | omega) (by rw [Hr.out]; exact H0.out.lef.grow (by (repeat' (first | exact Below.refl _ _ | assumption | refine bdrewN ?_ _ | refine Below.drew ?_ | refine bal ?_ _ | refine bthen ?_ (by assumption))))) rfl (by first | rfl | simp | omega) (RSl.lit (E := encPm) w ⟨0, a, 0⟩ 132 w.heap.size rfl #[.int .i64 0, .int .i64 a, .int .i64 0] rfl (by decide)) (by show _ ≤ 2199023255552; simp) (by simp; omega) ?_); intro a1 c1 w1 L1 Hl1 ho1 hb1 hk1 hA1; have HA1 := hid hA1; clear hA1; have Ho1 := hid ho1; clear ho1; have Hk1 := hid hk1; clear hk1; have hz1 := hb1.size); have kx : Kpt (Blk la) w w1 := Kpt.tr (by (repeat' (first | exact Kpt.refl _ _ | assumption | refine Kpt.drew ?_ | refine Kpt.alloc ?_ _))) Hk1.out; have kk := KN.out _ kx; obtain ⟨o0, o1⟩ := kk)
  have P5 := Srch.left H0.out (a1 := a1) (c1 := c1) (S1 := L1) (by rw [← Hr.out]; exact Ho1.out) kx
  rw [← Hr.out] at P5
  obtain ⟨w5, hw5⟩ : ∃ w5, w5 = w1.setCell ⟨r, 4, none⟩ (.slice a1 L1.length c1) := ⟨_, rfl⟩
  rw [← hw5] at P5 ⊢
  obtain rfl : L1 = [⟨0, a, 0⟩] := by simpa using Hl1.out
  have H5 := hid P5
  clear hw5 P5 o0 o1 kx HA1 Hk1 Ho1 Hl1 KN c4 fz4
  have HRun : Hid (Run x.mc [⟨0, a, zz x⟩] vis (absS U R [⟨0, a, 0⟩]) vis) := by rw [hab.out]; exact hid (.refl _ _)
  have rl : r < w.heap.size := hrl
  clear hab hBw hrl
  go_loopg [5, 6] (2 * unv (nN x) V + 1) (fun g _ _ wr => ∃ (R : List Int) (ua : Option Addr) (uc : Nat) (U : List RcM) (la : Option Addr) (lc : Nat) (S : List PaM) (V : List Nat) (v : Vis), g = 2 * unv (nN x) V + S.length ∧
    Hid (Srch w0 wr x y R ua uc U la lc S V) ∧ Hid (Inv x R U S V v) ∧ Hid (Run x.mc [⟨0, a, zz x⟩] vis (absS U R S) v))
  case atStart => exact ⟨R, ua, uc, U, a1, c1, _, V, vis, rfl, H5, HIp, HRun⟩
  case round =>
    clear H0 HI0 H5 HIp HRun
    obtain ⟨R, ua, uc, U, la, lc, S, V, v, rfl, H1, HI, HRn⟩ := hrel
    have c4 := H1.out.c4
    rw [← Hr.out] at c4
    rcases List.eq_nil_or_concat S with rfl | ⟨S', e, hSc⟩
    · change World.cell? _ _ = some (.slice la 0 lc) at c4
      go_wp2_with fail
      go_ret
      exact ⟨false, R, ua, uc, U, la, lc, [], V, rfl, H1.out.same (by (repeat' (first | exact Below.refl _ _ | assumption | refine bdrewN ?_ _ | refine Below.drew ?_ | refine Below.setCell ?_ (Nat.le_refl _) _ | refine bal ?_ _ | refine bthen ?_ (by assumption)))), (fun h => by cases h), fun _ => ⟨v, rfl, HI.out, HRn.out⟩⟩
    · rw [List.concat_eq_append] at hSc
      subst hSc
      obtain ⟨S, hSS⟩ : ∃ S, S = S' := ⟨_, rfl⟩
      subst hSS
      obtain ⟨ns, hns⟩ : ∃ ns, ns = S.length := ⟨_, rfl⟩
      have Hns := hid hns
      have hlen : (S ++ [e]).length = ns + 1 := by simp [hns]
      obtain ⟨lg, hlg⟩ : ∃ lg, la = some ⟨lg, 0, none⟩ := by
        rcases H1.out.lef.shape with ⟨_, _, h0⟩ | ⟨g, h0, _⟩
        · simp at h0
        · exact ⟨g, h0⟩
      subst hlg
      have hne : ns < (S ++ [e]).length := by omega
      have hget : rgt (S ++ [e]) ns = e := by unfold rgt; rw [List.getD_eq_getElem?_getD, List.getElem?_append_right (by omega)]; simp [hns]
      obtain ⟨p0, p1, p2⟩ := rec_pm (H1.out.lef.at hne)
      rw [hget] at p0 p1 p2
      change World.cell? _ ⟨lg, ns * 3, none⟩ = _ at p0
      change World.cell? _ ⟨lg, ns * 3 + 1, none⟩ = _ at p1
      change World.cell? _ ⟨lg, ns * 3 + 2, none⟩ = _ at p2
      have htk : (S ++ [e]).take ns = S := by rw [hns]; simp
      have hrun := rslice_own Tryz.tyPm H1.out.lef ns (by omega)
      have hcut := H1.out.lef.cut ns (by omega)
      rw [htk] at hrun hcut
      rw [hlen] at c4 hrun
      have Hrun := hrun
      have HCut := hid hcut
      obtain ⟨ei, ea, ek⟩ := e
      change World.cell? _ _ = some (.int .i64 (ei : Int)) at p0
      change World.cell? _ _ = some (.int .i64 (ea : Int)) at p1
      change World.cell? _ _ = some (.int .i64 (ek : Int)) at p2
      have HPop := hid HI.out.pop
      have HAb := hid (absS_snoc U R S ⟨ei, ea, ek⟩)
      have hfz := H1.out.fz 4
      rw [← Hr.out] at hfz
      have hrl2 := H1.out.rl
      rw [← Hr.out] at hrl2
      have hnsb : ns ≤ 1000000 := by
        have := HI.out.Sc
        have hN : nN x ≤ 300 * 1001 := Nat.mul_le_mul HF.out.Ll (by have := HF.out.tl; omega)
        have h3 : (S ++ [(⟨ei, ea, ek⟩ : PaM)]).length + unv (nN x) V ≤ nN x + 1 := this
        omega
      have w1' : IntKind.i64.wrap (((ns + 1 : Nat) : Int) - 1) = (ns : Int) := by rw [IntKind.wrap_i64]; omega
      have z1 : (ns : Int) < ((ns + 1 : Nat) : Int) := by omega
      have z0 : decide ((0 : Int) < ((ns + 1 : Nat) : Int)) = true := decide_eq_true (by omega)
      have MS : Hid (2 * unv (nN x) V + S.length + 1 = 2 * unv (nN x) V + (S ++ [(⟨ei, ea, ek⟩ : PaM)]).length) := hid (by simp; omega)
      clear hrun hcut hlen hne hget htk hns
      obtain ⟨W, hW⟩ : ∃ W, W = wr.alloc (.cells #[.int .i64 (ei : Int), .int .i64 (ea : Int), .int .i64 (ek : Int)] 132) := ⟨_, rfl⟩
      have bW : Below wr.heap.size wr W := by subst hW; (repeat' (first | exact Below.refl _ _ | assumption | refine bdrewN ?_ _ | refine Below.drew ?_ | refine bal ?_ _ | refine bthen ?_ (by assumption)))
      have zW : W.heap.size = wr.heap.size + 1 := by subst hW; simp
      have hcW : ∀ j, W.cell? ⟨wr.heap.size, j, none⟩ = #[Value.int .i64 (ei : Int), .int .i64 (ea : Int), .int .i64 (ek : Int)][j]? := fun j => by subst hW; rw [cell_alloc_new]
      have d0 := hcW 0
      have d1 := hcW 1
      have d2 := hcW 2
      simp at d0 d1 d2
      have H2 := hid (H1.out.same bW)
      have C4 := (bW.cell (World.block_lt_of_cell? wr _ c4)).trans c4
      have F4 := H2.out.fz 4
      rw [← Hr.out] at F4
      have HCut2 := hid (HCut.out.grow bW)
      have hrn : Hid (r ≠ wr.heap.size ∧ y.g ≠ wr.heap.size) := hid (by have := H1.out.gr; rw [← Hr.out] at this; omega)
      clear hcW bW HCut
      go_upto_region 5 with fail
      rw [← hW]; clear hW p0 p1 p2 c4 hfz
      have P5 := Srch.left H2.out (a1 := some ⟨lg, 0, none⟩) (c1 := lc) (S1 := S) HCut2.out (Kpt.refl _ _)
      obtain ⟨w5, hw5⟩ : ∃ w5, w5 = W.setCell ⟨r, 4, none⟩ (.slice (some ⟨lg, 0, none⟩) ns lc) := ⟨_, rfl⟩
      rw [← Hr.out, ← Hns.out, ← hw5] at P5
      have q0 : w5.cell? ⟨wr.heap.size, 0, none⟩ = some (.int .i64 (ei : Int)) := by rw [hw5, World.cell?_setCell_other (h := by simp <;> omega)]; exact d0
      have q1 : w5.cell? ⟨wr.heap.size, 1, none⟩ = some (.int .i64 (ea : Int)) := by rw [hw5, World.cell?_setCell_other (h := by simp <;> omega)]; exact d1
      have q2 : w5.cell? ⟨wr.heap.size, 2, none⟩ = some (.int .i64 (ek : Int)) := by rw [hw5, World.cell?_setCell_other (h := by simp <;> omega)]; exact d2
      have HP5 := hid P5
      have HW5 := hid hw5
      have hRl := HI.out.Rl
      have hG := HF.out.G9
      have hUc : U.length ≤ 1000000 := by
        have h3 : U.length + unv (nN x) V ≤ nN x := HI.out.Uc
        have hN : nN x ≤ 300 * 1001 := Nat.mul_le_mul HF.out.Ll (by have := HF.out.tl; omega)
        omega
      have UC := undoto_c w0 w5 x y R ua uc U (some ⟨lg, 0, none⟩) lc S V P5 ek HPop.out.2.2.2.2 (by omega) hUc HI.out.Us
      rw [← Hr.out] at UC
      have HUC := hid UC
      clear P5 hw5 UC hRl hG hUc
      rw [← Hns.out] at Hrun
      go_upto_region 6 with fail
      rw [← HW5.out]
      clear d0 d1 d2 C4 F4 Hrun HW5
      go_wp2_with fail
      refine HUC.out.mono ?_
      rintro _ w6 ⟨R6, U6, rfl, HR6, HU6, h6, k6⟩
      have s0 := k6.cell q0 (by have := hrn.out; rw [← Hr.out]; simp; omega)
      have s1 := k6.cell q1 (by have := hrn.out; rw [← Hr.out]; simp; omega)
      have H6 := hid h6
      have Ipop : Hid (Inv x R6 U6 S V v) := hid (by rw [HR6.out, HU6.out]; exact HPop.out.1)
      have Rpop : Hid (Run x.mc [⟨0, a, zz x⟩] vis (⟨ei, ea, R6⟩ :: absS U6 R6 S) v) := hid (by
        have := HRn.out
        rw [HAb.out] at this
        rw [HR6.out, HU6.out, HPop.out.2.1]
        exact this)
      have FC := follow_c w0 w6 x y R6 ua uc U6 (some ⟨lg, 0, none⟩) lc S V v h6 HF.out HP.out Ipop.out ei ea HPop.out.2.2.1 HPop.out.2.2.2.1 _ vis (2 * unv (nN x) V + S.length) Rpop.out (Nat.le_refl _)
      rw [← Hr.out] at FC
      have HFC := hid FC
      clear h6 k6 q0 q1 q2 FC HUC HP5
      go_wp2_with fail
      refine HFC.out.mono ?_
      rintro _ w7 ⟨b, R7, ua7, uc7, U7, la7, lc7, S7, V7, rfl, h7, ht, hf⟩
      have H7 := hid h7
      have HT := hid ht
      have HFf := hid hf
      clear h7 ht hf s0 s1
      cases b with
      | true =>
        go_wp2_with fail
        go_ret
        exact ⟨true, R7, ua7, uc7, U7, la7, lc7, S7, V7, rfl, H7.out.same (by (repeat' (first | exact Below.refl _ _ | assumption | refine bdrewN ?_ _ | refine Below.drew ?_ | refine Below.setCell ?_ (Nat.le_refl _) _ | refine bal ?_ _ | refine bthen ?_ (by assumption)))), fun _ => HT.out (by first | rfl | trivial), fun h => by cases h⟩
      | false =>
        obtain ⟨v7, i7, r7, m7⟩ := HFf.out rfl
        have I7 := hid i7
        have R7' := hid r7
        have M7 := hid m7
        clear i7 r7 m7
        go_wp2_with fail
        go_roundg (2 * unv (nN x) V7 + S7.length)
        case measure => have := M7.out; have := MS.out; omega
        case rel => exact ⟨R7, ua7, uc7, U7, la7, lc7, S7, V7, v7, rfl, H7.out.same (by (repeat' (first | exact Below.refl _ _ | assumption | refine bdrewN ?_ _ | refine Below.drew ?_ | refine Below.setCell ?_ (Nat.le_refl _) _ | refine bal ?_ _ | refine bthen ?_ (by assumption)))), I7, R7'⟩
end Go.Proofs.YtefgjicegbhcaaaGreat
namespace Go.Proofs.YtefgjicegbhcaaaGreat
open Go.RowKit ReM

theorem and_mask (k : Nat) (hk : k ≤ 1000) : bits .and .u64 (k : Int) 4294967295 = (k : Int) := by
  have h := bits_and_u64_nat k 4294967295 (by omega) (by omega)
  have e : k &&& 4294967295 = k := by
    have := Nat.and_two_pow_sub_one_eq_mod k 32
    rw [show (2 ^ 32 - 1 : Nat) = 4294967295 from rfl] at this
    rw [this]; exact Nat.mod_eq_of_lt (by omega)
  rw [e] at h
  exact h
set_option maxHeartbeats 4000000 in
theorem mul64_c (k : Nat) (hk : k ≤ 1000) (w : World) :
    Calls Tryz.prog 128 #[.int .u64 1, .int .u64 k] w fun e' w' => e' = .returned (.tuple #[.int .u64 0, .int .u64 k]) ∧ w = w' := by
  have a1 : bits .and .u64 1 4294967295 = 1 := and_mask 1 (by decide)
  have a2 := and_mask k hk
  have a0 : bits .and .u64 0 4294967295 = 0 := and_mask 0 (by decide)
  have d1 : (k : Int) / 4294967296 = 0 := by omega
  have w1 : IntKind.u64.wrap (k : Int) = (k : Int) := by rw [IntKind.wrap_u64]; omega
  go_enter Tryz.func128, Tryz.ntmps128
  go_wp2_with fail
  go_ret2
  exact ⟨rfl, rfl⟩
set_option maxHeartbeats 4000000 in
theorem mul_c (k : Nat) (hk : k ≤ 1000) (w : World) :
    Calls Tryz.prog 101 #[.int .u64 1, .int .u64 k] w fun e' w' => e' = .returned (.tuple #[.int .u64 0, .int .u64 k]) ∧ w = w' := by
  have C := hid (mul64_c k hk w)
  go_enter Tryz.func101, Tryz.ntmps101
  go_wp2_with fail
  refine C.out.mono ?_
  rintro _ _ ⟨rfl, rfl⟩
  go_wp2_with fail
  go_ret2
  exact ⟨rfl, rfl⟩
/-- the first n of k numbers written -/
def rpt (n k : Nat) : List Value := List.replicate n (Value.int .i64 (-1)) ++ List.replicate (k - n) (Value.int .i64 0)
theorem rpt_len {n k : Nat} (h : n ≤ k) : (rpt n k).length = k := by simp [rpt]; omega
theorem rpt_splice {n m k : Nat} (h : n + m ≤ k) : splice (rpt n k) n (List.replicate m (Value.int .i64 (-1))) = rpt (n + m) k := by
  unfold splice rpt
  rw [List.take_append_of_le_length (by simp), List.take_of_length_le (by simp), List.length_replicate, List.drop_append]
  simp only [List.length_replicate, List.drop_replicate]
  rw [show n - (n + m) = 0 by omega, List.replicate_zero, List.nil_append, ← List.append_assoc, List.replicate_append_replicate, show k - n - (n + m - n) = k - (n + m) by omega]
theorem rpt_get {n k j : Nat} (h : j < n) : (rpt n k)[j]? = some (Value.int .i64 (-1)) := by
  unfold rpt
  rw [List.getElem?_append_left (by simpa using h)]
  simp [h]
theorem made_rpt (k : Nat) : (rpt 0 k).toArray = madeCells #[Value.int .i64 0] k := by
  apply Array.ext
  · simp [rpt, madeCells]
  · intro i h1 h2
    have hi : i < k := by simpa [rpt] using h1
    simp [rpt, madeCells, Nat.mod_one]
theorem rpt_sl (g n k : Nat) (hn : n < k) (_hk : k ≤ 1000) (w' : World) : (Instr.slice 28 (.slice (some ⟨g, 0, none⟩) k k) (some (.int .i64 n)) none none).run Tryz.prog w' = .ok (.slice (some ⟨g, n, none⟩) (k - n) (k - n)) w' := by
  rw [run_slice_l _ _ _ _ _ I.Tryz.elemIsInt .i64 n (by omega) (by omega)]
  have : ¬ k = n := by omega
  simp [I.Tryz.sizeIsInt, Result.andThen, sliced, this, Addr.add] <;> omega
theorem rpt_sh (g n k : Nat) (hn : n ≤ k) (_hk : k ≤ 1000) (w' : World) : (Instr.slice 28 (.slice (some ⟨g, 0, none⟩) k k) none (some (.int .i64 n)) none).run Tryz.prog w' = .ok (.slice (some ⟨g, 0, none⟩) n k) w' := by
  rw [run_slice_h _ _ _ _ _ I.Tryz.elemIsInt .i64 n (by omega) (by omega)]
  simp [I.Tryz.sizeIsInt, Result.andThen, sliced, Addr.add]
set_option maxRecDepth 20000 in
set_option maxHeartbeats 16000000 in
theorem repeat_c (b : Nat) (k : Nat) (hk0 : 1 ≤ k) (hk : k ≤ 1000) (w : World) (h : w.cell? ⟨b, 0, none⟩ = some (.int .i64 (-1))) :
    Calls Tryz.prog 74 #[.slice (some ⟨b, 0, none⟩) 1 1, .int .i64 k] w fun e' w' => ∃ g, e' = .returned (.slice (some ⟨g, 0, none⟩) k k) ∧ I.Own w' w.heap.size (some ⟨g, 0, none⟩) k (List.replicate k (-1)) ∧ Below w.heap.size w w' := by
  have C := hid (mul_c k hk w)
  have hmk := fun w' => run_make_row' (P := Tryz.prog) 28 3 (.int .i64 0) 8 Tryz.underlying28 (by kernel_rfl) rfl .i64 .i64 k (by omega) (by omega) w'
  have hblt := World.block_lt_of_cell? w _ h
  have wk : IntKind.i64.wrap (k : Int) = (k : Int) := by rw [IntKind.wrap_i64]; omega
  have wu : IntKind.u64.wrap (k : Int) = (k : Int) := by rw [IntKind.wrap_u64]; omega
  have hng : decide ((k : Int) < 0) = false := decide_eq_false (by omega)
  have hgt : decide ((9223372036854775807 : Int) < (k : Int)) = false := decide_eq_false (by omega)
  obtain ⟨V, hV⟩ : ∃ V, V = w.alloc (.cells (madeCells #[.int .i64 0] k) 3) := ⟨_, rfl⟩
  have bV : Below w.heap.size w V := by subst hV; (repeat' (first | exact Below.refl _ _ | assumption | refine bdrewN ?_ _ | refine Below.drew ?_ | refine bal ?_ _ | refine bthen ?_ (by assumption)))
  have gV : Hid (V.heap[w.heap.size]? = some (.cells (rpt 0 k).toArray 3 (0, 0))) := by
    subst hV
    rw [show (rpt 0 k).toArray = madeCells #[.int .i64 0] k from made_rpt k]
    exact hid (heap_alloc_new w _)
  have HV := hid bV
  have h1 := (bV.cell (p := ⟨b, 0, none⟩) hblt).trans h
  clear bV
  go_enter Tryz.func74, Tryz.ntmps74
  go_wp2_with fail
  refine C.out.mono ?_
  rintro _ _ ⟨rfl, rfl⟩
  go_upto_region 7 with fail
  rw [← hV]; clear hV hmk hng hgt wu wk C
  obtain ⟨g, hg⟩ : ∃ g, g = w.heap.size := ⟨_, rfl⟩
  have Hg := hid hg
  rw [← hg] at gV ⊢
  clear hg
  have hsz : (Tryz.prog.info? 3).map (·.size) = some 1 := by kernel_rfl
  obtain ⟨one, hone⟩ : ∃ one, one = [Value.int .i64 (-1)] := ⟨_, rfl⟩
  have Hone := hid hone
  have hol : one.length = 1 := by rw [hone]; rfl
  have hsrc : ∀ j v, one[j]? = some v → V.cell? ((⟨b, 0, none⟩ : Addr).add j) = some v := fun j v hv => by
    rw [hone] at hv
    cases j with
    | zero => simp at hv; rw [← hv]; exact h1
    | succ j => simp at hv
  have Hsrc := hid hsrc
  have Hol := hid hol
  have one1 : ∀ v ∈ one, v.oneCell' = true := fun v hv => by rw [hone] at hv; simp at hv; rw [hv]; rfl
  have Hon1 := hid one1
  obtain ⟨Z, hZ⟩ : ∃ Z, Z = rpt 0 k := ⟨_, rfl⟩
  have HZ := hid hZ
  have hZl := hid (show Z.length = k by rw [hZ]; exact rpt_len (Nat.zero_le _))
  rw [← hZ] at gV
  clear hone hol hsrc one1 hZ
  go_wp2_with ((refine wpList_copy_splice rfl (.tmp 31) (.tmp 32) 28 28 rfl 3 Tryz.underlying28 hsz (some ⟨g, 0, none⟩) (some ⟨b, 0, none⟩) k k 1 1 rfl rfl g 0 Z 3 gV.out one (by rw [Hol.out]; exact (Nat.min_eq_left hk0).symm) (fun _ => ⟨rfl, _, rfl, Hsrc.out⟩) (by rw [Hol.out, hZl.out]; omega) Hon1.out w.heap.size w HV.out (by rw [Hg.out]; exact Nat.le_refl _) ?_); intro w1 gw1 bw1; rw [Hol.out]; have BW1 := hid bw1; clear bw1)
  have G1 : Hid (w1.heap[g]? = some (.cells (rpt 1 k).toArray 3 (0, 0))) := by
    have e := rpt_splice (n := 0) (m := 1) (k := k) (by omega)
    have h2 := gw1.out
    rw [HZ.out, Hone.out] at h2
    rw [show List.replicate 1 (Value.int .i64 (-1)) = [Value.int .i64 (-1)] from rfl] at e
    rw [e] at h2
    exact h2
  clear gw1 gV HZ hZl Hsrc Hol Hon1 Hone h1 HV
  go_loopw [8] (fun nv wr => ∃ n : Nat, nv = .int .i64 n ∧ 1 ≤ n ∧ n ≤ k ∧ Hid (wr.heap[g]? = some (.cells (rpt n k).toArray 3 (0, 0))) ∧ Hid (Below w.heap.size w wr)) (fun nv _ => k - (intOf nv).toNat)
  case atStart => exact ⟨1, rfl, Nat.le_refl _, hk0, G1, BW1⟩
  case round =>
    obtain ⟨n, rfl, hn1, hn2, G, BW⟩ := hrel
    by_cases hlt : n < k
    · have b1 : decide ((n : Int) < (k : Int)) = true := decide_eq_true (by omega)
      have b2 : decide (n < k) = true := decide_eq_true hlt
      have r1 := rpt_sl g n k hlt hk
      have r2 := rpt_sh g n k hn2 hk
      obtain ⟨m, hm⟩ : ∃ m, m = Nat.min n (k - n) := ⟨_, rfl⟩
      have hm1 : 1 ≤ m ∧ n + m ≤ k := by
        have h1 : Nat.min n (k - n) ≤ k - n := Nat.min_le_right _ _
        have h2 : 1 ≤ Nat.min n (k - n) := Nat.le_min.2 ⟨hn1, by omega⟩
        omega
      obtain ⟨one, hone⟩ : ∃ one, one = List.replicate m (Value.int .i64 (-1)) := ⟨_, rfl⟩
      have Hone := hid hone
      have Hol := hid (show one.length = m by rw [hone]; simp)
      have Hon1 : Hid (∀ v ∈ one, v.oneCell' = true) := hid fun v hv => by rw [hone, List.mem_replicate] at hv; rw [hv.2]; rfl
      obtain ⟨Z, hZ⟩ : ∃ Z, Z = rpt n k := ⟨_, rfl⟩
      have HZ := hid hZ
      have hZl := hid (show Z.length = k by rw [hZ]; exact rpt_len hn2)
      have Hm := hid hm
      have Hsrc : Hid (∀ (W : World), W.heap = wr.heap → ∀ j v, one[j]? = some v → W.cell? ((⟨g, 0, none⟩ : Addr).add j) = some v) := hid fun W hW j v hv => by
        have hj : j < m := by
          have := (List.getElem?_eq_some_iff.1 hv).1
          rwa [Hol.out] at this
        rw [Hone.out] at hv
        have e0 : (⟨g, 0, none⟩ : Addr).add j = ⟨g, j, none⟩ := by unfold Addr.add; split <;> simp_all
        have hv2 : v = Value.int .i64 (-1) := by rw [List.getElem?_replicate, if_pos hj] at hv; exact (Option.some.inj hv).symm
        rw [e0, hv2]
        have h0 := G.out
        rw [← hW] at h0
        have := rpt_get (k := k) (show j < n from by have : Nat.min n (k - n) ≤ n := Nat.min_le_left _ _; omega)
        simp [World.cell?, h0, this]
      rw [← hZ] at G
      clear hone hZ hm
      have wz : IntKind.i64.wrap ((n : Int) + (m : Int)) = ((n + m : Nat) : Int) := by rw [IntKind.wrap_i64]; omega
      go_upto_region 9 with fail
      go_region_law (refine step_copy_splice rfl (.tmp 41) (.tmp 44) 28 28 rfl 3 Tryz.underlying28 hsz (some ⟨g, n, none⟩) (some ⟨g, 0, none⟩) (k - n) (k - n) n k (by simp [Act.eval, Act.put]) (by simp [Act.eval, Act.put]) g n Z 3 G.out one (by rw [Hol.out, Hm.out]) (fun _ => ⟨rfl, _, rfl, Hsrc.out _ rfl⟩) (by rw [Hol.out, hZl.out]; exact hm1.2) Hon1.out w.heap.size w (by have := BW.out; (repeat' (first | exact Below.refl _ _ | assumption | refine bdrewN ?_ _ | refine Below.drew ?_ | refine Below.setCell ?_ (Nat.le_refl _) _ | refine bal ?_ _ | refine bthen ?_ (by assumption)))) (by rw [Hg.out]; exact Nat.le_refl _) ?_; intro w1 gw1 bw1; rw [Hol.out]; have BW1 := hid bw1; clear bw1)
      all_goals
        have G1 : Hid (w1.heap[g]? = some (.cells (rpt (n + m) k).toArray 3 (0, 0))) := by
          have h2 := gw1.out
          rw [HZ.out, Hone.out, rpt_splice hm1.2] at h2
          exact h2
        clear gw1
        simp [Act.put]
        go_wp2_with fail
        exact ⟨⟨n + m, by go_num, by omega, hm1.2, G1, BW1⟩, by simp [intOf] <;> omega⟩
    · obtain rfl : k = n := by omega
      have b1 : decide ((k : Int) < (k : Int)) = false := decide_eq_false (by omega)
      go_wp2_with fail
      go_ret
      refine ⟨g, rfl, ⟨⟨by simp, .inr ⟨g, k, (rpt k k).toArray, by simp, by rw [Hg.out]; exact Nat.le_refl _, G.out, by simp, by unfold maxLen; omega, by simp [rpt_len], ?_⟩⟩, ?_, by simp; omega⟩, BW.out⟩
      · simp [rpt]
      · intro z hz
        rw [List.mem_replicate] at hz
        rw [hz.2]; decide
end Go.Proofs.YtefgjicegbhcaaaGreat
namespace Go.Proofs.YtefgjicegbhcaaaGreat
open Go.RowKit ReM

theorem made_row (z : Value) (k : Nat) : madeCells #[z] k = (List.replicate k z).toArray := by
  apply Array.ext
  · simp [madeCells]
  · intro i h1 h2
    simp [madeCells, Nat.mod_one]
theorem rflat_wd (k : Nat) : rflat encWd (List.replicate k 0) = List.replicate k (Value.int .u64 0) := by
  induction k with
  | zero => rfl
  | succ k ih => rw [List.replicate_succ, List.replicate_succ, ← ih]; rfl
set_option maxHeartbeats 4000000 in
theorem newbitmap_c (n : Nat) (hn : n ≤ 1000000) (w : World) :
    Calls Tryz.prog 75 #[.int .i64 n] w fun e' w' => ∃ v, e' = .returned (.slice (some ⟨v, 0, none⟩) ((n + 63) / 64) ((n + 63) / 64)) ∧ WO w' w.heap.size (some ⟨v, 0, none⟩) ((n + 63) / 64) (List.replicate ((n + 63) / 64) 0) ∧ Below w.heap.size w w' := by
  obtain ⟨k, hk⟩ : ∃ k, k = (n + 63) / 64 := ⟨_, rfl⟩
  have hmk := fun w' => run_make_row' (P := Tryz.prog) 94 171 (.int .u64 0) 8 (by kernel_rfl) Tryz.infoWd rfl .i64 .i64 k (by omega) (by omega) w'
  have e1 : IntKind.i64.wrap ((n : Int) + 63) = ((n + 63 : Nat) : Int) := by rw [IntKind.wrap_i64]; omega
  have e2 : ((n : Int) + 63) / 64 = (k : Int) := by omega
  rw [← hk]
  have Hk := hid hk
  clear hk
  go_enter Tryz.func75, Tryz.ntmps75
  go_wp2_with fail
  go_ret
  refine ⟨w.heap.size, rfl, ⟨⟨by rw [rflat_len], .inr ⟨w.heap.size, k, madeCells #[.int .u64 0] k, by simp, Nat.le_refl _, heap_alloc_new w _, by simp, by unfold maxLen; have := Hk.out; omega, by simp [size_madeCells, encWd], ?_⟩⟩, by simp; show _ ≤ 2199023255552; have := Hk.out; omega⟩, by (repeat' (first | exact Below.refl _ _ | assumption | refine bdrewN ?_ _ | refine Below.drew ?_ | refine Below.setCell ?_ (Nat.le_refl _) _ | refine bal ?_ _ | refine bthen ?_ (by assumption)))⟩
  rw [made_row, rflat_wd]
  simp [encWd]
def NewP (w : World) (x : Fx) (e' : Ending) (w' : World) : Prop :=
  ∃ y V, e' = .returned (.pointer (some ⟨y.r, 0, none⟩)) ∧ Srch w w' x y (zz x) none 0 [] none 0 [] V ∧ Inv x (zz x) [] [] V none_
theorem bit_zero (B k : Nat) : bit (List.replicate B 0) k = false := by
  unfold bit rgt
  rw [List.getD_eq_getElem?_getD, List.getElem?_replicate]
  split <;> simp <;> rfl
theorem unv_zero (n B : Nat) : unv n (List.replicate B 0) = n := by
  induction n with
  | zero => rfl
  | succ n ih => unfold unv; rw [ih, bit_zero, if_neg (by simp)]
theorem srch_new {w v3 : World} {x : Fx} {g K v B : Nat} (hb : Below w.heap.size w v3) (oR : I.Own v3 w.heap.size (some ⟨g, 0, none⟩) K (List.replicate K (-1))) (oN : WO v3 w.heap.size (some ⟨v, 0, none⟩) B (List.replicate B 0))
    (hK : K = 2 * x.G + 2) (hB : B = (x.L.length * (x.t.length + 1) + 63) / 64) :
    Srch w (v3.alloc (.cells #[.pointer (some ⟨x.M, 0, none⟩), .slice x.ta x.t.length x.tc, .slice (some ⟨g, 0, none⟩) K K, .slice none 0 0, .slice none 0 0, .slice (some ⟨v, 0, none⟩) B B] 96)) x ⟨v3.heap.size, g, K, v, B⟩ (zz x) none 0 [] none 0 [] (List.replicate B 0) ∧
    Inv x (zz x) [] [] (List.replicate B 0) none_ := by
  have hz : zz x = List.replicate K (-1) := by rw [hK]; rfl
  have hzl : (zz x).length = K := by rw [hz]; simp
  have ba : Below v3.heap.size v3 (v3.alloc (.cells #[.pointer (some ⟨x.M, 0, none⟩), .slice x.ta x.t.length x.tc, .slice (some ⟨g, 0, none⟩) K K, .slice none 0 0, .slice none 0 0, .slice (some ⟨v, 0, none⟩) B B] 96)) := by (repeat' (first | exact Below.refl _ _ | assumption | refine bdrewN ?_ _ | refine Below.drew ?_ | refine bal ?_ _ | refine bthen ?_ (by assumption)))
  have hg := oR.1.lt g rfl
  have hv := oN.lt (k := v) ⟨_, rfl, rfl⟩
  refine ⟨⟨hb.trans (ba.mono hb.size), hb.size, by simp, cell_alloc_new _ _ _ 0, cell_alloc_new _ _ _ 1, ?_, cell_alloc_new _ _ _ 3, cell_alloc_new _ _ _ 4, ?_, fun i => by simp, ?_, hg.2, hv.2, ROwn.nil _ _, ROwn.nil _ _, oN.grow ba⟩, ?_⟩
  · rw [hzl]; exact cell_alloc_new _ _ _ 2
  · rw [List.length_replicate]; exact cell_alloc_new _ _ _ 5
  · rw [hz]; exact oR.grow ba
  · refine ⟨by rw [hzl, hK], fun z hz2 => ?_, fun q hq => (by cases hq), fun p hp => (by cases hp), List.Pairwise.nil, fun y hy => ?_, ?_, fun i a _ _ => ?_, rfl, ?_, ?_⟩
    · rw [hz, List.mem_replicate] at hz2
      rw [hz2.2]; decide
    · rw [List.mem_replicate] at hy
      rw [hy.2]; decide
    · rw [List.length_replicate, hB]; omega
    · rw [bit_zero]; rfl
    · rw [unv_zero]; simp
    · rw [unv_zero]; simp
set_option maxRecDepth 20000 in
set_option maxHeartbeats 16000000 in
theorem newsearch_c (w : World) (x : Fx) (f : FxOk w x) :
    Calls Tryz.prog 46 #[.pointer (some ⟨x.M, 0, none⟩), .slice x.ta x.t.length x.tc] w (NewP w x) := by
  obtain ⟨n, hn⟩ : ∃ n, n = x.t.length := ⟨_, rfl⟩
  obtain ⟨ln, hln⟩ : ∃ ln, ln = x.L.length := ⟨_, rfl⟩
  obtain ⟨G, hG⟩ : ∃ G, G = x.G := ⟨_, rfl⟩
  obtain ⟨K, hK⟩ : ∃ K, K = 2 * G + 2 := ⟨_, rfl⟩
  obtain ⟨N, hN⟩ : ∃ N, N = ln * (n + 1) := ⟨_, rfl⟩
  obtain ⟨B, hB⟩ : ∃ B, B = (N + 63) / 64 := ⟨_, rfl⟩
  have m0 := f.mt.c0
  have m1 := f.mt.c1
  rw [← hln] at m0
  rw [← hG] at m1
  have hG9 : G ≤ 9 := by rw [hG]; exact f.G9
  have hnl : n ≤ 1000 := by rw [hn]; exact f.tl
  have hll : ln ≤ 300 := by rw [hln]; exact f.Ll
  have hNl : N ≤ 300 * 1001 := by rw [hN]; exact Nat.mul_le_mul hll (by omega)
  have e1 : IntKind.i64.wrap (2 * (G : Int)) = 2 * (G : Int) := by rw [IntKind.wrap_i64]; omega
  have e2 : IntKind.i64.wrap (2 * (G : Int) + 2) = (K : Int) := by rw [IntKind.wrap_i64]; omega
  have e3 : IntKind.i64.wrap ((n : Int) + 1) = ((n : Int) + 1) := by rw [IntKind.wrap_i64]; omega
  have e4 : IntKind.i64.wrap ((ln : Int) * ((n : Int) + 1)) = (N : Int) := by
    rw [show (ln : Int) * ((n : Int) + 1) = (N : Int) from by rw [hN]; simp, IntKind.wrap_i64]; omega
  have hK1 : 1 ≤ K ∧ K ≤ 1000 := by omega
  have KM := hid (fun w' (b : Below w.heap.size w w') => show w'.cell? ⟨x.M, 0, none⟩ = some (.slice x.pa ln x.pc) ∧ w'.cell? ⟨x.M, 1, none⟩ = some (.int .i64 (G : Int)) from
    ⟨(b.cell (World.block_lt_of_cell? w _ m0)).trans m0, (b.cell (World.block_lt_of_cell? w _ m1)).trans m1⟩)
  have CR := hid (fun (b : Nat) (w' : World) h => repeat_c b K hK1.1 hK1.2 w' h)
  have CN := hid (fun (w' : World) => newbitmap_c N (by omega) w')
  rw [← hB] at CN
  have HF := hid f
  have HD := hid (show n = x.t.length ∧ ln = x.L.length ∧ G = x.G ∧ K = 2 * G + 2 ∧ N = ln * (n + 1) ∧ B = (N + 63) / 64 from ⟨hn, hln, hG, hK, hN, hB⟩)
  rw [← hn]
  have hs0 : Hid (∀ W : World, ∀ ot : Obj, True) := hid fun _ _ => trivial
  clear f hn hln hG hK hN hB hG9 hnl hll hNl hK1
  go_enter Tryz.func46, Tryz.ntmps46
  go_upto_region 1 with fail
  have kk := KM.out w.drew (by (repeat' (first | exact Below.refl _ _ | assumption | refine bdrewN ?_ _ | refine Below.drew ?_ | refine Below.setCell ?_ (Nat.le_refl _) _ | refine bal ?_ _ | refine bthen ?_ (by assumption))))
  obtain ⟨l0, l1⟩ := kk
  go_region_held3 (fun w' => w'.cell? ⟨x.M, 0, none⟩ = some (.slice x.pa ln x.pc) ∧ w'.cell? ⟨x.M, 1, none⟩ = some (.int .i64 (G : Int))) (first | (with_reducible assumption) | (exact ⟨by with_reducible assumption, by with_reducible assumption⟩) | (exact KM.out _ (by (repeat' (first | exact Below.refl _ _ | assumption | refine bdrewN ?_ _ | refine Below.drew ?_ | refine Below.setCell ?_ (Nat.le_refl _) _ | refine bal ?_ _ | refine bthen ?_ (by assumption))))))
    (first
      | (go_at_call 74; refine (CR.out _ _ (by first | (with_reducible assumption) | exact cell_alloc_new _ _ _ 0)).mono ?_; rintro e v1 ⟨g, rfl, oR, hb1⟩; have hx1 : Below w.heap.size w v1 := bthen (by (repeat' (first | exact Below.refl _ _ | assumption | refine bdrewN ?_ _ | refine Below.drew ?_ | refine Below.setCell ?_ (Nat.le_refl _) _ | refine bal ?_ _ | refine bthen ?_ (by assumption)))) hb1; have kk := KM.out _ hx1; obtain ⟨o0, o1⟩ := kk)
      | (go_at_call 75; refine (CN.out _).mono ?_; rintro e v2 ⟨v, rfl, oN, hb2⟩; have hx2 : Below w.heap.size w v2 := bthen (by (repeat' (first | exact Below.refl _ _ | assumption | refine bdrewN ?_ _ | refine Below.drew ?_ | refine Below.setCell ?_ (Nat.le_refl _) _ | refine bal ?_ _ | refine bthen ?_ (by assumption)))) hb2; have kk := KM.out _ hx2; obtain ⟨p0, p1⟩ := kk; try have qn : v2.cell? ⟨w.heap.size, 0, none⟩ = some (.int .i64 (-1)) := (hb2.cell (p := ⟨w.heap.size, 0, none⟩) (by simp)).trans (cell_alloc_new w #[.int .i64 (-1)] 3 0)))
  all_goals
    have HX1 := hid hx1
    have HX2 := hid hx2
    clear l0 l1 o0 o1 p0 p1
    go_wp2_with fail
    go_ret
    have hd := HD.out
    obtain ⟨h1, h2, h3, h4, h5, h6⟩ := hd
    rw [h1]
    have zx1 := HX1.out.size
    have zx2 := HX2.out.size
    first
      | exact ⟨_, _, rfl, srch_new HX2.out ((oR.grow hb2).base_le (by first | (simp; done) | (simp; omega) | omega)) (oN.base_le (by first | (simp; done) | (simp; omega) | omega)) (by rw [h4, h3]) (by rw [h6, h5, h2, h1])⟩
      | exact ⟨_, _, rfl, srch_new HX1.out (oR.base_le (by first | (simp; done) | (simp; omega) | omega)) ((oN.grow (by (repeat' (first | exact Below.refl _ _ | assumption | refine bdrewN ?_ _ | refine Below.drew ?_ | refine Below.setCell ?_ (Nat.le_refl _) _ | refine bal ?_ _ | refine bthen ?_ (by assumption))))).base_le (by first | (simp; done) | (simp; omega) | omega)) (by rw [h4, h3]) (by rw [h6, h5, h2, h1])⟩
end Go.Proofs.YtefgjicegbhcaaaGreat
namespace Go.Proofs.YtefgjicegbhcaaaGreat
open Go.RowKit ReM

def FindP (w : World) (x : Fx) (from_ : Nat) (e' : Ending) (w' : World) : Prop :=
  Below w.heap.size w w' ∧ ((FindR x.mc (zz x) from_ none ∧ e' = .returned (.tuple #[.slice none 0 0, .bool false])) ∨
    ∃ r g c, FindR x.mc (zz x) from_ (some r) ∧ e' = .returned (.tuple #[.slice (some ⟨g, 0, none⟩) r.length c, .bool true]) ∧ I.Own w' w.heap.size (some ⟨g, 0, none⟩) c r)
set_option maxRecDepth 20000 in
set_option maxHeartbeats 16000000 in
theorem find_c (w : World) (x : Fx) (f : FxOk w x) (hP : PgOk (inss x.L) x.G) (from_ : Nat) (hf : from_ ≤ x.t.length) :
    Calls Tryz.prog 19 #[.pointer (some ⟨x.M, 0, none⟩), .slice x.ta x.t.length x.tc, .int .i64 from_] w (FindP w x from_) := by
  obtain ⟨n, hn⟩ : ∃ n, n = x.t.length := ⟨_, rfl⟩
  have Hn := hid hn
  have HF := hid f
  have HP := hid hP
  have hn1 : n ≤ 1000 := by rw [hn]; exact f.tl
  have NC := hid (newsearch_c w x f)
  rw [← hn] at hf NC ⊢
  have b1 : decide ((1000 : Int) < (n : Int)) = false := decide_eq_false (by omega)
  have b2 : decide ((from_ : Int) < 0) = false := decide_eq_false (by omega)
  have b3 : decide ((n : Int) < (from_ : Int)) = false := decide_eq_false (by omega)
  have b4 : decide (n < from_) = false := decide_eq_false (by omega)
  clear hn f hP
  go_enter Tryz.func19, Tryz.ntmps19
  go_wp2_with fail
  refine NC.out.mono ?_
  rintro _ w1 ⟨y, V, rfl, h1, i1⟩
  have H1 := hid h1
  have I1 := hid i1
  clear h1 i1 NC b1 b2 b3 b4
  go_wp2_with fail
  go_loopw [9] (fun av wr => ∃ (a : Nat) (R : List Int) (ua : Option Addr) (uc : Nat) (U : List RcM) (la : Option Addr) (lc : Nat) (V : List Nat) (vis : Vis), av = .int .i64 a ∧ a ≤ n + 1 ∧ Hid (Srch w wr x y R ua uc U la lc [] V) ∧ Hid (Inv x R U [] V vis) ∧ Hid (∀ o, Finds x.mc (zz x) a vis o → FindR x.mc (zz x) from_ o)) (fun av _ => n + 1 - (intOf av).toNat)
  case atStart => exact ⟨from_, zz x, none, 0, [], none, 0, V, none_, rfl, by omega, H1, I1, hid fun o h => h⟩
  case round =>
    clear H1 I1
    obtain ⟨a, R, ua, uc, U, la, lc, V, vis, rfl, ha, H1, I1, HO⟩ := hrel
    by_cases hle : a ≤ n
    · have c1 : decide ((a : Int) ≤ (n : Int)) = true := decide_eq_true (by omega)
      have c2 : decide (a ≤ n) = true := decide_eq_true hle
      have TC := hid (try_c w wr x y R ua uc U la lc V vis H1.out HF.out HP.out I1.out a (by rw [← Hn.out]; exact hle))
      go_wp2_with fail
      refine TC.out.mono ?_
      rintro _ w2 ⟨b, R2, ua2, uc2, U2, la2, lc2, S2, V2, rfl, h2, ht, hf2⟩
      have H2 := hid h2
      have HT := hid ht
      have HFf := hid hf2
      clear h2 ht hf2 TC c1 c2
      cases b with
      | true =>
        have hit := hid (HT.out (by first | rfl | trivial))
        have k2 := H2.out.c2
        go_wp2_with fail
        go_ret2
        refine ⟨H2.out.bel.trans (Below.mono (by (repeat' (first | exact Below.refl _ _ | assumption | refine bdrewN ?_ _ | refine Below.drew ?_ | refine Below.setCell ?_ (Nat.le_refl _) _ | refine bal ?_ _ | refine bthen ?_ (by assumption)))) H2.out.bel.size), .inr ⟨R2, y.g, y.c, HO.out _ (.hit (by show _ ≤ x.t.length; rw [← Hn.out]; exact hle) hit.out), rfl, (H2.out.same (by (repeat' (first | exact Below.refl _ _ | assumption | refine bdrewN ?_ _ | refine Below.drew ?_ | refine Below.setCell ?_ (Nat.le_refl _) _ | refine bal ?_ _ | refine bthen ?_ (by assumption))))).rcd⟩⟩
      | false =>
        obtain ⟨v2, hS, i2, f2⟩ := HFf.out (by first | rfl | trivial)
        subst hS
        have I2 := hid i2
        have F2 := hid f2
        clear i2 f2
        go_wp2_with fail
        go_roundw
        case rel => exact ⟨a + 1, R2, ua2, uc2, U2, la2, lc2, V2, v2, by go_num, by omega, H2.out.same (by (repeat' (first | exact Below.refl _ _ | assumption | refine bdrewN ?_ _ | refine Below.drew ?_ | refine Below.setCell ?_ (Nat.le_refl _) _ | refine bal ?_ _ | refine bthen ?_ (by assumption)))), I2, hid fun o h => HO.out o (.miss (by show _ ≤ x.t.length; rw [← Hn.out]; exact hle) F2.out h)⟩
        case measure => simp [intOf]; omega
    · have c1 : decide ((a : Int) ≤ (n : Int)) = false := decide_eq_false (by omega)
      have c2 : decide (a ≤ n) = false := decide_eq_false hle
      go_wp2_with fail
      go_ret2
      exact ⟨H1.out.bel.trans (Below.mono (by (repeat' (first | exact Below.refl _ _ | assumption | refine bdrewN ?_ _ | refine Below.drew ?_ | refine Below.setCell ?_ (Nat.le_refl _) _ | refine bal ?_ _ | refine bthen ?_ (by assumption)))) H1.out.bel.size), .inl ⟨HO.out _ (.out (by show x.t.length < _; rw [← Hn.out]; omega)), rfl⟩⟩
set_option maxHeartbeats 4000000 in
/-- a place that is none of the text's -/
theorem find_far (w : World) (M : Nat) (ta : Option Addr) (tc n : Nat) (from_ : Int) (hf : from_ < 0 ∨ (n : Int) < from_) (h1 : n ≤ 1000) :
    Calls Tryz.prog 19 #[.pointer (some ⟨M, 0, none⟩), .slice ta n tc, .int .i64 from_] w fun e' w' => e' = .returned (.tuple #[.slice none 0 0, .bool false]) ∧ w = w' := by
  have b1 : decide ((1000 : Int) < (n : Int)) = false := decide_eq_false (by omega)
  by_cases h0 : from_ < 0
  · have b2 : decide (from_ < 0) = true := decide_eq_true h0
    clear hf h0
    go_enter Tryz.func19, Tryz.ntmps19
    go_wp2_with fail
    go_ret2
    exact ⟨rfl, rfl⟩
  · have b2 : decide (from_ < 0) = false := decide_eq_false h0
    have b3 : decide ((n : Int) < from_) = true := decide_eq_true (by omega)
    clear hf h0
    go_enter Tryz.func19, Tryz.ntmps19
    go_wp2_with fail
    go_ret2
    exact ⟨rfl, rfl⟩
set_option maxHeartbeats 4000000 in
theorem find_nil (w : World) (ta : Option Addr) (tc n : Nat) (from_ : Int) :
    Calls Tryz.prog 19 #[.pointer none, .slice ta n tc, .int .i64 from_] w fun e' w' => e' = .returned (.tuple #[.slice none 0 0, .bool false]) ∧ w = w' := by
  go_enter Tryz.func19, Tryz.ntmps19
  go_wp2_with fail
  go_ret2
  exact ⟨rfl, rfl⟩
set_option maxHeartbeats 4000000 in
theorem mgroups_c (w : World) (M : Nat) (G : Nat) (h : w.cell? ⟨M, 1, none⟩ = some (.int .i64 (G : Int))) :
    Calls Tryz.prog 28 #[.pointer (some ⟨M, 0, none⟩)] w fun e' w' => e' = .returned (.int .i64 (G : Int)) ∧ w = w' := by
  go_enter Tryz.func28, Tryz.ntmps28
  go_wp2_with fail
  go_ret
  exact ⟨rfl, rfl⟩
set_option maxHeartbeats 4000000 in
theorem mgroups_nil (w : World) :
    Calls Tryz.prog 28 #[.pointer none] w fun e' w' => e' = .returned (.int .i64 0) ∧ w = w' := by
  go_enter Tryz.func28, Tryz.ntmps28
  go_wp2_with fail
  go_ret
  exact ⟨rfl, rfl⟩
end Go.Proofs.YtefgjicegbhcaaaGreat
