/- The document's search: try. -/
import Derived.Test.YtefgjicegbhcaaaGreatDmA
import Derived.Test.YtefgjicegbhcaaaGreatMtB
import Derived.Deep.RegionHeld3
namespace Go.Proofs.YtefgjicegbhcaaaGreat
open Go.RowKit ReM

/-- a block of ints that reads as a list -/
structure Cp (w : World) (g : Nat) (R : List Int) : Prop where
  cell : ∀ j, j < R.length → w.cell? ⟨g, j, none⟩ = some (.int .i64 (gt R j))
  fz : ∀ j, w.frozen? ⟨g, j, none⟩ = false
  lt : g < w.heap.size
theorem Cp.same {w w' : World} {g : Nat} {R : List Int} (h : Cp w g R) (hs : w.heap.size ≤ w'.heap.size) (hb : w'.heap[g]? = w.heap[g]?) : Cp w' g R :=
  ⟨fun j hj => (World.cell?_of_block (w := w) (w' := w') (a := ⟨g, j, none⟩) hb).trans (h.cell j hj), fun j => (World.frozen?_of_block (w := w) (w' := w') (a := ⟨g, j, none⟩) hb).trans (h.fz j), by have := h.lt; omega⟩
theorem Cp.bel {w w' : World} {g : Nat} {R : List Int} (h : Cp w g R) (hb : Below w.heap.size w w') : Cp w' g R := h.same hb.size (hb.block _ h.lt)
theorem Cp.put {w : World} {g : Nat} {R : List Int} (h : Cp w g R) {k : Nat} (hk : k < R.length) (z : Int) : Cp (w.setCell ⟨g, k, none⟩ (.int .i64 z)) g (R.set k z) := by
  refine ⟨fun j hj => ?_, fun j => by rw [World.frozen?_setCell]; exact h.fz j, by simpa using h.lt⟩
  rw [List.length_set] at hj
  by_cases e : k = j
  · subst e
    rw [World.cell?_setCell_same (h := h.cell k hk), gt_get (by rw [List.length_set]; exact hk)]
    simp
  · rw [cell_set1 (h.cell j hj) e]
    unfold gt
    rw [List.getD_eq_getElem?_getD, List.getD_eq_getElem?_getD, List.getElem?_set_ne e]
theorem Cp.other {w : World} {g : Nat} {R : List Int} (h : Cp w g R) (p : Addr) (v : Value) (hn : g ≠ p.block) : Cp (w.setCell p v) g R := h.same (by simp) (Below.heap_setCell _ _ _ _ hn)
theorem Sn.other {w : World} {g n : Nat} {f : Nat → Bool} (h : Sn w g n f) (p : Addr) (v : Value) (hn : g ≠ p.block) : Sn (w.setCell p v) g n f := h.same (by simp) (Below.heap_setCell _ _ _ _ hn)
theorem Cp.isl {w : World} {g : Nat} {R : List Int} (h : Cp w g R) (hr : ∀ z, z ∈ R → -1 ≤ z ∧ z ≤ 1000) (hl : R.length ≤ 1000) : I.Sl w (some ⟨g, 0, none⟩) R := by
  refine ⟨by omega, fun z hz => by have := hr z hz; omega, .inr ⟨g, 0, rfl, fun j hj => ?_⟩⟩
  rw [Nat.zero_add]; exact h.cell j hj
theorem made_int (w : World) (n : Nat) (T : TypeId) : Cp (w.alloc (.cells (madeCells #[.int .i64 0] n) T)) w.heap.size (List.replicate n 0) := by
  refine ⟨fun j hj => ?_, fun j => by simp, by simp⟩
  rw [List.length_replicate] at hj
  rw [cell_alloc_new, show madeCells #[.int .i64 0] n = ((List.replicate n (0 : Int)).map (Value.int .i64)).toArray by
    apply Array.ext
    · simp [madeCells]
    · intro i h1 h2
      simp [madeCells, Nat.mod_one]]
  simp [hj, gt]
/-- a search in memory: w0 is the world ahead of what was seen, B the blocks below which nothing of this try lies -/
structure Dst (w0 : World) (x : Fx) (sv cg : Nat) (R : List Int) (aW : Option Addr) (cW : Nat) (W : List Wy) (f : Nat → Bool) (wr : World) : Prop where
  bel : Below w0.heap.size w0 wr
  sn : Sn wr sv (nN x) f
  caps : Cp wr cg R
  left : WyOwn wr (cg + 1) aW cW W
/-- what try tells -/
def RTryP (w0 w : World) (x : Fx) (sv from_ : Nat) (vis : Vis) (e' : Ending) (w' : World) : Prop :=
  ∃ f, Below w0.heap.size w0 w' ∧ Sn w' sv (nN x) f ∧
    ((∃ R g c, e' = .returned (.tuple #[.slice (some ⟨g, 0, none⟩) R.length c, .bool true]) ∧ Hits x.mc (zz x) from_ vis R ∧ Cp w' g R ∧ w.heap.size ≤ g ∧ R.length = 2 * x.G + 2 ∧ R.length ≤ c ∧ ∀ z, z ∈ R → -1 ≤ z ∧ z ≤ 1000) ∨
     (∃ vis', e' = .returned (.tuple #[.slice none 0 0, .bool false]) ∧ Fails x.mc (zz x) from_ vis vis' ∧ SeenV x f vis'))
set_option maxRecDepth 20000 in
set_option maxHeartbeats 60000000 in
theorem rtry_c (w0 w : World) (x : Fx) (sv cB from_ : Nat) (f : Nat → Bool) (vis : Vis) (hF : FxOk w0 x) (hP : PgOk (inss x.L) x.G) (hB : Below w0.heap.size w0 w) (hsv : w0.heap.size ≤ sv) (hS : Sn w sv (nN x) f) (hv : SeenV x f vis) (hfr : from_ ≤ x.t.length) :
    Calls Tryz.prog 55 #[.pointer (some ⟨x.M, 0, none⟩), .slice x.ta x.t.length x.tc, .int .i64 from_, .slice (some ⟨sv, 0, none⟩) (nN x) cB] w (RTryP w0 w x sv from_ vis) := by
  obtain ⟨m, hm⟩ : ∃ m, m = 2 * x.G + 2 := ⟨_, rfl⟩
  have hG9 := hF.G9
  have hm20 : m ≤ 20 := by omega
  have hn1 := hF.tl
  have hL3 := hF.Ll
  have hmk := fun w' => run_make_row' (P := Tryz.prog) 28 3 (.int .i64 0) 8 Tryz.underlying28 (by kernel_rfl) rfl .i64 .i64 m (by omega) (by omega) w'
  obtain ⟨V, hV⟩ : ∃ V, V = w.alloc (.cells (madeCells #[.int .i64 0] m) 3) := ⟨_, rfl⟩
  have bV : Below w.heap.size w V := by subst hV; (repeat' (first | exact Below.refl _ _ | assumption | refine bdrewN ?_ _ | refine Below.drew ?_ | refine bal ?_ _ | refine bthen ?_ (by assumption)))
  have cV : Hid (Cp V w.heap.size (List.replicate m 0)) := by subst hV; exact made_int w m _
  have sV := hid (hS.bel bV)
  have hslt := hS.lt
  have k1 := (hF.mt.bel hB).c1
  have hw1 : IntKind.i64.wrap (2 * (x.G : Int)) = 2 * (x.G : Int) := by rw [IntKind.wrap_i64]; omega
  have hw2 : IntKind.i64.wrap (2 * (x.G : Int) + 2) = (m : Int) := by rw [IntKind.wrap_i64]; omega
  have BV := hid (hB.trans (bV.mono hB.size))
  have zV : V.heap.size = w.heap.size + 1 := by subst hV; simp
  have HF := hid hF
  have HP := hid hP
  have HV0 := hid hv
  have Hm := hid hm
  have z0 := hB.size
  clear hF hP hv hS hB bV hm
  go_enter Tryz.func55, Tryz.ntmps55
  go_upto_region 2 with fail
  rw [← hV]; clear hV hmk k1 hw1 hw2
  go_wp2_with fail
  go_loopw [11] (fun iv wr => ∃ (k : Nat) (R : List Int), iv = .int .i64 k ∧ k ≤ m ∧ R.length = m ∧ Hid (R.take k = List.replicate k (-1)) ∧ Hid (Cp wr w.heap.size R) ∧ Hid (Sn wr sv (nN x) f) ∧ Hid (Below w0.heap.size w0 wr)) (fun iv _ => m - (intOf iv).toNat)
  case atStart => exact ⟨0, _, rfl, by omega, by simp, hid (by simp), cV, sV, BV⟩
  case round =>
    obtain ⟨k, R, rfl, hk, hRl, HR, CR, SR, BR⟩ := hrel
    by_cases hlt : k < m
    · have ck := CR.out.cell k (by omega)
      have fk := CR.out.fz k
      have q1 : decide ((k : Int) < (m : Int)) = true := decide_eq_true (by omega)
      go_wp2_with fail
      go_roundw
      case rel => exact ⟨k + 1, R.set k (-1), by go_num, by omega, by rw [List.length_set]; exact hRl, hid (by rw [List.take_set, List.take_succ_eq_append_getElem (by omega), HR.out, List.set_append_right _ _ (by simp), List.length_replicate, Nat.sub_self, List.set_cons_zero, List.replicate_succ']), hid (CR.out.put (by omega) (-1)), hid (SR.out.other _ _ (by show sv ≠ w.heap.size; omega)), hid (BR.out.setCell (by show w0.heap.size ≤ w.heap.size; omega) _)⟩
      case measure => simp [intOf]; omega
    · obtain rfl : k = m := by omega
      have hR : R = zz x := by
        have := HR.out
        rw [List.take_of_length_le (by omega)] at this
        rw [this]; unfold zz; rw [Hm.out]
      subst hR
      clear HR
      obtain ⟨V2, hV2⟩ : ∃ V2, V2 = wr.alloc (.cells #[.bool false, .int .i64 0, .int .i64 from_] 143) := ⟨_, rfl⟩
      have b2 : Below wr.heap.size wr V2 := by subst hV2; (repeat' (first | exact Below.refl _ _ | assumption | refine bdrewN ?_ _ | refine Below.drew ?_ | refine bal ?_ _ | refine bthen ?_ (by assumption)))
      have hcl := CR.out.lt
      have l2 : Hid (WyOwn V2 (w.heap.size + 1) (some ⟨wr.heap.size, 0, none⟩) 1 [⟨false, 0, from_⟩]) := hid (by
        have := World.ownsRow_lit (base := w.heap.size + 1) (e := 143) (size := 3) wr #[.bool false, .int .i64 0, .int .i64 from_] 1 (by omega) (by unfold maxLen; omega) rfl
        rw [← hV2] at this
        exact ⟨by simpa [rflat, encWy] using this, by show (1 : Nat) ≤ 4398046511104; omega⟩)
      have D2 : Hid (Dst w0 x sv w.heap.size (zz x) (some ⟨wr.heap.size, 0, none⟩) 1 [⟨false, 0, from_⟩] f V2) := hid ⟨BR.out.trans (b2.mono BR.out.size), SR.out.bel b2, CR.out.bel b2, l2.out⟩
      have hPp := HP.out.pos
      have hLp : 0 < x.L.length := by simpa [inss] using hPp
      have I2 : Hid (DIv x (zz x) [⟨false, 0, (from_ : Int)⟩]) := hid ⟨by simp [zz], fun z hz => by simp [zz] at hz; omega, fun q hq e => (by simp at hq; subst hq; cases e), fun q hq _ => by simp at hq; subst hq; exact ⟨hLp, by show (0 : Int) ≤ (from_ : Int); omega, by show (from_ : Int) ≤ _; omega⟩⟩
      have HR2 : Hid (Run x.mc [⟨0, from_, zz x⟩] vis (absW (zz x) [⟨false, 0, (from_ : Int)⟩]) vis) := hid (by
        have e : absW (zz x) [⟨false, 0, (from_ : Int)⟩] = [⟨0, from_, zz x⟩] := by simp [absW, absT]
        rw [e]; exact .refl _ _)
      clear b2 l2 hPp CR SR BR
      go_upto_region 7 with fail
      rw [← hV2]; clear hV2
      go_loopg [12, 13, 14, 15, 16, 17] (2 * uns f (nN x) + 1) (fun g lv _ _ _ _ _ wx => ∃ (aW : Option Addr) (cW : Nat) (W : List Wy) (R : List Int) (f' : Nat → Bool) (vis' : Vis), lv = .slice aW W.length cW ∧ Hid (Dst w0 x sv w.heap.size R aW cW W f' wx) ∧ Hid (DIv x R W) ∧ Hid (SeenV x f' vis') ∧ Hid (Run x.mc [⟨0, from_, zz x⟩] vis (absW R W) vis') ∧ 2 * uns f' (nN x) + W.length ≤ g ∧ g ≤ 700000)
      case atStart => exact ⟨_, _, _, _, f, vis, rfl, D2, I2, HV0, HR2, by simp, by have h1 := uns_le f (nN x); have h2 : nN x ≤ 300 * 1001 := Nat.mul_le_mul hL3 (by omega); omega⟩
      case round =>
        obtain ⟨aW, cW, W, R, f', vis', rfl, HD, HI, HV, HRun, hg, hgl⟩ := hrel
        by_cases h0 : W.length = 0
        · have hW : W = [] := List.length_eq_zero_iff.1 h0
          subst hW
          have q1 : decide ((0 : Int) < (([] : List Wy).length : Int)) = false := by decide
          go_wp2_with fail
          go_ret2
          refine ⟨f', HD.out.bel, HD.out.sn, .inr ⟨vis', rfl, ?_, HV.out⟩⟩
          have := HRun.out
          rw [absW_nil] at this
          exact this
        · obtain ⟨n, hn⟩ : ∃ n, W.length = n + 1 := ⟨W.length - 1, by omega⟩
          obtain ⟨g', hgk⟩ : ∃ g', gk = g' + 1 := ⟨gk - 1, by omega⟩
          have hW : W = W.take n ++ [rgt W n] := by rw [← rgt_take (by omega), ← hn, List.take_length]
          obtain ⟨⟨bk, i, v⟩, hq⟩ : ∃ q, rgt W n = q := ⟨_, rfl⟩
          obtain ⟨W0, hW0⟩ : ∃ W0, W0 = W.take n := ⟨_, rfl⟩
          have hW0l : W0.length = n := by rw [hW0]; simp; omega
          rcases HD.out.left.shape with ⟨_, _, h9⟩ | ⟨lg, rfl, hlg1, hlg2, hlg3⟩
          · rw [h9] at hn; simp at hn
          obtain ⟨b', o', he, hc⟩ := (ROwn.sl HD.out.left).at (i := n) (by omega)
          simp only [Option.some.injEq, Addr.mk.injEq, and_true] at he
          obtain ⟨rfl, rfl⟩ := he
          obtain ⟨r0, r1, r2⟩ := rec_wy (hc n (by omega))
          rw [show encWy.k = 3 from rfl, hq] at r0 r1 r2
          simp only [Nat.zero_add] at r0 r1 r2
          have hsl := rslice_own Tryz.tyWy HD.out.left n (by omega)
          rw [← hW0, hW0l] at hsl
          have hI := HI.out
          have hR0 := HRun.out
          rw [hW, hq, ← hW0] at hI hR0
          have LO := ROwn.cut HD.out.left n (by omega)
          rw [← hW0] at LO
          have hcapW : W.length ≤ 4398046511104 := HD.out.left.2
          have hsub : IntKind.i64.wrap ((W.length : Int) - 1) = (n : Int) := by rw [IntKind.wrap_i64]; omega
          have q1 : decide ((0 : Int) < (W.length : Int)) = true := decide_eq_true (by omega)
          have q1n : decide (0 < W.length) = true := decide_eq_true (by omega)
          have q2 : (n : Int) < (W.length : Int) := by omega
          have q3 : n < W.length := by omega
          obtain ⟨V3, hV3⟩ : ∃ V3, V3 = wr.alloc (.cells #[.bool bk, .int .i64 i, .int .i64 v] 143) := ⟨_, rfl⟩
          have b3 : Below wr.heap.size wr V3 := by subst hV3; (repeat' (first | exact Below.refl _ _ | assumption | refine bdrewN ?_ _ | refine Below.drew ?_ | refine bal ?_ _ | refine bthen ?_ (by assumption)))
          have D3 : Hid (Dst w0 x sv w.heap.size R (some ⟨lg, 0, none⟩) cW W0 f' V3) := hid ⟨HD.out.bel.trans (b3.mono HD.out.bel.size), HD.out.sn.bel b3, HD.out.caps.bel b3, ROwn.grow LO b3⟩
          have hc3 : ∀ j, V3.cell? ⟨wr.heap.size, j, none⟩ = #[Value.bool bk, .int .i64 i, .int .i64 v][j]? := fun j => by subst hV3; rw [cell_alloc_new]
          have m0 := hc3 0
          have m1 := hc3 1
          have m2 := hc3 2
          simp at m0 m1 m2
          have I3 := hid hI.pop
          have hgm : 2 * uns f' (nN x) + W0.length ≤ g' := by omega
          have HQ : Hid (DIv x R (W0 ++ [⟨bk, i, v⟩])) := hid hI
          have HR3 := hid hR0
          have Hn := hid hn
          have HW0l := hid hW0l
          clear hc hc3 hW hq hW0 hI hR0 LO HI HRun HD b3 hg hn h0
          subst hgk
          go_upto_region 10 with fail
          rw [← hV3]; clear hV3 hsl hsub r0 r1 r2 q1 q1n q2 q3 hW0l
          cases bk with
          | true =>
            obtain ⟨hi1, hv1⟩ := HQ.out.Wb ⟨true, i, v⟩ (by simp) rfl
            dsimp only at hi1 hv1
            have hRl := I3.out.Rl
            have ci := D3.out.caps.cell i (by omega)
            have fi := D3.out.caps.fz i
            have hib : (i : Int) < (k : Int) := by have := Hm.out; omega
            have hib2 : i < k := by omega
            go_wp2_with fail
            go_roundg g'
            case measure => omega
            case rel => exact ⟨_, _, W0, R.set i v, f', vis', by have := HW0l.out; rw [this], hid ⟨D3.out.bel.setCell (by show w0.heap.size ≤ w.heap.size; omega) _, D3.out.sn.other _ _ (by show sv ≠ w.heap.size; omega), D3.out.caps.put (by omega) v, ROwn.same D3.out.left fun ad ha _ => Below.heap_setCell _ _ _ _ (by have := (ROwn.lt D3.out.left ⟨ad, ha, rfl⟩).1; show ad.block ≠ w.heap.size; omega)⟩, hid (I3.out.set i hv1), HV, hid (by rw [← absW_note]; exact HR3.out), hgm, by omega⟩
          | false =>
            obtain ⟨hi1, hv1⟩ := HQ.out.Wg ⟨false, i, v⟩ (by simp) rfl
            dsimp only at hi1 hv1
            obtain ⟨at0, rfl⟩ : ∃ a : Nat, v = a := ⟨v.toNat, by omega⟩
            have HR4 : Hid (Run x.mc [⟨0, from_, zz x⟩] vis (⟨i, at0, R⟩ :: absW R W0) vis') := hid (by
              have := HR3.out
              rw [absW_go, Int.toNat_natCast] at this
              exact this)
            clear HR3 HQ
            go_wp2_with fail
            go_quiet (fail)
            generalize hV4 : V3.drewN _ = V4
            have b34 : Below V3.heap.size V3 V4 := by rw [← hV4]; exact bdrewN (Below.refl _ _) _
            have D4 : Hid (Dst w0 x sv w.heap.size R (some ⟨lg, 0, none⟩) cW W0 f' V4) := hid ⟨D3.out.bel.trans (b34.mono D3.out.bel.size), D3.out.sn.bel b34, D3.out.caps.bel b34, ROwn.grow D3.out.left b34⟩
            clear hV4 b34 D3 m0 m1 m2
            go_wp2_with fail
            go_loopg [12, 14, 15, 16, 17] (uns f' (nN x) + 1) (fun h lv pv av ov _ wy => ∃ (aW : Option Addr) (cW : Nat) (W : List Wy) (R : List Int) (f' : Nat → Bool) (vis' : Vis) (pc at1 : Nat) (on : Bool), lv = .slice aW W.length cW ∧ pv = .int .i64 pc ∧ av = .int .i64 at1 ∧ ov = .bool on ∧ Hid (Dst w0 x sv w.heap.size R aW cW W f' wy) ∧ Hid (DIv x R W) ∧ Hid (SeenV x f' vis') ∧ (on = true → pc < x.L.length ∧ at1 ≤ x.t.length) ∧ Hid (Run x.mc [⟨0, from_, zz x⟩] vis (if on = true then ⟨pc, at1, R⟩ :: absW R W else absW R W) vis') ∧ 2 * uns f' (nN x) + W.length ≤ g' ∧ pc ≤ 1000 ∧ at1 ≤ 1001 ∧ uns f' (nN x) + (if on = true then 1 else 0) ≤ h)
            case atStart => exact ⟨_, _, W0, R, f', vis', i, at0, true, by have := HW0l.out; rw [this], rfl, rfl, rfl, D4, I3, HV, fun _ => ⟨hi1, by omega⟩, hid (by rw [if_pos rfl]; exact HR4.out), hgm, by omega, by omega, by simp⟩
            case round =>
              clear D4 I3 HV HR4 hi1 hv1 hgm HW0l Hn
              obtain ⟨aW, cW, W, R, f', vis', pc, at1, on, rfl, rfl, rfl, rfl, HD, HI, HV, hon, HRun, hg, hpb, hab, hh⟩ := hrel
              cases on with
              | false =>
                go_wp2_with fail
                go_roundg g'
                case measure => omega
                case rel => exact ⟨aW, cW, W, R, f', vis', rfl, HD, HI, HV, hid (by have := HRun.out; rwa [if_neg (by decide)] at this), hg, by omega⟩
              | true =>
                obtain ⟨hp1, ha1⟩ := hon rfl
                obtain ⟨kk, hkk⟩ : ∃ kk, kk = numS x.t.length pc at1 := ⟨_, rfl⟩
                have hkN : kk < nN x := by rw [hkk]; exact num_lt hp1 ha1
                have ck := HD.out.sn.cell kk hkN
                have fk := HD.out.sn.fz kk
                have hfv : f' kk = vis' pc at1 := by rw [hkk]; exact HV.out pc at1 hp1 ha1
                obtain ⟨pm, hpm⟩ : ∃ pm, pm = pc * (x.t.length + 1) := ⟨_, rfl⟩
                have hpb2 : pm ≤ 1000 * 1001 := by rw [hpm]; exact Nat.mul_le_mul hpb (by omega)
                have hsum : kk = pm + at1 := by rw [hkk, hpm]; rfl
                have hw1 : IntKind.i64.wrap ((x.t.length : Int) + 1) = (x.t.length : Int) + 1 := by rw [IntKind.wrap_i64]; omega
                have hw2 : IntKind.i64.wrap ((pc : Int) * ((x.t.length : Int) + 1)) = (pm : Int) := by
                  rw [show (pc : Int) * ((x.t.length : Int) + 1) = (pm : Int) by rw [hpm]; push_cast; rfl, IntKind.wrap_i64]; omega
                have hw3 : IntKind.i64.wrap ((pm : Int) + (at1 : Int)) = (kk : Int) := by rw [IntKind.wrap_i64]; omega
                have hkI : (kk : Int) < ((nN x : Nat) : Int) := by omega
                have HK := hid hkk
                clear hkk hpm hsum hpb2 hon
                cases hfk : f' kk with
                | true =>
                  rw [hfk] at ck hfv
                  have Hfv := hid hfv
                  clear hfv hfk
                  go_wp2_with fail
                  go_roundg g'
                  case measure => omega
                  case rel => exact ⟨aW, cW, W, R, f', vis', rfl, HD, HI, HV, hid (by have := HRun.out; rw [if_pos trivial] at this; exact this.trans (.pop Hfv.out.symm)), hg, by omega⟩
                | false =>
                  rw [hfk] at ck hfv
                  have Hfv := hid hfv
                  clear hfv
                  obtain ⟨V5, hV5⟩ : ∃ V5, V5 = wr.setCell ⟨sv, kk, none⟩ (.bool true) := ⟨_, rfl⟩
                  have D5 : Hid (Dst w0 x sv w.heap.size R aW cW W (put1 f' kk) V5) := hid (by
                    rw [hV5]
                    exact ⟨HD.out.bel.setCell hsv _, HD.out.sn.put hkN, HD.out.caps.other _ _ (by show w.heap.size ≠ sv; omega), ROwn.same HD.out.left fun ad ha _ => Below.heap_setCell _ _ _ _ (by have := (ROwn.lt HD.out.left ⟨ad, ha, rfl⟩).1; show ad.block ≠ sv; omega)⟩)
                  have V5v : Hid (SeenV x (put1 f' kk) (ReM.mark vis' pc at1)) := hid (by rw [HK.out]; exact HV.out.put ha1)
                  have hun := uns_put hfk hkN
                  have F5 := HF.out.bel D5.out.bel
                  have c0' := F5.mt.c0
                  obtain ⟨pb, po, hpa, hpc⟩ := F5.mt.prog.at hp1
                  obtain ⟨p0, p1, p2, p3, p4⟩ := rec_in (hpc pc hp1)
                  rw [show encIn.k = 5 from rfl] at p0 p1 p2 p3 p4
                  obtain ⟨q, hq⟩ : ∃ q, rgt x.L pc = q := ⟨_, rfl⟩
                  have HS5 := hid (F5.mt.sets _ (rgt_mem hp1))
                  have hig : igt (inss x.L) pc = q.ins := by rw [igt_inss hp1, hq]
                  rw [hq] at p0 p1 p2 p3 p4 HS5
                  obtain ⟨op, qx, qy, nt, sa, st, sc⟩ := q
                  dsimp only at p0 p1 p2 p3 p4 HS5
                  rw [hpa] at c0'
                  have hpl : (pc : Int) < (x.L.length : Int) := by omega
                  have hlenI : (inss x.L).length = x.L.length := by simp [inss]
                  have Pop := HP.out.op pc (by rw [hlenI]; exact hp1)
                  have Pnx := HP.out.next pc (by rw [hlenI]; exact hp1)
                  have Psp := HP.out.split pc (by rw [hlenI]; exact hp1)
                  have Pjp := HP.out.jump pc (by rw [hlenI]; exact hp1)
                  have Psv := HP.out.save pc (by rw [hlenI]; exact hp1)
                  have Pst := HP.out.set pc (by rw [hlenI]; exact hp1)
                  rw [hig] at Pop Pnx Psp Pjp Psv Pst
                  rw [hlenI] at Pnx Psp Pjp
                  have Hig := hid hig
                  obtain ⟨V6, hV6⟩ : ∃ V6, V6 = V5.alloc (.cells #[.int .i64 op, .int .i64 qx, .int .i64 qy, .bool nt, .slice sa st.length sc] 121) := ⟨_, rfl⟩
                  have b6 : Below V5.heap.size V5 V6 := by subst hV6; (repeat' (first | exact Below.refl _ _ | assumption | refine bdrewN ?_ _ | refine Below.drew ?_ | refine bal ?_ _ | refine bthen ?_ (by assumption)))
                  have hc6 : ∀ j, V6.cell? ⟨V5.heap.size, j, none⟩ = #[Value.int .i64 op, .int .i64 qx, .int .i64 qy, .bool nt, .slice sa st.length sc][j]? := fun j => by subst hV6; rw [cell_alloc_new]
                  have m0 := hc6 0
                  have m1 := hc6 1
                  have m2 := hc6 2
                  have m3 := hc6 3
                  have m4 := hc6 4
                  simp at m0 m1 m2 m3 m4
                  have D5l : Hid (w.heap.size < V5.heap.size) := hid D5.out.caps.lt
                  have D5u : Hid (∀ j, Blk aW j → j < V5.heap.size) := hid fun j hj => (ROwn.lt D5.out.left hj).2
                  have D6 : Hid (Dst w0 x sv w.heap.size R aW cW W (put1 f' kk) V6) := hid ⟨D5.out.bel.trans (b6.mono D5.out.bel.size), D5.out.sn.bel b6, D5.out.caps.bel b6, ROwn.grow D5.out.left b6⟩
                  have S6 := hid (HS5.out.bel b6)
                  have F6 := hid (HF.out.bel D6.out.bel)
                  have R6 : Hid (Run x.mc [⟨0, from_, zz x⟩] vis (⟨pc, at1, R⟩ :: absW R W) vis') := hid (by have := HRun.out; rwa [if_pos rfl] at this)
                  clear hc6 hpc F5 hig hfk HS5 HRun HD HV hq hlenI HK
                  go_upto_region 17 with fail
                  rw [← hV5]; clear hV5 ck fk hw1 hw2 hw3 hkI hkN D5
                  go_upto_region 18 with fail
                  rw [← hV6]; clear hV6 p0 p1 p2 p3 p4 c0' hpl b6
                  have hct : 2 * uns (put1 f' kk) (nN x) + W.length + 2 ≤ g' := by omega
                  have hcu : uns (put1 f' kk) (nN x) + 2 ≤ gk := by
                    have := hh
                    rw [if_pos rfl] at this
                    omega
                  have hk1 : gk = (gk - 1) + 1 := by omega
                  have hctb : Hid (2 * uns (put1 f' kk) (nN x) + W.length + 2 ≤ g') := hid hct
                  clear hh hg hun hab
                  have hpc1 : IntKind.i64.wrap ((pc : Int) + 1) = ((pc + 1 : Nat) : Int) := by rw [IntKind.wrap_i64]; omega
                  have hat1 : IntKind.i64.wrap ((at1 : Int) + 1) = ((at1 + 1 : Nat) : Int) := by rw [IntKind.wrap_i64]; omega
                  have hRl := HI.out.Rl
                  obtain ⟨h', hh'⟩ : ∃ h', gk = h' + 1 := ⟨gk - 1, hk1⟩
                  subst hh'
                  clear hk1
                  have hcu' : uns (put1 f' kk) (nN x) + 1 ≤ h' := by omega
                  have ST : Hid ((igt x.mc.P pc).op ≠ 6 → Run x.mc [⟨0, from_, zz x⟩] vis (succs x.mc ⟨pc, at1, R⟩ ++ absW R W) (ReM.mark vis' pc at1)) := hid fun h6 => R6.out.trans (.step Hfv.out.symm h6)
                  have HPi : Hid (igt x.mc.P pc = ⟨op, qx, qy, nt, st⟩) := hid Hig.out
                  have hBV : Hid (w.heap.size < V6.heap.size ∧ V5.heap.size < V6.heap.size ∧ w.heap.size < V5.heap.size) := hid (by
                    have h1 := D6.out.caps.lt
                    have h2 := World.block_lt_of_cell? V6 _ m0
                    have h3 := D5l.out
                    exact ⟨h1, h2, h3⟩)
                  rcases (show op = 0 ∨ op = 1 ∨ op = 2 ∨ op = 3 ∨ op = 4 ∨ op = 5 ∨ op = 6 by have := Pop; simp only [Im.ins] at this; omega) with rfl | rfl | rfl | rfl | rfl | rfl | rfl
                  · skip
                    have hnx : pc + 1 < x.L.length := Pnx (by show (0 : Int) ≠ 6; decide)
                    by_cases hlt : at1 < x.t.length
                    · obtain ⟨b, hb⟩ : ∃ b, b = inW x.fold ⟨0, qx, qy, nt, st⟩ (gt x.t at1) := ⟨_, rfl⟩
                      have hok : x.mc.ok pc at1 = b := by
                        show (decide (at1 < x.t.length) && inW x.fold (igt (inss x.L) pc) (gt x.t at1)) = b
                        rw [decide_eq_true hlt, Hig.out, hb]; rfl
                      have hev : st.length % 2 = 0 := Pst rfl
                      obtain ⟨tb, to_, hta, htc⟩ := F6.out.text.at hlt
                      have ct := htc at1 hlt
                      have hrn := rng_gt F6.out.text.rng hlt
                      have OF := hid (fun w' (hb' : Below V6.heap.size V6 w') => of_d x.M ⟨0, qx, qy, nt, st⟩ sa sc (gt x.t at1) w' x.fold ((F6.out.bel hb').mt.c2) (S6.out.bel hb') hev hrn)
                      rw [← hb] at OF
                      have KC : Hid (∀ w', Below V6.heap.size V6 w' → w'.cell? ⟨V5.heap.size, 0, none⟩ = some (.int .i64 0) ∧ w'.cell? ⟨V5.heap.size, 1, none⟩ = some (.int .i64 qx) ∧ w'.cell? ⟨V5.heap.size, 2, none⟩ = some (.int .i64 qy) ∧ w'.cell? ⟨V5.heap.size, 3, none⟩ = some (.bool nt) ∧ w'.cell? ⟨V5.heap.size, 4, none⟩ = some (.slice sa st.length sc) ∧ w'.cell? ⟨tb, to_ + at1, none⟩ = some (.int .i32 (gt x.t at1))) := hid fun w' hb' => ⟨(hb'.cell (World.block_lt_of_cell? V6 _ m0)).trans m0, (hb'.cell (World.block_lt_of_cell? V6 _ m1)).trans m1, (hb'.cell (World.block_lt_of_cell? V6 _ m2)).trans m2, (hb'.cell (World.block_lt_of_cell? V6 _ m3)).trans m3, (hb'.cell (World.block_lt_of_cell? V6 _ m4)).trans m4, (hb'.cell (World.block_lt_of_cell? V6 _ ct)).trans ct⟩
                      have hcl : decide ((at1 : Int) < (x.t.length : Int)) = true := decide_eq_true (by omega)
                      have hal : (at1 : Int) < (x.t.length : Int) := by omega
                      have Hta := hid hta
                      rw [hta]
                      clear hta
                      clear htc hb hev
                      go_upto_region 22 with fail
                      have hx0 : Below V6.heap.size V6 V6.drew := (Below.refl _ _).drew
                      have k3 := KC.out _ hx0
                      obtain ⟨e0, e1, e2, e3, e4, e5⟩ := k3
                      go_region_held3 (fun w' => Below V6.heap.size V6 w' ∧ w'.cell? ⟨V5.heap.size, 0, none⟩ = some (.int .i64 0) ∧ w'.cell? ⟨V5.heap.size, 1, none⟩ = some (.int .i64 qx) ∧ w'.cell? ⟨V5.heap.size, 2, none⟩ = some (.int .i64 qy) ∧ w'.cell? ⟨V5.heap.size, 3, none⟩ = some (.bool nt) ∧ w'.cell? ⟨V5.heap.size, 4, none⟩ = some (.slice sa st.length sc) ∧ w'.cell? ⟨tb, to_ + at1, none⟩ = some (.int .i32 (gt x.t at1))) (first | assumption | exact ⟨by assumption, by assumption, by assumption, by assumption, by assumption, by assumption, by assumption⟩ | go_keep)
                        (first | (go_at_call 86; refine (OF.out _ (by assumption)).mono ?_; rintro e' w7 ⟨rfl, hb7⟩; have hx7 : Below V6.heap.size V6 w7 := bthen (by assumption) hb7; have kk7 := KC.out _ hx7; obtain ⟨n0, n1, n2, n3, n4, n5⟩ := kk7) | fail)
                      have D7 : Hid (Dst w0 x sv w.heap.size R aW cW W (put1 f' kk) w7) := hid ⟨D6.out.bel.trans (hx7.mono D6.out.bel.size), D6.out.sn.bel hx7, D6.out.caps.bel hx7, ROwn.grow D6.out.left hx7⟩
                      cases b with
                      | true =>
                        have RN : Hid (Run x.mc [⟨0, from_, zz x⟩] vis (⟨pc + 1, at1 + 1, R⟩ :: absW R W) (ReM.mark vis' pc at1)) := hid (by
                          have := ST.out (by rw [HPi.out]; show (0 : Int) ≠ 6; decide)
                          unfold succs at this
                          rw [HPi.out] at this
                          dsimp only at this
                          rw [if_pos rfl, if_pos hok] at this
                          exact this)
                        go_wp2_with fail
                        rw [← Hta.out]
                        go_roundg h'
                        case measure => omega
                        case rel => exact ⟨aW, cW, W, R, put1 f' kk, ReM.mark vis' pc at1, pc + 1, at1 + 1, true, rfl, by first | rfl | go_num, by first | rfl | go_num, rfl, D7, HI, V5v, fun _ => ⟨hnx, by omega⟩, hid (by first | (rw [if_pos rfl]; exact RN.out) | (rw [if_neg (by decide)]; exact RN.out)), by first | omega | (simp; omega), by omega, by omega, by first | omega | (simp; omega)⟩
                      | false =>
                        have RN : Hid (Run x.mc [⟨0, from_, zz x⟩] vis (absW R W) (ReM.mark vis' pc at1)) := hid (by
                          have := ST.out (by rw [HPi.out]; show (0 : Int) ≠ 6; decide)
                          unfold succs at this
                          rw [HPi.out] at this
                          dsimp only at this
                          rw [if_pos rfl, if_neg (by rw [hok]; decide)] at this
                          exact this)
                        go_wp2_with fail
                        rw [← Hta.out]
                        go_roundg h'
                        case measure => omega
                        case rel => exact ⟨aW, cW, W, R, put1 f' kk, ReM.mark vis' pc at1, pc + 1, at1 + 1, false, rfl, by first | rfl | go_num, by first | rfl | go_num, rfl, D7, HI, V5v, (fun h => by cases h), hid (by first | (rw [if_pos rfl]; exact RN.out) | (rw [if_neg (by decide)]; exact RN.out)), by first | omega | (simp; omega), by omega, by omega, by first | omega | (simp; omega)⟩
                    · have hcl : decide ((at1 : Int) < (x.t.length : Int)) = false := decide_eq_false (by omega)
                      have hok : x.mc.ok pc at1 = false := by
                        show (decide (at1 < x.t.length) && _) = false
                        rw [decide_eq_false hlt]; rfl
                      have RN : Hid (Run x.mc [⟨0, from_, zz x⟩] vis (absW R W) (ReM.mark vis' pc at1)) := hid (by
                        have := ST.out (by rw [HPi.out]; show (0 : Int) ≠ 6; decide)
                        unfold succs at this
                        rw [HPi.out] at this
                        dsimp only at this
                        rw [if_pos rfl, if_neg (by rw [hok]; decide)] at this
                        exact this)
                      go_wp2_with fail
                      go_quiet (fail)
                      have D7 : Hid (∀ n, Dst w0 x sv w.heap.size R aW cW W (put1 f' kk) (V6.drewN n)) := hid fun n => by have hx7 : Below V6.heap.size V6 (V6.drewN n) := bdrewN (Below.refl _ _) _; exact ⟨D6.out.bel.trans (hx7.mono D6.out.bel.size), D6.out.sn.bel hx7, D6.out.caps.bel hx7, ROwn.grow D6.out.left hx7⟩
                      go_wp2_with fail
                      go_roundg h'
                      case measure => omega
                      case rel => exact ⟨aW, cW, W, R, put1 f' kk, ReM.mark vis' pc at1, pc + 1, at1 + 1, false, rfl, by first | rfl | go_num, by first | rfl | go_num, rfl, hid (D7.out _), HI, V5v, (fun h => by cases h), hid (by first | (rw [if_pos rfl]; exact RN.out) | (rw [if_neg (by decide)]; exact RN.out)), by first | omega | (simp; omega), by omega, by omega, by first | omega | (simp; omega)⟩
                  · skip
                    have hnx : pc + 1 < x.L.length := Pnx (by show (1 : Int) ≠ 6; decide)
                    by_cases ha0 : at1 = 0
                    · have q1 : ((at1 : Int) == 0) = true := by rw [beq_iff_eq]; omega
                      have RN : Hid (Run x.mc [⟨0, from_, zz x⟩] vis (⟨pc + 1, at1, R⟩ :: absW R W) (ReM.mark vis' pc at1)) := hid (by
                        have := ST.out (by rw [HPi.out]; show (1 : Int) ≠ 6; decide)
                        unfold succs at this
                        rw [HPi.out] at this
                        dsimp only at this
                        rw [if_neg (show ¬ (1 : Int) = 0 by decide), if_pos rfl, if_pos ha0] at this
                        exact this)
                      have Ha1 := hid ha1
                      have Hab : at1 ≤ 1001 := by omega
                      clear ha0
                      go_wp2_with fail
                      go_roundg h'
                      case measure => omega
                      case rel => exact ⟨aW, cW, W, R, put1 f' kk, ReM.mark vis' pc at1, pc + 1, at1, true, rfl, by first | rfl | go_num, by first | rfl | go_num, rfl, D6, HI, V5v, fun _ => ⟨hnx, Ha1.out⟩, hid (by first | (rw [if_pos rfl]; exact RN.out) | (rw [if_neg (by decide)]; exact RN.out)), by first | omega | (simp; omega), by omega, by omega, by first | omega | (simp; omega)⟩
                    · have q1 : ((at1 : Int) == 0) = false := by rw [beq_eq_false_iff_ne]; omega
                      have RN : Hid (Run x.mc [⟨0, from_, zz x⟩] vis (absW R W) (ReM.mark vis' pc at1)) := hid (by
                        have := ST.out (by rw [HPi.out]; show (1 : Int) ≠ 6; decide)
                        unfold succs at this
                        rw [HPi.out] at this
                        dsimp only at this
                        rw [if_neg (show ¬ (1 : Int) = 0 by decide), if_pos rfl, if_neg ha0] at this
                        exact this)
                      go_wp2_with fail
                      go_roundg h'
                      case measure => omega
                      case rel => exact ⟨aW, cW, W, R, put1 f' kk, ReM.mark vis' pc at1, pc + 1, at1, false, rfl, by first | rfl | go_num, by first | rfl | go_num, rfl, D6, HI, V5v, (fun h => by cases h), hid (by first | (rw [if_pos rfl]; exact RN.out) | (rw [if_neg (by decide)]; exact RN.out)), by first | omega | (simp; omega), by omega, by omega, by first | omega | (simp; omega)⟩
                  · skip
                    have hnx : pc + 1 < x.L.length := Pnx (by show (2 : Int) ≠ 6; decide)
                    by_cases ha0 : at1 = x.t.length
                    · have q1 : ((at1 : Int) == (x.t.length : Int)) = true := by rw [beq_iff_eq]; omega
                      have RN : Hid (Run x.mc [⟨0, from_, zz x⟩] vis (⟨pc + 1, at1, R⟩ :: absW R W) (ReM.mark vis' pc at1)) := hid (by
                        have := ST.out (by rw [HPi.out]; show (2 : Int) ≠ 6; decide)
                        unfold succs at this
                        rw [HPi.out] at this
                        dsimp only at this
                        rw [if_neg (show ¬ (2 : Int) = 0 by decide), if_neg (show ¬ (2 : Int) = 1 by decide), if_pos rfl, if_pos (show at1 = x.mc.n from ha0)] at this
                        exact this)
                      have Ha1 := hid ha1
                      have Hab : at1 ≤ 1001 := by omega
                      clear ha0
                      go_wp2_with fail
                      go_roundg h'
                      case measure => omega
                      case rel => exact ⟨aW, cW, W, R, put1 f' kk, ReM.mark vis' pc at1, pc + 1, at1, true, rfl, by first | rfl | go_num, by first | rfl | go_num, rfl, D6, HI, V5v, fun _ => ⟨hnx, Ha1.out⟩, hid (by first | (rw [if_pos rfl]; exact RN.out) | (rw [if_neg (by decide)]; exact RN.out)), by first | omega | (simp; omega), by omega, by omega, by first | omega | (simp; omega)⟩
                    · have q1 : ((at1 : Int) == (x.t.length : Int)) = false := by rw [beq_eq_false_iff_ne]; omega
                      have RN : Hid (Run x.mc [⟨0, from_, zz x⟩] vis (absW R W) (ReM.mark vis' pc at1)) := hid (by
                        have := ST.out (by rw [HPi.out]; show (2 : Int) ≠ 6; decide)
                        unfold succs at this
                        rw [HPi.out] at this
                        dsimp only at this
                        rw [if_neg (show ¬ (2 : Int) = 0 by decide), if_neg (show ¬ (2 : Int) = 1 by decide), if_pos rfl, if_neg (show ¬ at1 = x.mc.n from ha0)] at this
                        exact this)
                      go_wp2_with fail
                      go_roundg h'
                      case measure => omega
                      case rel => exact ⟨aW, cW, W, R, put1 f' kk, ReM.mark vis' pc at1, pc + 1, at1, false, rfl, by first | rfl | go_num, by first | rfl | go_num, rfl, D6, HI, V5v, (fun h => by cases h), hid (by first | (rw [if_pos rfl]; exact RN.out) | (rw [if_neg (by decide)]; exact RN.out)), by first | omega | (simp; omega), by omega, by omega, by first | omega | (simp; omega)⟩
                  · skip
                    have hnx : pc + 1 < x.L.length := Pnx (by show (3 : Int) ≠ 6; decide)
                    obtain ⟨g1, g2⟩ := Psv rfl
                    simp only [Im.ins] at g1 g2
                    obtain ⟨s, rfl⟩ : ∃ s : Nat, qx = s := ⟨qx.toNat, by omega⟩
                    have hsR : s < R.length := by omega
                    have RN : Hid (Run x.mc [⟨0, from_, zz x⟩] vis (⟨pc + 1, at1, R.set s (at1 : Int)⟩ :: absW R W) (ReM.mark vis' pc at1)) := hid (by
                      have := ST.out (by rw [HPi.out]; show (3 : Int) ≠ 6; decide)
                      unfold succs at this
                      rw [HPi.out] at this
                      dsimp only at this
                      rw [if_neg (show ¬ (3 : Int) = 0 by decide), if_neg (show ¬ (3 : Int) = 1 by decide), if_neg (show ¬ (3 : Int) = 2 by decide), if_pos rfl] at this
                      exact this)
                    have cs := D6.out.caps.cell s hsR
                    have fs := D6.out.caps.fz s
                    obtain ⟨z, hz⟩ : ∃ z, z = gt R s := ⟨_, rfl⟩
                    rw [← hz] at cs
                    have hzr : -1 ≤ z ∧ z ≤ 1000 := by rw [hz]; exact HI.out.Rz _ (gt_mem hsR)
                    have hsk : (s : Int) < (k : Int) := by have := Hm.out; omega
                    have hsk2 : s < k := by omega
                    have hbv := hBV.out
                    have LW := hid (fun w' (hb' : Below V6.heap.size V6 w') => ROwn.grow D6.out.left hb')
                    have hnb1 : ¬ Blk aW V5.heap.size := fun hb' => by have := D5u.out _ hb'; omega
                    have hnb2 : ¬ Blk aW w.heap.size := fun hb' => by have := (ROwn.lt D6.out.left hb').1; omega
                    have hWc : W.length + 1 ≤ 700001 := by have := hctb.out; omega
                    have RN2 : Hid (absW (R.set s (at1 : Int)) (W ++ [⟨true, s, z⟩]) = absW R W) := hid (by rw [hz]; exact absW_save hsR W _)
                    clear hz
                    have KN : Hid (∀ w', Kpt (Blk aW) V6 w' → w'.cell? ⟨V5.heap.size, 1, none⟩ = some (.int .i64 (s : Int)) ∧ w'.cell? ⟨w.heap.size, s, none⟩ = some (.int .i64 z) ∧ w'.frozen? ⟨w.heap.size, s, none⟩ = false) :=
                      hid fun w' k' => ⟨k'.cell m1 hnb1, k'.cell cs hnb2, by rw [k'.frozen (by show w.heap.size < _; omega) hnb2]; exact fs⟩
                    have HB6 : Hid (Below V6.heap.size V6 (V6.alloc (.cells #[.bool true, .int .i64 s, .int .i64 z] 143)).drew) := hid (by (repeat' (first | exact Below.refl _ _ | assumption | refine bdrewN ?_ _ | refine Below.drew ?_ | refine bal ?_ _ | refine bthen ?_ (by assumption))))
                    go_upto_region 29 with fail
                    go_region_law
                      (first | ((go_loud (refine step_rapp Tryz.tyWy rfl (.tmp 124) (.tmp 133) rfl (w.heap.size + 1) aW (some ⟨V6.heap.size, 0, none⟩) W.length 1 cW 1 W [⟨true, s, z⟩] (by simp [Act.eval]) (by first | rfl | simp | omega) (LW.out _ (by (repeat' (first | exact Below.refl _ _ | assumption | refine bdrewN ?_ _ | refine Below.drew ?_ | refine bal ?_ _ | refine bthen ?_ (by assumption))))) (by simp [Act.eval]) (by first | rfl | simp | omega) (RSl.lit (E := encWy) V6 ⟨true, s, z⟩ 143 V6.heap.size rfl #[.bool true, .int .i64 s, .int .i64 z] rfl (by decide)).drew (by show _ ≤ 4398046511104; simp; omega) (by simp; omega) ?_); intro a7 c7 w7 L7 Hl7 ho7 hb7 hk7 hA7; have HA7 := hid hA7; clear hA7; have Ho7 := hid ho7; clear ho7; have Hk7 := hid hk7; clear hk7; have hz7 := hb7.size); have kx : Kpt (Blk aW) V6 w7 := Kpt.tr (by (repeat' (first | exact Kpt.refl _ _ | assumption | refine Kpt.drew ?_ | refine Kpt.alloc ?_ _))) Hk7.out; have bx : Below (w.heap.size + 1) V6 w7 := (HB6.out.mono (by omega)).trans hb7; have kk7 := KN.out _ kx; obtain ⟨n1, n2, n3⟩ := kk7) | fail)
                    all_goals
                      have D7 : Hid (Dst w0 x sv w.heap.size R a7 c7 L7 (put1 f' kk) w7) := hid ⟨D6.out.bel.trans (bx.mono (by omega)), D6.out.sn.same bx.size (bx.block _ (by omega)), D6.out.caps.same bx.size (bx.block _ (by omega)), Ho7.out⟩
                      have HL := hid Hl7.out
                      have HLl : L7.length = W.length + 1 := by rw [HL.out]; simp
                      have Ha1 := hid ha1
                      have Hab : at1 ≤ 1001 := by omega
                      clear Ho7 Hl7 HA7 Hk7 kx bx hb7 m0 m1 m2 m3 m4 cs fs
                      go_wp2_with fail
                      go_roundg h'
                      case measure => omega
                      case rel => exact ⟨a7, c7, L7, R.set s (at1 : Int), put1 f' kk, ReM.mark vis' pc at1, pc + 1, at1, true, by rw [HLl], by first | rfl | go_num, by first | rfl | go_num, rfl, hid ⟨D7.out.bel.setCell (by show w0.heap.size ≤ w.heap.size; omega) _, D7.out.sn.other _ _ (by show sv ≠ w.heap.size; omega), D7.out.caps.put hsR _, ROwn.same D7.out.left fun ad ha _ => Below.heap_setCell _ _ _ _ (by have := (ROwn.lt D7.out.left ⟨ad, ha, rfl⟩).1; show ad.block ≠ w.heap.size; omega)⟩, hid (by rw [HL.out]; exact (HI.out.set s (by omega)).note (by omega) hzr), V5v, fun _ => ⟨hnx, Ha1.out⟩, hid (by rw [if_pos rfl, HL.out, RN2.out]; exact RN.out), by omega, by omega, by omega, by first | omega | (simp; omega)⟩
                  · skip
                    obtain ⟨g1, g2, g3, g4⟩ := Psp rfl
                    simp only [Im.ins] at g1 g2 g3 g4
                    obtain ⟨s1, rfl⟩ : ∃ s1 : Nat, qx = s1 := ⟨qx.toNat, by omega⟩
                    obtain ⟨s2, rfl⟩ : ∃ s2 : Nat, qy = s2 := ⟨qy.toNat, by omega⟩
                    have RN : Hid (Run x.mc [⟨0, from_, zz x⟩] vis (⟨s1, at1, R⟩ :: ⟨s2, at1, R⟩ :: absW R W) (ReM.mark vis' pc at1)) := hid (by
                      have := ST.out (by rw [HPi.out]; show (4 : Int) ≠ 6; decide)
                      unfold succs at this
                      rw [HPi.out] at this
                      dsimp only at this
                      rw [if_neg (show ¬ (4 : Int) = 0 by decide), if_neg (show ¬ (4 : Int) = 1 by decide), if_neg (show ¬ (4 : Int) = 2 by decide), if_neg (show ¬ (4 : Int) = 3 by decide), if_pos rfl] at this
                      exact this)
                    have hnb1 : ¬ Blk aW V5.heap.size := fun hb' => by have := D5u.out _ hb'; omega
                    have hWc : W.length + 1 ≤ 700001 := by have := hctb.out; omega
                    have LW := hid (fun w' (hb' : Below V6.heap.size V6 w') => ROwn.grow D6.out.left hb')
                    have HB6 : Hid (Below V6.heap.size V6 (V6.alloc (.cells #[.bool false, .int .i64 s2, .int .i64 at1] 143))) := hid (by (repeat' (first | exact Below.refl _ _ | assumption | refine bdrewN ?_ _ | refine Below.drew ?_ | refine bal ?_ _ | refine bthen ?_ (by assumption))))
                    have KN : Hid (∀ w', Kpt (Blk aW) V6 w' → w'.cell? ⟨V5.heap.size, 1, none⟩ = some (.int .i64 (s1 : Int))) := hid fun w' k' => k'.cell m1 hnb1
                    have hbv := hBV.out
                    go_upto_region 33 with ((at_builtin; go_loud (refine wpL_rapp Tryz.tyWy rfl (.tmp 142) (.tmp 147) rfl (w.heap.size + 1) aW (some ⟨V6.heap.size, 0, none⟩) W.length 1 cW 1 W [⟨false, s2, (at1 : Int)⟩] rfl (by first | rfl | simp | omega) (LW.out _ (by (repeat' (first | exact Below.refl _ _ | assumption | refine bdrewN ?_ _ | refine Below.drew ?_ | refine bal ?_ _ | refine bthen ?_ (by assumption))))) rfl (by first | rfl | simp | omega) (RSl.lit (E := encWy) V6 ⟨false, s2, (at1 : Int)⟩ 143 V6.heap.size rfl #[.bool false, .int .i64 s2, .int .i64 at1] rfl (by decide)) (by show _ ≤ 4398046511104; simp; omega) (by simp; omega) ?_); intro a7 c7 w7 L7 Hl7 ho7 hb7 hk7 hA7; have HA7 := hid hA7; clear hA7; have Ho7 := hid ho7; clear ho7; have Hk7 := hid hk7; clear hk7; have hz7 := hb7.size))
                    have kx : Kpt (Blk aW) V6 w7 := Kpt.tr (by (repeat' (first | exact Kpt.refl _ _ | assumption | refine Kpt.drew ?_ | refine Kpt.alloc ?_ _))) Hk7.out
                    have bx : Below (w.heap.size + 1) V6 w7 := (HB6.out.mono (by omega)).trans hb7
                    have n1 := KN.out _ kx
                    have D7 : Hid (Dst w0 x sv w.heap.size R a7 c7 L7 (put1 f' kk) w7) := hid ⟨D6.out.bel.trans (bx.mono (by omega)), D6.out.sn.same bx.size (bx.block _ (by omega)), D6.out.caps.same bx.size (bx.block _ (by omega)), Ho7.out⟩
                    have HL := hid Hl7.out
                    have HLl : L7.length = W.length + 1 := by rw [HL.out]; simp
                    have Ha1 := hid ha1
                    have Hab : at1 ≤ 1001 := by omega
                    clear Ho7 Hl7 HA7 Hk7 kx bx hb7 m0 m1 m2 m3 m4
                    go_wp2_with fail
                    go_roundg h'
                    case measure => omega
                    case rel => exact ⟨a7, c7, L7, R, put1 f' kk, ReM.mark vis' pc at1, s1, at1, true, by rw [HLl], by first | rfl | go_num, by first | rfl | go_num, rfl, D7, hid (by rw [HL.out]; exact HI.out.go (by omega) (by omega)), V5v, fun _ => ⟨by omega, Ha1.out⟩, hid (by rw [if_pos rfl, HL.out, absW_go, Int.toNat_natCast]; exact RN.out), by omega, by omega, by omega, by first | omega | (simp; omega)⟩
                  · skip
                    have g1 := Pjp rfl
                    simp only [Im.ins] at g1
                    obtain ⟨s1, rfl⟩ : ∃ s1 : Nat, qx = s1 := ⟨qx.toNat, by omega⟩
                    have RN : Hid (Run x.mc [⟨0, from_, zz x⟩] vis (⟨s1, at1, R⟩ :: absW R W) (ReM.mark vis' pc at1)) := hid (by
                      have := ST.out (by rw [HPi.out]; show (5 : Int) ≠ 6; decide)
                      unfold succs at this
                      rw [HPi.out] at this
                      dsimp only at this
                      rw [if_neg (show ¬ (5 : Int) = 0 by decide), if_neg (show ¬ (5 : Int) = 1 by decide), if_neg (show ¬ (5 : Int) = 2 by decide), if_neg (show ¬ (5 : Int) = 3 by decide), if_neg (show ¬ (5 : Int) = 4 by decide), if_pos rfl] at this
                      exact this)
                    have Ha1 := hid ha1
                    have Hab : at1 ≤ 1001 := by omega
                    go_wp2_with fail
                    go_roundg h'
                    case measure => omega
                    case rel => exact ⟨aW, cW, W, R, put1 f' kk, ReM.mark vis' pc at1, s1, at1, true, rfl, by first | rfl | go_num, by first | rfl | go_num, rfl, D6, HI, V5v, fun _ => ⟨by omega, Ha1.out⟩, hid (by first | (rw [if_pos rfl]; exact RN.out) | (rw [if_neg (by decide)]; exact RN.out)), by first | omega | (simp; omega), by omega, by omega, by first | omega | (simp; omega)⟩
                  · skip
                    go_wp2_with fail
                    go_ret2
                    exact ⟨put1 f' kk, D6.out.bel, D6.out.sn, .inl ⟨R, w.heap.size, k, by rw [hRl, ← Hm.out]; rfl, ⟨⟨pc, at1, R⟩, absW R W, vis', R6.out, Hfv.out.symm, by show (igt x.mc.P pc).op = 6; rw [HPi.out], rfl⟩, D6.out.caps, Nat.le_refl _, hRl, by have := Hm.out; omega, HI.out.Rz⟩⟩
end Go.Proofs.YtefgjicegbhcaaaGreat
