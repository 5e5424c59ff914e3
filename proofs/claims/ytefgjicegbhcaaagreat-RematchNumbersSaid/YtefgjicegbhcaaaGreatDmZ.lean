/- The document's search: Find, All. The document's New; one pattern in one text, both. Layer 10: one pattern in one text, the code and the document (same). RematchNumbers: the walk. P10.2, P10.3: RematchNumbers, which has no argument, returns true: for each pattern of its list, each of its texts and each place, with and without folding, the code's matcher and the document's own find the same; so for the pattern of the sign 0 in a text at its bound and in one a sign longer. No condition. -/
import Derived.Test.YtefgjicegbhcaaaGreatDmc
import Derived.Test.YtefgjicegbhcaaaGreatMtY
import Derived.Test.YtefgjicegbhcaaaGreatDcZ
import Derived.Test.YtefgjicegbhcaaaGreatDrU
namespace Go.Proofs.YtefgjicegbhcaaaGreat
open Go.RowKit ReM

theorem made_bool (w : World) (n : Nat) (T : TypeId) : Sn (w.alloc (.cells (madeCells #[.bool false] n) T)) w.heap.size n (fun _ => false) := by
  refine ⟨fun j hj => ?_, fun j => by simp, by simp⟩
  rw [cell_alloc_new, show madeCells #[.bool false] n = ((List.replicate n (Value.bool false))).toArray by
    apply Array.ext
    · simp [madeCells]
    · intro i h1 h2
      simp [madeCells, Nat.mod_one]]
  simp [hj]
def RFindP (w : World) (x : Fx) (from_ : Nat) (e' : Ending) (w' : World) : Prop :=
  Below w.heap.size w w' ∧ ((FindR x.mc (zz x) from_ none ∧ e' = .returned (.tuple #[.slice none 0 0, .bool false])) ∨
    ∃ r g c, FindR x.mc (zz x) from_ (some r) ∧ e' = .returned (.tuple #[.slice (some ⟨g, 0, none⟩) r.length c, .bool true]) ∧ Cp w' g r ∧ w.heap.size ≤ g ∧ r.length = 2 * x.G + 2 ∧ r.length ≤ c ∧ ∀ z, z ∈ r → -1 ≤ z ∧ z ≤ 1000)
set_option maxRecDepth 20000 in
set_option maxHeartbeats 16000000 in
theorem rfind_c (w : World) (x : Fx) (hF : FxOk w x) (hP : PgOk (inss x.L) x.G) (from_ : Nat) (hf : from_ ≤ x.t.length) :
    Calls Tryz.prog 25 #[.pointer (some ⟨x.M, 0, none⟩), .slice x.ta x.t.length x.tc, .int .i64 from_] w (RFindP w x from_) := by
  have hn1 := hF.tl
  have hL3 := hF.Ll
  have k0 := hF.mt.c0
  have hN : nN x = x.L.length * (x.t.length + 1) := rfl
  have hN2 : nN x ≤ 300 * 1001 := Nat.mul_le_mul hL3 (by omega)
  obtain ⟨N, hNN⟩ : ∃ N, N = nN x := ⟨_, rfl⟩
  have HNN := hid hNN
  rw [← hNN] at hN hN2
  have hmk := fun w' => run_make_row' (P := Tryz.prog) 100 4 (.bool false) 1 Tryz.underlying100 (by kernel_rfl) rfl .i64 .i64 N (by omega) (by omega) w'
  have hw1 : IntKind.i64.wrap ((x.t.length : Int) + 1) = (x.t.length : Int) + 1 := by rw [IntKind.wrap_i64]; omega
  have hw2 : IntKind.i64.wrap ((x.L.length : Int) * ((x.t.length : Int) + 1)) = (N : Int) := by
    rw [show (x.L.length : Int) * ((x.t.length : Int) + 1) = (N : Int) by rw [hN]; push_cast; rfl, IntKind.wrap_i64]; omega
  have b1 : decide ((1000 : Int) < (x.t.length : Int)) = false := decide_eq_false (by omega)
  have b2 : decide ((from_ : Int) < 0) = false := decide_eq_false (by omega)
  have b3 : decide ((x.t.length : Int) < (from_ : Int)) = false := decide_eq_false (by omega)
  have b4 : decide (x.t.length < from_) = false := decide_eq_false (by omega)
  have b5 : decide (1000 < x.t.length) = false := decide_eq_false (by omega)
  obtain ⟨V, hV⟩ : ∃ V, V = w.alloc (.cells (madeCells #[.bool false] N) 4) := ⟨_, rfl⟩
  have BV : Hid (Below w.heap.size w V) := hid (by subst hV; (repeat' (first | exact Below.refl _ _ | assumption | refine bdrewN ?_ _ | refine Below.drew ?_ | refine bal ?_ _ | refine bthen ?_ (by assumption))))
  have SV : Hid (Sn V w.heap.size (nN x) (fun _ => false)) := hid (by subst hV; rw [← hNN]; exact made_bool w N _)
  have HF := hid hF
  have HP := hid hP
  clear hF hP hNN hN
  go_enter Tryz.func25, Tryz.ntmps25
  go_upto_region 4 with fail
  rw [← hV]; clear hV hmk k0 hw1 hw2 b1 b2 b3 b4 b5
  go_loopw [2] (fun fv wr => ∃ (a : Nat) (f : Nat → Bool) (vis : Vis), fv = .int .i64 a ∧ a ≤ x.t.length + 1 ∧ Hid (Below w.heap.size w wr) ∧ Hid (Sn wr w.heap.size (nN x) f) ∧ Hid (SeenV x f vis) ∧ Hid (∀ o, Finds x.mc (zz x) a vis o → FindR x.mc (zz x) from_ o)) (fun fv _ => x.t.length + 1 - (intOf fv).toNat)
  case atStart => exact ⟨from_, _, none_, rfl, by omega, BV, SV, hid fun i a _ _ => rfl, hid fun o h => h⟩
  case round =>
    clear BV SV
    obtain ⟨a, f, vis, rfl, ha, HB, HS, HV, HO⟩ := hrel
    by_cases hle : a ≤ x.t.length
    · have c1 : decide ((a : Int) ≤ (x.t.length : Int)) = true := decide_eq_true (by omega)
      have c2 : decide (a ≤ x.t.length) = true := decide_eq_true hle
      have TC := rtry_c w wr x w.heap.size N a f vis HF.out HP.out HB.out (Nat.le_refl _) HS.out HV.out hle
      rw [← HNN.out] at TC
      have HTC := hid TC
      clear TC
      go_wp2_with fail
      refine HTC.out.mono ?_
      rintro _ w2 ⟨f2, b2, s2, hor⟩
      have B2 := hid b2
      have S2 := hid s2
      clear b2 s2 HTC c1 c2
      rcases hor with ⟨R, g, c, rfl, hit, cp, hg, hRl, hRc, hRz⟩ | ⟨vis', rfl, hfail, hv2⟩
      · have hgw : w.heap.size ≤ g := Nat.le_trans HB.out.size hg
        go_wp2_with fail
        go_ret2
        exact ⟨by first | exact B2.out | exact B2.out.trans (by (repeat' (first | exact Below.refl _ _ | assumption | refine bdrewN ?_ _ | refine Below.drew ?_ | refine Below.setCell ?_ (Nat.le_refl _) _ | refine bal ?_ _ | refine bthen ?_ (by assumption)))), .inr ⟨R, g, c, HO.out _ (.hit hle hit), by rw [hRl]; rfl, by first | exact cp | exact cp.bel (by (repeat' (first | exact Below.refl _ _ | assumption | refine bdrewN ?_ _ | refine Below.drew ?_ | refine Below.setCell ?_ (Nat.le_refl _) _ | refine bal ?_ _ | refine bthen ?_ (by assumption)))), hgw, hRl, hRc, hRz⟩⟩
      · have F2 := hid hfail
        have V2 := hid hv2
        clear hfail hv2
        go_wp2_with fail
        go_roundw
        case rel => exact ⟨a + 1, f2, vis', by go_num, by omega, B2, by first | exact S2 | exact hid (S2.out.bel (by (repeat' (first | exact Below.refl _ _ | assumption | refine bdrewN ?_ _ | refine Below.drew ?_ | refine Below.setCell ?_ (Nat.le_refl _) _ | refine bal ?_ _ | refine bthen ?_ (by assumption))))), V2, hid fun o h => HO.out o (.miss hle F2.out h)⟩
        case measure => simp [intOf]; omega
    · have c1 : decide ((a : Int) ≤ (x.t.length : Int)) = false := decide_eq_false (by omega)
      have c2 : decide (a ≤ x.t.length) = false := decide_eq_false hle
      go_wp2_with fail
      go_ret2
      exact ⟨by first | exact HB.out | exact HB.out.trans (by (repeat' (first | exact Below.refl _ _ | assumption | refine bdrewN ?_ _ | refine Below.drew ?_ | refine Below.setCell ?_ (Nat.le_refl _) _ | refine bal ?_ _ | refine bthen ?_ (by assumption)))), .inl ⟨HO.out _ (.out (by show x.t.length < _; omega)), rfl⟩⟩
set_option maxHeartbeats 4000000 in
/-- a place that is none of the text's, a text that is too long -/
theorem rfind_far (w : World) (M : Nat) (ta : Option Addr) (tc n : Nat) (from_ : Int) (hf : from_ < 0 ∨ (n : Int) < from_ ∨ 1000 < n) (h1 : n ≤ 4000) :
    Calls Tryz.prog 25 #[.pointer (some ⟨M, 0, none⟩), .slice ta n tc, .int .i64 from_] w fun e' w' => e' = .returned (.tuple #[.slice none 0 0, .bool false]) ∧ w = w' := by
  by_cases h2 : 1000 < n
  · have b1 : decide ((1000 : Int) < (n : Int)) = true := decide_eq_true (by omega)
    have b0 : decide (1000 < n) = true := decide_eq_true (by omega)
    clear hf h2
    go_enter Tryz.func25, Tryz.ntmps25
    go_wp2_with fail
    go_ret2
    exact ⟨rfl, rfl⟩
  · have b1 : decide ((1000 : Int) < (n : Int)) = false := decide_eq_false (by omega)
    have b0 : decide (1000 < n) = false := decide_eq_false (by omega)
    by_cases h0 : from_ < 0
    · have b2 : decide (from_ < 0) = true := decide_eq_true h0
      clear hf h0
      go_enter Tryz.func25, Tryz.ntmps25
      go_wp2_with fail
      go_ret2
      exact ⟨rfl, rfl⟩
    · have b2 : decide (from_ < 0) = false := decide_eq_false h0
      have b3 : decide ((n : Int) < from_) = true := decide_eq_true (by omega)
      clear hf h0
      go_enter Tryz.func25, Tryz.ntmps25
      go_wp2_with fail
      go_ret2
      exact ⟨rfl, rfl⟩
/-- what All told, to be read -/
def Lrd (w : World) (a : Option Addr) (Q : List Lt) : Prop := ∀ q, q ∈ Q → ∃ g, q.a = some ⟨g, 0, none⟩ ∧ Cp w g q.l ∧ ¬ Blk a g ∧ (∀ z, z ∈ q.l → -1 ≤ z ∧ z ≤ 1000) ∧ q.l.length ≤ 1000
theorem Lrd.bel {w w' : World} {a : Option Addr} {Q : List Lt} (h : Lrd w a Q) (b : Below w.heap.size w w') : Lrd w' a Q := fun q hq => by
  obtain ⟨g, h1, h2, h3⟩ := h q hq
  exact ⟨g, h1, h2.bel b, h3⟩
theorem Lrd.app {w w' : World} {a a' : Option Addr} {Q : List Lt} (h : Lrd w a Q) (k : Kpt (Blk a) w w') (ht : ∀ j, Blk a' j → Blk a j ∨ w.heap.size ≤ j) : Lrd w' a' Q := fun q hq => by
  obtain ⟨g, h1, h2, h3, h4⟩ := h q hq
  refine ⟨g, h1, h2.same k.size (k.block _ h2.lt h3), fun hb => ?_, h4⟩
  rcases ht g hb with h5 | h5
  · exact h3 h5
  · have := h2.lt; omega
def RAllP (w : World) (x : Fx) (e' : Ending) (w' : World) : Prop :=
  ∃ a c Q, e' = .returned (.slice a Q.length c) ∧ QO w' w.heap.size a c Q ∧ Lrd w' a Q ∧ Hid (AllR x.mc (zz x) 0 (Q.map Lt.l)) ∧ Below w.heap.size w w' ∧ Q.length ≤ 1001
set_option maxRecDepth 20000 in
set_option maxHeartbeats 16000000 in
theorem rall_c (w : World) (x : Fx) (f : FxOk w x) (hM : Made (inss x.L) x.G) :
    Calls Tryz.prog 27 #[.pointer (some ⟨x.M, 0, none⟩), .slice x.ta x.t.length x.tc] w (RAllP w x) := by
  obtain ⟨n, hn⟩ : ∃ n, n = x.t.length := ⟨_, rfl⟩
  have Hn := hid hn
  have HF := hid f
  have HM := hid hM
  have hn1 : n ≤ 1000 := by rw [hn]; exact f.tl
  have HG9 := hid f.G9
  rw [← hn]
  clear hn f hM
  go_enter Tryz.func27, Tryz.ntmps27
  go_wp2_with fail
  go_loopg [5, 6, 7, 8] (n + 1) (fun g qv fv _ _ wr => ∃ (f : Nat) (az : Option Addr) (cz : Nat) (Q : List Lt), g = n + 1 - f ∧ qv = .slice az Q.length cz ∧ fv = .int .i64 f ∧ f ≤ n + 1 ∧ Q.length ≤ f ∧
    Hid (QO wr w.heap.size az cz Q) ∧ Hid (Lrd wr az Q) ∧ Hid (∀ l, AllR x.mc (zz x) f l → AllR x.mc (zz x) 0 (Q.map Lt.l ++ l)) ∧ Hid (Below w.heap.size w wr))
  case atStart => exact ⟨0, none, 0, [], rfl, rfl, rfl, by omega, Nat.le_refl _, hid (ROwn.nil _ _), hid (fun q h => by cases h), hid fun l h => h, hid (Below.refl _ _)⟩
  case round =>
    obtain ⟨f, az, cz, Q, rfl, rfl, rfl, hf, hQ, HO, HL, HA, HB⟩ := hrel
    by_cases hfn : f ≤ n
    · have c1 : decide ((f : Int) ≤ (n : Int)) = true := decide_eq_true (by omega)
      have c2 : decide (f ≤ n) = true := decide_eq_true hfn
      have FC := rfind_c wr x (HF.out.bel HB.out) HM.out.ok f (by rw [← Hn.out]; exact hfn)
      rw [← Hn.out] at FC
      have HFC := hid FC
      clear FC
      go_wp2_with fail
      refine HFC.out.mono ?_
      rintro _ w1 ⟨b1, hor⟩
      have B1 := hid b1
      have O1 := hid (HO.out.grow b1)
      have L1 := hid (HL.out.bel b1)
      clear b1 HFC c1 c2
      rcases hor with ⟨hno, rfl⟩ | ⟨r, g, c, hyes, rfl, hcp, hgw, hrG, hrc, hrz⟩
      · have HN := hid hno
        clear hno
        go_wp2_with fail
        go_ret
        refine ⟨az, cz, Q, rfl, by first | exact O1.out | exact O1.out.grow (by (repeat' (first | exact Below.refl _ _ | assumption | refine bdrewN ?_ _ | refine Below.drew ?_ | refine Below.setCell ?_ (Nat.le_refl _) _ | refine bal ?_ _ | refine bthen ?_ (by assumption)))), by first | exact L1.out | exact L1.out.bel (by (repeat' (first | exact Below.refl _ _ | assumption | refine bdrewN ?_ _ | refine Below.drew ?_ | refine Below.setCell ?_ (Nat.le_refl _) _ | refine bal ?_ _ | refine bthen ?_ (by assumption)))), ?_, by first | exact bthen HB.out B1.out | exact bthen HB.out (bthen B1.out (by (repeat' (first | exact Below.refl _ _ | assumption | refine bdrewN ?_ _ | refine Below.drew ?_ | refine Below.setCell ?_ (Nat.le_refl _) _ | refine bal ?_ _ | refine bthen ?_ (by assumption))))), by omega⟩
        have := HA.out [] (.done HN.out)
        rw [List.append_nil] at this
        exact hid this
      · have HY := hid hyes
        have HCp := hid hcp
        have Hrz := hid hrz
        have hrl : r.length ≤ 1000 := by have := HG9.out; omega
        have Hrl := hid hrl
        obtain ⟨b, u, hb1, hb2, h1, -, -⟩ := FindR.at HM.out hyes
        have hl := h1.len
        have hr0 := h1.fst
        have hr1 := h1.snd
        rw [← Hn.out] at hr1
        clear hyes u h1 hrG hrz hrl
        have k0 := hcp.cell 0 (by omega)
        have k1 := hcp.cell 1 (by omega)
        rw [hr0] at k0
        obtain ⟨q, hq⟩ : ∃ q : Nat, gt r 1 = q := ⟨(gt r 1).toNat, by omega⟩
        rw [hq] at k1 hr1
        have Hq := hid hq
        have Hr0 := hid hr0
        have Hl := hid hl
        have hlg : ∃ lr, lr = r.length := ⟨_, rfl⟩
        obtain ⟨lr, hlr⟩ := hlg
        have Hlr := hid hlr
        rw [← hlr] at hl hrc ⊢
        have i0 : (0 : Int) < (lr : Int) := by omega
        have i1 : (1 : Int) < (lr : Int) := by omega
        have i0' : 0 < lr := by omega
        have i1' : 1 < lr := by omega
        have hbn : b ≤ n := by rw [Hn.out]; exact hb2
        have hbq : b ≤ q ∧ q ≤ n := by omega
        have nb : ¬ Blk az g := fun hb => by have := (ROwn.lt HO.out hb).2; omega
        have KG := hid (fun w' (k : Kpt (Blk az) w1 w') => show w'.cell? ⟨g, 0, none⟩ = some (.int .i64 (b : Int)) ∧ w'.cell? ⟨g, 1, none⟩ = some (.int .i64 (q : Int)) ∧ Cp w' g r from
          ⟨k.cell k0 nb, k.cell k1 nb, hcp.same k.size (k.block _ hcp.lt nb)⟩)
        have HQ5 := hid (show Q.length ≤ 1001 from by omega)
        have HLT := hid (fun w' a' (k : Kpt (Blk az) w1 w') ht => show Lrd w' a' Q from L1.out.app k ht)
        have Hgl := hid hcp.lt
        have Hnb := hid nb
        clear hq hr0 hlr hr1 hl k0 k1 nb hcp
        go_wp2_with ((at_builtin; go_loud (refine wpL_rapp Tryz.tyLt rfl (.tmp 22) (.tmp 24) rfl w.heap.size az (some ⟨w1.heap.size, 0, none⟩) Q.length 1 cz 1 Q [⟨some ⟨g, 0, none⟩, r, c⟩] rfl (by first | rfl | simp | omega) (O1.out.grow (by (repeat' (first | exact Below.refl _ _ | assumption | refine bdrewN ?_ _ | refine Below.drew ?_ | refine Below.setCell ?_ (Nat.le_refl _) _ | refine bal ?_ _ | refine bthen ?_ (by assumption))))) rfl (by first | rfl | simp | omega) (RSl.lit (E := encLt) w1 ⟨some ⟨g, 0, none⟩, r, c⟩ 28 w1.heap.size rfl #[.slice (some ⟨g, 0, none⟩) lr c] (by rw [Hlr.out]; rfl) (by decide)) (by have := HQ5.out; show _ ≤ 2199023255552; simp; omega) (by have := HB.out.size; have := B1.out.size; simp; omega) ?_); intro a2 c2 w2 L2 Hl2 ho2 hb2 hk2 hA2; have HA2 := hid hA2; clear hA2; have Ho2 := hid ho2; clear ho2; have Hk2 := hid hk2; clear hk2; have hz2 := hb2.size); have kg := KG.out w2 (Kpt.tr (by (repeat' (first | exact Kpt.refl _ _ | assumption | refine Kpt.drew ?_ | refine Kpt.alloc ?_ _))) Hk2.out); obtain ⟨g0, g1, gO⟩ := kg; have hK2 : Hid (Kpt (Blk az) w1 w2) := hid (Kpt.tr (by (repeat' (first | exact Kpt.refl _ _ | assumption | refine Kpt.drew ?_ | refine Kpt.alloc ?_ _))) Hk2.out))
        have B2 := hid (Below.trans (bal (bthen HB.out B1.out) _) hb2)
        have HLl := hid (show L2.length = Q.length + 1 from by rw [Hl2.out]; simp)
        have AT : ∀ j, Blk a2 j → Blk az j ∨ w1.heap.size ≤ j := fun j ⟨ad, ha, hj⟩ => by
          rcases HA2.out ad ha with hc | hc
          · exact .inl (hj ▸ hc)
          · exact .inr (by simp at hc; omega)
        have GL : Hid (Lrd w2 a2 L2) := hid fun q' hq' => by
          rw [Hl2.out] at hq'
          rcases List.mem_append.1 hq' with hq' | hq'
          · exact HLT.out w2 a2 hK2.out AT q' hq'
          · rw [List.mem_singleton.1 hq']
            exact ⟨g, rfl, gO, fun hb => by
              rcases AT g hb with h5 | h5
              · exact Hnb.out h5
              · have := Hgl.out; omega, Hrz.out, Hrl.out⟩
        clear gO KG O1 L1 HO HL hb2 hz2 AT HLT hK2
        have fin : ∀ (w3 : World) (f' : Nat), Below w2.heap.size w2 w3 → f' = nextF r → f < f' → f' ≤ n + 1 → (∃ (f : Nat) (az : Option Addr) (cz : Nat) (Q : List Lt), n + 1 - f' = n + 1 - f ∧ (Value.slice a2 L2.length c2) = .slice az Q.length cz ∧ (Value.int .i64 (f' : Int)) = .int .i64 f ∧ f ≤ n + 1 ∧ Q.length ≤ f ∧
            Hid (QO w3 w.heap.size az cz Q) ∧ Hid (Lrd w3 az Q) ∧ Hid (∀ l, AllR x.mc (zz x) f l → AllR x.mc (zz x) 0 (Q.map Lt.l ++ l)) ∧ Hid (Below w.heap.size w w3)) := fun w3 f' hb he hlt hle => by
          refine ⟨f', a2, c2, L2, rfl, rfl, rfl, hle, by have := HLl.out; omega, hid (Ho2.out.grow hb), hid (GL.out.bel hb), hid fun l h => ?_, hid (B2.out.trans (hb.mono B2.out.size))⟩
          rw [Hl2.out, List.map_append, List.append_assoc]
          refine HA.out _ (.more HY.out ?_)
          rw [← he]; exact h
        have Fin := hid fin
        clear fin
        by_cases hbq0 : b = q
        · have c0 : ((b : Int) == (q : Int)) = true := by rw [beq_iff_eq]; omega
          have c1 : (b == q) = true := by simpa using hbq0
          have hnx : Hid (q + 1 = nextF r) := hid (by unfold nextF; rw [Hr0.out, Hq.out, if_pos (by omega)]; omega)
          have hlt : f < q + 1 := by omega
          have wz : IntKind.i64.wrap ((q : Int) + 1) = ((q + 1 : Nat) : Int) := by rw [IntKind.wrap_i64]; omega
          clear hbq0
          go_upto_region 8 with fail
          go_quiet (fail)
          go_wp2_with fail
          go_roundg (n + 1 - (q + 1))
          case measure => omega
          case rel =>
            obtain ⟨f0, az0, cz0, Q0, h1, h2, h3, h4⟩ := Fin.out (w2.drewN nq) (q + 1) (by (repeat' (first | exact Below.refl _ _ | assumption | refine bdrewN ?_ _ | refine Below.drew ?_ | refine Below.setCell ?_ (Nat.le_refl _) _ | refine bal ?_ _ | refine bthen ?_ (by assumption)))) hnx.out hlt (by omega)
            exact ⟨f0, az0, cz0, Q0, h1, h2, (by rw [← h3]; go_num), h4⟩
        · have c0 : ((b : Int) == (q : Int)) = false := by rw [beq_eq_false_iff_ne]; omega
          have c1 : (b == q) = false := by simpa using hbq0
          have hnx : Hid (q = nextF r) := hid (by unfold nextF; rw [Hr0.out, Hq.out, if_neg (by omega)]; omega)
          have hlt : f < q := by omega
          clear hbq0
          go_upto_region 8 with fail
          go_quiet (fail)
          go_wp2_with fail
          go_roundg (n + 1 - q)
          case measure => omega
          case rel => exact Fin.out (w2.drewN nq) q (by (repeat' (first | exact Below.refl _ _ | assumption | refine bdrewN ?_ _ | refine Below.drew ?_ | refine Below.setCell ?_ (Nat.le_refl _) _ | refine bal ?_ _ | refine bthen ?_ (by assumption)))) hnx.out hlt (by omega)
    · obtain rfl : f = n + 1 := by omega
      have c1 : decide (((n + 1 : Nat) : Int) ≤ (n : Int)) = false := decide_eq_false (by omega)
      have c2 : decide (n + 1 ≤ n) = false := decide_eq_false (by omega)
      go_wp2_with fail
      go_ret
      refine ⟨az, cz, Q, rfl, by first | exact HO.out | exact HO.out.grow (by (repeat' (first | exact Below.refl _ _ | assumption | refine bdrewN ?_ _ | refine Below.drew ?_ | refine Below.setCell ?_ (Nat.le_refl _) _ | refine bal ?_ _ | refine bthen ?_ (by assumption)))), by first | exact HL.out | exact HL.out.bel (by (repeat' (first | exact Below.refl _ _ | assumption | refine bdrewN ?_ _ | refine Below.drew ?_ | refine Below.setCell ?_ (Nat.le_refl _) _ | refine bal ?_ _ | refine bthen ?_ (by assumption)))), ?_, by first | exact HB.out | exact bthen HB.out (by (repeat' (first | exact Below.refl _ _ | assumption | refine bdrewN ?_ _ | refine Below.drew ?_ | refine Below.setCell ?_ (Nat.le_refl _) _ | refine bal ?_ _ | refine bthen ?_ (by assumption)))), by omega⟩
      have := HA.out [] (.done (.out (by show x.t.length < _; rw [← Hn.out]; omega)))
      rw [List.append_nil] at this
      exact hid this
end Go.Proofs.YtefgjicegbhcaaaGreat
namespace Go.Proofs.YtefgjicegbhcaaaGreat
open Go.RowKit ReM

theorem AgI.base_le {b b' : Nat} {w : World} {M : List Im} (h : AgI b w M) (hb : b' ≤ b) : AgI b' w M := fun v hv => h v fun q h1 h2 => hv q (Nat.le_trans hb h1) h2
/-- a matcher of the document's: what it stands for -/
structure NewD (w0 w : World) (p : List Int) (fold : Bool) (M : Nat) (pa : Option Addr) (pc : Nat) (L : List Im) (G : Nat) : Prop where
  c0 : w.cell? ⟨M, 0, none⟩ = some (.slice pa L.length pc)
  c1 : w.cell? ⟨M, 1, none⟩ = some (.int .i64 (G : Int))
  c2 : w.cell? ⟨M, 2, none⟩ = some (.bool fold)
  own : RIn w w0.heap.size pa pc L
  sets : AgI w0.heap.size w L
  prog : (inss L, (0 : Int), (0 : Int)) = compW p
  grp : G = (gsL (parseW p).1).length
  new : w0.heap.size ≤ M
theorem NewD.step {w0 w w' : World} {p : List Int} {fold : Bool} {M : Nat} {pa : Option Addr} {pc : Nat} {L : List Im} {G : Nat} (h : NewD w0 w p fold M pa pc L G) (hs : w.heap.size ≤ w'.heap.size) (he : ∀ q, w0.heap.size ≤ q → q < w.heap.size → w'.heap[q]? = w.heap[q]?) : NewD w0 w' p fold M pa pc L G := by
  have hM := he M h.new (World.block_lt_of_cell? w _ h.c0)
  exact ⟨(World.cell?_of_block (w := w) (w' := w') (a := ⟨M, 0, none⟩) hM).trans h.c0, (World.cell?_of_block (w := w) (w' := w') (a := ⟨M, 1, none⟩) hM).trans h.c1, (World.cell?_of_block (w := w) (w' := w') (a := ⟨M, 2, none⟩) hM).trans h.c2,
    h.own.same fun ad ha hl => he _ (h.own.lt (k := ad.block) ⟨ad, ha, rfl⟩).1 hl, h.sets.step hs he, h.prog, h.grp, h.new⟩
theorem NewD.bel {w0 w w' : World} {p : List Int} {fold : Bool} {M : Nat} {pa : Option Addr} {pc : Nat} {L : List Im} {G : Nat} (h : NewD w0 w p fold M pa pc L G) (b : Below w.heap.size w w') : NewD w0 w' p fold M pa pc L G :=
  h.step b.size fun q _ hq => b.block q hq
theorem NewD.kr {w0 w w' : World} {p : List Int} {fold : Bool} {M : Nat} {pa : Option Addr} {pc : Nat} {L : List Im} {G : Nat} (h : NewD w0 w p fold M pa pc L G) {F : Nat → Prop} (k : Kpt F w w') (hr : ∀ j, F j → j < w0.heap.size) : NewD w0 w' p fold M pa pc L G :=
  h.step k.size fun q h1 h2 => k.block q h2 fun hf => by have := hr q hf; omega
theorem NewD.mt {w0 w : World} {p : List Int} {fold : Bool} {M : Nat} {pa : Option Addr} {pc : Nat} {L : List Im} {G : Nat} (h : NewD w0 w p fold M pa pc L G) : Mt w M pa pc L G fold :=
  ⟨h.c0, h.c1, h.c2, h.own.sl, h.own.cap, fun q hq => h.sets.ims q hq⟩
def NewDR (w : World) (p : List Int) (fold : Bool) (e' : Ending) (w' : World) : Prop :=
  Below w.heap.size w w' ∧ ∃ M pa pc L G, NewD w w' p fold M pa pc L G ∧ e' = .returned (.tuple #[.pointer (some ⟨M, 0, none⟩), .agg #[.int .i64 0, .int .i64 0]])
set_option maxRecDepth 20000 in
set_option maxHeartbeats 16000000 in
theorem rnew_c (a : Option Addr) (c : Nat) (p : List Int) (fold : Bool) (w : World) (h : Sl w a p) (hc : p.length ≤ c) (hk : chkB p = true) (P : List Ins) (hok : compW p = (P, 0, 0)) :
    Calls Tryz.prog 23 #[.slice a p.length c, .bool fold] w (NewDR w p fold) := by
  obtain ⟨V, hV⟩ : ∃ V, V = w.alloc (.cells #[.int .i64 0, .int .i64 0] 47) := ⟨_, rfl⟩
  have bV : Below w.heap.size w V := by subst hV; (repeat' (first | exact Below.refl _ _ | assumption | refine bdrewN ?_ _ | refine Below.drew ?_ | refine bal ?_ _ | refine bthen ?_ (by assumption)))
  have F0 : Hid (FtC V w.heap.size 0 0) := by subst hV; exact FtC.new _ _ _ _ _ rfl
  have zV : V.heap.size = w.heap.size + 1 := by subst hV; simp
  have HS := hid (h.bel bV)
  have Hc := hid hc
  have CC := dcompile_c a c p V HS.out hc hk
  rw [hok] at CC
  have CC := hid CC
  have HOK := hid hok
  have BV := hid bV
  clear h bV hc hok
  go_enter Tryz.func23, Tryz.ntmps23
  go_upto_region 1 with fail
  rw [← hV]; clear hV
  go_wp2_with fail
  refine CC.out.mono ?_
  rintro _ w1 ⟨a1, c1, L, rfl, hin, hLl, ho, hs, b1⟩
  dsimp only at hin
  have HIn := hid hin
  have Ho := hid ho
  have Hs := hid hs
  have B1 := hid (BV.out.trans (b1.mono (by omega)))
  have F1 := hid (F0.out.bel b1)
  have S1 := hid (HS.out.bel b1)
  have zw1 := b1.size
  dsimp only
  clear hin hLl ho hs b1 CC F0 HS
  go_upto_region 2 with fail
  obtain ⟨V2, hV2⟩ : ∃ V2, V2 = w1.alloc (.cells #[.int .i64 0, .int .i64 0] 47) := ⟨_, rfl⟩
  have G2 : Hid (FtC V2 w1.heap.size 0 0) := by subst hV2; exact FtC.new _ _ _ _ _ rfl
  have bV2 : Below w1.heap.size w1 V2 := by subst hV2; (repeat' (first | exact Below.refl _ _ | assumption | refine bdrewN ?_ _ | refine Below.drew ?_ | refine bal ?_ _ | refine bthen ?_ (by assumption)))
  have zV2 : V2.heap.size = w1.heap.size + 1 := by subst hV2; simp
  have F2 := hid (F1.out.bel bV2)
  have B2 := hid (B1.out.trans (bV2.mono B1.out.size))
  have S2 := hid (S1.out.bel bV2)
  have O2 := hid (Ho.out.grow bV2)
  have Q2 := hid (Hs.out.bel bV2)
  rw [← hV2]
  clear hV2 bV2 F1 B1 S1 Ho Hs
  have y0 := G2.out.c0
  have y1 := G2.out.c1
  have PC := hid (dparse_c a c p V2 S2.out Hc.out)
  go_wp2_with fail
  refine PC.out.mono ?_
  rintro _ w3 ⟨a3, c3, T, rfl, hr3, ho3, -, -, b3⟩
  have HT := hid hr3
  have O3 := hid ho3
  have F3 := hid (F2.out.bel b3)
  have B3 := hid (B2.out.trans (b3.mono B2.out.size))
  have P3 := hid (O2.out.grow b3)
  have Q3 := hid (Q2.out.bel b3)
  have hd : ∃ e' f', (parseW p).2 = (e', f') := ⟨_, _, rfl⟩
  obtain ⟨e3, f3, hd3⟩ := hd
  rw [hd3]
  dsimp only
  have D3 := hid hd3
  have zw3 := b3.size
  clear hr3 ho3 b3 hd3 PC
  obtain ⟨V4, hV4⟩ : ∃ V4, V4 = w3.alloc (.cells #[.int .i64 e3, .int .i64 f3] 47) := ⟨_, rfl⟩
  have bV4 : Below w3.heap.size w3 V4 := by subst hV4; (repeat' (first | exact Below.refl _ _ | assumption | refine bdrewN ?_ _ | refine Below.drew ?_ | refine bal ?_ _ | refine bthen ?_ (by assumption)))
  have zV4 : V4.heap.size = w3.heap.size + 1 := by subst hV4; simp
  have F4 := hid (F3.out.bel bV4)
  have B4 := hid (B3.out.trans (bV4.mono B3.out.size))
  have P4 := hid (P3.out.grow bV4)
  have Q4 := hid (Q3.out.bel bV4)
  have O4 := hid (O3.out.grow bV4)
  have GC := hid (dgroups_c a3 c3 T V4 O4.out.sl)
  clear bV4 F3 B3 P3 Q3 O3 F2 B2 O2 Q2
  go_upto_region 5 with fail
  rw [← hV4]; clear hV4 y0 y1
  go_wp2_with fail
  refine GC.out.mono ?_
  rintro _ w5 ⟨rfl, b5⟩
  have F5 := hid (F4.out.bel b5)
  have B5 := hid (B4.out.trans (b5.mono B4.out.size))
  have P5 := hid (P4.out.grow b5)
  have Q5 := hid (Q4.out.bel b5)
  have zw5 := b5.size
  obtain ⟨G, hG⟩ : ∃ G, G = (gsL (rns T)).length := ⟨_, rfl⟩
  rw [← hG]
  have HG := hid hG
  clear hG b5 F4 B4 P4 Q4 GC O4
  obtain ⟨V6, hV6⟩ : ∃ V6, V6 = w5.alloc (.cells #[.slice a1 L.length c1, .int .i64 G, .bool fold] 65) := ⟨_, rfl⟩
  have bV6 : Below w5.heap.size w5 V6 := by subst hV6; (repeat' (first | exact Below.refl _ _ | assumption | refine bdrewN ?_ _ | refine Below.drew ?_ | refine bal ?_ _ | refine bthen ?_ (by assumption)))
  have zV6 : V6.heap.size = w5.heap.size + 1 := by subst hV6; simp
  have F6 := hid (F5.out.bel bV6)
  have B6 := hid (B5.out.trans (bV6.mono B5.out.size))
  have P6 := hid (P5.out.grow bV6)
  have Q6 := hid (Q5.out.bel bV6)
  have z0 := B5.out.size
  have N6 : Hid (NewD V V6 p fold w5.heap.size a1 c1 L G) := by
    refine hid ⟨?_, ?_, ?_, P6.out, Q6.out, by rw [HIn.out, HOK.out], by rw [HG.out, HT.out], by omega⟩
    · rw [hV6]; exact cell_alloc_new _ _ _ 0
    · rw [hV6]; exact cell_alloc_new _ _ _ 1
    · rw [hV6]; exact cell_alloc_new _ _ _ 2
  have f0 := F5.out.c0
  have f1 := F5.out.c1
  have f2 := F5.out.fz 0
  have f3' := F5.out.fz 1
  have z1 := F5.out.lt
  clear bV6 F5 B5 P5 Q5 P6 Q6
  have hcom : ((w5.setCell ⟨w.heap.size, 0, none⟩ (.int .i64 0)).setCell ⟨w.heap.size, 1, none⟩ (.int .i64 0)).alloc (.cells #[.slice a1 L.length c1, .int .i64 G, .bool fold] 65) = (V6.setCell ⟨w.heap.size, 0, none⟩ (.int .i64 0)).setCell ⟨w.heap.size, 1, none⟩ (.int .i64 0) := by
    rw [hV6, World.setCell_alloc_past _ _ _ _ (hn := z1), World.setCell_alloc_past _ _ _ _ (hn := by simpa using z1)]
  have HCom := hid hcom
  clear hcom hV6
  go_wp2_with fail
  try rw [HCom.out]
  refine ret_45 Tryz.results23 rfl rfl rfl (FtC.put F6.out 0 0) ?_
  have N7 := N6.out.kr (F := fun j => j = w.heap.size) (((Kpt.refl (fun j => j = w.heap.size) V6).setCell (p := ⟨w.heap.size, 0, none⟩) rfl (.int .i64 0)).setCell (p := ⟨w.heap.size, 1, none⟩) rfl (.int .i64 0)) (by intro j hj; omega)
  have hVw : w.heap.size ≤ V.heap.size := by omega
  exact ⟨(B6.out.setCell (by exact Nat.le_refl _) _).setCell (by exact Nat.le_refl _) _, w5.heap.size, a1, c1, L, G, ⟨N7.c0, N7.c1, N7.c2, N7.own.base_le hVw, N7.sets.base_le hVw, N7.prog, N7.grp, by omega⟩, rfl⟩
end Go.Proofs.YtefgjicegbhcaaaGreat
namespace Go.Proofs.YtefgjicegbhcaaaGreat
open Go.RowKit ReM

/-- a matcher beside a text that may be one sign too long -/
structure FxL (w : World) (x : Fx) : Prop where
  mt : Mt w x.M x.pa x.pc x.L x.G x.fold
  text : Sl w x.ta x.t
  tcap : x.t.length ≤ x.tc
  tl : x.t.length ≤ 1001
  Ll : x.L.length ≤ 300
  G9 : x.G ≤ 9
theorem FxL.ok {w : World} {x : Fx} (h : FxL w x) (hl : x.t.length ≤ 1000) : FxOk w x := ⟨h.mt, h.text, h.tcap, hl, h.Ll, h.G9⟩
def FindQ (m : ReM.Mc) (z : List Int) (n from_ : Nat) (o : Option (List Int)) : Prop := if n ≤ 1000 then FindR m z from_ o else o = none
theorem FindQ.one {m : ReM.Mc} {z : List Int} {n from_ : Nat} {o1 o2 : Option (List Int)} (h : FindQ m z n from_ o1) (k : FindQ m z n from_ o2) : o1 = o2 := by
  unfold FindQ at h k
  split at h
  · rw [if_pos (by assumption)] at k; exact FindR.one h k
  · rw [if_neg (by assumption)] at k; rw [h, k]
def AllQ (m : ReM.Mc) (z : List Int) (n : Nat) (l : List (List Int)) : Prop := if n ≤ 1000 then AllR m z 0 l else l = []
theorem AllQ.one {m : ReM.Mc} {z : List Int} {n : Nat} {l1 l2 : List (List Int)} (h : AllQ m z n l1) (k : AllQ m z n l2) : l1 = l2 := by
  unfold AllQ at h k
  split at h
  · rw [if_pos (by assumption)] at k; exact AllR.one h k
  · rw [if_neg (by assumption)] at k; rw [h, k]
set_option maxHeartbeats 4000000 in
theorem find_long (w : World) (M : Nat) (ta : Option Addr) (tc n : Nat) (from_ : Int) (h : 1000 < n) (h1 : n ≤ 1001) :
    Calls Tryz.prog 19 #[.pointer (some ⟨M, 0, none⟩), .slice ta n tc, .int .i64 from_] w fun e' w' => e' = .returned (.tuple #[.slice none 0 0, .bool false]) ∧ w = w' := by
  have b1 : decide ((1000 : Int) < (n : Int)) = true := decide_eq_true (by omega)
  have b0 : decide (1000 < n) = true := decide_eq_true (by omega)
  go_enter Tryz.func19, Tryz.ntmps19
  go_wp2_with fail
  go_ret2
  exact ⟨rfl, rfl⟩
set_option maxHeartbeats 4000000 in
theorem all_long (w : World) (M : Nat) (ta : Option Addr) (tc n : Nat) (h : 1000 < n) (h1 : n ≤ 1001) :
    Calls Tryz.prog 26 #[.pointer (some ⟨M, 0, none⟩), .slice ta n tc] w fun e' w' => e' = .returned (.slice none 0 0) ∧ Below w.heap.size w w' := by
  have FL := hid (fun w' => find_long w' M ta tc n 0 h h1)
  go_enter Tryz.func26, Tryz.ntmps26
  go_wp2_with fail
  go_loopg [5, 6, 7, 8] 1 (fun g qv fv _ _ wr => g = 1 ∧ qv = .slice none 0 0 ∧ fv = .int .i64 0 ∧ Hid (Below w.heap.size w wr))
  case atStart => exact ⟨rfl, rfl, rfl, hid (Below.refl _ _)⟩
  case round =>
    obtain ⟨rfl, rfl, rfl, HB⟩ := hrel
    go_wp2_with fail
    refine (FL.out wr).mono ?_
    rintro _ _ ⟨rfl, rfl⟩
    go_wp2_with fail
    go_ret
    exact ⟨rfl, by first | exact HB.out | exact HB.out.trans (by (repeat' (first | exact Below.refl _ _ | assumption | refine bdrewN ?_ _ | refine Below.drew ?_ | refine Below.setCell ?_ (Nat.le_refl _) _ | refine bal ?_ _ | refine bthen ?_ (by assumption))))⟩
set_option maxHeartbeats 4000000 in
theorem rall_long (w : World) (M : Nat) (ta : Option Addr) (tc n : Nat) (h : 1000 < n) (h1 : n ≤ 1001) :
    Calls Tryz.prog 27 #[.pointer (some ⟨M, 0, none⟩), .slice ta n tc] w fun e' w' => e' = .returned (.slice none 0 0) ∧ Below w.heap.size w w' := by
  have FL := hid (fun w' => rfind_far w' M ta tc n 0 (.inr (.inr h)) (by omega))
  have c1 : decide ((0 : Int) ≤ (n : Int)) = true := decide_eq_true (by omega)
  go_enter Tryz.func27, Tryz.ntmps27
  go_wp2_with fail
  go_loopg [5, 6, 7, 8] 1 (fun g qv fv _ _ wr => g = 1 ∧ qv = .slice none 0 0 ∧ fv = .int .i64 0 ∧ Hid (Below w.heap.size w wr))
  case atStart => exact ⟨rfl, rfl, rfl, hid (Below.refl _ _)⟩
  case round =>
    obtain ⟨rfl, rfl, rfl, HB⟩ := hrel
    go_wp2_with fail
    refine (FL.out wr).mono ?_
    rintro _ _ ⟨rfl, rfl⟩
    go_wp2_with fail
    go_ret
    exact ⟨rfl, by first | exact HB.out | exact HB.out.trans (by (repeat' (first | exact Below.refl _ _ | assumption | refine bdrewN ?_ _ | refine Below.drew ?_ | refine Below.setCell ?_ (Nat.le_refl _) _ | refine bal ?_ _ | refine bthen ?_ (by assumption))))⟩
theorem same_find {b1 b2 : Bool} {r1 r2 : List Int} (h : (if b1 = true then some r1 else none) = (if b2 = true then some r2 else none)) (h1 : b1 = false → r1 = []) (h2 : b2 = false → r2 = []) : b1 = b2 ∧ r1 = r2 := by
  cases b1 <;> cases b2
  · exact ⟨rfl, (h1 rfl).trans (h2 rfl).symm⟩
  · simp at h
  · simp at h
  · exact ⟨rfl, by simpa using h⟩
theorem FindP.norm {w w' : World} {x : Fx} {from_ : Nat} {e' : Ending} (h : FindP w x from_ e' w') :
    ∃ aa ca r bb, e' = .returned (.tuple #[.slice aa r.length ca, .bool bb]) ∧ I.Own w' w.heap.size aa ca r ∧ Below w.heap.size w w' ∧ FindR x.mc (zz x) from_ (if bb = true then some r else none) ∧ (bb = false → r = []) := by
  obtain ⟨hb, ⟨h1, rfl⟩ | ⟨r, g, c, h1, rfl, h2⟩⟩ := h
  · exact ⟨none, 0, [], false, rfl, I.Own.nil _ _, hb, by simpa using h1, fun _ => rfl⟩
  · exact ⟨_, c, r, true, rfl, h2, hb, by simpa using h1, fun h => by cases h⟩
theorem RFindP.norm {w w' : World} {x : Fx} {from_ : Nat} {e' : Ending} (h : RFindP w x from_ e' w') (hG : x.G ≤ 9) :
    ∃ aa ca r bb, e' = .returned (.tuple #[.slice aa r.length ca, .bool bb]) ∧ I.Sl w' aa r ∧ Below w.heap.size w w' ∧ FindR x.mc (zz x) from_ (if bb = true then some r else none) ∧ (bb = false → r = []) := by
  obtain ⟨hb, ⟨h1, rfl⟩ | ⟨r, g, c, h1, rfl, h2, -, hl, -, hr⟩⟩ := h
  · exact ⟨none, 0, [], false, rfl, I.Sl.nil _ _, hb, by simpa using h1, fun _ => rfl⟩
  · exact ⟨_, c, r, true, rfl, h2.isl hr (by omega), hb, by simpa using h1, fun h => by cases h⟩
theorem findq_c (w : World) (x : Fx) (f : FxL w x) (hP : PgOk (inss x.L) x.G) (from_ : Nat) (hf : from_ ≤ x.t.length) :
    Calls Tryz.prog 19 #[.pointer (some ⟨x.M, 0, none⟩), .slice x.ta x.t.length x.tc, .int .i64 from_] w fun e' w' => ∃ aa ca r bb, e' = .returned (.tuple #[.slice aa r.length ca, .bool bb]) ∧ I.Own w' w.heap.size aa ca r ∧ Below w.heap.size w w' ∧ FindQ x.mc (zz x) x.t.length from_ (if bb = true then some r else none) ∧ (bb = false → r = []) := by
  by_cases h : x.t.length ≤ 1000
  · refine (find_c w x (f.ok h) hP from_ hf).mono ?_
    intro e' w' hh
    obtain ⟨aa, ca, r, bb, h1, h2, h3, h4, h5⟩ := hh.norm
    exact ⟨aa, ca, r, bb, h1, h2, h3, by unfold FindQ; rw [if_pos h]; exact h4, h5⟩
  · refine (find_long w x.M x.ta x.tc x.t.length from_ (by omega) f.tl).mono ?_
    rintro e' w' ⟨rfl, rfl⟩
    exact ⟨none, 0, [], false, rfl, I.Own.nil _ _, Below.refl _ _, by unfold FindQ; rw [if_neg h]; rfl, fun _ => rfl⟩
theorem rfindq_c (w : World) (x : Fx) (f : FxL w x) (hP : PgOk (inss x.L) x.G) (from_ : Nat) (hf : from_ ≤ x.t.length) :
    Calls Tryz.prog 25 #[.pointer (some ⟨x.M, 0, none⟩), .slice x.ta x.t.length x.tc, .int .i64 from_] w fun e' w' => ∃ aa ca r bb, e' = .returned (.tuple #[.slice aa r.length ca, .bool bb]) ∧ I.Sl w' aa r ∧ Below w.heap.size w w' ∧ FindQ x.mc (zz x) x.t.length from_ (if bb = true then some r else none) ∧ (bb = false → r = []) := by
  by_cases h : x.t.length ≤ 1000
  · refine (rfind_c w x (f.ok h) hP from_ hf).mono ?_
    intro e' w' hh
    obtain ⟨aa, ca, r, bb, h1, h2, h3, h4, h5⟩ := hh.norm f.G9
    exact ⟨aa, ca, r, bb, h1, h2, h3, by unfold FindQ; rw [if_pos h]; exact h4, h5⟩
  · refine (rfind_far w x.M x.ta x.tc x.t.length from_ (.inr (.inr (by omega))) (by have := f.tl; omega)).mono ?_
    rintro e' w' ⟨rfl, rfl⟩
    exact ⟨none, 0, [], false, rfl, I.Sl.nil _ _, Below.refl _ _, by unfold FindQ; rw [if_neg h]; rfl, fun _ => rfl⟩
theorem allq_c (w : World) (x : Fx) (f : FxL w x) (hM : Made (inss x.L) x.G) :
    Calls Tryz.prog 26 #[.pointer (some ⟨x.M, 0, none⟩), .slice x.ta x.t.length x.tc] w fun e' w' => ∃ a c Q, e' = .returned (.slice a Q.length c) ∧ QO w' w.heap.size a c Q ∧ Lts w' w.heap.size Q ∧ Hid (AllQ x.mc (zz x) x.t.length (Q.map Lt.l)) ∧ Below w.heap.size w w' ∧ Q.length ≤ 1001 := by
  by_cases h : x.t.length ≤ 1000
  · refine (all_c10 w x (f.ok h) hM).mono ?_
    rintro e' w' ⟨a, c, Q, h1, h2, h3, h4, h5, h6⟩
    exact ⟨a, c, Q, h1, h2, h3, hid (by unfold AllQ; rw [if_pos h]; exact h4.out), h5, h6⟩
  · refine (all_long w x.M x.ta x.tc x.t.length (by omega) f.tl).mono ?_
    rintro e' w' ⟨rfl, hb⟩
    exact ⟨none, 0, [], rfl, ROwn.nil _ _, (fun q hq => by cases hq), hid (by unfold AllQ; rw [if_neg h]; rfl), hb, by simp⟩
theorem rallq_c (w : World) (x : Fx) (f : FxL w x) (hM : Made (inss x.L) x.G) :
    Calls Tryz.prog 27 #[.pointer (some ⟨x.M, 0, none⟩), .slice x.ta x.t.length x.tc] w fun e' w' => ∃ a c Q, e' = .returned (.slice a Q.length c) ∧ QO w' w.heap.size a c Q ∧ Lrd w' a Q ∧ Hid (AllQ x.mc (zz x) x.t.length (Q.map Lt.l)) ∧ Below w.heap.size w w' ∧ Q.length ≤ 1001 := by
  by_cases h : x.t.length ≤ 1000
  · refine (rall_c w x (f.ok h) hM).mono ?_
    rintro e' w' ⟨a, c, Q, h1, h2, h3, h4, h5, h6⟩
    exact ⟨a, c, Q, h1, h2, h3, hid (by unfold AllQ; rw [if_pos h]; exact h4.out), h5, h6⟩
  · refine (rall_long w x.M x.ta x.tc x.t.length (by omega) f.tl).mono ?_
    rintro e' w' ⟨rfl, hb⟩
    exact ⟨none, 0, [], rfl, ROwn.nil _ _, (fun q hq => by cases hq), hid (by unfold AllQ; rw [if_neg h]; rfl), hb, by simp⟩
theorem Kpt.one {g : Nat} {w w' : World} (k : Kpt (Blk (some ⟨g, 0, none⟩)) w w') : KR g w w' :=
  ⟨k.os, k.tape, k.output, k.size, fun i hi hn => k.block i hi (fun ⟨ad, ha, hb⟩ => hn (by cases ha; exact hb.symm))⟩
set_option maxRecDepth 20000 in
set_option maxHeartbeats 16000000 in
theorem same10_w (aP : Option Addr) (cP : Nat) (p : List Int) (aS : Option Addr) (cS : Nat) (s : List Int) (from_ : Nat) (fold : Bool) (w : World) (hp : Sl w aP p) (hpc : p.length ≤ cP) (hs : Sl w aS s) (hsc : s.length ≤ cS) (hpl : p.length ≤ 1000) (hl : s.length ≤ 1001) (hf : from_ ≤ s.length) (hk : chkB p = true) (P : List Ins) (hok : compW p = (P, 0, 0)) :
    Calls Tryz.prog 6 #[.slice aP p.length cP, .slice aS s.length cS, .int .i64 from_, .bool fold] w fun e' w' => e' = .returned (.bool true) ∧ Below w.heap.size w w' := by
  have LC := hid (lend_c aP cP p w hp (by omega))
  have HP := hid hp
  have HS := hid hs
  have HOK := hid hok
  have HK := hid hk
  clear hp hs hok hk
  go_enter Tryz.func6, Tryz.ntmps6
  go_wp2_with fail
  refine LC.out.mono ?_
  rintro _ w1 ⟨g, cx, rfl, hcx, hgx, hox, b1⟩
  have OX1 := hid hox
  have B1 := hid b1
  have z1 := b1.size
  have zg : g < w1.heap.size := (hox.1.lt g rfl).2
  have LC2 := hid (lend_c aS cS s w1 (HS.out.bel b1) (by omega))
  clear LC hox b1
  go_wp2_with fail
  refine LC2.out.mono ?_
  rintro _ w2 ⟨gy, cy, rfl, hcy, hgy, hoy, b2⟩
  have OY2 := hid hoy
  have OX2 := hid (OX1.out.grow b2)
  have B2 := hid (B1.out.trans (b2.mono z1))
  have z2 := b2.size
  have NC := hid (new_c (some ⟨g, 0, none⟩) cx p fold w2 (Own.pre OX2.out).sl (by omega))
  clear LC2 hoy b2 OX1 B1
  go_wp2_with fail
  refine NC.out.mono ?_
  rintro e3 w3 ⟨b3, hor⟩
  obtain ⟨M, pa, pc, L, G, hN, rfl⟩ : ∃ M pa pc L G, New1 w2 w3 p fold M pa pc L G ∧ e3 = .returned (.tuple #[.pointer (some ⟨M, 0, none⟩), .agg #[.int .i64 0, .int .i64 0]]) := by
    rcases hor with ⟨e, f, h1, h2, -⟩ | h
    · rw [HOK.out] at h1; cases h1; exact absurd rfl h2
    · exact h
  obtain ⟨V3, hV3⟩ : ∃ V3, V3 = w3.alloc (.cells #[.int .i64 0, .int .i64 0] 47) := ⟨_, rfl⟩
  have F3 : Hid (FtC V3 w3.heap.size 0 0) := by subst hV3; exact FtC.new _ _ _ _ _ rfl
  have bV3 : Below w3.heap.size w3 V3 := by subst hV3; (repeat' (first | exact Below.refl _ _ | assumption | refine bdrewN ?_ _ | refine Below.drew ?_ | refine bal ?_ _ | refine bthen ?_ (by assumption)))
  have zV3 : V3.heap.size = w3.heap.size + 1 := by subst hV3; simp
  have z3 := b3.size
  have b23 := b3.trans (bV3.mono z3)
  have N3 := hid (hN.bel bV3)
  have B3 := hid (B2.out.trans (b23.mono (by omega)))
  have OX3 := hid (OX2.out.grow b23)
  have OY3 := hid (OY2.out.grow b23)
  have DC := hid (rnew_c aP cP p fold V3 (HP.out.bel B3.out) hpc HK.out P HOK.out)
  clear NC b3 hor hN bV3 b23 OX2 OY2 B2
  go_wp2_with fail
  rw [← hV3]; clear hV3
  refine DC.out.mono ?_
  rintro _ w4 ⟨b4, M', pa', pc', L', G', hD, rfl⟩
  obtain ⟨V4, hV4⟩ : ∃ V4, V4 = w4.alloc (.cells #[.int .i64 0, .int .i64 0] 47) := ⟨_, rfl⟩
  have F4 : Hid (FtC V4 w4.heap.size 0 0) := by subst hV4; exact FtC.new _ _ _ _ _ rfl
  have bV4 : Below w4.heap.size w4 V4 := by subst hV4; (repeat' (first | exact Below.refl _ _ | assumption | refine bdrewN ?_ _ | refine Below.drew ?_ | refine bal ?_ _ | refine bthen ?_ (by assumption)))
  have zV4 : V4.heap.size = w4.heap.size + 1 := by subst hV4; simp
  have z4 := b4.size
  have b34 := b4.trans (bV4.mono z4)
  have D4 := hid (hD.bel bV4)
  have N4 := hid (N3.out.bel b34)
  have B4 := hid (B3.out.trans (b34.mono (by omega)))
  have OX4 := hid (OX3.out.grow b34)
  have OY4 := hid (OY3.out.grow b34)
  have q0 := (F3.out.bel b34).c0
  have q1 := (F3.out.bel b34).c1
  have q2 := F4.out.c0
  have q3 := F4.out.c1
  clear DC b4 hD bV4 b34 N3 B3 OX3 OY3 F3 F4
  go_upto_region 4 with fail
  rw [← hV4]; clear hV4
  go_wp2_with fail
  refine (kept_c g cx aP cP p V4 OX4.out.sl hcx (HP.out.bel B4.out)).mono ?_
  rintro _ w5' ⟨rfl, n5, hn5⟩
  obtain ⟨w5, hw5⟩ : ∃ w5, w5 = w5' := ⟨_, rfl⟩
  rw [← hw5]
  have e5 : w5 = V4.drewN n5 := hw5.trans hn5
  have b5 : Below V4.heap.size V4 w5 := by rw [e5]; exact bdrewN (Below.refl _ _) _
  have z5 : w5.heap.size = V4.heap.size := by rw [e5]; simp
  have D5 := hid (D4.out.bel b5)
  have N5 := hid (N4.out.bel b5)
  have B5 := hid (B4.out.trans (b5.mono (by omega)))
  have OX5 := hid (OX4.out.grow b5)
  have OY5 := hid (OY4.out.grow b5)
  have SC := hid (spoil_k _ _ _ _ w5 (Own.pre OX5.out))
  clear hn5 hw5 e5 b5 D4 N4 B4 OX4 OY4 q0 q1 q2 q3
  go_wp2_with fail
  refine SC.out.mono ?_
  rintro _ w6 ⟨rfl, ks⟩
  have kr := Kpt.one ks
  have D6 := hid (D5.out.kr kr (fun j hj => by omega))
  have N6 := hid (N5.out.kr kr (by omega))
  have B6 := hid (B5.out.trans (kr.below (B := w.heap.size) (fun q hq => by omega) (by have := B5.out.size; omega)))
  have OY6 := hid (OY5.out.kr kr zg)
  have z6 := kr.size
  clear ks kr SC D5 N5 B5 OX5 OY5
  have hLL : Hid (inss L' = inss L) := hid (Prod.mk.inj (D6.out.prog.trans N6.out.prog.symm)).1
  obtain rfl : G' = G := D6.out.grp.trans N6.out.grp.symm
  have hL3 : L'.length ≤ 300 := by
    have := congrArg List.length hLL.out
    simp only [inss, List.length_map] at this
    have := N6.out.Ll
    omega
  have hG9 := N6.out.G9
  have FX := hid (fun w' (b : Below w6.heap.size w6 w') => show FxL w' ⟨M, pa, pc, L, G', fold, some ⟨gy, 0, none⟩, cy, s⟩ from ⟨N6.out.mt.bel b, (Own.pre OY6.out).sl.bel b, by show s.length ≤ cy; omega, hl, N6.out.Ll, hG9⟩)
  have FD := hid (fun w' (b : Below w6.heap.size w6 w') => show FxL w' ⟨M', pa', pc', L', G', fold, aS, cS, s⟩ from ⟨(D6.out.bel b).mt, HS.out.bel (B6.out.trans (b.mono B6.out.size)), hsc, hl, hL3, hG9⟩)
  have MD := hid N6.out.made
  have MD' : Hid (Made (inss L') G') := hid (by rw [hLL.out]; exact MD.out)
  have Hf := hid hf
  have FC := hid (findq_c w6 ⟨M, pa, pc, L, G', fold, some ⟨gy, 0, none⟩, cy, s⟩ (FX.out w6 (Below.refl _ _)) MD.out.ok from_ hf)
  clear hf hL3
  go_wp2_with fail
  refine FC.out.mono ?_
  rintro _ w7 ⟨aa, ca, r, bb, rfl, o7, b7, f7, n7⟩
  have O7 := hid o7
  have R7 := hid f7
  have E7 := hid n7
  have B7 := hid b7
  have z7 := b7.size
  have RC := hid (rfindq_c w7 ⟨M', pa', pc', L', G', fold, aS, cS, s⟩ (FD.out w7 b7) MD'.out.ok from_ Hf.out)
  clear o7 b7 f7 n7 FC
  go_wp2_with fail
  refine RC.out.mono ?_
  rintro _ w8 ⟨ab, cb, r', bb', rfl, s8, b8, f8, n8⟩
  have f9 : FindQ (Fx.mc ⟨M, pa, pc, L, G', fold, some ⟨gy, 0, none⟩, cy, s⟩) (zz ⟨M, pa, pc, L, G', fold, some ⟨gy, 0, none⟩, cy, s⟩) s.length from_ (if bb' = true then some r' else none) := by
    have := f8
    unfold Fx.mc at this ⊢
    dsimp only at this ⊢
    rw [hLL.out] at this
    exact this
  obtain ⟨rfl, rfl⟩ := same_find (FindQ.one R7.out f9) E7.out n8
  have S8 := hid s8
  have O8 := hid (O7.out.grow b8)
  have z8 := b8.size
  have B8 := hid (B7.out.trans (b8.mono z7))
  have AC := hid (allq_c w8 ⟨M, pa, pc, L, G', fold, some ⟨gy, 0, none⟩, cy, s⟩ (FX.out w8 B8.out) MD.out)
  clear s8 b8 f8 n8 f9 RC O7 R7 E7 B7
  go_wp2_with fail
  refine AC.out.mono ?_
  rintro _ w9 ⟨a9, c9, Q, rfl, o9, l9, r9, b9, hq9⟩
  have OQ9 := hid o9
  have LQ9 := hid l9
  have z9 := b9.size
  have S9 := hid (S8.out.bel b9)
  have O9 := hid (O8.out.grow b9)
  have B9 := hid (B8.out.trans (b9.mono (by omega)))
  have RAC := hid (rallq_c w9 ⟨M', pa', pc', L', G', fold, aS, cS, s⟩ (FD.out w9 B9.out) MD'.out)
  clear o9 l9 b9 AC S8 O8 B8
  go_wp2_with fail
  refine RAC.out.mono ?_
  rintro _ w10 ⟨a10, c10, K, rfl, o10, l10, r10, b10, hq10⟩
  have hQK : Q.map Lt.l = K.map Lt.l := by
    have h1 := r10.out
    unfold Fx.mc at h1
    dsimp only at h1
    rw [hLL.out] at h1
    exact AllQ.one r9.out h1
  have hKl : K.length = Q.length := by have := congrArg List.length hQK; simpa using this.symm
  have OK10 := hid o10
  have LK10 := hid l10
  have z10 := b10.size
  have OQ10 := hid (OQ9.out.grow b10)
  have LQ10 := hid (LQ9.out.bel b10)
  have S10 := hid (S9.out.bel b10)
  have O10 := hid (O9.out.grow b10)
  have B10 := hid (B9.out.trans (b10.mono (by omega)))
  have HQK := hid hQK
  have HKl := hid hKl
  clear o10 l10 r10 b10 r9 RAC hQK S9 O9 B9 OQ9 LQ9 FX FD
  have B610 := B10.out
  have MG := hid (fun w' (b : Below w10.heap.size w10 w') => mgroups_c w' M G' (N6.out.bel (B610.trans (b.mono B610.size))).mt.c1)
  have KD := hid (fun w' (b : Below w10.heap.size w10 w') => show w'.cell? ⟨M', 1, none⟩ = some (.int .i64 (G' : Int)) from (D6.out.bel (B610.trans (b.mono B610.size))).c1)
  have SI := hid (fun w' (b : Below w10.heap.size w10 w') => (sameInts_c aa ab ca cb r r w' (O10.out.sl.bel b) (S10.out.bel b)).mono (R' := fun e w'' => e = .returned (.bool true) ∧ Below w'.heap.size w' w'') (fun e w'' h => by
    obtain ⟨h1, n, h2⟩ := h
    exact ⟨by rw [h1, eqM_self], by rw [h2]; exact bdrewN (Below.refl _ _) _⟩))
  clear B610
  go_upto_region 12 with fail
  have hx0 : Below w10.heap.size w10 w10.drew := (Below.refl _ _).drew
  have k0 := KD.out _ hx0
  go_region_held3 (fun w' => Below w10.heap.size w10 w' ∧ w'.cell? ⟨M', 1, none⟩ = some (.int .i64 (G' : Int))) (first | assumption | exact ⟨by assumption, by assumption⟩ | go_keep)
    (first | (go_at_call 28; refine (MG.out _ (by assumption)).mono ?_; rintro e' w11 ⟨rfl, rfl⟩) | (go_at_call 29; refine (SI.out _ (by assumption)).mono ?_; rintro e' w11 ⟨rfl, hb11⟩; have hx11 : Below w10.heap.size w10 w11 := bthen (by assumption) hb11; have k11 := KD.out _ hx11) | fail)
  have OQ11 := hid (OQ10.out.grow hx11)
  have LQ11 := hid (LQ10.out.bel hx11)
  have OK11 := hid (OK10.out.grow hx11)
  have LK11 := hid (LK10.out.bel hx11)
  have O11 := hid (O10.out.grow hx11)
  have B11 := hid (B10.out.trans (hx11.mono B10.out.size))
  have z11 := hx11.size
  clear hb11 hx11 k11 MG KD SI OQ10 LQ10 OK10 LK10 O10 S10 B10
  go_wp2_with fail
  go_loopg [110, 21] Q.length (fun gk iv _ wr => ∃ k : Nat, gk = Q.length - k ∧ k ≤ Q.length ∧ iv = .int .i64 k ∧ Hid (Below w11.heap.size w11 wr))
  case atStart => exact ⟨0, rfl, by omega, rfl, hid (Below.refl _ _)⟩
  case round =>
    obtain ⟨j, rfl, hj, rfl, HB⟩ := hrel
    by_cases hjl : j < Q.length
    · have bz : decide ((j : Int) < (Q.length : Int)) = true := decide_eq_true (by omega)
      have bz2 : decide (j < Q.length) = true := decide_eq_true hjl
      have hkl : j < K.length := by rw [HKl.out]; exact hjl
      have hll : (rgt Q j).l = (rgt K j).l := by
        have h1 : (Q.map Lt.l).drop j = (rgt Q j).l :: (Q.map Lt.l).drop (j + 1) := by
          rw [← List.map_drop, rgt_drop hjl, List.map_cons, List.map_drop]
        have h2 : (K.map Lt.l).drop j = (rgt K j).l :: (K.map Lt.l).drop (j + 1) := by
          rw [← List.map_drop, rgt_drop hkl, List.map_cons, List.map_drop]
        rw [HQK.out, h2] at h1
        exact (List.cons.inj h1).1.symm
      obtain ⟨qb, qo, hqa, hqc⟩ := OQ11.out.sl.at hjl
      obtain ⟨kb, ko, hka, hkc⟩ := OK11.out.sl.at hkl
      subst hqa
      subst hka
      have kq := rec_lt (hqc j hjl)
      have kk := rec_lt (hkc j hkl)
      have qOwn := LQ11.out (rgt Q j) (rgt_mem hjl)
      obtain ⟨g2, hg2, cp2, -, hr2, hl2⟩ := LK11.out (rgt K j) (rgt_mem hkl)
      obtain ⟨⟨da, dl, dc⟩, hd⟩ : ∃ d, d = rgt Q j := ⟨_, rfl⟩
      obtain ⟨⟨ea, el, ec⟩, he⟩ : ∃ d, d = rgt K j := ⟨_, rfl⟩
      rw [← hd] at kq qOwn hll
      rw [← he] at kk cp2 hr2 hl2 hg2 hll
      dsimp only at hll hg2 cp2 hr2 hl2
      subst hll
      subst hg2
      change World.cell? _ ⟨qb, qo + j * 1, none⟩ = some (.slice da dl.length dc) at kq
      change World.cell? _ ⟨kb, ko + j * 1, none⟩ = some (.slice (some ⟨g2, 0, none⟩) dl.length ec) at kk
      rw [Nat.mul_one] at kq kk
      change I.Own w11 _ da dc dl at qOwn
      have s1 := qOwn.sl
      have s2 := cp2.isl hr2 hl2
      have SJ := hid (fun w' (b : Below w11.heap.size w11 w') => (sameInts_c da (some ⟨g2, 0, none⟩) dc ec dl dl w' (s1.bel b) (s2.bel b)).mono (R' := fun e w'' => e = .returned (.bool true) ∧ Below w'.heap.size w' w'') (fun e w'' h => by
        obtain ⟨h1, n, h2⟩ := h
        exact ⟨by rw [h1, eqM_self], by rw [h2]; exact bdrewN (Below.refl _ _) _⟩))
      have KC := hid (fun w' (b : Below w11.heap.size w11 w') => show w'.cell? ⟨qb, qo + j, none⟩ = some (.slice da dl.length dc) ∧ w'.cell? ⟨kb, ko + j, none⟩ = some (.slice (some ⟨g2, 0, none⟩) dl.length ec) from
        ⟨(b.cell (World.block_lt_of_cell? w11 _ kq)).trans kq, (b.cell (World.block_lt_of_cell? w11 _ kk)).trans kk⟩)
      have hjI : (j : Int) < (Q.length : Int) := by omega
      have z110 := HB.out.size
      clear hqc hkc qOwn s1 s2 cp2 hr2 hl2 hd he kq kk
      go_upto_region 17 with fail
      have hx0 : Below w11.heap.size w11 wr.drew := HB.out.drew
      have kc := KC.out _ hx0
      obtain ⟨e0, e1⟩ := kc
      go_region_held3 (fun w' => Below w11.heap.size w11 w' ∧ w'.cell? ⟨qb, qo + j, none⟩ = some (.slice da dl.length dc) ∧ w'.cell? ⟨kb, ko + j, none⟩ = some (.slice (some ⟨g2, 0, none⟩) dl.length ec)) (first | assumption | exact ⟨by assumption, by assumption, by assumption⟩ | go_keep)
        (first | (go_at_call 29; refine (SJ.out _ (by assumption)).mono ?_; rintro e' w12 ⟨rfl, hb12⟩; have hx12 : Below w11.heap.size w11 w12 := bthen (by assumption) hb12; have kk12 := KC.out _ hx12; obtain ⟨n0, n1⟩ := kk12) | fail)
      have HX12 := hid hx12
      go_wp2_with fail
      go_roundg (Q.length - (j + 1))
      case measure => omega
      case rel => exact ⟨j + 1, rfl, by omega, by first | rfl | go_num, HX12⟩
    · obtain rfl : j = Q.length := by omega
      have O12 := hid (O11.out.grow HB.out)
      have B12 := hid (B11.out.trans (HB.out.mono B11.out.size))
      have z12 := HB.out.size
      clear HB OQ11 LQ11 OK11 LK11 O11
      go_wp2_with fail
      go_loopg [126, 22] r.length (fun gk iv _ wx => ∃ (k : Nat) (R : List Int), gk = r.length - k ∧ k ≤ r.length ∧ iv = .int .i64 k ∧ Hid (R.length = r.length) ∧ Hid (I.Own wx w6.heap.size aa ca R) ∧ Hid (Kpt (Blk aa) wr wx))
      case atStart => exact ⟨0, r, rfl, by omega, rfl, hid rfl, O12, hid (Kpt.refl _ _)⟩
      case round =>
        obtain ⟨k, R, rfl, hk, rfl, HR, HO, HKp⟩ := hrel
        by_cases hkr : k < r.length
        · have hkR : k < R.length := by rw [HR.out]; exact hkr
          rcases HO.out.shape with ⟨_, _, h0⟩ | ⟨g0, rfl, _⟩
          · rw [h0] at hkR; simp at hkR
          · obtain ⟨b', o', he, hcell⟩ := HO.out.sl.at (i := k) hkR
            simp only [Option.some.injEq, Addr.mk.injEq, and_true] at he
            obtain ⟨rfl, rfl⟩ := he
            have ck := hcell k hkR
            rw [Nat.zero_add] at ck
            have fk := HO.out.free k
            have hkI : (k : Int) < (r.length : Int) := by omega
            have hrb := HO.out.2.2
            rw [HR.out] at hrb
            have HS9 := hid (HO.out.stored k (-9) (by omega))
            clear hcell
            go_wp2_with fail
            go_roundg (r.length - (k + 1))
            case measure => omega
            case rel => exact ⟨k + 1, R.set k (-9), rfl, by omega, by first | rfl | go_num, hid (by rw [List.length_set]; exact HR.out), HS9, hid (Kpt.setCell HKp.out (p := ⟨g0, k, none⟩) ⟨_, rfl, rfl⟩ _)⟩
        · have z6w := B12.out.size
          have bk := HKp.out.below (B := w6.heap.size) (fun q hq => (HO.out.1.lt q (by obtain ⟨ad, ha, rfl⟩ := hq; show (Value.slice aa _ _).ownBlock = _; rw [ha]; rfl)).1) (by omega)
          have B13 := hid (B12.out.trans bk)
          have BA := hid (B6.out.trans (B13.out.mono B6.out.size))
          obtain rfl : k = r.length := by omega
          clear bk
          go_wp2_with fail
          refine (kept_c gy cy aS cS s _ (OY6.out.grow B13.out).sl hcy (HS.out.bel BA.out)).mono ?_
          rintro _ w14 ⟨rfl, n14, hn14⟩
          go_wp2_with fail
          go_ret
          exact ⟨rfl, by first | exact bdrewN BA.out _ | (rw [hn14]; exact bdrewN BA.out _)⟩
end Go.Proofs.YtefgjicegbhcaaaGreat
namespace Go.Proofs.YtefgjicegbhcaaaGreat
open Go.RowKit ReM

def ssR : List ByteArray := [⟨#[]⟩, ⟨#[40, 97, 42, 41, 42]⟩, ⟨#[40, 97, 124, 98, 41, 42]⟩, ⟨#[40, 97, 42, 124, 98, 41, 43]⟩, ⟨#[40, 63, 58, 97, 63, 41, 42, 63, 98]⟩, ⟨#[40, 97, 63, 63, 41, 43]⟩, ⟨#[94, 97]⟩, ⟨#[97, 36]⟩, ⟨#[94, 36]⟩, ⟨#[94]⟩, ⟨#[40, 94, 97, 124, 98, 36, 41, 43]⟩, ⟨#[40, 97, 41, 124, 40, 98, 41]⟩, ⟨#[40, 40, 97, 41, 124, 98, 41, 42]⟩, ⟨#[97, 123, 50, 125]⟩, ⟨#[40, 63, 58, 97, 98, 124, 97, 41, 40, 63, 58, 99, 124, 98, 99, 100, 41, 63]⟩, ⟨#[91, 94, 97, 93]⟩, ⟨#[92, 119, 43]⟩, ⟨#[92, 87]⟩, ⟨#[120, 42]⟩, ⟨#[40, 97, 40, 98, 41, 63, 41, 43]⟩, ⟨#[91, 65, 45, 67, 93]⟩, ⟨#[46]⟩]
def ssT : List ByteArray := [⟨#[]⟩, ⟨#[97]⟩, ⟨#[98]⟩, ⟨#[97, 98]⟩, ⟨#[97, 97, 98]⟩, ⟨#[97, 98, 99, 97, 98, 99]⟩, ⟨#[97, 88, 98, 65, 120]⟩, ⟨#[97, 32, 98, 10, 99]⟩]
def okR (p : List Int) : Bool := chkB p && ((compW p).2.1 == 0 && (compW p).2.2 == 0)
theorem okR_out {p : List Int} (h : okR p = true) : chkB p = true ∧ compW p = ((compW p).1, 0, 0) := by
  unfold okR at h
  simp only [Bool.and_eq_true, beq_iff_eq] at h
  exact ⟨h.1, by
    obtain ⟨h1, h2, h3⟩ := h
    rcases hX : compW p with ⟨a, b, c⟩
    rw [hX] at h2 h3
    dsimp only at h2 h3
    rw [h2, h3]⟩
set_option maxRecDepth 100000 in
theorem ok_all : (ssR.all fun s => okR (strL s)) = true := by kernel_rfl
theorem ok_zero : okR [0] = true := by kernel_rfl
theorem ok_at {i : Nat} (hi : i < ssR.length) : okR (strL (ssR[i]'hi)) = true := List.all_eq_true.1 ok_all _ (List.getElem_mem hi)
theorem ssR_all : (ssR.all fun s => decide (s.size ≤ 20)) = true := by kernel_rfl
theorem ssT_all : (ssT.all fun s => decide (s.size ≤ 20)) = true := by kernel_rfl
theorem ssR_size {i : Nat} (hi : i < ssR.length) : (ssR[i]'hi).size ≤ 20 := of_decide_eq_true (List.all_eq_true.1 ssR_all _ (List.getElem_mem hi))
theorem ssT_size {i : Nat} (hi : i < ssT.length) : (ssT[i]'hi).size ≤ 20 := of_decide_eq_true (List.all_eq_true.1 ssT_all _ (List.getElem_mem hi))
theorem StrAt.bel' {w w' : World} {b D : Nat} {ss : List ByteArray} (h : StrAt w b ss) (hb : Below D w w') (hD : b < D) : StrAt w' b ss := fun i hi => by
  rw [World.cell?_of_block (w := w) (w' := w') (a := ⟨b, i, none⟩) (hb.block b hD)]; exact h i hi
theorem StrAt.new' (w : World) (ss : List ByteArray) (T : TypeId) (cs : Array Value) (hcs : cs = (ss.map Value.string).toArray) (b : Nat) (hb : b = w.heap.size) : StrAt (w.alloc (.cells cs T)) b ss := by
  subst hb; exact StrAt.new w ss T cs hcs
theorem made_rune (w : World) (n : Nat) (T : TypeId) (hn : n ≤ 1001) : Sl (w.alloc (.cells (madeCells #[.int .i32 0] n) T)) (some ⟨w.heap.size, 0, none⟩) (List.replicate n 0) := by
  refine ⟨by simp; omega, fun z hz => by rw [(List.mem_replicate.1 hz).2]; omega, .inr ⟨w.heap.size, 0, rfl, fun j hj => ?_⟩⟩
  rw [List.length_replicate] at hj
  rw [Nat.zero_add, cell_alloc_new, show madeCells #[.int .i32 0] n = ((List.replicate n (0 : Int)).map (Value.int .i32)).toArray by
    apply Array.ext
    · simp [madeCells]
    · intro i h1 h2
      simp [madeCells, Nat.mod_one]]
  simp [hj, gt]
set_option maxRecDepth 20000 in
set_option maxHeartbeats 32000000 in
theorem mnumbers_w (W : World) : Calls Tryz.prog 3 #[] W fun e w' => e = .returned (.bool true) ∧ Below W.heap.size W w' := by
  have hR : ssR.length = 22 := rfl
  have hT : ssT.length = 8 := rfl
  have HR := hid hR
  have HT := hid hT
  clear hR hT
  go_enter Tryz.func3, Tryz.ntmps3
  go_wp2_with fail
  go_loopw [10] (fun iv wr => ∃ i : Nat, i ≤ 22 ∧ iv = .int .i64 i ∧ Hid (StrAt wr W.heap.size ssT) ∧ Hid (StrAt wr (W.heap.size + 1) ssR) ∧ Hid (Below W.heap.size W wr) ∧ W.heap.size + 1 < wr.heap.size) (fun iv _ => 22 - (intOf iv).toNat)
  case atStart =>
    refine ⟨0, by omega, rfl, hid ((StrAt.new W ssT _ _ rfl).bel' (D := W.heap.size + 1) ((Below.refl _ _).alloc (by simp) _) (by omega)), hid ?_, hid (by (repeat' (first | exact Below.refl _ _ | assumption | refine bdrewN ?_ _ | refine Below.drew ?_ | refine bal ?_ _ | refine bthen ?_ (by assumption)))), by simp⟩
    exact StrAt.new' _ ssR _ _ rfl _ (by simp)
  case round =>
    obtain ⟨i, hi, rfl, HTx, HS, HB, hz⟩ := hrel
    by_cases hi9 : i < 22
    · have hiP : i < ssR.length := by rw [HR.out]; exact hi9
      have ck := HS.out i hiP
      have hsz := ssR_size hiP
      have Hck := hid (ok_at hiP)
      have b1 : decide ((i : Int) < 22) = true := decide_eq_true (by omega)
      have W1 : IntKind.i64.wrap ((i : Int) + 1) = ((i + 1 : Nat) : Int) := by rw [IntKind.wrap_i64]; omega
      generalize ssR[i]'hiP = s at *
      go_wp2_with fail
      clear ck
      go_loopw [16] (fun jv w2 => ∃ j : Nat, j ≤ 8 ∧ jv = .int .i64 j ∧ Hid (Below wr.heap.size wr w2)) (fun jv _ => 8 - (intOf jv).toNat)
      case atStart => exact ⟨0, by omega, rfl, hid (Below.refl _ _)⟩
      case round =>
        rename World => w2
        obtain ⟨j, hj, rfl, HB2⟩ := hrel
        have hzz := HB2.out.size
        by_cases hj8 : j < 8
        · have hjQ : j < ssT.length := by rw [HT.out]; exact hj8
          have ck := (HTx.out.bel' HB2.out (by omega)) j hjQ
          have hsr := ssT_size hjQ
          have b2 : decide ((j : Int) < 8) = true := decide_eq_true (by omega)
          have W2 : IntKind.i64.wrap ((j : Int) + 1) = ((j + 1 : Nat) : Int) := by rw [IntKind.wrap_i64]; omega
          generalize ssT[j]'hjQ = r at *
          go_wp2_with fail
          clear ck
          go_loopw [6] (fun nv w3 => ∃ n : Nat, n ≤ r.size + 1 ∧ nv = .int .i64 n ∧ Hid (Below w2.heap.size w2 w3)) (fun nv _ => r.size + 1 - (intOf nv).toNat)
          case atStart => exact ⟨0, by omega, rfl, hid (Below.refl _ _)⟩
          case round =>
            rename World => w3
            obtain ⟨n, hn, rfl, HB3⟩ := hrel
            have z3 := HB3.out.size
            by_cases hn4 : n ≤ r.size
            · have b3 : decide ((n : Int) ≤ (r.size : Int)) = true := decide_eq_true (by omega)
              have b3' : decide (n ≤ r.size) = true := decide_eq_true hn4
              have W3 : IntKind.i64.wrap ((n : Int) + 1) = ((n + 1 : Nat) : Int) := by rw [IntKind.wrap_i64]; omega
              go_wp2_with fail
              refine (plain_c s w3 (by omega)).mono ?_
              rintro _ w4 ⟨a4, c4, P, rfl, hP, o4, b4⟩
              have hPl : P.length ≤ 20 := by rw [hP.out, strL_len]; exact hsz
              have hPc : P.length ≤ c4 := by rcases o4.shape with ⟨_, _, h⟩ | ⟨_, _, _, _, h⟩; simp [h]; exact h
              have O4 := hid o4
              have HP := hid hP.out
              have B4 := hid (HB3.out.trans (b4.mono z3))
              have z4 := b4.size
              clear hP o4 b4
              go_wp2_with fail
              refine (plain_c r w4 (by omega)).mono ?_
              rintro _ w5 ⟨a5, c5, T, rfl, hT, o5, b5⟩
              have hTl : T.length = r.size := by rw [hT.out, strL_len]
              have hTc : T.length ≤ c5 := by rcases o5.shape with ⟨_, _, h⟩ | ⟨_, _, _, _, h⟩; simp [h]; exact h
              have B5 := hid (B4.out.trans (b5.mono (by omega)))
              have z5 := b5.size
              have SC := hid (same10_w a4 c4 P a5 c5 T n false w5 (O4.out.grow b5).sl hPc o5.sl hTc (by omega) (by omega) (by omega) (by rw [HP.out]; exact (okR_out Hck.out).1) _ (by rw [HP.out]; exact (okR_out Hck.out).2))
              have HTl := hid hTl
              clear hT o5 b5 B4 O4 hTl
              go_wp2_with fail
              refine SC.out.mono ?_
              rintro _ w6 ⟨rfl, b6⟩
              have B6 := hid (B5.out.trans (b6.mono (by omega)))
              have z6 := b6.size
              clear b6 SC B5
              go_wp2_with fail
              refine (plain_c s w6 (by omega)).mono ?_
              rintro _ w7 ⟨a7, c7, P2, rfl, hP, o4, b4⟩
              have hPl2 : P2.length ≤ 20 := by rw [hP.out, strL_len]; exact hsz
              have hPc2 : P2.length ≤ c7 := by rcases o4.shape with ⟨_, _, h⟩ | ⟨_, _, _, _, h⟩; simp [h]; exact h
              have O7 := hid o4
              have HP2 := hid hP.out
              have B7 := hid (B6.out.trans (b4.mono (by omega)))
              have z7 := b4.size
              clear hP o4 b4 B6
              go_wp2_with fail
              refine (plain_c r w7 (by omega)).mono ?_
              rintro _ w8 ⟨a8, c8, T2, rfl, hT, o5, b5⟩
              have hTl2 : T2.length = r.size := by rw [hT.out, strL_len]
              have hTc2 : T2.length ≤ c8 := by rcases o5.shape with ⟨_, _, h⟩ | ⟨_, _, _, _, h⟩; simp [h]; exact h
              have B8 := hid (B7.out.trans (b5.mono (by omega)))
              have z8 := b5.size
              have SC := hid (same10_w a7 c7 P2 a8 c8 T2 n true w8 (O7.out.grow b5).sl hPc2 o5.sl hTc2 (by omega) (by omega) (by omega) (by rw [HP2.out]; exact (okR_out Hck.out).1) _ (by rw [HP2.out]; exact (okR_out Hck.out).2))
              have HTl2 := hid hTl2
              clear hT o5 b5 B7 O7 hTl2
              go_wp2_with fail
              refine SC.out.mono ?_
              rintro _ w9 ⟨rfl, b6⟩
              have B9 := hid (B8.out.trans (b6.mono (by omega)))
              clear b6 SC B8
              go_wp2_with fail
              go_roundw
              case rel => exact ⟨n + 1, by omega, by go_num, B9⟩
              case measure => simp [intOf]; omega
            · have b3 : decide ((n : Int) ≤ (r.size : Int)) = false := decide_eq_false (by omega)
              have b3' : decide (n ≤ r.size) = false := decide_eq_false hn4
              go_wp2_with fail
              go_roundw
              case rel => exact ⟨j + 1, by omega, by go_num, hid (HB2.out.trans (HB3.out.mono hzz))⟩
              case measure => simp [intOf]; omega
        · obtain rfl : j = 8 := by omega
          go_wp2_with fail
          go_roundw
          case rel => exact ⟨i + 1, by omega, by go_num, hid (HTx.out.bel' HB2.out (by omega)), hid (HS.out.bel' HB2.out hz), hid (HB.out.trans (HB2.out.mono (by omega))), by omega⟩
          case measure => simp [intOf]; omega
    · obtain rfl : i = 22 := by omega
      have y0 := HB.out.size
      have hmk1 := fun w' => run_make_row' (P := Tryz.prog) 24 21 (.int .i32 0) 4 Tryz.underlying24 (by kernel_rfl) rfl .i64 .i64 1001 (by omega) (by omega) w'
      have hmk2 := fun w' => run_make_row' (P := Tryz.prog) 24 21 (.int .i32 0) 4 Tryz.underlying24 (by kernel_rfl) rfl .i64 .i64 1000 (by omega) (by omega) w'
      have e1 : ((1001 : Nat) : Int) = 1001 := rfl
      have e2 : ((1000 : Nat) : Int) = 1000 := rfl
      simp only [e1] at hmk1
      simp only [e2] at hmk2
      obtain ⟨V1, hV1⟩ : ∃ V1, V1 = wr.alloc (.cells #[.int .i32 0] 21) := ⟨_, rfl⟩
      obtain ⟨V2, hV2⟩ : ∃ V2, V2 = V1.alloc (.cells (madeCells #[.int .i32 0] 1001) 21) := ⟨_, rfl⟩
      have zV1 : V1.heap.size = wr.heap.size + 1 := by subst hV1; simp
      have bV1 : Below wr.heap.size wr V1 := by subst hV1; (repeat' (first | exact Below.refl _ _ | assumption | refine bdrewN ?_ _ | refine Below.drew ?_ | refine bal ?_ _ | refine bthen ?_ (by assumption)))
      have bV2 : Below V1.heap.size V1 V2 := by subst hV2; (repeat' (first | exact Below.refl _ _ | assumption | refine bdrewN ?_ _ | refine Below.drew ?_ | refine bal ?_ _ | refine bthen ?_ (by assumption)))
      have s1 : Sl V1 (some ⟨wr.heap.size, 0, none⟩) [0] := by subst hV1; exact (Sl.lit' _ [0] _ _ (by simp) (by simp) (by simp [rng]) _ rfl)
      have s2 : Sl V2 (some ⟨wr.heap.size + 1, 0, none⟩) (List.replicate 1001 0) := by rw [← zV1, hV2]; exact made_rune V1 1001 _ (by decide)
      have B2 := hid (HB.out.trans ((bV1.trans (bV2.mono (by omega))).mono y0))
      have SC := same10_w (some ⟨wr.heap.size, 0, none⟩) 1 [0] (some ⟨wr.heap.size + 1, 0, none⟩) 1001 (List.replicate 1001 0) 0 false V2 (s1.bel bV2) (by decide) s2 (by simp) (by decide) (by simp) (by omega) (okR_out ok_zero).1 _ (okR_out ok_zero).2
      rw [List.length_replicate] at SC
      change Calls Tryz.prog 6 #[.slice (some ⟨wr.heap.size, 0, none⟩) 1 1, .slice (some ⟨wr.heap.size + 1, 0, none⟩) 1001 1001, .int .i64 0, .bool false] V2 _ at SC
      have SC := hid SC
      clear s1 s2 bV1 bV2
      go_wp2_with fail
      rw [← hV1, ← hV2]
      refine SC.out.mono ?_
      rintro _ w6 ⟨rfl, b6⟩
      have B6 := hid (B2.out.trans (b6.mono B2.out.size))
      have y6 := B6.out.size
      clear b6 SC B2 hV1 hV2 hmk1 zV1
      obtain ⟨V3, hV3⟩ : ∃ V3, V3 = w6.alloc (.cells #[.int .i32 0] 21) := ⟨_, rfl⟩
      obtain ⟨V4, hV4⟩ : ∃ V4, V4 = V3.alloc (.cells (madeCells #[.int .i32 0] 1000) 21) := ⟨_, rfl⟩
      have zV3 : V3.heap.size = w6.heap.size + 1 := by subst hV3; simp
      have bV3 : Below w6.heap.size w6 V3 := by subst hV3; (repeat' (first | exact Below.refl _ _ | assumption | refine bdrewN ?_ _ | refine Below.drew ?_ | refine bal ?_ _ | refine bthen ?_ (by assumption)))
      have bV4 : Below V3.heap.size V3 V4 := by subst hV4; (repeat' (first | exact Below.refl _ _ | assumption | refine bdrewN ?_ _ | refine Below.drew ?_ | refine bal ?_ _ | refine bthen ?_ (by assumption)))
      have s1 : Sl V3 (some ⟨w6.heap.size, 0, none⟩) [0] := by subst hV3; exact (Sl.lit' _ [0] _ _ (by simp) (by simp) (by simp [rng]) _ rfl)
      have s2 : Sl V4 (some ⟨w6.heap.size + 1, 0, none⟩) (List.replicate 1000 0) := by rw [← zV3, hV4]; exact made_rune V3 1000 _ (by decide)
      have B4 := hid (B6.out.trans ((bV3.trans (bV4.mono (by omega))).mono y6))
      have SC := same10_w (some ⟨w6.heap.size, 0, none⟩) 1 [0] (some ⟨w6.heap.size + 1, 0, none⟩) 1000 (List.replicate 1000 0) 0 false V4 (s1.bel bV4) (by decide) s2 (by simp) (by decide) (by simp) (by omega) (okR_out ok_zero).1 _ (okR_out ok_zero).2
      rw [List.length_replicate] at SC
      change Calls Tryz.prog 6 #[.slice (some ⟨w6.heap.size, 0, none⟩) 1 1, .slice (some ⟨w6.heap.size + 1, 0, none⟩) 1000 1000, .int .i64 0, .bool false] V4 _ at SC
      have SC := hid SC
      clear s1 s2 bV3 bV4
      go_wp2_with fail
      rw [← hV3, ← hV4]
      refine SC.out.mono ?_
      rintro _ w7 ⟨rfl, b7⟩
      have B7 := hid (B4.out.trans (b7.mono B4.out.size))
      clear b7 SC B4 hV3 hV4 hmk2 zV3
      go_wp2_with fail
      refine (known10_c w7).mono ?_
      rintro _ w8 ⟨rfl, b8⟩
      have B8 := hid (B7.out.trans (b8.mono B7.out.size))
      clear b8 B7
      go_wp2_with fail
      go_ret
      exact ⟨rfl, B8.out⟩
end Go.Proofs.YtefgjicegbhcaaaGreat
namespace Go.Proofs.YtefgjicegbhcaaaGreat
open Go.RowKit Go.ChangeShapes Go.WideShapes Go.ChangeAt

set_option maxRecDepth 100000 in
theorem rematchNumbers_core (H : Type) (enc : TypeId × Value → H) (W : World) (base : Nat) (args : Array Value) (ds gs : List (DataW H)) (before : List MemPlace)
    (hval0 : ∀ (j : Nat) t v, Tryz.f3.params[j]? = some t → args[j]? = some v → Value.okWide Tryz.prog W .any base t v)
    (hW : DataW.Whole enc Tryz.prog Tryz.f3.params.toList Rows.rematchNumbersSpec.vars false W args.toList ds gs before)
    (hsz0 : (DataW.weightsEach Tryz.prog (Tryz.f3.params.toList ++ Rows.rematchNumbersSpec.plain.varTypes Tryz.prog) (ds ++ gs)).all (· ≤ reachBytes) = true) :
    Calls Tryz.prog 3 args W fun e W' => ∃ v, e = .returned v ∧ Rows.rematchNumbersSpec.post enc Tryz.prog Tryz.f3 false true false false W args v W' := by
  have hW' := hW
  obtain ⟨p, q, hA0, hV, rfl, _, _⟩ := hW
  have hA : DataW.TrodAll enc Tryz.prog W 0 (fun _ => true) true Tryz.f3.params.toList args.toList ds p := hA0
  have hval := hval0
  rw [Tryz.params3] at hA hval
  obtain ⟨rfl, rfl⟩ := trodVars_none hV
  obtain ⟨hnil, rfl, rfl⟩ := trodAll_nil hA
  obtain rfl : args = #[] := by cases args; simp_all
  clear hsz0
  refine (mnumbers_w W).mono fun e W' ⟨he, hb⟩ => ?_
  subst he
  exact ⟨_, rfl, law_post hW' rfl rfl rfl (by rw [Tryz.params3]; intro t ht; simp at ht; skip) hb⟩

set_option maxRecDepth 100000 in
theorem rematchNumbers_lifted (os : Os) (started : os.Started) (H : Type) (enc : TypeId × Value → H) :
    ReturnsInHanded {} Tryz.checked os 3 .any (Rows.rematchNumbersSpec.pre6 enc Tryz.prog Tryz.f3 Rows.rematchNumbersRow.domain false) (Rows.rematchNumbersSpec.post enc Tryz.prog Tryz.f3 false true false false) := by
  refine returnsInHanded_of_change_sized (C := Tryz.checked) Tryz.own started (by kernel_rfl) Tryz.func3
    (ChangeSpec.witness6 (enc := enc) (C := Tryz.checked) false ⟨#[], #[], []⟩ 8 (by kernel_rfl) (by kernel_rfl) (by kernel_rfl) (by kernel_rfl)) ?_
  intro W base args ds gs before hval hW _ hsz _
  exact rematchNumbers_core H enc W base args ds gs before hval hW hsz
theorem rematchNumbers_holds : Rows.RematchNumbersSaid :=
  OpenClaim.holds_of_wide 3 Tryz.f3 rfl rfl rfl rfl rfl rfl rfl ⟨rfl, rfl, rfl, rfl, rfl⟩ rfl rfl rfl rfl rfl (by kernel_rfl) Tryz.func3 (by kernel_rfl)
    (of_decide_eq_true (by kernel_rfl)) (by unfold Func.isWrapper; rw [if_neg (of_decide_eq_false (by kernel_rfl))]; exact ⟨rfl, rfl⟩)
    (fun os started H enc _ => rematchNumbers_lifted os started H enc)
end Go.Proofs.YtefgjicegbhcaaaGreat
