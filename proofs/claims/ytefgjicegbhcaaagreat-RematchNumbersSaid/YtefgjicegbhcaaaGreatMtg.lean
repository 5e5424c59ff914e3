/- Layer 10 in memory: follow of a search. -/
import Derived.Test.YtefgjicegbhcaaaGreatMtA
import Derived.Deep.CutBlock
import Derived.Deep.DeepCutAuto
namespace Go.Proofs.YtefgjicegbhcaaaGreat
open Go.RowKit ReM

abbrev Fx.mc (x : Fx) : ReM.Mc := mch (inss x.L) x.t x.fold
/-- what a call on the search leaves -/
def FollowP (w0 : World) (x : Fx) (y : Sx) (S0 : List Pa) (v0 : Vis) (c0 : Nat) (e' : Ending) (w' : World) : Prop :=
  ∃ b R ua uc U la lc S V, e' = .returned (.bool b) ∧ Srch w0 w' x y R ua uc U la lc S V ∧
    (b = true → ∃ p T v, Run x.mc S0 v0 (p :: T) v ∧ v p.i p.a = false ∧ (igt (inss x.L) p.i).op = 6 ∧ p.r = R) ∧
    (b = false → ∃ v, Inv x R U S V v ∧ Run x.mc S0 v0 (absS U R S) v ∧ 2 * unv (nN x) V + S.length ≤ c0)
/-- an instruction at its place in the program -/
theorem prog_at {w : World} {M : Nat} {pa : Option Addr} {pc : Nat} {L : List Im} {G : Nat} {fold : Bool} (h : Mt w M pa pc L G fold) {i : Nat} (hi : i < L.length) :
    ∃ pb po, pa = some ⟨pb, po, none⟩ ∧ w.cell? ⟨pb, po + i * 5, none⟩ = some (.int .i64 (rgt L i).op) ∧ w.cell? ⟨pb, po + i * 5 + 1, none⟩ = some (.int .i64 (rgt L i).x) ∧ w.cell? ⟨pb, po + i * 5 + 2, none⟩ = some (.int .i64 (rgt L i).y) ∧ w.cell? ⟨pb, po + i * 5 + 3, none⟩ = some (.bool (rgt L i).not) ∧ w.cell? ⟨pb, po + i * 5 + 4, none⟩ = some (.slice (rgt L i).sa (rgt L i).set.length (rgt L i).sc) := by
  obtain ⟨pb, po, e, hc⟩ := h.prog.at hi
  have := rec_in (hc i hi)
  exact ⟨pb, po, e, this⟩
theorem ok_in {P : List Ins} {s : List Int} {fold : Bool} {i a : Nat} {q : Ins} (ha : a < s.length) (hq : igt P i = q) : (mch P s fold).ok i a = inW fold q (gt s a) := by
  show (decide (a < s.length) && inW fold (igt P i) (gt s a)) = _
  rw [decide_eq_true ha, hq]; rfl
theorem ok_out {P : List Ins} {s : List Int} {fold : Bool} {i a : Nat} (ha : ¬ a < s.length) : (mch P s fold).ok i a = false := by
  show (decide (a < s.length) && inW fold (igt P i) (gt s a)) = _
  rw [decide_eq_false ha]; rfl
/-- a step of the machine, its ways said -/
theorem ReM.Run.on {m : ReM.Mc} {i a : Nat} {R : List Int} {T : List Pa} {S0 : List Pa} {v0 vis : Vis} {q : Ins} (h : Run m S0 v0 (⟨i, a, R⟩ :: T) vis) (hv : vis i a = false) (hq : igt m.P i = q) (h6 : q.op ≠ 6) {L : List Pa} (hs : succs m ⟨i, a, R⟩ = L) : Run m S0 v0 (L ++ T) (ReM.mark vis i a) := by
  have := h.trans (Run.step (p := ⟨i, a, R⟩) hv (by rw [hq]; exact h6))
  rw [hs] at this
  exact this
set_option maxRecDepth 20000 in
set_option maxHeartbeats 60000000 in
theorem follow_c (w0 w : World) (x : Fx) (y : Sx) (R : List Int) (ua : Option Addr) (uc : Nat) (U : List RcM) (la : Option Addr) (lc : Nat) (S : List PaM) (V : List Nat) (vis : Vis) (h : Srch w0 w x y R ua uc U la lc S V) (f : FxOk w0 x) (hP : PgOk (inss x.L) x.G)
    (hI : Inv x R U S V vis) (i a : Nat) (hi : i < x.L.length) (ha : a ≤ x.t.length) (S0 : List Pa) (v0 : Vis) (c0 : Nat) (hR : Run x.mc S0 v0 (⟨i, a, R⟩ :: absS U R S) vis) (hc : 2 * unv (nN x) V + S.length ≤ c0) :
    Calls Tryz.prog 77 #[.pointer (some ⟨y.r, 0, none⟩), .int .i64 i, .int .i64 a] w (FollowP w0 x y S0 v0 c0) := by
  obtain ⟨r, hr⟩ : ∃ r, r = y.r := ⟨_, rfl⟩
  obtain ⟨n, hn⟩ : ∃ n, n = x.t.length := ⟨_, rfl⟩
  obtain ⟨ln, hln⟩ : ∃ n, n = x.L.length := ⟨_, rfl⟩
  have Hr := hid hr
  have Hn := hid hn
  have Hln := hid hln
  have HF := hid f
  have HP := hid hP
  have tl : n ≤ 1000 := by rw [hn]; exact f.tl
  have ll : ln ≤ 300 := by rw [hln]; exact f.Ll
  have H0 := hid h
  have HI0 := hid hI
  have HR0 := hid hR
  have HC0 := hid hc
  rw [← hn] at ha
  rw [← hln] at hi
  show Calls Tryz.prog 77 #[.pointer (some ⟨y.r, 0, none⟩), .int .i64 i, .int .i64 a] w _
  rw [← hr]
  clear h f hP hI hR hc hr hn hln
  go_enter Tryz.func77, Tryz.ntmps77
  go_wp2_with fail
  go_loopg [1, 2, 7] (unv (nN x) V) (fun g iv av _ wr => ∃ (i a : Nat) (R : List Int) (ua : Option Addr) (uc : Nat) (U : List RcM) (la : Option Addr) (lc : Nat) (S : List PaM) (V : List Nat) (vis : Vis), g = unv (nN x) V ∧ iv = .int .i64 i ∧ av = .int .i64 a ∧ i < ln ∧ a ≤ n ∧
    Hid (Srch w0 wr x y R ua uc U la lc S V) ∧ Hid (Inv x R U S V vis) ∧ Hid (Run x.mc S0 v0 (⟨i, a, R⟩ :: absS U R S) vis) ∧ Hid (2 * unv (nN x) V + S.length ≤ c0))
  case atStart => exact ⟨i, a, R, ua, uc, U, la, lc, S, V, vis, rfl, rfl, rfl, hi, ha, H0, HI0, HR0, HC0⟩
  case round =>
    clear H0 HI0 HR0 HC0 hi ha
    obtain ⟨i, a, R, ua, uc, U, la, lc, S, V, vis, rfl, rfl, rfl, hi, ha, H1, HI, HRn, HC⟩ := hrel
    have hi' : i < x.L.length := by rw [← Hln.out]; exact hi
    have ha' : a ≤ x.t.length := by rw [← Hn.out]; exact ha
    have RC := reach_c w0 wr x y R ua uc U la lc S V H1.out HF.out HI.out.Vw i a (by omega) (by omega) (HI.out.word hi' ha')
    unfold ReachP at RC
    rw [HI.out.Vv i a hi' ha', ← Hr.out] at RC
    have HRC := hid RC
    clear RC
    cases hv : vis i a with
    | true =>
      have RC := HRC.out
      rw [hv] at RC
      have M1 := hid (HI.out.mark_old hi' ha' hv)
      have hpop := hid (HRn.out.trans (Run.pop (m := x.mc) (p := ⟨i, a, R⟩) (S := absS U R S) hv))
      have HRC := hid RC
      clear RC hv hi' ha'
      go_wp2_with fail
      refine HRC.out.mono ?_
      rintro _ w1 ⟨rfl, h1⟩
      have H2 := hid h1
      clear h1
      go_wp2_with fail
      go_ret
      exact ⟨false, R, ua, uc, U, la, lc, S, _, rfl, H2.out.same (by (repeat' (first | exact Below.refl _ _ | assumption | refine bdrewN ?_ _ | refine Below.drew ?_ | refine Below.setCell ?_ (Nat.le_refl _) _ | refine bal ?_ _ | refine bthen ?_ (by assumption)))), (fun h => by cases h), fun _ => ⟨vis, M1.out.1, hpop.out, by rw [M1.out.2]; exact HC.out⟩⟩
    | false =>
      have RC := HRC.out
      rw [hv] at RC
      have M1 := hid (HI.out.mark hi' ha' hv)
      have HRC := hid RC
      obtain ⟨V1, hV1⟩ : ∃ V1, V1 = setb V (numS x.t.length i a) := ⟨_, rfl⟩
      rw [← hV1] at HRC M1
      clear RC hV1
      go_wp2_with fail
      refine HRC.out.mono ?_
      rintro _ w1 ⟨rfl, h1⟩
      have H2 := hid h1
      have mt := (H2.out.fx HF.out).mt
      obtain ⟨pb, po, hpa, p0, p1, p2, p3, p4⟩ := prog_at mt hi'
      have m0 := mt.c0
      have k0 := H2.out.c0
      rw [hpa, ← Hln.out] at m0
      rw [← Hr.out] at k0
      have HQ := hid (show igt (inss x.L) i = (rgt x.L i).ins from igt_inss hi')
      have hset := hid (mt.sets (rgt x.L i) (rgt_mem hi'))
      obtain ⟨q, hq⟩ : ∃ q, q = rgt x.L i := ⟨_, rfl⟩
      rw [← hq] at p0 p1 p2 p3 p4 HQ hset
      obtain ⟨op, qx, qy, qn, sa, set, sc⟩ := q
      change World.cell? _ _ = some (.int .i64 op) at p0
      change World.cell? _ _ = some (.int .i64 qx) at p1
      change World.cell? _ _ = some (.int .i64 qy) at p2
      change World.cell? _ _ = some (.bool qn) at p3
      change World.cell? _ _ = some (.slice sa set.length sc) at p4
      change Hid (igt (inss x.L) i = ⟨op, qx, qy, qn, set⟩) at HQ
      change Hid (Sl w1 sa set) at hset
      have zi : (i : Int) < (ln : Int) := by omega
      have zi0 : (0 : Int) ≤ (i : Int) := by omega
      have e1 : IntKind.i64.wrap ((i : Int) + 1) = ((i + 1 : Nat) : Int) := by rw [IntKind.wrap_i64]; omega
      obtain ⟨W, hW⟩ : ∃ W, W = w1.alloc (.cells #[.int .i64 op, .int .i64 qx, .int .i64 qy, .bool qn, .slice sa set.length sc] 121) := ⟨_, rfl⟩
      have bW : Below w1.heap.size w1 W := by subst hW; (repeat' (first | exact Below.refl _ _ | assumption | refine bdrewN ?_ _ | refine Below.drew ?_ | refine bal ?_ _ | refine bthen ?_ (by assumption)))
      have hcW : ∀ j, W.cell? ⟨w1.heap.size, j, none⟩ = #[Value.int .i64 op, .int .i64 qx, .int .i64 qy, .bool qn, .slice sa set.length sc][j]? := fun j => by subst hW; rw [cell_alloc_new]
      have d0 := hcW 0
      have d1 := hcW 1
      have d2 := hcW 2
      have d3 := hcW 3
      have d4 := hcW 4
      simp at d0 d1 d2 d3 d4
      have H3 := hid (H2.out.same bW)
      have hset3 := hid (hset.out.bel bW)
      have hnb : Hid (¬ Blk la w1.heap.size) := hid fun hb => by have := (H2.out.lef.lt hb).2; omega
      have hrn0 : Hid (r ≠ w1.heap.size) := hid (by have := H2.out.rl; rw [← Hr.out] at this; omega)
      clear h1 mt hq hpa hcW bW
      have cnt := hid (show 2 * unv (nN x) V1 + S.length + 2 ≤ c0 from by have := M1.out.2; have := HC.out; omega)
      have hms := hid (show unv (nN x) V1 < unv (nN x) V from by have := M1.out.2; omega)
      have hop : 0 ≤ op ∧ op ≤ 6 := by have := HP.out.op i (by rw [inss_len]; exact hi'); rw [HQ.out] at this; exact this
      have Hi := hid hi'
      have Ha := hid ha'
      have Hv := hid hv
      clear hi' ha' hv
      go_upto_region 4 with fail
      rw [← hW]
      clear hW p0 p1 p2 p3 p4 m0 k0 hset H2 HRC
      obtain rfl | rfl | rfl | rfl | rfl | rfl | rfl : op = 0 ∨ op = 1 ∨ op = 2 ∨ op = 3 ∨ op = 4 ∨ op = 5 ∨ op = 6 := by omega
      · have HI2 : Hid (i + 1 < ln) := hid (by have := HP.out.next i (by rw [inss_len]; exact Hi.out) (by rw [HQ.out]; show (0 : Int) ≠ 6; decide); rw [inss_len, ← Hln.out] at this; exact this)
        have hse := HP.out.set i (by rw [inss_len]; exact Hi.out) (by rw [HQ.out])
        rw [HQ.out] at hse
        have HSE : Hid (set.length % 2 = 0) := hse
        have c0 := H3.out.c0
        have c1 := H3.out.c1
        rw [← Hr.out] at c0
        rw [← Hr.out, ← Hn.out] at c1
        by_cases han : a = n
        · have b0 : ((a : Int) == (n : Int)) = true := by rw [beq_iff_eq]; omega
          have b1 : (a == n) = true := by simpa using han
          have HRN := hid (HRn.out.on Hv.out HQ.out (by show (0 : Int) ≠ 6; decide) (L := []) (by simp only [succs]; rw [show igt x.mc.P i = _ from HQ.out, show x.mc.ok i a = false from ok_out (by rw [← Hn.out]; omega)]; rfl))
          clear hop han hse
          as_aux_lemma =>
          go_upto_region 6 with fail
          go_quiet (fail)
          go_wp2_with fail
          go_ret
          exact ⟨false, R, ua, uc, U, la, lc, S, V1, rfl, H3.out.same (by (repeat' (first | exact Below.refl _ _ | assumption | refine bdrewN ?_ _ | refine Below.drew ?_ | refine Below.setCell ?_ (Nat.le_refl _) _ | refine bal ?_ _ | refine bthen ?_ (by assumption)))), (fun h => by cases h), fun _ => ⟨_, M1.out.1, HRN.out, by have := cnt.out; omega⟩⟩
        · have b0 : ((a : Int) == (n : Int)) = false := by rw [beq_eq_false_iff_ne]; omega
          have b1 : (a == n) = false := by simpa using han
          have han2 : a < x.t.length := by rw [← Hn.out]; omega
          have fx3 := H3.out.fx HF.out
          obtain ⟨tb, tof, hta, htc⟩ := fx3.text.at han2
          have t0 := htc a han2
          have hrg := hid (rng_gt fx3.text.rng han2)
          rw [hta] at c1
          obtain ⟨e, he⟩ : ∃ e, e = gt x.t a := ⟨_, rfl⟩
          rw [← he] at t0 hrg
          obtain ⟨b, hb⟩ : ∃ b, b = inW x.fold ⟨0, qx, qy, qn, set⟩ e := ⟨_, rfl⟩
          have hok := hid (show x.mc.ok i a = b from by rw [hb, he]; exact ok_in han2 HQ.out)
          have f2 := fx3.mt.c2
          have IC := hid (fun w' (bw : Below W.heap.size W w') => inset_c r x.M ⟨0, qx, qy, qn, set⟩ sa sc e w' x.fold ((bw.cell (World.block_lt_of_cell? W _ c0)).trans c0) ((bw.cell (World.block_lt_of_cell? W _ f2)).trans f2) (hset3.out.bel bw) HSE.out hrg.out)
          rw [← hb] at IC
          have KX := hid (fun w' (bw : Below W.heap.size W w') => show w'.cell? ⟨r, 1, none⟩ = some (.slice (some ⟨tb, tof, none⟩) n x.tc) ∧ w'.cell? ⟨tb, tof + a, none⟩ = some (.int .i32 e) ∧ w'.cell? ⟨w1.heap.size, 0, none⟩ = some (.int .i64 0) ∧ w'.cell? ⟨w1.heap.size, 1, none⟩ = some (.int .i64 qx) ∧ w'.cell? ⟨w1.heap.size, 2, none⟩ = some (.int .i64 qy) ∧ w'.cell? ⟨w1.heap.size, 3, none⟩ = some (.bool qn) ∧ w'.cell? ⟨w1.heap.size, 4, none⟩ = some (.slice sa set.length sc) from
            ⟨(bw.cell (World.block_lt_of_cell? W _ c1)).trans c1, (bw.cell (World.block_lt_of_cell? W _ t0)).trans t0, (bw.cell (World.block_lt_of_cell? W _ d0)).trans d0, (bw.cell (World.block_lt_of_cell? W _ d1)).trans d1, (bw.cell (World.block_lt_of_cell? W _ d2)).trans d2, (bw.cell (World.block_lt_of_cell? W _ d3)).trans d3, (bw.cell (World.block_lt_of_cell? W _ d4)).trans d4⟩)
          have za : (a : Int) < (n : Int) := by omega
          have za0 : (0 : Int) ≤ (a : Int) := by omega
          have e2 : IntKind.i64.wrap ((a : Int) + 1) = ((a + 1 : Nat) : Int) := by rw [IntKind.wrap_i64]; omega
          clear hb he htc fx3 hta c0 f2 hop hse han2
          cases b with
          | true =>
            have HRN := hid (HRn.out.on Hv.out HQ.out (by show (0 : Int) ≠ 6; decide) (L := [⟨i + 1, a + 1, R⟩]) (by simp only [succs]; rw [show igt x.mc.P i = _ from HQ.out, hok.out]; rfl))
            clear han
            as_aux_lemma =>
            go_upto_region 6 with fail
            have kk := KX.out W.drew (by (repeat' (first | exact Below.refl _ _ | assumption | refine bdrewN ?_ _ | refine Below.drew ?_ | refine Below.setCell ?_ (Nat.le_refl _) _ | refine bal ?_ _ | refine bthen ?_ (by assumption))))
            obtain ⟨l0, l1, l2, l3, l4, l5, l6⟩ := kk
            go_region_held3 (fun w' => w'.cell? ⟨r, 1, none⟩ = some (.slice (some ⟨tb, tof, none⟩) n x.tc) ∧ w'.cell? ⟨tb, tof + a, none⟩ = some (.int .i32 e) ∧ w'.cell? ⟨w1.heap.size, 0, none⟩ = some (.int .i64 0) ∧ w'.cell? ⟨w1.heap.size, 1, none⟩ = some (.int .i64 qx) ∧ w'.cell? ⟨w1.heap.size, 2, none⟩ = some (.int .i64 qy) ∧ w'.cell? ⟨w1.heap.size, 3, none⟩ = some (.bool qn) ∧ w'.cell? ⟨w1.heap.size, 4, none⟩ = some (.slice sa set.length sc)) (first | (with_reducible assumption) | exact ⟨by with_reducible assumption, by with_reducible assumption, by with_reducible assumption, by with_reducible assumption, by with_reducible assumption, by with_reducible assumption, by with_reducible assumption⟩)
              (first | (go_at_call 103; refine (IC.out _ (by (repeat' (first | exact Below.refl _ _ | assumption | refine bdrewN ?_ _ | refine Below.drew ?_ | refine Below.setCell ?_ (Nat.le_refl _) _ | refine bal ?_ _ | refine bthen ?_ (by assumption))))).mono ?_; rintro e' v1 ⟨rfl, hb1⟩; have hx1 : Below W.heap.size W v1 := bthen (by (repeat' (first | exact Below.refl _ _ | assumption | refine bdrewN ?_ _ | refine Below.drew ?_ | refine Below.setCell ?_ (Nat.le_refl _) _ | refine bal ?_ _ | refine bthen ?_ (by assumption)))) hb1; have kk := KX.out _ hx1; obtain ⟨o0, o1, o2, o3, o4, o5, o6⟩ := kk))
            all_goals
              clear c1 t0 d0 d1 d2 d3 d4 l0 l1 l2 l3 l4 l5 l6 o0 o1 o2 o3 o4 o5 o6
              go_wp2_with fail
              go_roundg (unv (nN x) V1)
              case measure => exact hms.out
              case rel => exact ⟨i + 1, a + 1, R, ua, uc, U, la, lc, S, V1, _, rfl, by go_num, by go_num, HI2.out, by omega, H3.out.same (by (repeat' (first | exact Below.refl _ _ | assumption | refine bdrewN ?_ _ | refine Below.drew ?_ | refine Below.setCell ?_ (Nat.le_refl _) _ | refine bal ?_ _ | refine bthen ?_ (by assumption)))), M1.out.1, HRN, hid (by have := cnt.out; omega)⟩
          | false =>
            have HRN := hid (HRn.out.on Hv.out HQ.out (by show (0 : Int) ≠ 6; decide) (L := []) (by simp only [succs]; rw [show igt x.mc.P i = _ from HQ.out, hok.out]; rfl))
            clear han
            as_aux_lemma =>
            go_upto_region 6 with fail
            have kk := KX.out W.drew (by (repeat' (first | exact Below.refl _ _ | assumption | refine bdrewN ?_ _ | refine Below.drew ?_ | refine Below.setCell ?_ (Nat.le_refl _) _ | refine bal ?_ _ | refine bthen ?_ (by assumption))))
            obtain ⟨l0, l1, l2, l3, l4, l5, l6⟩ := kk
            go_region_held3 (fun w' => w'.cell? ⟨r, 1, none⟩ = some (.slice (some ⟨tb, tof, none⟩) n x.tc) ∧ w'.cell? ⟨tb, tof + a, none⟩ = some (.int .i32 e) ∧ w'.cell? ⟨w1.heap.size, 0, none⟩ = some (.int .i64 0) ∧ w'.cell? ⟨w1.heap.size, 1, none⟩ = some (.int .i64 qx) ∧ w'.cell? ⟨w1.heap.size, 2, none⟩ = some (.int .i64 qy) ∧ w'.cell? ⟨w1.heap.size, 3, none⟩ = some (.bool qn) ∧ w'.cell? ⟨w1.heap.size, 4, none⟩ = some (.slice sa set.length sc)) (first | (with_reducible assumption) | exact ⟨by with_reducible assumption, by with_reducible assumption, by with_reducible assumption, by with_reducible assumption, by with_reducible assumption, by with_reducible assumption, by with_reducible assumption⟩)
              (first | (go_at_call 103; refine (IC.out _ (by (repeat' (first | exact Below.refl _ _ | assumption | refine bdrewN ?_ _ | refine Below.drew ?_ | refine Below.setCell ?_ (Nat.le_refl _) _ | refine bal ?_ _ | refine bthen ?_ (by assumption))))).mono ?_; rintro e' v1 ⟨rfl, hb1⟩; have hx1 : Below W.heap.size W v1 := bthen (by (repeat' (first | exact Below.refl _ _ | assumption | refine bdrewN ?_ _ | refine Below.drew ?_ | refine Below.setCell ?_ (Nat.le_refl _) _ | refine bal ?_ _ | refine bthen ?_ (by assumption)))) hb1; have kk := KX.out _ hx1; obtain ⟨o0, o1, o2, o3, o4, o5, o6⟩ := kk))
            all_goals
              clear c1 t0 d0 d1 d2 d3 d4 l0 l1 l2 l3 l4 l5 l6 o0 o1 o2 o3 o4 o5 o6
              go_wp2_with fail
              go_ret
              exact ⟨false, R, ua, uc, U, la, lc, S, V1, rfl, H3.out.same (by (repeat' (first | exact Below.refl _ _ | assumption | refine bdrewN ?_ _ | refine Below.drew ?_ | refine Below.setCell ?_ (Nat.le_refl _) _ | refine bal ?_ _ | refine bthen ?_ (by assumption)))), (fun h => by cases h), fun _ => ⟨_, M1.out.1, HRN.out, by have := cnt.out; omega⟩⟩
      · have HI2 : Hid (a = 0 → i + 1 < ln) := hid fun _ => by have := HP.out.next i (by rw [inss_len]; exact Hi.out) (by rw [HQ.out]; show (1 : Int) ≠ 6; decide); rw [inss_len, ← Hln.out] at this; exact this
        by_cases ha0 : a = 0
        · subst ha0
          have hi2 := HI2.out rfl
          have HRN := hid (HRn.out.on Hv.out HQ.out (by show (1 : Int) ≠ 6; decide) (L := [⟨i + 1, 0, R⟩]) (by simp only [succs]; rw [show igt x.mc.P i = _ from HQ.out]; rfl))
          clear hop
          as_aux_lemma =>
          go_wp2_with fail
          go_roundg (unv (nN x) V1)
          case measure => exact hms.out
          case rel => exact ⟨i + 1, 0, R, ua, uc, U, la, lc, S, V1, _, rfl, by go_num, rfl, hi2, by omega, H3.out.same (by (repeat' (first | exact Below.refl _ _ | assumption | refine bdrewN ?_ _ | refine Below.drew ?_ | refine Below.setCell ?_ (Nat.le_refl _) _ | refine bal ?_ _ | refine bthen ?_ (by assumption)))), M1.out.1, HRN, hid (by have := cnt.out; omega)⟩
        · have b0 : ((a : Int) != 0) = true := by simpa using ha0
          have HRN := hid (HRn.out.on Hv.out HQ.out (by show (1 : Int) ≠ 6; decide) (L := []) (by simp only [succs]; rw [show igt x.mc.P i = _ from HQ.out]; simp [ha0]))
          clear hop ha0
          as_aux_lemma =>
          go_wp2_with fail
          go_ret
          exact ⟨false, R, ua, uc, U, la, lc, S, V1, rfl, H3.out.same (by (repeat' (first | exact Below.refl _ _ | assumption | refine bdrewN ?_ _ | refine Below.drew ?_ | refine Below.setCell ?_ (Nat.le_refl _) _ | refine bal ?_ _ | refine bthen ?_ (by assumption)))), (fun h => by cases h), fun _ => ⟨_, M1.out.1, HRN.out, by have := cnt.out; omega⟩⟩
      · have HI2 : Hid (i + 1 < ln) := hid (by have := HP.out.next i (by rw [inss_len]; exact Hi.out) (by rw [HQ.out]; show (2 : Int) ≠ 6; decide); rw [inss_len, ← Hln.out] at this; exact this)
        have c1 := H3.out.c1
        rw [← Hr.out, ← Hn.out] at c1
        by_cases han : a = n
        · have b0 : ((a : Int) != (n : Int)) = false := by rw [bne_eq_false_iff_eq]; omega
          have b1 : (a != n) = false := by simpa using han
          have HRN := hid (HRn.out.on Hv.out HQ.out (by show (2 : Int) ≠ 6; decide) (L := [⟨i + 1, a, R⟩]) (by simp only [succs]; rw [show igt x.mc.P i = _ from HQ.out]; simp only [show x.mc.n = x.t.length from rfl]; rw [← Hn.out, if_pos han]; rfl))
          have hi2 := HI2.out
          clear hop han
          as_aux_lemma =>
          go_wp2_with fail
          go_roundg (unv (nN x) V1)
          case measure => exact hms.out
          case rel => exact ⟨i + 1, a, R, ua, uc, U, la, lc, S, V1, _, rfl, by go_num, rfl, hi2, ha, H3.out.same (by (repeat' (first | exact Below.refl _ _ | assumption | refine bdrewN ?_ _ | refine Below.drew ?_ | refine Below.setCell ?_ (Nat.le_refl _) _ | refine bal ?_ _ | refine bthen ?_ (by assumption)))), M1.out.1, HRN, hid (by have := cnt.out; omega)⟩
        · have b0 : ((a : Int) != (n : Int)) = true := by rw [bne_iff_ne]; omega
          have b1 : (a != n) = true := by simpa using han
          have HRN := hid (HRn.out.on Hv.out HQ.out (by show (2 : Int) ≠ 6; decide) (L := []) (by simp only [succs]; rw [show igt x.mc.P i = _ from HQ.out]; simp only [show x.mc.n = x.t.length from rfl]; rw [← Hn.out, if_neg han]; rfl))
          clear hop han
          as_aux_lemma =>
          go_wp2_with fail
          go_ret
          exact ⟨false, R, ua, uc, U, la, lc, S, V1, rfl, H3.out.same (by (repeat' (first | exact Below.refl _ _ | assumption | refine bdrewN ?_ _ | refine Below.drew ?_ | refine Below.setCell ?_ (Nat.le_refl _) _ | refine bal ?_ _ | refine bthen ?_ (by assumption)))), (fun h => by cases h), fun _ => ⟨_, M1.out.1, HRN.out, by have := cnt.out; omega⟩⟩
      · have hi2 := HP.out.next i (by rw [inss_len]; exact Hi.out) (by rw [HQ.out]; show (3 : Int) ≠ 6; decide)
        have hsv := HP.out.save i (by rw [inss_len]; exact Hi.out) (by rw [HQ.out])
        rw [HQ.out] at hsv
        change 0 ≤ qx ∧ qx ≤ 2 * (x.G : Int) + 1 at hsv
        rw [inss_len, ← Hln.out] at hi2
        obtain ⟨sx, rfl⟩ : ∃ sx : Nat, qx = sx := ⟨qx.toNat, by omega⟩
        have hRl := HI.out.Rl
        have hG := HF.out.G9
        have hN : nN x ≤ 300 * 1001 := Nat.mul_le_mul HF.out.Ll (by have := HF.out.tl; omega)
        have hU : U.length + unv (nN x) V ≤ nN x := HI.out.Uc
        have hs : sx < R.length := by omega
        have HRN := hid (HRn.out.on Hv.out HQ.out (by show (3 : Int) ≠ 6; decide) (L := [⟨i + 1, a, R.set sx a⟩]) (by simp only [succs]; rw [show igt x.mc.P i = _ from HQ.out]; rfl))
        have HIr := hid (M1.out.1.record (a := a) hs (by omega) (by have := M1.out.2; omega))
        have hab := hid (absS_record (U := U) (S := S) (a : Int) hs fun e he => (HI.out.Ss e he).2.2)
        have RC := record_c w0 W x y R ua uc U la lc S V1 H3.out sx a hs (by omega) (by omega) (by omega)
        rw [← Hr.out] at RC
        have HRC := hid RC
        clear hop hsv hRl hG hN hU hs RC
        as_aux_lemma =>
        go_wp2_with fail
        refine HRC.out.mono ?_
        rintro _ w4 ⟨rfl, ua4, uc4, h4⟩
        have H4 := hid h4
        clear h4
        go_wp2_with fail
        go_roundg (unv (nN x) V1)
        case measure => exact hms.out
        case rel => exact ⟨i + 1, a, R.set sx a, ua4, uc4, U ++ ([⟨sx, gt R sx⟩] : List RcM), la, lc, S, V1, _, rfl, by go_num, rfl, hi2, ha, H4.out.same (by (repeat' (first | exact Below.refl _ _ | assumption | refine bdrewN ?_ _ | refine Below.drew ?_ | refine Below.setCell ?_ (Nat.le_refl _) _ | refine bal ?_ _ | refine bthen ?_ (by assumption)))), HIr.out, by rw [hab.out]; exact HRN, hid (by have := cnt.out; omega)⟩
      · have hsp := HP.out.split i (by rw [inss_len]; exact Hi.out) (by rw [HQ.out])
        rw [HQ.out, inss_len, ← Hln.out] at hsp
        change 0 ≤ qx ∧ qx < (ln : Int) ∧ 0 ≤ qy ∧ qy < (ln : Int) at hsp
        obtain ⟨sx, rfl⟩ : ∃ sx : Nat, qx = sx := ⟨qx.toNat, by omega⟩
        obtain ⟨sy, rfl⟩ : ∃ sy : Nat, qy = sy := ⟨qy.toNat, by omega⟩
        have hN : nN x ≤ 300 * 1001 := Nat.mul_le_mul HF.out.Ll (by have := HF.out.tl; omega)
        have hSc : S.length + unv (nN x) V ≤ nN x + 1 := HI.out.Sc
        have HS5 := hid (show S.length ≤ 300301 from by omega)
        have HRN := hid (HRn.out.on Hv.out HQ.out (by show (4 : Int) ≠ 6; decide) (L := [⟨sx, a, R⟩, ⟨sy, a, R⟩]) (by simp only [succs]; rw [show igt x.mc.P i = _ from HQ.out]; rfl))
        have HIp := hid (M1.out.1.push (i := sy) (a := a) (by rw [← Hln.out]; omega) Ha.out (by have := M1.out.2; omega))
        have hab := hid (absS_push U R S sy a)
        have z3 := H3.out.c3
        have z4 := H3.out.c4
        have fz4 := H3.out.fz 4
        have hrl := H3.out.rl
        rw [← Hr.out] at z3 z4 fz4 hrl
        have nbr : ¬ Blk la r := fun hb => by have := (H3.out.lef.lt hb).1; rw [← Hr.out] at this; omega
        have KN := hid (fun w' (k : Kpt (Blk la) W w') => show w'.cell? ⟨r, 4, none⟩ = some (.slice la S.length lc) ∧ w'.frozen? ⟨r, 4, none⟩ = false ∧ w'.cell? ⟨r, 3, none⟩ = some (.slice ua U.length uc) ∧ w'.cell? ⟨w1.heap.size, 2, none⟩ = some (.int .i64 (sy : Int)) ∧ w'.cell? ⟨w1.heap.size, 1, none⟩ = some (.int .i64 (sx : Int)) from
          ⟨k.cell z4 nbr, by rw [k.frozen (by show r < _; omega) nbr]; exact fz4, k.cell z3 nbr, k.cell d2 hnb.out, k.cell d1 hnb.out⟩)
        have hBw : r + 1 ≤ W.heap.size := by omega
        have hrn : r ≠ w1.heap.size := hrn0.out
        have hsx : sx < ln := by omega
        clear hop hsp hN hSc nbr
        go_upto_region 20 with fail
        go_region_law
          (first | ((go_loud (refine step_rapp Tryz.tyPm rfl (.tmp 80) (.tmp 90) rfl (r + 1) la (some ⟨W.heap.size, 0, none⟩) S.length 1 lc 1 S [⟨sy, a, U.length⟩] (by simp [Act.eval]) (by first | rfl | simp | omega) (by rw [Hr.out]; exact H3.out.lef.grow (by (repeat' (first | exact Below.refl _ _ | assumption | refine bdrewN ?_ _ | refine Below.drew ?_ | refine bal ?_ _ | refine bthen ?_ (by assumption))))) (by simp [Act.eval]) (by first | rfl | simp | omega) (RSl.lit (E := encPm) W ⟨sy, a, U.length⟩ 132 W.heap.size rfl #[.int .i64 sy, .int .i64 a, .int .i64 U.length] rfl (by decide)).drew (by have := HS5.out; show _ ≤ 2199023255552; simp; omega) (by simp; omega) ?_); intro a4 c4 w4 L4 Hl4 ho4 hb4 hk4 hA4; have HA4 := hid hA4; clear hA4; have Ho4 := hid ho4; clear ho4; have Hk4 := hid hk4; clear hk4; have hz4 := hb4.size); have kx : Kpt (Blk la) W w4 := Kpt.tr (by (repeat' (first | exact Kpt.refl _ _ | assumption | refine Kpt.drew ?_ | refine Kpt.alloc ?_ _))) Hk4.out; have kk := KN.out _ kx; obtain ⟨o0, o1, o2, o3, o4⟩ := kk) | fail)
        all_goals
          have P5 := Srch.left H3.out (a1 := a4) (c1 := c4) (S1 := L4) (by rw [← Hr.out]; exact Ho4.out) kx
          rw [← Hr.out] at P5
          obtain ⟨w5, hw5⟩ : ∃ w5, w5 = w4.setCell ⟨r, 4, none⟩ (.slice a4 L4.length c4) := ⟨_, rfl⟩
          have q1 : w5.cell? ⟨w1.heap.size, 1, none⟩ = some (.int .i64 (sx : Int)) := by rw [hw5, World.cell?_setCell_other (h := by simp <;> omega)]; exact o4
          rw [← hw5] at P5 ⊢
          have HP5 := hid P5
          have HL := hid Hl4.out
          have HLl := hid (show L4.length = S.length + 1 from by rw [Hl4.out]; simp)
          clear hw5 P5 o0 o1 o2 o3 o4 kx HA4 Hk4 Ho4 Hl4 KN z3 z4 fz4 d0 d1 d2 d3 d4
          go_wp2_with fail
          go_roundg (unv (nN x) V1)
          case measure => exact hms.out
          case rel => exact ⟨sx, a, R, ua, uc, U, a4, c4, L4, V1, _, rfl, rfl, rfl, hsx, ha, HP5.out.same (by (repeat' (first | exact Below.refl _ _ | assumption | refine bdrewN ?_ _ | refine Below.drew ?_ | refine Below.setCell ?_ (Nat.le_refl _) _ | refine bal ?_ _ | refine bthen ?_ (by assumption)))), by rw [HL.out]; exact HIp, by rw [HL.out, hab.out]; exact HRN, hid (by have := cnt.out; have := HLl.out; omega)⟩
      · have hj := HP.out.jump i (by rw [inss_len]; exact Hi.out) (by rw [HQ.out])
        rw [HQ.out, inss_len, ← Hln.out] at hj
        change 0 ≤ qx ∧ qx < (ln : Int) at hj
        obtain ⟨sx, rfl⟩ : ∃ sx : Nat, qx = sx := ⟨qx.toNat, by omega⟩
        have HRN := hid (HRn.out.on Hv.out HQ.out (by show (5 : Int) ≠ 6; decide) (L := [⟨sx, a, R⟩]) (by simp only [succs]; rw [show igt x.mc.P i = _ from HQ.out]; rfl))
        have hsx : sx < ln := by omega
        clear hop hj
        as_aux_lemma =>
        go_wp2_with fail
        go_roundg (unv (nN x) V1)
        case measure => exact hms.out
        case rel => exact ⟨sx, a, R, ua, uc, U, la, lc, S, V1, _, rfl, rfl, rfl, hsx, ha, H3.out.same (by (repeat' (first | exact Below.refl _ _ | assumption | refine bdrewN ?_ _ | refine Below.drew ?_ | refine Below.setCell ?_ (Nat.le_refl _) _ | refine bal ?_ _ | refine bthen ?_ (by assumption)))), M1.out.1, HRN, hid (by have := cnt.out; omega)⟩
      · clear hop
        as_aux_lemma =>
        go_wp2_with fail
        go_ret
        exact ⟨true, R, ua, uc, U, la, lc, S, V1, rfl, H3.out.same (by (repeat' (first | exact Below.refl _ _ | assumption | refine bdrewN ?_ _ | refine Below.drew ?_ | refine Below.setCell ?_ (Nat.le_refl _) _ | refine bal ?_ _ | refine bthen ?_ (by assumption)))), fun _ => ⟨_, _, _, HRn.out, Hv.out, by rw [HQ.out], rfl⟩, fun h => by cases h⟩
end Go.Proofs.YtefgjicegbhcaaaGreat
