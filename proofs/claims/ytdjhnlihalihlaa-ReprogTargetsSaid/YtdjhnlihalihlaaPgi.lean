/- Compile's tree walk: node, all rounds. -/
import Derived.Test.YtdjhnlihalihlaaPgB
import Derived.Deep.RegionHeld3
namespace Go.Proofs.Ytdjhnlihalihlaa
open Go.RowKit ReM Go.ChangeShapes Go.WideShapes Go.ChangeAt

theorem rws_parts {B r k : Nat} {w w2 : World} {aD : Option Addr} {cD : Nat} {D : List Rm} {S : List Pt} {d : Int} {cs : List (List Rn)} (TV : Tre B r w aD cD D) (hm : S.map (fun q => rns q.l) = partsL (rns D))
    (hg : ∀ q, q ∈ S → RSl encRe w q.a q.l ∧ q.l.length ≤ q.c ∧ (∀ k, Blk q.a k → Blk aD k) ∧ (∀ m, m ∈ q.l → m ∈ D)) (b : Below w.heap.size w w2) (hc : ∀ c, c ∈ cs → NodAt d c) (hcs : rns D = cs.flatten) (hk : D.length ≤ k) (h5 : D.length ≤ 5000) (hS : Los (rns D)) :
    rowsR S = cs ∧ Rws B r k w2 d S ∧ S.length ≤ D.length := by
  have e : rowsR S = cs := by
    show S.map _ = _
    rw [hm, hcs]; exact parts_flat cs hc
  refine ⟨e, fun q hq => ?_, ?_⟩
  · have hmem : rns q.l ∈ cs := by rw [← e]; exact List.mem_map_of_mem hq
    obtain ⟨g1, g2, g3, g4⟩ := hg q hq
    have hlen : q.l.length ≤ D.length := by
      have := len_flat hmem
      rw [← hcs, rns_len, rns_len] at this
      exact this
    refine ⟨(TV.sub g1 g2 g3 g4).bel b, hc _ hmem, by omega, by omega, fun y hy => ?_⟩
    obtain ⟨mm, hmm, rfl⟩ := List.mem_map.1 hy
    exact hS _ (List.mem_map_of_mem (g4 mm hmm))
  · have := (partsF_mem (rns D).length (rns D)).1
    rw [rns_len] at this
    have e2 : S.length = (partsL (rns D)).length := by rw [← hm, List.length_map]
    rw [e2]
    unfold partsL
    rw [rns_len]
    exact this
theorem stk_add {B : Nat} {V w2 : World} {K : List Skey} (hs : Stk B V K) (hB : B ≤ V.heap.size) (b : Below V.heap.size V w2) {a2 : Option Addr} {c2 : Nat} {s : List Int} (ho : Own w2 V.heap.size a2 c2 s) : Stk B w2 (K ++ [(a2, s, c2)]) :=
  (hs.bel b).snoc (ho.base_le hB) fun q hq k hk hk2 => by
    have h1 := (hs.lt hq hk).2
    have h2 := (ho.1.lt k (by obtain ⟨ad, ha, hb⟩ := hk2; rw [ha, ← hb]; rfl)).1
    omega
set_option maxRecDepth 20000 in
set_option maxHeartbeats 60000000 in
theorem node_step {k : Nat} (N : NodeC k) : NodeC (k + 1) := by
  intro B w r a c L ta tc T d h hT hn hk h5 hS hl
  have HN := hid N
  have P0 := hid h
  have T0 := hid hT
  have hrw : r < w.heap.size := h.lt
  have HBw : B ≤ w.heap.size := h.Bw
  have hrB : r < B := h.rB
  obtain ⟨t, hrt⟩ : ∃ t, rns T = t := ⟨_, rfl⟩
  rw [hrt] at hn hS
  obtain ⟨_, x, cs, hx, hc, hloc⟩ := hn
  obtain ⟨m, T', rfl⟩ : ∃ m T', T = m :: T' := by
    cases T with
    | nil => simp [rns] at hrt
    | cons m T' => exact ⟨m, T', rfl⟩
  have hrt2 : m.rn = x ∧ rns T' = cs.flatten := by simpa [rns] using hrt
  obtain ⟨rfl, hcs⟩ := hrt2
  rw [List.length_cons] at hk h5
  have e0 : nodeE (k + 1) (rns (m :: T')) (inss L) = if 300 < L.length then inss L else (
      if m.kind = 0 then (partsL (rns T')).foldl (fun o l => nodeE k l o) (inss L)
      else if m.kind = 1 then altE (nodeE k) (partsL (rns T')) (inss L)
      else if m.kind = 2 then inss L ++ [iSet m.not m.set]
      else if m.kind = 3 then inss L ++ [iStart]
      else if m.kind = 4 then inss L ++ [iEnd]
      else if m.kind = 5 then groupE (nodeE k (rns T')) m.lo (inss L)
      else if m.kind = 6 then
        if m.hi = -1 then loopE (nodeE k (rns T')) m.lazy (timesE (nodeE k (rns T')) m.lo.toNat (inss L))
        else optE (nodeE k (rns T')) (m.hi - m.lo).toNat m.lazy (timesE (nodeE k (rns T')) m.lo.toNat (inss L))
      else inss L) := by
    show (if 300 < (inss L).length then inss L else _) = _
    rw [inss_len]; rfl
  rw [e0]
  have hS' : Los (rns T') := fun y hy => hS y (by rw [← hcs]; exact List.mem_cons_of_mem _ hy)
  have hSm : LoOk m.rn := hS m.rn (by simp)
  have FC := hid (full_c B w r a c L h)
  clear e0 N h hT hrt
  by_cases hful : 300 < L.length
  · rw [if_pos hful]
    have b1 : decide ((300 : Int) < (L.length : Int)) = true := decide_eq_true (by omega)
    go_enter Try.func37, Try.ntmps37
    go_wp2_with fail
    refine FC.out.mono ?_
    rintro _ w1 ⟨rfl, b1'⟩
    have Hb1 := hid b1'
    clear b1'
    go_wp2_with fail
    go_end0
    exact ⟨a, c, L, rfl, P0.out.bel Hb1.out, hid rfl, Fr.of Hb1.out⟩
  · rw [if_neg hful]
    generalize hO : (ite (m.kind = 0) _ _ : List Ins) = O
    have HO := hid hO
    clear hO
    have b1 : decide ((300 : Int) < (L.length : Int)) = false := decide_eq_false (by omega)
    obtain ⟨n, hnl⟩ : ∃ n, n = (m :: T').length := ⟨_, rfl⟩
    rw [← hnl]
    have Hnl := hid hnl
    clear hnl
    go_enter Try.func37, Try.ntmps37
    go_wp2_with fail
    refine FC.out.mono ?_
    rintro _ w1 ⟨rfl, b1'⟩
    rw [b1]
    have P1 := hid (P0.out.bel b1')
    have F1 := hid (Fr.of (r := r) (a := a) b1')
    have T1 := hid (T0.out.bel b1')
    have hz1 := b1'.size
    clear b1' P0 T0 FC b1
    obtain ⟨bt, ot, rfl, hct⟩ := T1.out.sl.at (i := 0) (by simp)
    obtain ⟨x0, x1, x2, x3, x4, x5, x6⟩ := rec_re (hct 0 (by simp))
    change World.cell? _ ⟨bt, ot, none⟩ = some (.int .i64 m.kind) at x0
    change World.cell? _ ⟨bt, ot + 1, none⟩ = some (.int .i64 m.deep) at x1
    change World.cell? _ ⟨bt, ot + 2, none⟩ = some (.int .i64 m.lo) at x2
    change World.cell? _ ⟨bt, ot + 3, none⟩ = some (.int .i64 m.hi) at x3
    change World.cell? _ ⟨bt, ot + 4, none⟩ = some (.bool m.lazy) at x4
    change World.cell? _ ⟨bt, ot + 5, none⟩ = some (.bool m.not) at x5
    change World.cell? _ ⟨bt, ot + 6, none⟩ = some (.slice m.sa m.set.length m.sc) at x6
    clear hct
    have hcut := T1.out.sl.cut 1 (m :: T').length tc (by simp) (Nat.le_refl _) T1.out.cap
    rw [List.take_length] at hcut
    obtain ⟨aD, haD⟩ : ∃ aD, aD = if tc = 1 then (some ⟨bt, ot, none⟩ : Option Addr) else some ⟨bt, ot + 7, none⟩ := ⟨_, rfl⟩
    have sD : RSl encRe w1 aD T' := by
      rw [haD]
      have e : ((some ⟨bt, ot, none⟩ : Option Addr).map (·.add (1 * encRe.k))) = some ⟨bt, ot + 7, none⟩ := by simp [Addr.add, encRe]
      rw [e] at hcut
      exact hcut
    have hbD : ∀ k, Blk aD k → Blk (some ⟨bt, ot, none⟩) k := fun k hk => by
      rw [haD] at hk
      split at hk
      · exact hk
      · obtain ⟨ad, ha, rfl⟩ := hk
        cases ha
        exact ⟨_, rfl, rfl⟩
    obtain ⟨cD, hcD⟩ : ∃ cD, cD = tc - 1 := ⟨_, rfl⟩
    have hcD2 : T'.length ≤ cD := by have := T1.out.cap; rw [List.length_cons] at this; omega
    have hn1 : n - 1 = T'.length := by rw [Hnl.out]; simp
    have i1 : (0 : Int) < (n : Int) := by rw [Hnl.out, List.length_cons]; omega
    have i2 : (1 : Int) ≤ (n : Int) := by omega
    have i3 : 0 < n := by omega
    have TD := hid (T1.out.sub sD hcD2 hbD (fun y hy => List.mem_cons_of_mem _ hy))
    have TM := hid (T1.out.sets m (by simp))
    have HaD := hid haD
    have HcD := hid hcD
    have Hn1 := hid hn1
    clear sD hcD hcD2 hbD hcut haD hn1 T1
    have hbt : bt < w1.heap.size := World.block_lt_of_cell? w1 _ x0
    have KX := hid (fun (w' : World) (hw : Below w1.heap.size w1 w') => show w'.cell? ⟨bt, ot, none⟩ = some (.int .i64 m.kind) ∧ w'.cell? ⟨bt, ot + 1, none⟩ = some (.int .i64 m.deep) ∧ w'.cell? ⟨bt, ot + 2, none⟩ = some (.int .i64 m.lo) ∧ w'.cell? ⟨bt, ot + 3, none⟩ = some (.int .i64 m.hi) ∧ w'.cell? ⟨bt, ot + 4, none⟩ = some (.bool m.lazy) ∧ w'.cell? ⟨bt, ot + 5, none⟩ = some (.bool m.not) ∧ w'.cell? ⟨bt, ot + 6, none⟩ = some (.slice m.sa m.set.length m.sc) from
      ⟨(hw.cell hbt).trans x0, (hw.cell hbt).trans x1, (hw.cell hbt).trans x2, (hw.cell hbt).trans x3, (hw.cell hbt).trans x4, (hw.cell hbt).trans x5, (hw.cell hbt).trans x6⟩)
    go_upto_region 1 with fail
    go_region_held3 (fun w' => w'.cell? ⟨bt, ot, none⟩ = some (.int .i64 m.kind) ∧ w'.cell? ⟨bt, ot + 1, none⟩ = some (.int .i64 m.deep) ∧ w'.cell? ⟨bt, ot + 2, none⟩ = some (.int .i64 m.lo) ∧ w'.cell? ⟨bt, ot + 3, none⟩ = some (.int .i64 m.hi) ∧ w'.cell? ⟨bt, ot + 4, none⟩ = some (.bool m.lazy) ∧ w'.cell? ⟨bt, ot + 5, none⟩ = some (.bool m.not) ∧ w'.cell? ⟨bt, ot + 6, none⟩ = some (.slice m.sa m.set.length m.sc)) (first | assumption | exact ⟨by assumption, by assumption, by assumption, by assumption, by assumption, by assumption, by assumption⟩ | (exact KX.out _ (by (repeat' (first | exact Below.refl _ _ | assumption | refine bdrewN ?_ _ | refine Below.drew ?_ | refine Below.setCell ?_ (Nat.le_refl _) _ | refine bal ?_ _ | refine bthen ?_ (by assumption)))))) (fail)
    rw [← HaD.out, Hn1.out, ← HcD.out]
    obtain ⟨V, hV⟩ : ∃ V, V = (w1.alloc (.cells #[.int .i64 m.kind, .int .i64 m.deep, .int .i64 m.lo, .int .i64 m.hi, .bool m.lazy, .bool m.not, .slice m.sa m.set.length m.sc] 40)).drew := ⟨_, rfl⟩
    have nn : NdC V w1.heap.size m.kind m.deep m.lo m.hi m.lazy m.not (.slice m.sa m.set.length m.sc) := by subst hV; exact (NdC.new w1 _ _ _ _ _ _ _ _ _ rfl).same rfl
    have bV : Below w1.heap.size w1 V := by subst hV; (repeat' (first | exact Below.refl _ _ | assumption | refine bdrewN ?_ _ | refine Below.drew ?_ | refine Below.setCell ?_ (Nat.le_refl _) _ | refine bal ?_ _ | refine bthen ?_ (by assumption)))
    have zV : V.heap.size = w1.heap.size + 1 := by subst hV; simp
    rw [← hV]
    have PV := hid (P1.out.bel bV)
    have FV := hid (F1.out.bel bV)
    have TV := hid (TD.out.bel bV)
    have MV : Hid (Own V 0 m.sa m.sc m.set) := hid (TM.out.1.grow bV)
    have hNp : Np V r a w1.heap.size := ⟨by omega, by omega, fun hb => by have := (P1.out.own.lt hb).2; omega⟩
    have HNp := hid hNp
    have HNN := hid nn
    have HPS := hid (parts_flat cs hc)
    have HCS := hid hcs
    clear hV x0 x1 x2 x3 x4 x5 x6 KX hbt P1 F1 TD TM i1 i2 i3 hNp bV HaD HcD Hn1 hcs hx
    obtain ⟨n0, n1, n2, n3, n4, n5, n6⟩ := nn
    by_cases h0 : m.kind = 0
    · have b0 : (m.kind == 0) = true := by simpa using h0
      have HO2 := HO.out
      rw [if_pos h0] at HO2
      have HO3 := hid HO2
      clear h0 HO HO2 n1 n2 n3 n4 n5 n6
      as_aux_lemma =>
      go_wp2_with fail
      refine (parts_c aD cD T' V TV.out.sl TV.out.cap (by omega)).mono ?_
      rintro _ w2 ⟨aS, cS, S, rfl, hoS, hmS, hgS, b2⟩
      obtain ⟨hR, hW, hSl⟩ := rws_parts (k := k) TV.out hmS.out hgS b2 hc HCS.out (by omega) (by omega) hS'
      have hBV : B ≤ V.heap.size := PV.out.Bw
      have P2 := hid (PV.out.bel b2)
      have F2 := hid (FV.out.bel b2)
      have O2 := hid hoS
      have R2 := hid hW
      have HE : Hid (O = (rowsR S).foldl (fun o l => nodeE k l o) (inss L)) := by
        rw [← HO3.out, hR, HCS.out, HPS.out]; exact hid rfl
      have HBV := hid hBV
      clear hoS hmS hgS b2 hW hBV PV FV TV MV HO3 hR n0
      go_wp2_with fail
      go_loopw [22] (fun iv wr => ∃ i : Nat, ∃ a1 c1, ∃ L1 : List Im, iv = .int .i64 i ∧ i ≤ S.length ∧ Hid (Pg B wr r a1 c1 L1) ∧ Hid ((rowsR S).foldl (fun o l => nodeE k l o) (inss L) = ((rowsR S).drop i).foldl (fun o l => nodeE k l o) (inss L1)) ∧ L1.length ≤ 26000300 ∧ Hid (PtO wr V.heap.size aS cS S) ∧ Hid (Rws B r k wr (d + 1) S) ∧ Hid (Fr r w wr a a1)) (fun iv _ => S.length - (intOf iv).toNat)
      case atStart => exact ⟨0, a, c, L, rfl, by omega, P2, hid rfl, by omega, O2, R2, F2⟩
      case round =>
        obtain ⟨i, a1, c1, L1, rfl, hi, P1, HD, hl1, O1, R1, F1⟩ := hrel
        by_cases hlt : i < S.length
        · have z1 : (i : Int) < (S.length : Int) := by omega
          have w1' : IntKind.i64.wrap ((i : Int) + 1) = ((i + 1 : Nat) : Int) := by rw [IntKind.wrap_i64]; omega
          obtain ⟨gS, rfl⟩ : ∃ g, aS = some ⟨g, 0, none⟩ := by
            rcases O1.out.shape with ⟨_, _, h0⟩ | ⟨g, h0, _⟩
            · rw [h0] at hlt; simp at hlt
            · exact ⟨g, h0⟩
          have y0 := pto_at O1.out hlt
          obtain ⟨q, hq⟩ : ∃ q, q = rgt S i := ⟨_, rfl⟩
          have hqm := hid (show q ∈ S by rw [hq]; exact rgt_mem hlt)
          have HD2 : Hid ((rowsR S).foldl (fun o l => nodeE k l o) (inss L) = ((rowsR S).drop (i + 1)).foldl (fun o l => nodeE k l o) (nodeE k (rns q.l) (inss L1))) := by
            have hlr : i < (rowsR S).length := by simpa [rowsR] using hlt
            rw [HD.out, foldl_drop hlr, rowsR_get hlt, hq]
            exact hid rfl
          rw [← hq] at y0
          clear hq HD
          go_wp2_with fail
          obtain ⟨t1, t2, t3, t4, t5⟩ := R1.out q hqm.out
          refine (HN.out B wr r a1 c1 L1 q.a q.c q.l (d + 1) P1.out t1 t2 t3 t4 t5 (by omega)).mono ?_
          rintro _ w5 ⟨a5, c5, L5, rfl, hp, hL5, hf⟩
          have P5 := hid hp
          have R5 := hid (R1.out.fr P1.out hf)
          have O5 := hid (pto_fr O1.out P1.out HBV.out hf)
          have F5 := hid (F1.out.tr hf)
          have Hl5 := hid (node_len t4 t5 hL5.out)
          rw [← hL5.out] at HD2
          clear hp hf hL5 t1 t2 t3 t4 t5 y0
          go_wp2_with fail
          exact ⟨⟨i + 1, a5, c5, L5, by go_num, by omega, P5, HD2, by have := Hl5.out; omega, O5, R5, F5⟩, by simp [intOf]; omega⟩
        · obtain rfl : i = S.length := by omega
          go_wp2_with fail
          go_end0
          exact ⟨a1, c1, L1, rfl, P1.out, by rw [HE.out, HD.out, List.drop_of_length_le (by simp [rowsR])]; exact hid rfl, F1.out⟩
    · have b0 : (m.kind == 0) = false := by simpa using h0
      have HO2 := HO.out
      rw [if_neg h0] at HO2
      clear HO
      by_cases h1 : m.kind = 1
      · have b1 : (m.kind == 1) = true := by simpa using h1
        rw [if_pos h1] at HO2
        have HO3 := hid HO2
        have h2c := hloc.2.2.1 h1
        clear h0 h1 HO2 n1 n2 n3 n4 n5 n6
        as_aux_lemma =>
        go_wp2_with fail
        refine (parts_c aD cD T' V TV.out.sl TV.out.cap (by omega)).mono ?_
        rintro _ w2 ⟨aS, cS, S, rfl, hoS, hmS, hgS, b2⟩
        obtain ⟨hR, hW, hSl⟩ := rws_parts (k := k) TV.out hmS.out hgS b2 hc HCS.out (by omega) (by omega) hS'
        have hSc : S.length = cs.length := by rw [← hR]; simp [rowsR]
        have hBV : B ≤ V.heap.size := PV.out.Bw
        have P2 := hid (PV.out.bel b2)
        have F2 := hid (FV.out.bel b2)
        have O2 := hid hoS
        have R2 := hid hW
        have HE : Hid (O = altE (nodeE k) (rowsR S) (inss L)) := by
          rw [← HO3.out, hR, HCS.out, HPS.out]; exact hid rfl
        have HBV := hid hBV
        have HSc := hid hSc
        clear hoS hmS hgS b2 hW hBV PV FV TV MV HO3 hR n0 hSc
        go_wp2_with fail
        refine (nalt_c HN.out B w2 r a c L aS cS V.heap.size S (d + 1) P2.out R2.out O2.out HBV.out (by have := HSc.out; omega) (by omega) (by omega)).mono ?_
        rintro _ w3 ⟨a3, c3, L3, rfl, hp, hL3, hf⟩
        have P3 := hid hp
        have F3 := hid (F2.out.tr hf)
        clear hp hf
        go_wp2_with fail
        go_end0
        exact ⟨a3, c3, L3, rfl, P3.out, by rw [HE.out]; exact hL3, F3.out⟩
      · have b1 : (m.kind == 1) = false := by simpa using h1
        rw [if_neg h1] at HO2
        by_cases h2 : m.kind = 2
        · have b2 : (m.kind == 2) = true := by simpa using h2
          rw [if_pos h2] at HO2
          have HO3 := hid HO2
          clear h0 h1 h2 HO2 n1 n2 n3 n4
          as_aux_lemma =>
          have hBV : B ≤ V.heap.size := PV.out.Bw
          have hV1 : w1.heap.size < V.heap.size := by omega
          have KY := hid (fun (w' : World) (hw : Below V.heap.size V w') => show w'.cell? ⟨w1.heap.size, 5, none⟩ = some (.bool m.not) ∧ w'.cell? ⟨w1.heap.size, 6, none⟩ = some (.slice m.sa m.set.length m.sc) from ⟨(hw.cell (by exact hV1)).trans n5, (hw.cell (by exact hV1)).trans n6⟩)
          go_upto_region 12 with fail
          go_region_held3 (fun w' => w'.cell? ⟨w1.heap.size, 5, none⟩ = some (.bool m.not) ∧ w'.cell? ⟨w1.heap.size, 6, none⟩ = some (.slice m.sa m.set.length m.sc)) (first | (with_reducible assumption) | exact ⟨by with_reducible assumption, by with_reducible assumption⟩ | (exact KY.out _ (by (repeat' (first | exact Below.refl _ _ | assumption | refine bdrewN ?_ _ | refine Below.drew ?_ | refine Below.setCell ?_ (Nat.le_refl _) _ | refine bal ?_ _ | refine bthen ?_ (by assumption))))))
            (first | (go_at_call 53; refine (clone_c m.sa m.sc m.set _ 0 (MV.out.grow (by (repeat' (first | exact Below.refl _ _ | assumption | refine bdrewN ?_ _ | refine Below.drew ?_ | refine Below.setCell ?_ (Nat.le_refl _) _ | refine bal ?_ _ | refine bthen ?_ (by assumption)))))).mono ?_; rintro e w2 ⟨a2, c2, rfl, ho2, b2'⟩; have bv2 : Below V.heap.size V w2 := bthen (by (repeat' (first | exact Below.refl _ _ | assumption | refine bdrewN ?_ _ | refine Below.drew ?_ | refine Below.setCell ?_ (Nat.le_refl _) _ | refine bal ?_ _ | refine bthen ?_ (by assumption)))) b2'; have O2 := hid (ho2.base_le (show V.heap.size ≤ _ by simp)); clear ho2 b2')
                   | (go_at_call 38; refine (add_c B _ r a c L (PV.out.bel (by (repeat' (first | exact Below.refl _ _ | assumption | refine bdrewN ?_ _ | refine Below.drew ?_ | refine Below.setCell ?_ (Nat.le_refl _) _ | refine bal ?_ _ | refine bthen ?_ (by assumption))))) ⟨0, 0, 0, m.not, a2, m.set, c2⟩ (by omega) (by rw [List.map_append]; exact (stk_add PV.out.sets hBV bv2 O2.out).bel (by (repeat' (first | exact Below.refl _ _ | assumption | refine bdrewN ?_ _ | refine Below.drew ?_ | refine Below.setCell ?_ (Nat.le_refl _) _ | refine bal ?_ _ | refine bthen ?_ (by assumption)))))).mono ?_; rintro e w3 ⟨a3, c3, L3, rfl, hp, hL3, hf⟩; have P3 := hid hp; have F3 := hid ((FV.out.bel (by (repeat' (first | exact Below.refl _ _ | assumption | refine bdrewN ?_ _ | refine Below.drew ?_ | refine Below.setCell ?_ (Nat.le_refl _) _ | refine bal ?_ _ | refine bthen ?_ (by assumption))))).tr hf); have nn3 := NdC.fr (HNN.out.same (Below.block (by (repeat' (first | exact Below.refl _ _ | assumption | refine bdrewN ?_ _ | refine Below.drew ?_ | refine Below.setCell ?_ (Nat.le_refl _) _ | refine bal ?_ _ | refine bthen ?_ (by assumption)))) _ hV1)) hf (Np.fr HNp.out (Fr.of (by (repeat' (first | exact Below.refl _ _ | assumption | refine bdrewN ?_ _ | refine Below.drew ?_ | refine Below.setCell ?_ (Nat.le_refl _) _ | refine bal ?_ _ | refine bthen ?_ (by assumption)))))); have m5 := nn3.c5; have m6 := nn3.c6; clear hp nn3))
          all_goals
            clear m5 m6 hf
            go_wp2_with fail
            go_end0
            exact ⟨a3, c3, L3, rfl, P3.out, by rw [← HO3.out, hL3.out, inss_app]; exact hid rfl, F3.out⟩
        have b2 : (m.kind == 2) = false := by simpa using h2
        rw [if_neg h2] at HO2
        clear MV
        by_cases h3 : m.kind = 3
        · have b3 : (m.kind == 3) = true := by simpa using h3
          rw [if_pos h3] at HO2
          have HO3 := hid HO2
          clear h0 h1 h2 h3 HO2 n1 n2 n3 n4 n5 n6
          as_aux_lemma =>
          go_wp2_with fail
          refine (add0_c B V r a c L PV.out (by omega) 1 0 0).mono ?_
          rintro _ w3 ⟨a3, c3, L3, rfl, hp, hL3, hf⟩
          have P3 := hid hp
          have F3 := hid (FV.out.tr hf)
          clear hp hf
          go_wp2_with fail
          go_end0
          exact ⟨a3, c3, L3, rfl, P3.out, by rw [← HO3.out]; exact hL3, F3.out⟩
        have b3 : (m.kind == 3) = false := by simpa using h3
        rw [if_neg h3] at HO2
        by_cases h4 : m.kind = 4
        · have b4 : (m.kind == 4) = true := by simpa using h4
          rw [if_pos h4] at HO2
          have HO3 := hid HO2
          clear h0 h1 h2 h3 h4 HO2 n1 n2 n3 n4 n5 n6
          as_aux_lemma =>
          go_wp2_with fail
          refine (add0_c B V r a c L PV.out (by omega) 2 0 0).mono ?_
          rintro _ w3 ⟨a3, c3, L3, rfl, hp, hL3, hf⟩
          have P3 := hid hp
          have F3 := hid (FV.out.tr hf)
          clear hp hf
          go_wp2_with fail
          go_end0
          exact ⟨a3, c3, L3, rfl, P3.out, by rw [← HO3.out]; exact hL3, F3.out⟩
        have b4 : (m.kind == 4) = false := by simpa using h4
        rw [if_neg h4] at HO2
        have one : cs.length = 1 → NodAt (d + 1) (rns T') := fun e => by
          match cs, e, hc, HCS with
          | [c], _, hc, HCS => have := HCS.out; simp at this; rw [this]; exact hc c (by simp)
        by_cases h5' : m.kind = 5
        · have b5 : (m.kind == 5) = true := by simpa using h5'
          rw [if_pos h5'] at HO2
          have HO3 := hid HO2
          have hn1 := one (hloc.1 h5')
          have hlo : 0 ≤ m.lo ∧ m.lo ≤ 9 := ⟨hSm.1, hSm.2.1⟩
          clear h0 h1 h2 h3 h4 h5' HO2 n1 n3 n4 n5 n6 one
          as_aux_lemma =>
          go_wp2_with fail
          refine (ngroup_c HN.out B V r a c L aD cD T' (d + 1) PV.out TV.out hn1 (by omega) (by omega) hS' (by omega) m.lo hlo).mono ?_
          rintro _ w3 ⟨a3, c3, L3, rfl, hp, hL3, hf⟩
          have P3 := hid hp
          have F3 := hid (FV.out.tr hf)
          clear hp hf
          go_wp2_with fail
          go_end0
          exact ⟨a3, c3, L3, rfl, P3.out, by rw [← HO3.out]; exact hL3, F3.out⟩
        have b5 : (m.kind == 5) = false := by simpa using h5'
        rw [if_neg h5'] at HO2
        by_cases h6 : m.kind = 6
        · have b6 : (m.kind == 6) = true := by simpa using h6
          rw [if_pos h6] at HO2
          have hn1 := one (hloc.2.1 h6).1
          have hlh := (hloc.2.1 h6).2
          have hlo : 0 ≤ m.lo ∧ m.lo ≤ 9 ∧ -1 ≤ m.hi ∧ m.hi ≤ 9 := hSm
          change 0 ≤ m.hi → m.lo ≤ m.hi at hlh
          obtain ⟨lo, hlo2⟩ : ∃ lo : Nat, m.lo = lo := ⟨m.lo.toNat, by omega⟩
          have hlt : m.lo.toNat = lo := by omega
          rw [hlo2] at n2
          have NN2 := HNN.out
          rw [hlo2] at NN2
          have HNN2 := hid NN2
          rw [hlt] at HO2
          clear h0 h1 h2 h3 h4 h5' h6 n1 n3 n4 n5 n6 one NN2 HNN hlt
          go_wp2_with fail
          refine (ntimes_c HN.out B V r a c L aD cD T' (d + 1) PV.out TV.out hn1 (by omega) (by omega) hS' (by omega) lo (by omega)).mono ?_
          rintro _ w3 ⟨a3, c3, L3, rfl, hp, hL3, hf⟩
          have P3 := hid hp
          have F3 := hid (FV.out.tr hf)
          have T3 := hid (TV.out.fr PV.out hf)
          have n3 := HNN2.out.fr hf HNp.out
          have HL3 := hid hL3.out
          have hl3 : L3.length ≤ 26000300 := by
            have := (gw_times (gw_node (k := k) (T := T') (by omega) hS') lo (inss L)).2
            rw [← hL3.out, inss_len, inss_len] at this
            omega
          clear hp hf n0 n2 hL3
          obtain ⟨n0, n1, n2, n3', n4, n5, n6⟩ := n3
          by_cases hhi : m.hi = -1
          · have b7 : (m.hi == -1) = true := by simpa using hhi
            rw [if_pos hhi] at HO2
            have HO3 := hid HO2
            clear n0 n1 n2 n5 n6 hhi HO2
            as_aux_lemma =>
            go_wp2_with fail
            refine (nloop_c HN.out B w3 r a3 c3 L3 aD cD T' (d + 1) P3.out T3.out hn1 (by omega) (by omega) hS' (by omega) m.lazy).mono ?_
            rintro _ w4 ⟨a4, c4, L4, rfl, hp, hL4, hf⟩
            have P4 := hid hp
            have F4 := hid (F3.out.tr hf)
            clear hp hf
            go_wp2_with fail
            go_end0
            exact ⟨a4, c4, L4, rfl, P4.out, by rw [← HO3.out, ← HL3.out]; exact hL4, F4.out⟩
          · have b7 : (m.hi == -1) = false := by simpa using hhi
            rw [if_neg hhi] at HO2
            obtain ⟨no, hno⟩ : ∃ no : Nat, m.hi - lo = no := ⟨(m.hi - lo).toNat, by omega⟩
            have e7 : (m.hi - m.lo).toNat = no := by omega
            rw [e7] at HO2
            have HO3 := hid HO2
            have w7 : IntKind.i64.wrap (m.hi - (lo : Int)) = (no : Int) := by rw [IntKind.wrap_i64]; omega
            clear n0 n1 n5 n6 hhi HO2 e7
            as_aux_lemma =>
            go_wp2_with fail
            refine (nopt_c HN.out B w3 r a3 c3 L3 aD cD T' (d + 1) P3.out T3.out hn1 (by omega) (by omega) hS' (by omega) no (by omega) m.lazy).mono ?_
            rintro _ w4 ⟨a4, c4, L4, rfl, hp, hL4, hf⟩
            have P4 := hid hp
            have F4 := hid (F3.out.tr hf)
            clear hp hf
            go_wp2_with fail
            go_end0
            exact ⟨a4, c4, L4, rfl, P4.out, by rw [← HO3.out, ← HL3.out]; exact hL4, F4.out⟩
        have b6 : (m.kind == 6) = false := by simpa using h6
        rw [if_neg h6] at HO2
        have HO3 := hid HO2
        clear h0 h1 h2 h3 h4 h5' h6 HO2 n1 n2 n3 n4 n5 n6 one
        as_aux_lemma =>
        go_wp2_with fail
        go_end0
        exact ⟨a, c, L, rfl, PV.out, by rw [← HO3.out]; exact hid rfl, FV.out⟩
theorem node_all : ∀ k, NodeC k
  | 0 => fun B w r a c L ta tc T d _ _ hn hk _ _ _ => by
    obtain ⟨x, t, e, -, -⟩ := hn.head
    have := congrArg List.length e
    rw [rns_len] at this
    simp at this
    omega
  | k + 1 => node_step (node_all k)
end Go.Proofs.Ytdjhnlihalihlaa
