/- ReprogTargets: the walk. -/
import Derived.Test.YtdjhnlihalihlaaPgk
import Derived.Test.YtdjhnlihalihlaaPlb
import Derived.Deep.CutBlock
import Derived.Deep.DeepCutAuto
namespace Go.Proofs.Ytdjhnlihalihlaa
open Go.RowKit ReM

theorem compW_cases (p : List Int) : (∃ e f, compW p = ([], e, f) ∧ e ≠ 0) ∨
    ∃ l g, parseW p = (l, 0, 0) ∧ NodAt 0 l ∧ Los l ∧ g ≤ 9 ∧ gsL l = upto 0 g ∧ p.length ≤ 60 ∧ altP CC p.length (4 * p.length + 8) p 0 0 = .ok l [] g ∧ compW p = (codeW l, 0, 0) ∧ (codeW l).length ≤ 300 := by
  obtain ⟨⟨l, e, f⟩, h⟩ : ∃ X, parseW p = X := ⟨_, rfl⟩
  unfold compW
  rw [h]
  dsimp only
  by_cases he : e = 0
  · subst he
    obtain ⟨rfl, h1, h2, h3, g, h4, h5, h6⟩ := parseW_ok h
    rw [if_neg (by simp)]
    obtain ⟨o1, o2⟩ := out_eq h1
    by_cases hl : (codeW l).length ≤ 300
    · rw [o1 hl, if_neg (by omega)]
      exact .inr ⟨l, g, rfl, h1, h2, h4, h5, h3, h6, rfl, hl⟩
    · rw [if_pos (o2 (by omega))]
      exact .inl ⟨3, _, rfl, by decide⟩
  · rw [if_pos he]
    exact .inl ⟨e, f, rfl, he⟩
theorem lo_le {l : List Rn} {g : Nat} (h : gsL l = upto 0 g) (hL : Los l) : ∀ x, x ∈ l → x.kind = 5 → 0 ≤ x.lo ∧ x.lo ≤ (g : Int) := by
  intro x hx h5
  refine ⟨(hL x hx).1, ?_⟩
  by_cases h0 : 0 < x.lo
  · have : x.lo ∈ gsL l := by
      unfold gsL
      refine List.mem_map_of_mem (List.mem_filter.2 ⟨hx, by simp [h5, h0]⟩)
    rw [h] at this
    simp only [upto, List.mem_map, List.mem_range] at this
    obtain ⟨i, hi, e⟩ := this
    omega
  · omega
theorem code_first (l : List Rn) : igt (codeW l) 0 = iSave 0 := rfl
theorem code_last {l : List Rn} {j : Nat} (h : (codeW l).length = j + 2) : igt (codeW l) j = iSave 1 ∧ igt (codeW l) (j + 1) = iMatch := by
  have hl : j = (blk l.length l).length + 1 := by rw [codeW_len] at h; omega
  have e : codeW l = (iSave 0 :: shI 1 (blk l.length l)) ++ [iSave 1, iMatch] := by simp [codeW]
  have hl2 : (iSave 0 :: shI 1 (blk l.length l)).length = j := by simp [shI_len]; omega
  rw [e]
  unfold igt
  rw [List.getD_eq_getElem?_getD, List.getD_eq_getElem?_getD, List.getElem?_append_right (by omega), List.getElem?_append_right (by omega), hl2]
  simp
set_option maxRecDepth 20000 in
set_option maxHeartbeats 60000000 in
theorem targets_w (a0 : Option Addr) (c0 : Nat) (l0 : List Int) (W : World) (h0 : I.Sl W a0 l0) :
    Calls Try.prog 7 #[.slice a0 l0.length c0] W fun e w' => e = .returned (.bool true) ∧ Below W.heap.size W w' := by
  obtain ⟨V, hV⟩ : ∃ V, V = W.alloc (.cells #[.slice a0 l0.length c0, .int .i64 0] 26) := ⟨_, rfl⟩
  have tV : TapeAt V W.heap.size a0 l0 c0 0 := by
    subst hV
    exact ⟨by simp, by rw [cell_alloc_new]; rfl, by rw [cell_alloc_new]; rfl, by simp, by omega⟩
  have bV : Below W.heap.size W V := by subst hV; (repeat' (first | exact Below.refl _ _ | assumption | refine bdrewN ?_ _ | refine Below.drew ?_ | refine bal ?_ _ | refine bthen ?_ (by assumption)))
  have zV : V.heap.size = W.heap.size + 1 := by subst hV; simp
  have SV : ∀ w', Below W.heap.size V w' → I.Sl w' a0 l0 := fun w' hb => h0.bel (bV.trans hb)
  have C := hid (pattern_all W.heap.size a0 l0 c0 3 (by omega) V ⟨_, tV⟩ SV)
  clear tV SV h0
  go_enter Try.func7, Try.ntmps7
  go_wp2_with fail
  rw [← hV]; clear hV
  refine C.out.mono ?_
  rintro _ w1 ⟨a1, c1, p, rfl, ho, -, hpl, -, hk⟩
  have B1 := hid (bV.trans (hk.belowp (by omega)))
  have hpc : p.length ≤ c1 := by rcases ho.shape with ⟨_, _, h⟩ | ⟨_, _, _, _, h⟩; simp [h]; exact h
  have PC := hid (compile_c a1 c1 p w1 ho.sl hpc)
  have zw1 := hk.size
  have HO := hid ho
  have HPc := hid hpc
  clear ho hk C hpl hpc
  go_wp2_with fail
  refine PC.out.mono ?_
  rintro e2 w2 hx
  clear PC
  rcases compW_cases p with ⟨e, f, hP, he⟩ | ⟨l, g, hPa, hno, hlo, hg9, hgs, -, -, hP, h300⟩
  · rw [hP] at hx
    obtain ⟨a2, c2, L, rfl, hrn, -, -, -, b2⟩ := hx
    have hL0 : L.length = 0 := by rw [← inss_len, hrn]; rfl
    have b1 : (e != 0) = true := by simpa using he
    have B2 := hid (B1.out.trans (b2.mono (by omega)))
    have zw2 := b2.size
    clear hrn b2 he hP B1
    as_aux_lemma =>
    go_wp2_with fail
    have B3 := hid (Below.alloc B2.out (by omega) (.cells #[.int .i64 e, .int .i64 f] 36))
    refine (known9_c _).mono ?_
    rintro _ w3 ⟨rfl, b3⟩
    have B4 := hid (B3.out.trans (b3.mono (by simp; omega)))
    clear b3 B3 B2
    go_wp2_with fail
    go_ret
    exact ⟨rfl, B4.out⟩
  · rw [hP] at hx
    obtain ⟨a2, c2, L, rfl, hin, h3, ho2, hs2, b2⟩ := hx
    dsimp only at hin
    have hLl : L.length = (codeW l).length := by rw [← inss_len, hin]
    obtain ⟨j, hj⟩ : ∃ j, L.length = j + 2 := ⟨L.length - 2, by rw [hLl, codeW_len]; omega⟩
    have hj1 : 1 ≤ j := by rw [hLl, codeW_len] at hj; omega
    have Hat := hid (fun i (hi : i < L.length) => inss_at hin hi)
    have HT := hid (fun i (hi : i < L.length) => show TgI (g : Int) 1 (L.length - 1) i (igt (codeW l) i) from by rw [hLl]; exact code_tg (G := g) hno (lo_le hgs hlo) (by omega) i (by rw [← hLl]; exact hi))
    obtain ⟨gL, rfl, hg1, hg2, hg3⟩ : ∃ g2, a2 = some ⟨g2, 0, none⟩ ∧ w1.heap.size ≤ g2 ∧ g2 < w2.heap.size ∧ L.length ≤ c2 := by
      rcases ho2.shape with ⟨_, _, h0⟩ | h0
      · rw [h0] at hj; simp at hj
      · exact h0
    have KL := hid (fun w' (hb : Below w2.heap.size w2 w') => ho2.grow hb)
    have KS := hid (fun i (hi : i < L.length) => hs2.own (rgt L i).key (List.mem_map_of_mem (rgt_mem hi)))
    have B2 := hid (B1.out.trans (b2.mono (by omega)))
    have zw2 := b2.size
    have HO2 := hid (HO.out.grow b2)
    have q0 := ino_at ho2 (i := 0) (by omega)
    have qj := ino_at ho2 (i := j) (by omega)
    have qk := ino_at ho2 (i := j + 1) (by omega)
    obtain ⟨u1, u2, -, -, -⟩ := q0
    obtain ⟨v1, v2, -, -, -⟩ := qj
    obtain ⟨x1, -, -, -, -⟩ := qk
    have hcl := code_last (l := l) (j := j) (by rw [← hLl]; exact hj)
    have e0 := (Hat.out 0 (by omega)).trans (code_first l)
    have ej := (Hat.out j (by omega)).trans hcl.1
    have ek := (Hat.out (j + 1) (by omega)).trans hcl.2
    rw [show (rgt L 0).op = 3 from congrArg Ins.op e0] at u1
    rw [show (rgt L 0).x = 0 from congrArg Ins.x e0] at u2
    rw [show (rgt L j).op = 3 from congrArg Ins.op ej] at v1
    rw [show (rgt L j).x = 1 from congrArg Ins.x ej] at v2
    rw [show (rgt L (j + 1)).op = 6 from congrArg Ins.op ek] at x1
    change w2.cell? ⟨gL, 0, none⟩ = _ at u1
    change w2.cell? ⟨gL, 1, none⟩ = _ at u2
    have w2' : IntKind.i64.wrap ((L.length : Int) - 2) = (j : Int) := by rw [IntKind.wrap_i64]; omega
    have w1' : IntKind.i64.wrap ((L.length : Int) - 1) = ((j + 1 : Nat) : Int) := by rw [IntKind.wrap_i64]; omega
    have z1 : decide ((L.length : Int) < 3) = false := decide_eq_false (by omega)
    have z2 : decide ((300 : Int) < (L.length : Int)) = false := decide_eq_false (by omega)
    have z3 : (0 : Int) < (L.length : Int) := by omega
    have z4 : (j : Int) < (L.length : Int) := by omega
    have z5 : ((j + 1 : Nat) : Int) < (L.length : Int) := by omega
    have z6 : 0 < L.length := by omega
    have z7 : j < L.length := by omega
    have z8 : j + 1 < L.length := by omega
    have hgL : gL < w2.heap.size := hg2
    have Hj := hid hj
    have HP2 := hid (parse_c a1 c1 p)
    have Hpa := hid hPa
    have Hgs := hid (gs_len hgs)
    have hlen3 : L.length ≤ 300 := h3
    clear hLl hj e0 ej ek hcl hin h3 ho2 hs2 b2 hP h300 hno hlo B1 hPa hgs HO
    go_upto_region 3 with fail
    obtain ⟨V3, hV3⟩ : ∃ V3, V3 = w2.alloc (.cells #[.int .i64 0, .int .i64 0] 36) := ⟨_, rfl⟩
    have F3 := FtC.new w2 0 0 36 _ rfl
    rw [← hV3] at F3 ⊢
    have b23 : Below w2.heap.size w2 V3 := by rw [hV3]; (repeat' (first | exact Below.refl _ _ | assumption | refine bdrewN ?_ _ | refine Below.drew ?_ | refine bal ?_ _ | refine bthen ?_ (by assumption)))
    have zV3 : V3.heap.size = w2.heap.size + 1 := by rw [hV3]; simp
    have t0 := F3.c0
    have u1' := (b23.cell (by exact hgL)).trans u1
    have u2' := (b23.cell (by exact hgL)).trans u2
    have v1' := (b23.cell (by exact hgL)).trans v1
    have v2' := (b23.cell (by exact hgL)).trans v2
    have x1' := (b23.cell (by exact hgL)).trans x1
    have H23 := hid b23
    clear hV3 F3 u1 u2 v1 v2 x1 b23
    go_upto_region 8 with fail
    have C3 := hid (HP2.out V3 ((HO2.out.grow H23.out).sl) HPc.out)
    rw [Hpa.out] at C3
    clear u1' u2' v1' v2' x1' t0 w1' w2' z1 z2 z4 z5 z7 z8 HP2
    go_wp2_with fail
    refine C3.out.mono ?_
    rintro _ w4 ⟨a4, c4, T, rfl, hrt, hoT, -, -, b4⟩
    have GC := hid (fun w' (h : Below w4.heap.size w4 w') => groups_c a4 c4 T w' (hoT.grow h).sl)
    have hgq : (gsL (rns T)).length = g := by rw [hrt]; exact Hgs.out
    rw [hgq] at GC
    have B4 := hid (H23.out.trans (b4.mono (by omega)))
    have zw4 := b4.size
    clear hrt hoT b4 hgq C3
    go_upto_region 9 with fail
    obtain ⟨V5, hV5⟩ : ∃ V5, V5 = w4.alloc (.cells #[.int .i64 0, .int .i64 0] 36) := ⟨_, rfl⟩
    have b45 : Below w4.heap.size w4 V5 := by rw [hV5]; (repeat' (first | exact Below.refl _ _ | assumption | refine bdrewN ?_ _ | refine Below.drew ?_ | refine bal ?_ _ | refine bthen ?_ (by assumption)))
    have B5 := hid (B4.out.trans (b45.mono (by omega)))
    have C5 := hid (GC.out V5 b45)
    rw [← hV5]
    clear hV5 b45 GC
    go_wp2_with fail
    refine C5.out.mono ?_
    rintro _ w6 ⟨rfl, b6⟩
    have B6 := hid (B5.out.trans (b6.mono B5.out.size))
    clear b6 C5 B5 B4
    go_wp2_with fail
    go_loopw [88] (fun iv wr => ∃ i : Nat, i ≤ L.length ∧ iv = .int .i64 i ∧ Below w2.heap.size w2 wr) (fun iv _ => L.length - (intOf iv).toNat)
    case atStart => exact ⟨0, by omega, rfl, by have := B6.out; (repeat' (first | exact Below.refl _ _ | assumption | refine bdrewN ?_ _ | refine Below.drew ?_ | refine Below.setCell ?_ (Nat.le_refl _) _ | refine bal ?_ _ | refine bthen ?_ (by assumption)))⟩
    case round =>
      obtain ⟨i, hi, rfl, hb⟩ := hrel
      have Hb := hid hb
      by_cases hlt : i < L.length
      · have zi : (i : Int) < (L.length : Int) := by omega
        have w1' : IntKind.i64.wrap ((i : Int) + 1) = ((i + 1 : Nat) : Int) := by rw [IntKind.wrap_i64]; omega
        obtain ⟨y0, y1, y2, y3, y4⟩ := ino_at (KL.out wr hb) (i := i) hlt
        have hS := KS.out i hlt
        have hT := HT.out i hlt
        rw [← Hat.out i hlt] at hT
        generalize rgt L i = m at y0 y1 y2 y3 y4 hS hT
        obtain ⟨op, x, y, nt, sa, st, sc⟩ := m
        simp only [Im.ins, TgI] at hT
        obtain ⟨t4, t5, t3, t0⟩ := hT
        dsimp only at y0 y1 y2 y3 y4
        have hsl : st.length ≤ 35184372088832 := hS.sl.len
        clear hb hS
        go_upto_region 13 with fail
        clear y0 y1 y2 y3 y4
        obtain ⟨V7, hV7⟩ : ∃ V7, V7 = wr.alloc (.cells #[.int .i64 op, .int .i64 x, .int .i64 y, .bool nt, .slice sa st.length sc] 52) := ⟨_, rfl⟩
        have d0 : V7.cell? ⟨wr.heap.size, 0, none⟩ = some (.int .i64 op) := by rw [hV7, cell_alloc_new]; rfl
        have d1 : V7.cell? ⟨wr.heap.size, 1, none⟩ = some (.int .i64 x) := by rw [hV7, cell_alloc_new]; rfl
        have d2 : V7.cell? ⟨wr.heap.size, 2, none⟩ = some (.int .i64 y) := by rw [hV7, cell_alloc_new]; rfl
        have d4 : V7.cell? ⟨wr.heap.size, 4, none⟩ = some (.slice sa st.length sc) := by rw [hV7, cell_alloc_new]; rfl
        have H7 : Hid (Below w2.heap.size w2 V7) := hid (Hb.out.trans (Below.mono (by rw [hV7]; (repeat' (first | exact Below.refl _ _ | assumption | refine bdrewN ?_ _ | refine Below.drew ?_ | refine bal ?_ _ | refine bthen ?_ (by assumption)))) Hb.out.size))
        rw [← hV7]
        clear hV7 Hb
        by_cases h4 : op = 4
        · subst h4
          obtain ⟨s1, s2, s3, s4, s5⟩ := t4 rfl
          have bA : decide (x < 1) = false := decide_eq_false (by omega)
          have bB : decide ((L.length : Int) ≤ x) = false := decide_eq_false (by omega)
          have bC : decide (y < 1) = false := decide_eq_false (by omega)
          have bD : decide ((L.length : Int) ≤ y) = false := decide_eq_false (by omega)
          clear t4 t5 t3 t0 s1 s2 s3 s4 d4
          by_cases hxy : x = y
          · subst hxy
            have bE : (x == x) = true := by simp
            have bF : (x != ((i + 1 : Nat) : Int)) = false := by
              rw [bne_eq_false_iff_eq]; omega
            clear s5
            as_aux_lemma =>
            go_wp2_with fail
            go_roundw
            case rel => exact ⟨i + 1, by omega, by go_num, by have := H7.out; (repeat' (first | exact Below.refl _ _ | assumption | refine bdrewN ?_ _ | refine Below.drew ?_ | refine Below.setCell ?_ (Nat.le_refl _) _ | refine bal ?_ _ | refine bthen ?_ (by assumption)))⟩
            case measure => simp [intOf]; omega
          · have bE : (x == y) = false := by simpa using hxy
            clear s5 hxy
            as_aux_lemma =>
            go_wp2_with fail
            go_roundw
            case rel => exact ⟨i + 1, by omega, by go_num, by have := H7.out; (repeat' (first | exact Below.refl _ _ | assumption | refine bdrewN ?_ _ | refine Below.drew ?_ | refine Below.setCell ?_ (Nat.le_refl _) _ | refine bal ?_ _ | refine bthen ?_ (by assumption)))⟩
            case measure => simp [intOf]; omega
        have b4 : (op == 4) = false := by simpa using h4
        clear t4 h4
        by_cases h5 : op = 5
        · subst h5
          obtain ⟨s1, s2⟩ := t5 rfl
          have bA : decide (x < 1) = false := decide_eq_false (by omega)
          have bB : decide ((L.length : Int) ≤ x) = false := decide_eq_false (by omega)
          clear t5 t3 t0 s1 s2 d4 d2
          as_aux_lemma =>
          go_wp2_with fail
          go_roundw
          case rel => exact ⟨i + 1, by omega, by go_num, by have := H7.out; (repeat' (first | exact Below.refl _ _ | assumption | refine bdrewN ?_ _ | refine Below.drew ?_ | refine Below.setCell ?_ (Nat.le_refl _) _ | refine bal ?_ _ | refine bthen ?_ (by assumption)))⟩
          case measure => simp [intOf]; omega
        have b5 : (op == 5) = false := by simpa using h5
        clear t5 h5
        by_cases h3 : op = 3
        · subst h3
          obtain ⟨s1, s2⟩ := t3 rfl
          have bA : decide (x < 0) = false := decide_eq_false (by omega)
          have bB : decide (2 * (g : Int) + 1 < x) = false := decide_eq_false (by omega)
          have wA : IntKind.i64.wrap (2 * (g : Int)) = 2 * (g : Int) := by rw [IntKind.wrap_i64]; omega
          have wB : IntKind.i64.wrap (2 * (g : Int) + 1) = 2 * (g : Int) + 1 := by rw [IntKind.wrap_i64]; omega
          clear t3 t0 s1 s2 d4 d2
          as_aux_lemma =>
          go_wp2_with fail
          go_roundw
          case rel => exact ⟨i + 1, by omega, by go_num, by have := H7.out; (repeat' (first | exact Below.refl _ _ | assumption | refine bdrewN ?_ _ | refine Below.drew ?_ | refine Below.setCell ?_ (Nat.le_refl _) _ | refine bal ?_ _ | refine bthen ?_ (by assumption)))⟩
          case measure => simp [intOf]; omega
        have b3 : (op == 3) = false := by simpa using h3
        clear t3 h3 d1 d2
        by_cases h0 : op = 0
        · subst h0
          obtain ⟨s1, s2⟩ := t0 rfl
          have hst : 0 < st.length ∧ (st.length : Int).tmod 2 = 0 := by
            refine ⟨List.length_pos_iff.2 s1, ?_⟩
            obtain ⟨q, hq⟩ : ∃ q, st.length = 2 * q := ⟨st.length / 2, by omega⟩
            rw [hq]
            push_cast
            exact Int.mul_tmod_right 2 q
          obtain ⟨hs3, hs4⟩ := hst
          have bS : ((st.length : Int) == 0) = false := by rw [beq_eq_false_iff_ne]; omega
          generalize st.length = sl at *
          clear t0 s1 s2 hs3
          as_aux_lemma =>
          go_wp2_with fail
          go_roundw
          case rel => exact ⟨i + 1, by omega, by go_num, by have := H7.out; (repeat' (first | exact Below.refl _ _ | assumption | refine bdrewN ?_ _ | refine Below.drew ?_ | refine Below.setCell ?_ (Nat.le_refl _) _ | refine bal ?_ _ | refine bthen ?_ (by assumption)))⟩
          case measure => simp [intOf]; omega
        have b0 : (op == 0) = false := by simpa using h0
        clear t0 h0 d4
        as_aux_lemma =>
        go_wp2_with fail
        go_roundw
        case rel => exact ⟨i + 1, by omega, by go_num, by have := H7.out; (repeat' (first | exact Below.refl _ _ | assumption | refine bdrewN ?_ _ | refine Below.drew ?_ | refine Below.setCell ?_ (Nat.le_refl _) _ | refine bal ?_ _ | refine bthen ?_ (by assumption)))⟩
        case measure => simp [intOf]; omega
      · obtain rfl : i = L.length := by omega
        go_wp2_with fail
        refine (known9_c _).mono ?_
        rintro _ w3 ⟨rfl, b3⟩
        have B7 := hid (Hb.out.trans (b3.mono Hb.out.size))
        clear b3
        go_wp2_with fail
        go_ret
        exact ⟨rfl, B2.out.trans (B7.out.mono B2.out.size)⟩
end Go.Proofs.Ytdjhnlihalihlaa
