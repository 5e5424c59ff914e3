/- TransformFills: the document's Fill. TransformFills: the walk. P12.1, R4: for any parts (the first twenty), any parts that are scanned from a format that the tape makes, and any groups' texts: Fill gives what the document's gives; what was answered is written over, and it gives it again. Where what it reads is of bulk at most 1048576. -/
import Derived.Test.YtefgjicegbhcaaaGreatTfm
import Derived.Test.YtefgjicegbhcaaaGreatFoY
namespace Go.Proofs.YtefgjicegbhcaaaGreat
open Go.RowKit FmM

set_option maxRecDepth 20000 in
set_option maxHeartbeats 64000000 in
theorem rfill_c (fa : Option Addr) (fc : Nat) (M : List Fo) (ga : Option Addr) (gc : Nat) (Gs : List Tx) (K : Nat) (w : World) (hM : FSl w fa M) (hF : Fos w (fun _ => False) M) (hG : TSl w ga Gs) (hT : Txs w Gs)
    (hK : ∀ m, m ∈ M → m.text.length ≤ K ∧ m.els.length ≤ K) (hgK : ∀ m, m ∈ Gs → m.l.length ≤ K) (hb : M.length * K ≤ 35184372088832) :
    Calls Tryz.prog 13 #[.slice fa M.length fc, .slice ga Gs.length gc] w (Makes w (fillC (fps M) Gs)) := by
  have hl : M.length ≤ 1099511627776 := hM.len
  have hgl : Gs.length ≤ 4398046511104 := hG.len
  have MC := hid (rmayform_c fa fc M (fun _ => False) w hM hF)
  obtain ⟨bm, hbm⟩ : ∃ b, b = mayF (fps M) := ⟨_, rfl⟩
  obtain ⟨R, hR⟩ : ∃ R, R = fillC (fps M) Gs := ⟨_, rfl⟩
  have HR : Hid (R = if bm = true then fillF (gtx Gs) (fps M) else []) := hid (by rw [hR, hbm]; rfl)
  have Hbm := hid hbm
  rw [← hbm] at MC
  rw [← hR]
  have HM := hid hM
  have HF := hid hF
  have HG := hid hG
  have HTx := hid hT
  have HK := hid hK
  have HGK := hid (gtx_len hgK)
  have HB := hid hb
  clear hR hbm hM hF hG hT hK hgK hb
  cases bm with
  | false =>
    go_enter Tryz.func13, Tryz.ntmps13
    go_wp2_with fail
    refine MC.out.mono ?_
    rintro _ w1 ⟨rfl, b1⟩
    go_wp2_with fail
    go_ret
    refine ⟨none, 0, ?_, ?_, b1⟩
    · rw [HR.out]; rfl
    · rw [HR.out]; exact Own.nil _ _
  | true =>
    go_enter Tryz.func13, Tryz.ntmps13
    go_wp2_with fail
    refine MC.out.mono ?_
    rintro _ w1 ⟨rfl, b1⟩
    have B1 := hid b1
    clear b1 MC
    go_wp2_with fail
    go_loopw [5, 6, 7, 8, 9] (fun ov iv _ _ _ wr => ∃ (k : Nat) (az : Option Addr) (cz : Nat) (L : List Int), k ≤ M.length ∧ iv = .int .i64 k ∧ ov = .slice az L.length cz ∧ Hid (L = fillF (gtx Gs) (fps (M.take k))) ∧ Hid (Own wr w.heap.size az cz L) ∧ Below w.heap.size w wr ∧ L.length ≤ k * K) (fun _ iv _ _ _ _ => M.length - (intOf iv).toNat)
    case atStart => exact ⟨0, none, 0, [], by omega, rfl, rfl, hid (by simp [fps, fillF]), hid (Own.nil _ _), B1.out, by simp⟩
    case round =>
      obtain ⟨k, az, cz, L, hk, rfl, rfl, HL, HO, hbw, hLl⟩ := hrel
      have HBw := hid hbw
      have hzw := hbw.size
      have HLl := hid hLl
      clear hbw hLl
      by_cases hlt : k < M.length
      · obtain ⟨b, off, rfl, hblk, r0, r1, r2, r3, r4⟩ := fo_cells (HM.out.bel HBw.out) hlt
        have MO := hid ((HF.out _ (rgt_mem hlt)).bel HBw.out)
        have MR := may_grp Hbm.out.symm _ (rgt_mem hlt)
        have MK := HK.out _ (rgt_mem hlt)
        have HT := hid (fil_take (g := gtx Gs) hlt)
        have M1 := mayR_all _ _ Hbm.out.symm (rgt M k).fp (List.mem_map_of_mem (rgt_mem hlt))
        have hkK : (k + 1) * K ≤ M.length * K := Nat.mul_le_mul_right _ (by omega)
        rw [Nat.succ_mul] at hkK
        generalize rgt M k = m at *
        obtain ⟨kind, grp, how, ta, text, tc, ea, els, ec⟩ := m
        dsimp only at r0 r1 r2 r3 r4 MR MK
        obtain ⟨q, rfl⟩ : ∃ q : Nat, grp = q := ⟨grp.toNat, by omega⟩
        have TL := hid (ptx_len ⟨kind, q, how, text, els⟩ (gtx Gs q) MK.1 MK.2 (HGK.out q))
        have hkind : kind = 0 ∨ kind = 1 ∨ kind = 2 ∨ kind = 3 ∨ kind = 4 := by
          rw [may1_eq, Bool.and_eq_true, Bool.and_eq_true, Bool.and_eq_true] at M1
          have h2 := M1.2.2.2
          by_cases h : kind = 0 ∨ kind = 1 ∨ kind = 2 ∨ kind = 3 ∨ kind = 4
          · exact h
          · exfalso
            have : mayFl (⟨kind, q, how, ta, text, tc, ea, els, ec⟩ : Fo).fp = false := by
              unfold mayFl
              show (if kind = 0 then _ else if kind = 1 then _ else if kind = 2 then _ else if kind = 3 then _ else if kind = 4 then _ else false) = false
              rw [if_neg (by omega), if_neg (by omega), if_neg (by omega), if_neg (by omega), if_neg (by omega)]
            rw [this] at h2; cases h2
        have hels : kind = 2 → els = [] := fun hk2 => by
          rw [may1_eq, Bool.and_eq_true, Bool.and_eq_true, Bool.and_eq_true] at M1
          have h2 := M1.2.2.2
          subst hk2
          simp [mayFl, Fo.fp] at h2
          exact (of_decide_eq_true h2).2
        have HKK := hid hkK
        change Hid (fillF (gtx Gs) (fps (M.take (k + 1))) = fillF (gtx Gs) (fps (M.take k)) ++ ptx ⟨kind, q, how, text, els⟩ (gtx Gs q)) at HT
        have GC : Hid ((q < Gs.length ∧ ∃ b2 o2 gl aG cG, ga = some ⟨b2, o2, none⟩ ∧ b2 < wr.heap.size ∧ wr.cell? ⟨b2, o2 + q, none⟩ = some (.slice aG gl cG) ∧ gl = (gtx Gs q).length ∧ Sl wr aG (gtx Gs q)) ∨ (¬ q < Gs.length ∧ gtx Gs q = [])) := hid (by
          by_cases hq : q < Gs.length
          · obtain ⟨b2, o2, ha, hb2, rc⟩ := tx_cells (HG.out.bel HBw.out) hq
            have eg : gtx Gs q = (rgt Gs q).l := by unfold gtx; rw [if_pos ⟨by omega, by omega⟩, Int.toNat_natCast]
            rw [eg]
            exact .inl ⟨hq, b2, o2, _, _, _, ha, hb2, rc, rfl, (HTx.out _ (rgt_mem hq)).1.bel HBw.out⟩
          · exact .inr ⟨hq, by unfold gtx; rw [if_neg (by omega)]⟩)
        have HGL := hid (HGK.out q)
        generalize gtx Gs q = G at *
        obtain ⟨V, hV⟩ : ∃ V, V = wr.alloc (.cells #[.int .i64 kind, .int .i64 q, .int .i64 how, .slice ta text.length tc, .slice ea els.length ec] 71) := ⟨_, rfl⟩
        have bV : Below wr.heap.size wr V := by subst hV; (repeat' (first | exact Below.refl _ _ | assumption | refine bdrewN ?_ _ | refine Below.drew ?_ | refine bal ?_ _ | refine bthen ?_ (by assumption)))
        have FV : FoC V wr.heap.size ⟨kind, q, how, ta, text, tc, ea, els, ec⟩ := by subst hV; exact FoC.new wr ⟨kind, q, how, ta, text, tc, ea, els, ec⟩ _ _ rfl
        have m0 := FV.c0
        have m1 := FV.c1
        have m2 := FV.c2
        have m3 := FV.c3
        have m4 := FV.c4
        dsimp only at m0 m1 m2 m3 m4
        have HOV := hid (HO.out.grow bV)
        have STV := hid (MO.out.text V (Kp.bel bV))
        have SEV := hid (MO.out.els V (Kp.bel bV))
        have BV := hid (HBw.out.trans (bV.mono hzw))
        have zV : w.heap.size ≤ V.heap.size := BV.out.size
        have hlk := HLl.out
        have hbb := HB.out
        have GV : Hid ((q < Gs.length ∧ ∃ b2 o2 gl aG cG, ga = some ⟨b2, o2, none⟩ ∧ V.cell? ⟨b2, o2 + q, none⟩ = some (.slice aG gl cG) ∧ gl = G.length ∧ Sl V aG G) ∨ (¬ q < Gs.length ∧ G = [])) := hid (by
          rcases GC.out with ⟨h1, b2, o2, gl, aG, cG, h2, h3, h4, h5, h6⟩ | h
          · exact .inl ⟨h1, b2, o2, gl, aG, cG, h2, (bV.cell (World.block_lt_of_cell? wr _ h4)).trans h4, h5, h6.bel bV⟩
          · exact .inr h)
        clear MK MR M1 HKK HGK GC FV bV MO HO HM HF HTx HG Hbm

        rcases GV.out with ⟨hq, b2, o2, gl, aG, cG, rfl, rg, rfl, sG⟩ | ⟨hq, rfl⟩
        · have HSG := hid sG
          clear sG GV
          have q1 : decide ((q : Int) < (Gs.length : Int)) = true := decide_eq_true (by omega)
          have q2 : decide (q < Gs.length) = true := decide_eq_true hq
          by_cases hG : G = []
          · subst hG
            have q3 : decide ((0 : Int) < (([] : List Int).length : Int)) = false := by decide
            go_upto_region 8 with fail
            rw [← hV]; clear hV
            rcases hkind with rfl | rfl | rfl | rfl | rfl
            · have HP : Hid (ptx ⟨0, q, how, text, els⟩ ([] : List Int) = text) := hid (by simp [ptx])
              rw [HP.out] at TL
              have hX := TL.out
              go_wp2_with (at_builtin; (refine wpL_appn rfl (.tmp 56) (.tmp 58) rfl w.heap.size az ta L.length text.length cz tc L text rfl (by first | rfl | simp | omega) HOV.out rfl (by first | rfl | simp | omega) STV.out (by omega) zV ?_); intro a5 c5 w5 L5 Hl5 ho5 hb5 hk5 hA5; have HA5 := hid hA5; clear hA5; have Ho5 := hid ho5; clear ho5; have Hk5 := hid hk5; clear hk5; have hz5 := hb5.size)
              go_roundw
              case rel => exact ⟨k + 1, a5, c5, L5, hlt, by go_num, rfl, hid (by rw [Hl5.out, HT.out, HP.out, ← HL.out]), Ho5, BV.out.trans (hb5.mono (Nat.le_refl _)), by rw [Hl5.out, List.length_append, Nat.succ_mul]; omega⟩
              case measure => simp [intOf]; omega
            · have CS := hid (rcase_c aG cG ([] : List Int) how V HSG.out)
              go_wp2_with fail
              refine CS.out.mono ?_
              rintro _ w6 ⟨a6, c6, rfl, o6, b6⟩
              obtain ⟨X, hX0⟩ : ∃ X, X = cas ([] : List Int) how := ⟨_, rfl⟩
              rw [← hX0] at o6
              rw [← hX0]
              have HP : Hid (ptx ⟨1, q, how, text, els⟩ ([] : List Int) = X) := hid (by rw [hX0]; simp [ptx])
              rw [HP.out] at TL
              have hX := TL.out
              have O6 := hid o6.sl
              have P6 := hid (HOV.out.grow b6)
              have z6 := b6.size
              have B6 := hid (BV.out.trans (b6.mono zV))
              clear o6 b6 CS hX0
              go_wp2_with (at_builtin; (refine wpL_appn rfl (.tmp 64) (.tmp 68) rfl w.heap.size az a6 L.length X.length cz c6 L X rfl (by first | rfl | simp | omega) P6.out rfl (by first | rfl | simp | omega) O6.out (by omega) (by omega) ?_); intro a5 c5 w5 L5 Hl5 ho5 hb5 hk5 hA5; have HA5 := hid hA5; clear hA5; have Ho5 := hid ho5; clear ho5; have Hk5 := hid hk5; clear hk5; have hz5 := hb5.size)
              go_roundw
              case rel => exact ⟨k + 1, a5, c5, L5, hlt, by go_num, rfl, hid (by rw [Hl5.out, HT.out, HP.out, ← HL.out]), Ho5, B6.out.trans (hb5.mono (Nat.le_refl _)), by rw [Hl5.out, List.length_append, Nat.succ_mul]; omega⟩
              case measure => simp [intOf]; omega
            · have HP : Hid (ptx ⟨2, q, how, text, els⟩ ([] : List Int) = []) := hid (by simp [ptx, hels rfl])
              go_wp2_with fail
              go_roundw
              case rel => exact ⟨k + 1, az, cz, L, hlt, by go_num, rfl, hid (by rw [HT.out, HP.out, ← HL.out, List.append_nil]), HOV, BV.out, by rw [Nat.succ_mul]; omega⟩
              case measure => simp [intOf]; omega
            · have HP : Hid (ptx ⟨3, q, how, text, els⟩ ([] : List Int) = els) := hid (by simp [ptx])
              rw [HP.out] at TL
              have hX := TL.out
              go_wp2_with (at_builtin; (refine wpL_appn rfl (.tmp 89) (.tmp 91) rfl w.heap.size az ea L.length els.length cz ec L els rfl (by first | rfl | simp | omega) HOV.out rfl (by first | rfl | simp | omega) SEV.out (by omega) zV ?_); intro a5 c5 w5 L5 Hl5 ho5 hb5 hk5 hA5; have HA5 := hid hA5; clear hA5; have Ho5 := hid ho5; clear ho5; have Hk5 := hid hk5; clear hk5; have hz5 := hb5.size)
              go_roundw
              case rel => exact ⟨k + 1, a5, c5, L5, hlt, by go_num, rfl, hid (by rw [Hl5.out, HT.out, HP.out, ← HL.out]), Ho5, BV.out.trans (hb5.mono (Nat.le_refl _)), by rw [Hl5.out, List.length_append, Nat.succ_mul]; omega⟩
              case measure => simp [intOf]; omega
            · have HP : Hid (ptx ⟨4, q, how, text, els⟩ ([] : List Int) = els) := hid (by simp [ptx])
              rw [HP.out] at TL
              have hX := TL.out
              go_wp2_with (at_builtin; (refine wpL_appn rfl (.tmp 89) (.tmp 91) rfl w.heap.size az ea L.length els.length cz ec L els rfl (by first | rfl | simp | omega) HOV.out rfl (by first | rfl | simp | omega) SEV.out (by omega) zV ?_); intro a5 c5 w5 L5 Hl5 ho5 hb5 hk5 hA5; have HA5 := hid hA5; clear hA5; have Ho5 := hid ho5; clear ho5; have Hk5 := hid hk5; clear hk5; have hz5 := hb5.size)
              go_roundw
              case rel => exact ⟨k + 1, a5, c5, L5, hlt, by go_num, rfl, hid (by rw [Hl5.out, HT.out, HP.out, ← HL.out]), Ho5, BV.out.trans (hb5.mono (Nat.le_refl _)), by rw [Hl5.out, List.length_append, Nat.succ_mul]; omega⟩
              case measure => simp [intOf]; omega
          · have hG0 : 0 < G.length := List.length_pos_iff.2 hG
            have q3 : decide ((0 : Int) < (G.length : Int)) = true := decide_eq_true (by omega)
            have q4 : decide (0 < G.length) = true := decide_eq_true hG0
            go_upto_region 8 with fail
            rw [← hV]; clear hV
            rcases hkind with rfl | rfl | rfl | rfl | rfl
            · have HP : Hid (ptx ⟨0, q, how, text, els⟩ G = text) := hid (by simp [ptx])
              rw [HP.out] at TL
              have hX := TL.out
              go_wp2_with (at_builtin; (refine wpL_appn rfl (.tmp 56) (.tmp 58) rfl w.heap.size az ta L.length text.length cz tc L text rfl (by first | rfl | simp | omega) HOV.out rfl (by first | rfl | simp | omega) STV.out (by omega) zV ?_); intro a5 c5 w5 L5 Hl5 ho5 hb5 hk5 hA5; have HA5 := hid hA5; clear hA5; have Ho5 := hid ho5; clear ho5; have Hk5 := hid hk5; clear hk5; have hz5 := hb5.size)
              go_roundw
              case rel => exact ⟨k + 1, a5, c5, L5, hlt, by go_num, rfl, hid (by rw [Hl5.out, HT.out, HP.out, ← HL.out]), Ho5, BV.out.trans (hb5.mono (Nat.le_refl _)), by rw [Hl5.out, List.length_append, Nat.succ_mul]; omega⟩
              case measure => simp [intOf]; omega
            · have CS := hid (rcase_c aG cG G how V HSG.out)
              go_wp2_with fail
              refine CS.out.mono ?_
              rintro _ w6 ⟨a6, c6, rfl, o6, b6⟩
              obtain ⟨X, hX0⟩ : ∃ X, X = cas G how := ⟨_, rfl⟩
              rw [← hX0] at o6
              rw [← hX0]
              have HP : Hid (ptx ⟨1, q, how, text, els⟩ G = X) := hid (by rw [hX0]; simp [ptx])
              rw [HP.out] at TL
              have hX := TL.out
              have O6 := hid o6.sl
              have P6 := hid (HOV.out.grow b6)
              have z6 := b6.size
              have B6 := hid (BV.out.trans (b6.mono zV))
              clear o6 b6 CS hX0
              go_wp2_with (at_builtin; (refine wpL_appn rfl (.tmp 64) (.tmp 68) rfl w.heap.size az a6 L.length X.length cz c6 L X rfl (by first | rfl | simp | omega) P6.out rfl (by first | rfl | simp | omega) O6.out (by omega) (by omega) ?_); intro a5 c5 w5 L5 Hl5 ho5 hb5 hk5 hA5; have HA5 := hid hA5; clear hA5; have Ho5 := hid ho5; clear ho5; have Hk5 := hid hk5; clear hk5; have hz5 := hb5.size)
              go_roundw
              case rel => exact ⟨k + 1, a5, c5, L5, hlt, by go_num, rfl, hid (by rw [Hl5.out, HT.out, HP.out, ← HL.out]), Ho5, B6.out.trans (hb5.mono (Nat.le_refl _)), by rw [Hl5.out, List.length_append, Nat.succ_mul]; omega⟩
              case measure => simp [intOf]; omega
            · have HP : Hid (ptx ⟨2, q, how, text, els⟩ G = text) := hid (by simp [ptx, hG])
              rw [HP.out] at TL
              have hX := TL.out
              go_wp2_with (at_builtin; (refine wpL_appn rfl (.tmp 56) (.tmp 58) rfl w.heap.size az ta L.length text.length cz tc L text rfl (by first | rfl | simp | omega) HOV.out rfl (by first | rfl | simp | omega) STV.out (by omega) zV ?_); intro a5 c5 w5 L5 Hl5 ho5 hb5 hk5 hA5; have HA5 := hid hA5; clear hA5; have Ho5 := hid ho5; clear ho5; have Hk5 := hid hk5; clear hk5; have hz5 := hb5.size)
              go_roundw
              case rel => exact ⟨k + 1, a5, c5, L5, hlt, by go_num, rfl, hid (by rw [Hl5.out, HT.out, HP.out, ← HL.out]), Ho5, BV.out.trans (hb5.mono (Nat.le_refl _)), by rw [Hl5.out, List.length_append, Nat.succ_mul]; omega⟩
              case measure => simp [intOf]; omega
            · have HP : Hid (ptx ⟨3, q, how, text, els⟩ G = G) := hid (by simp [ptx, hG])
              rw [HP.out] at TL
              have hX := TL.out
              go_wp2_with (at_builtin; (refine wpL_appn rfl (.tmp 77) (.tmp 78) rfl w.heap.size az aG L.length G.length cz cG L G rfl (by first | rfl | simp | omega) HOV.out rfl (by first | rfl | simp | omega) HSG.out (by omega) zV ?_); intro a5 c5 w5 L5 Hl5 ho5 hb5 hk5 hA5; have HA5 := hid hA5; clear hA5; have Ho5 := hid ho5; clear ho5; have Hk5 := hid hk5; clear hk5; have hz5 := hb5.size)
              go_roundw
              case rel => exact ⟨k + 1, a5, c5, L5, hlt, by go_num, rfl, hid (by rw [Hl5.out, HT.out, HP.out, ← HL.out]), Ho5, BV.out.trans (hb5.mono (Nat.le_refl _)), by rw [Hl5.out, List.length_append, Nat.succ_mul]; omega⟩
              case measure => simp [intOf]; omega
            · have HP : Hid (ptx ⟨4, q, how, text, els⟩ G = text) := hid (by simp [ptx, hG])
              rw [HP.out] at TL
              have hX := TL.out
              go_wp2_with (at_builtin; (refine wpL_appn rfl (.tmp 56) (.tmp 58) rfl w.heap.size az ta L.length text.length cz tc L text rfl (by first | rfl | simp | omega) HOV.out rfl (by first | rfl | simp | omega) STV.out (by omega) zV ?_); intro a5 c5 w5 L5 Hl5 ho5 hb5 hk5 hA5; have HA5 := hid hA5; clear hA5; have Ho5 := hid ho5; clear ho5; have Hk5 := hid hk5; clear hk5; have hz5 := hb5.size)
              go_roundw
              case rel => exact ⟨k + 1, a5, c5, L5, hlt, by go_num, rfl, hid (by rw [Hl5.out, HT.out, HP.out, ← HL.out]), Ho5, BV.out.trans (hb5.mono (Nat.le_refl _)), by rw [Hl5.out, List.length_append, Nat.succ_mul]; omega⟩
              case measure => simp [intOf]; omega
        · have q1 : decide ((q : Int) < (Gs.length : Int)) = false := decide_eq_false (by omega)
          have q2 : decide (q < Gs.length) = false := decide_eq_false hq
          clear GV
          go_upto_region 8 with fail
          rw [← hV]; clear hV
          rcases hkind with rfl | rfl | rfl | rfl | rfl
          · have HP : Hid (ptx ⟨0, q, how, text, els⟩ ([] : List Int) = text) := hid (by simp [ptx])
            rw [HP.out] at TL
            have hX := TL.out
            go_wp2_with (at_builtin; (refine wpL_appn rfl (.tmp 56) (.tmp 58) rfl w.heap.size az ta L.length text.length cz tc L text rfl (by first | rfl | simp | omega) HOV.out rfl (by first | rfl | simp | omega) STV.out (by omega) zV ?_); intro a5 c5 w5 L5 Hl5 ho5 hb5 hk5 hA5; have HA5 := hid hA5; clear hA5; have Ho5 := hid ho5; clear ho5; have Hk5 := hid hk5; clear hk5; have hz5 := hb5.size)
            go_roundw
            case rel => exact ⟨k + 1, a5, c5, L5, hlt, by go_num, rfl, hid (by rw [Hl5.out, HT.out, HP.out, ← HL.out]), Ho5, BV.out.trans (hb5.mono (Nat.le_refl _)), by rw [Hl5.out, List.length_append, Nat.succ_mul]; omega⟩
            case measure => simp [intOf]; omega
          · have CS := hid (rcase_c none 0 ([] : List Int) how V (Sl.nil V none))
            go_wp2_with fail
            refine CS.out.mono ?_
            rintro _ w6 ⟨a6, c6, rfl, o6, b6⟩
            obtain ⟨X, hX0⟩ : ∃ X, X = cas ([] : List Int) how := ⟨_, rfl⟩
            rw [← hX0] at o6
            rw [← hX0]
            have HP : Hid (ptx ⟨1, q, how, text, els⟩ ([] : List Int) = X) := hid (by rw [hX0]; simp [ptx])
            rw [HP.out] at TL
            have hX := TL.out
            have O6 := hid o6.sl
            have P6 := hid (HOV.out.grow b6)
            have z6 := b6.size
            have B6 := hid (BV.out.trans (b6.mono zV))
            clear o6 b6 CS hX0
            go_wp2_with (at_builtin; (refine wpL_appn rfl (.tmp 64) (.tmp 68) rfl w.heap.size az a6 L.length X.length cz c6 L X rfl (by first | rfl | simp | omega) P6.out rfl (by first | rfl | simp | omega) O6.out (by omega) (by omega) ?_); intro a5 c5 w5 L5 Hl5 ho5 hb5 hk5 hA5; have HA5 := hid hA5; clear hA5; have Ho5 := hid ho5; clear ho5; have Hk5 := hid hk5; clear hk5; have hz5 := hb5.size)
            go_roundw
            case rel => exact ⟨k + 1, a5, c5, L5, hlt, by go_num, rfl, hid (by rw [Hl5.out, HT.out, HP.out, ← HL.out]), Ho5, B6.out.trans (hb5.mono (Nat.le_refl _)), by rw [Hl5.out, List.length_append, Nat.succ_mul]; omega⟩
            case measure => simp [intOf]; omega
          · have HP : Hid (ptx ⟨2, q, how, text, els⟩ ([] : List Int) = []) := hid (by simp [ptx, hels rfl])
            go_wp2_with fail
            go_roundw
            case rel => exact ⟨k + 1, az, cz, L, hlt, by go_num, rfl, hid (by rw [HT.out, HP.out, ← HL.out, List.append_nil]), HOV, BV.out, by rw [Nat.succ_mul]; omega⟩
            case measure => simp [intOf]; omega
          · have HP : Hid (ptx ⟨3, q, how, text, els⟩ ([] : List Int) = els) := hid (by simp [ptx])
            rw [HP.out] at TL
            have hX := TL.out
            go_wp2_with (at_builtin; (refine wpL_appn rfl (.tmp 89) (.tmp 91) rfl w.heap.size az ea L.length els.length cz ec L els rfl (by first | rfl | simp | omega) HOV.out rfl (by first | rfl | simp | omega) SEV.out (by omega) zV ?_); intro a5 c5 w5 L5 Hl5 ho5 hb5 hk5 hA5; have HA5 := hid hA5; clear hA5; have Ho5 := hid ho5; clear ho5; have Hk5 := hid hk5; clear hk5; have hz5 := hb5.size)
            go_roundw
            case rel => exact ⟨k + 1, a5, c5, L5, hlt, by go_num, rfl, hid (by rw [Hl5.out, HT.out, HP.out, ← HL.out]), Ho5, BV.out.trans (hb5.mono (Nat.le_refl _)), by rw [Hl5.out, List.length_append, Nat.succ_mul]; omega⟩
            case measure => simp [intOf]; omega
          · have HP : Hid (ptx ⟨4, q, how, text, els⟩ ([] : List Int) = els) := hid (by simp [ptx])
            rw [HP.out] at TL
            have hX := TL.out
            go_wp2_with (at_builtin; (refine wpL_appn rfl (.tmp 89) (.tmp 91) rfl w.heap.size az ea L.length els.length cz ec L els rfl (by first | rfl | simp | omega) HOV.out rfl (by first | rfl | simp | omega) SEV.out (by omega) zV ?_); intro a5 c5 w5 L5 Hl5 ho5 hb5 hk5 hA5; have HA5 := hid hA5; clear hA5; have Ho5 := hid ho5; clear ho5; have Hk5 := hid hk5; clear hk5; have hz5 := hb5.size)
            go_roundw
            case rel => exact ⟨k + 1, a5, c5, L5, hlt, by go_num, rfl, hid (by rw [Hl5.out, HT.out, HP.out, ← HL.out]), Ho5, BV.out.trans (hb5.mono (Nat.le_refl _)), by rw [Hl5.out, List.length_append, Nat.succ_mul]; omega⟩
            case measure => simp [intOf]; omega
      · obtain rfl : k = M.length := by omega
        go_wp2_with fail
        go_ret
        refine ⟨az, cz, ?_, ?_, HBw.out⟩
        · have := HL.out
          rw [List.take_length] at this
          rw [HR.out, if_pos trivial, ← this]; rfl
        · have := HL.out
          rw [List.take_length] at this
          rw [HR.out, if_pos trivial, ← this]
          exact HO.out
end Go.Proofs.YtefgjicegbhcaaaGreat
namespace Go.Proofs.YtefgjicegbhcaaaGreat
open Go.RowKit FmM

theorem tape_nu {W V : World} {a0 : Option Addr} {l0 : List Int} {c0 : Nat} (hV : V = W.alloc (.cells #[.slice a0 l0.length c0, .int .i64 0] 34)) : TapeAt V W.heap.size a0 l0 c0 0 := by
  subst hV
  exact ⟨by simp, by rw [cell_alloc_new]; rfl, by rw [cell_alloc_new]; rfl, by simp, by omega⟩
theorem RSl.take {α : Type} {E : Enc α} {w : World} {a : Option Addr} {l : List α} (h : RSl E w a l) (m : Nat) : RSl E w a (l.take m) := by
  refine ⟨Nat.le_trans (by rw [List.length_take]; omega) h.len, ?_⟩
  rcases h.cells with rfl | ⟨b, off, ha, hc⟩
  · exact .inl (by simp)
  · by_cases hm : m ≤ l.length
    · refine .inr ⟨b, off, ha, fun n u hu => hc n u ?_⟩
      rw [rflat_take l m hm] at hu
      rw [List.getElem?_take] at hu
      split at hu
      · exact hu
      · cases hu
    · rw [List.take_of_length_le (by omega)]
      exact .inr ⟨b, off, ha, hc⟩
/-- the two fillers of a list of parts: the code's, the document's -/
def FillT (V : World) (a2 : Option Addr) (c2 : Nat) (Gs : List Tx) (ak : Option Addr) (ck n : Nat) (X : List Int) : Prop :=
  (∀ w', Below V.heap.size V w' → Calls Tryz.prog 11 #[.slice ak n ck, .slice a2 Gs.length c2] w' (Makes w' X)) ∧
  (∀ w', Below V.heap.size V w' → Calls Tryz.prog 13 #[.slice ak n ck, .slice a2 Gs.length c2] w' (Makes w' X))
theorem fillT (V : World) (a2 : Option Addr) (c2 : Nat) (Gs : List Tx) (ak : Option Addr) (ck : Nat) (K : List Fo) (sk : FSl V ak K) (fk : Fos V (fun _ => False) K) (h2 : TSl V a2 Gs ∧ Txs V Gs ∧ ∀ m, m ∈ Gs → m.l.length ≤ 1048576) (hk : K.length ≤ 61) (hx : ∀ m, m ∈ K → m.text.length ≤ 1048576 ∧ m.els.length ≤ 1048576) :
    FillT V a2 c2 Gs ak ck K.length (fillC (fps K) Gs) :=
  ⟨fun w' b => tfill_c ak ck K a2 c2 Gs 1048576 w' (sk.bel b) (fk.bel b) (h2.1.bel b) (h2.2.1.bel b) hx h2.2.2 (by have := Nat.mul_le_mul_right 1048576 hk; omega),
   fun w' b => rfill_c ak ck K a2 c2 Gs 1048576 w' (sk.bel b) (fk.bel b) (h2.1.bel b) (h2.2.1.bel b) hx h2.2.2 (by have := Nat.mul_le_mul_right 1048576 hk; omega)⟩
set_option maxRecDepth 20000 in
set_option maxHeartbeats 60000000 in
theorem fills_w (a0 : Option Addr) (c0 : Nat) (l0 : List Fo) (a1 : Option Addr) (c1 : Nat) (l1 : List Int) (a2 : Option Addr) (c2 : Nat) (Gs : List Tx) (W : World) (hlc : l0.length ≤ c0) (h0 : FSl W a0 l0 ∧ Fos W (fun _ => False) l0 ∧ ∀ m, m ∈ l0 → m.text.length ≤ 1048576 ∧ m.els.length ≤ 1048576) (h1 : I.Sl W a1 l1) (h2 : TSl W a2 Gs ∧ Txs W Gs ∧ ∀ m, m ∈ Gs → m.l.length ≤ 1048576) :
    Calls Tryz.prog 4 #[.slice a0 l0.length c0, .slice a1 l1.length c1, .slice a2 Gs.length c2] W fun e w' => e = .returned (.bool true) ∧ Below W.heap.size W w' := by
  obtain ⟨K0, hK0⟩ : ∃ K, K = l0.take 20 := ⟨_, rfl⟩
  have S0 : FSl W a0 K0 := by rw [hK0]; exact RSl.take h0.1 20
  have F0 : Fos W (fun _ => False) K0 := by rw [hK0]; exact fun m hm => h0.2.1 m (List.mem_of_mem_take hm)
  have X0 : Hid (∀ m, m ∈ K0 → m.text.length ≤ 1048576 ∧ m.els.length ≤ 1048576) := hid (by rw [hK0]; exact fun m hm => h0.2.2 m (List.mem_of_mem_take hm))
  have hk0 : K0.length ≤ 20 := by rw [hK0, List.length_take]; omega
  have hl0 : l0.length ≤ 1099511627776 := h0.1.len
  have HS0 := hid S0
  have HF0 := hid F0
  have hlen : Hid (K0.length = min 20 l0.length) := hid (by rw [hK0, List.length_take])
  obtain ⟨V, hV⟩ : ∃ V, V = W.alloc (.cells #[.slice a1 l1.length c1, .int .i64 0] 34) := ⟨_, rfl⟩
  have tV := tape_nu hV
  have bV : Below W.heap.size W V := by subst hV; (repeat' (first | exact Below.refl _ _ | assumption | refine bdrewN ?_ _ | refine Below.drew ?_ | refine bal ?_ _ | refine bthen ?_ (by assumption)))
  have zV : V.heap.size = W.heap.size + 1 := by subst hV; simp
  have C := hid (format_c W.heap.size a1 l1 c1 V ⟨_, tV⟩ fun w' hb => h1.bel (bV.trans hb))
  have H2 := hid h2
  have BV := hid bV
  clear tV h0 h1 h2 bV S0 F0 hK0
  go_enter Tryz.func4, Tryz.ntmps4
  go_upto_if 15 with fail
  go_cut [0] (fun v wc => v = .slice a0 K0.length c0 ∧ wc = W)
  case first =>
    by_cases h20 : 20 < l0.length
    · have q1 : decide ((20 : Int) < (l0.length : Int)) = true := decide_eq_true (by omega)
      have q2 : (20 : Int) ≤ (c0 : Int) := by omega
      have hK : K0.length = 20 := by rw [hlen.out]; omega
      go_wp2_with fail
      go_meet
      exact ⟨by rw [hK]; try rfl, rfl⟩
    · have q1 : decide ((20 : Int) < (l0.length : Int)) = false := decide_eq_false (by omega)
      have hK : K0.length = l0.length := by rw [hlen.out]; omega
      go_wp2_with fail
      go_meet
      exact ⟨by rw [hK], rfl⟩
  case rest =>
    obtain ⟨rfl, rfl⟩ := hcut
    go_wp2_with fail
    rw [← hV]; clear hV
    refine C.out.mono ?_
    rintro _ w1 ⟨aF, cF, F, rfl, ho, hl, -, hk⟩
    have B1 := hid (BV.out.trans (hk.belowp (by omega)))
    have O1 := hid ho
    have L1 := hid hl
    have z1 := hk.size
    clear ho hl hk C
    go_wp2_with (at_builtin; (refine wpL_appn rfl (.tmp 22) (.tmp 23) rfl V.heap.size aF (some ⟨w1.heap.size, 0, none⟩) F.length 1 cF 1 F [47] rfl (by first | rfl | simp | omega) (O1.out.grow (by (repeat' (first | exact Below.refl _ _ | assumption | refine bdrewN ?_ _ | refine Below.drew ?_ | refine bal ?_ _ | refine bthen ?_ (by assumption))))) rfl (by first | rfl | simp | omega) (Sl.lit' _ [47] _ _ (by simp) (by simp) (by simp [rng]) _ rfl) (by have := L1.out; simp; omega) (by simp; omega) ?_); intro a5 c5 w5 L5 Hl5 ho5 hb5 hk5 hA5; have HA5 := hid hA5; clear hA5; have Ho5 := hid ho5; clear ho5; have Hk5 := hid hk5; clear hk5; have hz5 := hb5.size)
    have B5 : Hid (Below wc.heap.size wc w5) := hid (B1.out.trans ((((Below.refl V.heap.size w1).alloc z1 _).trans hb5).mono (by omega)))
    have l5 : L5.length ≤ 61 := by rw [Hl5.out, List.length_append]; have := L1.out; simp; omega
    have SC := hid (fscan_c a5 c5 L5 w5 Ho5.out.sl (by omega))
    refine SC.out.mono ?_
    rintro _ w6 ⟨af, cf, LA, on, b, rfl, hsc, hl6, hw6, b6⟩
    have FA := hid (hsc.fml (by omega) (by omega) (by omega))
    have B6 := hid (B5.out.trans (b6.mono B5.out.size))
    have z6 := B6.out.size
    obtain ⟨V7, hV7⟩ : ∃ V, V = w6.alloc (.cells #[.slice a0 K0.length c0, .slice af LA.length cf] 27) := ⟨_, rfl⟩
    have b67 : Below w6.heap.size w6 V7 := by subst hV7; (repeat' (first | exact Below.refl _ _ | assumption | refine bdrewN ?_ _ | refine Below.drew ?_ | refine bal ?_ _ | refine bthen ?_ (by assumption)))
    have r0 : V7.cell? ⟨w6.heap.size, 0, none⟩ = some (.slice a0 K0.length c0) := by rw [hV7, cell_alloc_new]; rfl
    have r1 : V7.cell? ⟨w6.heap.size, 1, none⟩ = some (.slice af LA.length cf) := by rw [hV7, cell_alloc_new]; rfl
    have B7 := hid (B6.out.trans (b67.mono z6))
    have H27 : TSl V7 a2 Gs ∧ Txs V7 Gs ∧ ∀ m, m ∈ Gs → m.l.length ≤ 1048576 := ⟨H2.out.1.bel B7.out, H2.out.2.1.bel B7.out, H2.out.2.2⟩
    have FA7 := FA.out.bel b67
    obtain ⟨XA, hXA⟩ : ∃ X, X = fillC (fps K0) Gs := ⟨_, rfl⟩
    obtain ⟨XB, hXB⟩ : ∃ X, X = fillC (fps LA) Gs := ⟨_, rfl⟩
    have TA := fillT V7 a2 c2 Gs a0 c0 K0 (HS0.out.bel B7.out) (HF0.out.bel B7.out) H27 (by omega) X0.out
    have TB := fillT V7 a2 c2 Gs af cf LA FA7.sl FA7.fos H27 FA7.len (fun m hm => by have := FA7.tx m hm; omega)
    rw [← hXA] at TA
    rw [← hXB] at TB
    have TAB : Hid (∀ k, k < 2 → ∃ ak ck n X, V7.cell? ⟨w6.heap.size, k, none⟩ = some (.slice ak n ck) ∧ FillT V7 a2 c2 Gs ak ck n X) := hid fun k hk => by
      rcases (show k = 0 ∨ k = 1 by omega) with rfl | rfl
      · exact ⟨_, _, _, _, r0, TA⟩
      · exact ⟨_, _, _, _, r1, TB⟩
    clear hsc b6 SC Hl5 hb5 Hk5 HA5 Ho5 hz5 l5 B5 B1 O1 L1 z1 hl6 r0 r1 TA TB FA FA7 H27 H2 hXA hXB b67 zV
    go_upto_region 5 with fail
    rw [← hV7]; clear hV7
    go_loopw [11, 12, 33] (fun _ _ iv wr => ∃ k : Nat, k ≤ 2 ∧ iv = .int .i64 k ∧ Hid (Below V7.heap.size V7 wr)) (fun _ _ iv _ => 2 - (intOf iv).toNat)
    case atStart => exact ⟨0, by omega, rfl, hid (Below.refl _ _)⟩
    case round =>
      obtain ⟨k, hk, rfl, BR⟩ := hrel
      by_cases hlt : k < 2
      · obtain ⟨ak, ck, n, X, rc, TF, RF⟩ := TAB.out k hlt
        have r0 := (BR.out.cell (World.block_lt_of_cell? V7 _ rc)).trans rc
        have q1 : decide ((k : Int) < 2) = true := decide_eq_true (by omega)
        have q2 : (k : Int) < 2 := by omega
        have TF := hid TF
        have RF := hid RF
        clear rc
        go_wp2_with fail
        refine (TF.out wr BR.out).mono ?_
        rintro _ w8 ⟨a8, c8, rfl, o8, b8⟩
        have O8 := hid o8
        have B8 := hid (BR.out.trans (b8.mono BR.out.size))
        have B8r := hid b8
        clear o8 b8
        go_wp2_with fail
        refine (RF.out w8 B8.out).mono ?_
        rintro _ w9 ⟨a9, c9, rfl, o9, b9⟩
        have O9 := hid o9
        have O89 := hid (O8.out.grow b9)
        have B9 := hid (B8.out.trans (b9.mono B8.out.size))
        have zz9 := B8r.out.size
        have z9 := b9.size
        clear o9 b9
        have SM := hid (rsame_c a8 a9 c8 c9 X X w9 O89.out.sl O9.out.sl)
        rw [eqM_self] at SM
        go_wp2_with fail
        refine SM.out.mono ?_
        rintro _ _ ⟨rfl, n10, rfl⟩
        generalize hV10 : w9.drewN n10 = w10
        have b10 : Below w9.heap.size w9 w10 := by rw [← hV10]; exact bdrewN (Below.refl _ _) _
        have O10 := hid (O89.out.grow b10)
        have B10 := hid (B9.out.trans (b10.mono B9.out.size))
        have z10 := b10.size
        clear hV10 b10 SM
        go_wp2_with fail
        refine (spoil_c wr.heap.size a8 c8 X w10 O10.out).mono ?_
        rintro _ w11 ⟨rfl, b11⟩
        have B11 := hid (B10.out.trans (b11.mono BR.out.size))
        clear b11
        go_wp2_with fail
        refine (TF.out w11 B11.out).mono ?_
        rintro _ w12 ⟨a12, c12, rfl, o12, b12⟩
        have O12 := hid o12
        have B12 := hid (B11.out.trans (b12.mono B11.out.size))
        clear o12 b12
        go_wp2_with fail
        refine (RF.out w12 B12.out).mono ?_
        rintro _ w13 ⟨a13, c13, rfl, o13, b13⟩
        have SM := hid (rsame_c a12 a13 c12 c13 X X w13 (O12.out.grow b13).sl o13.sl)
        rw [eqM_self] at SM
        have B13 := hid (B12.out.trans (b13.mono B12.out.size))
        clear o13 b13
        go_wp2_with fail
        refine SM.out.mono ?_
        rintro _ _ ⟨rfl, n14, rfl⟩
        go_wp2_with fail
        go_roundw
        case rel => exact ⟨k + 1, by omega, by go_num, hid (bdrewN B13.out _)⟩
        case measure => simp [intOf]; omega
      · obtain rfl : k = 2 := by omega
        have B8 := hid (B7.out.trans (BR.out.mono B7.out.size))
        go_wp2_with fail
        refine (known12_c wr).mono ?_
        rintro _ w9 ⟨rfl, b9⟩
        have B9 := hid (B8.out.trans (b9.mono B8.out.size))
        clear b9
        go_wp2_with fail
        go_ret
        exact ⟨rfl, B9.out⟩
end Go.Proofs.YtefgjicegbhcaaaGreat
namespace Go.Proofs.YtefgjicegbhcaaaGreat
open Go.RowKit Go.ChangeShapes Go.WideShapes Go.ChangeAt

set_option maxRecDepth 100000 in
theorem transformFills_core (H : Type) (enc : TypeId × Value → H) (W : World) (base : Nat) (args : Array Value) (ds gs : List (DataW H)) (before : List MemPlace)
    (hval0 : ∀ (j : Nat) t v, Tryz.f4.params[j]? = some t → args[j]? = some v → Value.okWide Tryz.prog W .any base t v)
    (hW : DataW.Whole enc Tryz.prog Tryz.f4.params.toList Rows.transformFillsSpec.vars false W args.toList ds gs before)
    (hk : Rows.uptoSmall H (ds ++ gs) = true) :
    Calls Tryz.prog 4 args W fun e W' => ∃ v, e = .returned v ∧ Rows.transformFillsSpec.post enc Tryz.prog Tryz.f4 false true false false W args v W' := by
  have hW' := hW
  obtain ⟨p, q, hA0, hV, rfl, _, _⟩ := hW
  have hA : DataW.TrodAll enc Tryz.prog W 0 (fun _ => true) true Tryz.f4.params.toList args.toList ds p := hA0
  have hval := hval0
  rw [Tryz.params4] at hA hval
  obtain ⟨rfl, rfl⟩ := trodVars_none hV
  obtain ⟨v0, vs0, d0, ds0, p0, q0, hargs0, rfl, rfl, h0, r0⟩ := trodAll_cons hA
  obtain ⟨v1, vs1, d1, ds1, p1, q1, hargs1, rfl, rfl, h1, r1⟩ := trodAll_cons r0
  obtain ⟨v2, vs2, d2, ds2, p2, q2, hargs2, rfl, rfl, h2, r2⟩ := trodAll_cons r1
  obtain ⟨hnil, rfl, rfl⟩ := trodAll_nil r2
  subst hnil; subst hargs2; subst hargs1
  obtain rfl : args = #[v0, v1, v2] := by cases args; simp_all
  have hbulk := upto_bound hk
  simp only [List.append_nil, Rows.uptoBulkAll] at hbulk
  obtain ⟨a0, l0, c0, rfl, hlc0, hd0, hr0⟩ := open_fos (hval 0 27 v0 rfl rfl) h0
  obtain ⟨hc0, hT0, hK0⟩ := fos_bulk hd0 (n := 1048576) (by omega) (by omega)
  have q0 : l0.length ≤ 1048576 := by omega
  have s0 := And.intro (hr0.rsl (by show _ ≤ 1099511627776; omega)) (And.intro hT0 hK0)
  obtain ⟨a1, l1, c1, rfl, hlc1, hd1, hs1⟩ := I.open_runes (hval 1 28 v1 rfl rfl) h1
  have hc1 := bulk_cap hd1
  have q1 : l1.length ≤ 1048576 := by omega
  have s1 := hs1 (by omega)
  obtain ⟨a2, l2, c2, rfl, hlc2, hd2, hr2⟩ := open_txs (hval 2 29 v2 rfl rfl) h2
  obtain ⟨hc2, hT2, hK2⟩ := txs_bulk hd2 (n := 1048576) (by omega) (by omega)
  have q2 : l2.length ≤ 1048576 := by omega
  have s2 := And.intro (hr2.rsl (by show _ ≤ 4398046511104; omega)) (And.intro hT2 hK2)
  refine (fills_w a0 c0 l0 a1 c1 l1 a2 c2 l2 W hlc0 s0 s1 s2).mono fun e W' ⟨he, hb⟩ => ?_
  subst he
  exact ⟨_, rfl, law_post hW' rfl rfl rfl (by rw [Tryz.params4]; intro t ht; simp at ht; (rcases ht with rfl | rfl | rfl <;> exact ⟨by kernel_rfl, of_decide_eq_true (by kernel_rfl)⟩)) hb⟩

set_option maxRecDepth 100000 in
theorem transformFills_lifted (os : Os) (started : os.Started) (H : Type) (enc : TypeId × Value → H) (F : Stop.Interp) :
    ReturnsInHanded {} Tryz.checked os 4 .any ((Rows.OpenSpec.upto Rows.transformFillsSpec).pre6 enc Tryz.prog Tryz.f4 Rows.transformFillsUptoRow.domain false) (((Rows.OpenSpec.upto Rows.transformFillsSpec).at F).post enc Tryz.prog Tryz.f4 false true false false) := by
  refine returnsInHanded_of_cond (C := Tryz.checked) (s := Rows.OpenSpec.upto Rows.transformFillsSpec) (k := Rows.uptoSmall) rfl Tryz.own started (by kernel_rfl) Tryz.func4
    (OpenSpec.witness (enc := enc) (C := Tryz.checked) (s := Rows.OpenSpec.upto Rows.transformFillsSpec) (k := Rows.uptoSmall) rfl false ⟨#[], #[.slice none 0 0, .slice none 0 0, .slice none 0 0], []⟩ 8 (by kernel_rfl) (by kernel_rfl) (by kernel_rfl)
      (x := ([.nil, .nil, .nil], [], [])) (by kernel_rfl) rfl (by kernel_rfl)) ?_
  intro W base args ds gs before hval hW _ hk _
  exact transformFills_core H enc W base args ds gs before hval hW hk
theorem transformFills_holds : Rows.TransformFillsUptoSaid :=
  OpenClaim.holds_of_cond 4 Tryz.f4 rfl rfl rfl rfl rfl rfl rfl ⟨rfl, rfl, rfl, rfl, rfl⟩ rfl rfl rfl rfl rfl (by kernel_rfl) Tryz.func4 (by kernel_rfl)
    (of_decide_eq_true (by kernel_rfl)) (by unfold Func.isWrapper; rw [if_neg (of_decide_eq_false (by kernel_rfl))]; exact ⟨rfl, rfl⟩)
    (fun os started H enc _ F => transformFills_lifted os started H enc F)
end Go.Proofs.YtefgjicegbhcaaaGreat
