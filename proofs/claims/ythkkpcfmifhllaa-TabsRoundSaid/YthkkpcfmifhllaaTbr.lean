/- TabsRound: its walk. -/
import Derived.Test.YthkkpcfmifhllaaTbf
import Derived.Deep.DeepCutAuto
import Derived.Deep.OwnRows
namespace Go.Proofs.Ythkkpcfmifhllaa
open Go.RowKit Go.ChangeShapes

theorem make_b (n : Nat) (w : World) (hn : n ≤ 100000) : (Instr.makeSlice 34 (.int .i64 n) (.int .i64 n)).run Try.prog w = .ok (.slice (some ⟨w.heap.size, 0, none⟩) n n) (w.alloc (.cells (madeCells #[.bool false] n) 4)) :=
  run_make_row' 34 4 (.bool false) 1 Try.underlying34 (by kernel_rfl) rfl .i64 .i64 n (by omega) (by omega) w
set_option maxRecDepth 20000 in
set_option maxHeartbeats 16000000 in
theorem round18_w (a : Option Addr) (c : Nat) (l : List Fl) (w : World) (hl : RSl encFl w a l) :
    Calls Try.prog 4 #[.slice a l.length c] w fun e w' => e = .returned (.bool true) ∧ Below w.heap.size w w' := by
  have HL := hid hl
  go_enter Try.func4, Try.ntmps4
  clear hl
  go_wp2_with fail
  refine (few_c w a c l HL.out).mono ?_
  rintro _ w1 ⟨a2, c2, M, rfl, o2, hM, hM2, hok2, b1⟩
  have O2 := hid o2; have HOK := hid hok2; have B1 := hid b1
  clear o2 hok2 b1 HL hM2
  go_wp2_with fail
  refine (order_c w1 a2 c2 M O2.out.sl HOK.out (by omega)).mono ?_
  rintro _ w2 ⟨a3, c3, rfl, o3, b2⟩
  have O3 := hid o3; have B2 := hid b2
  clear o3 b2
  have hil := hid (ordI_len M)
  have hol : (ordI M).length ≤ 40 := by rw [ordI_len]; have := ordF_len M; omega
  have HM2 : Hid (RSl encFl w2 a2 M) := O2.out.sl.bel B2.out
  go_wp2
  go_loopw [22, 4] (fun v h wr => ∃ k : Nat, k ≤ M.length ∧ v = .int .i64 k ∧ h = .int .i64 (cntF M k : Nat) ∧ Hid (Below w2.heap.size w2 wr)) (fun v _ _ => M.length - (intOf v).toNat)
  case atStart => exact ⟨0, Nat.zero_le _, rfl, rfl, hid (Below.refl _ _)⟩
  case round =>
    obtain ⟨k, hk, rfl, rfl, HB⟩ := hrel
    have hck : cntF M k ≤ k := by
      have h2 : ∀ k, cntF M k ≤ k := by
        intro k; induction k with
        | zero => simp [cntF]
        | succ k ih => rw [cntF]; split <;> omega
      exact h2 k
    by_cases hlt : k < M.length
    · obtain ⟨b, off, rfl, hc⟩ := fl_load (HM2.out.bel HB.out) hlt
      obtain ⟨mm, hm⟩ : ∃ mm, mm = rgt M k := ⟨_, rfl⟩
      rw [← hm] at hc
      have hcn : cntF M (k + 1) = if stopF mm = true then cntF M k + 1 else cntF M k := by rw [cntF, ← hm]
      have Hm := hid hm
      clear hm
      obtain ⟨kind, num, fr, tt, par, of_, ia, il, ic, pa, pl, pc, fa, fl, fc, al, fo⟩ := mm
      obtain ⟨d0, d1, d2, d3, d4, d5, d6, d7, d8, d9, d10⟩ := rec_fl hc
      clear hc
      go_upto_region 7 with fail
      obtain ⟨V2, hV2⟩ : ∃ V2, V2 = wr.alloc (.cells #[.int .i64 kind, .int .i64 num, .int .i64 fr, .int .i64 tt, .int .i64 par, .int .i64 of_, .slice ia il ic, .slice pa pl pc, .slice fa fl fc, .bool al, .bool fo] 33) := ⟨_, rfl⟩
      rw [← hV2]
      have e0 : V2.cell? ⟨wr.heap.size, 0, none⟩ = some (.int .i64 kind) := by rw [hV2, cell_alloc_new]; rfl
      have e1 : V2.cell? ⟨wr.heap.size, 0 + 1, none⟩ = some (.int .i64 num) := by rw [hV2, cell_alloc_new]; rfl
      have HB2 : Hid (Below w2.heap.size w2 V2) := by rw [hV2]; exact HB.out.alloc HB.out.size _
      clear hV2 d0 d1 d2 d3 d4 d5 d6 d7 d8 d9 d10
      have HCn := hid hcn
      clear hcn
      by_cases hn : 0 ≤ num
      · have z : decide (num ≥ 0) = true := decide_eq_true hn
        by_cases h0 : kind = 0
        · have e : cntF M (k + 1) = cntF M k + 1 := by rw [HCn.out, if_pos (by simp [stopF, homeF, h0, hn])]
          have He := hid e; clear e
          have z0 : (kind == 0) = true := by simp [h0]
          have h0' := hid h0; clear h0
          go_wp2
          go_round
          case rel => exact ⟨k + 1, hlt, by go_num, by rw [He.out]; go_num, HB2⟩
          case measure => simp [intOf]; omega
        · have z0 : (kind == 0) = false := by simp [h0]
          by_cases h1 : kind = 1
          · have e : cntF M (k + 1) = cntF M k + 1 := by rw [HCn.out, if_pos (by simp [stopF, homeF, h1, hn])]
            have He := hid e; clear e
            have z1 : (kind == 1) = true := by simp [h1]
            have h1' := hid h1; clear h1 h0
            go_wp2
            go_round
            case rel => exact ⟨k + 1, hlt, by go_num, by rw [He.out]; go_num, HB2⟩
            case measure => simp [intOf]; omega
          · have z1 : (kind == 1) = false := by simp [h1]
            have e : cntF M (k + 1) = cntF M k := by rw [HCn.out, if_neg (by simp [stopF, homeF, h0, h1])]
            have He := hid e; clear e h0 h1
            go_wp2
            go_round
            case rel => exact ⟨k + 1, hlt, by go_num, by rw [He.out], HB2⟩
            case measure => simp [intOf]; omega
      · have z : decide (num ≥ 0) = false := decide_eq_false hn
        have e : cntF M (k + 1) = cntF M k := by rw [HCn.out, if_neg (by simp [stopF, hn])]
        have He := hid e; clear e
        by_cases h0 : kind = 0
        · have z0 : (kind == 0) = true := by simp [h0]
          have h0' := hid h0; clear h0
          go_wp2
          go_round
          case rel => exact ⟨k + 1, hlt, by go_num, by rw [He.out], HB2⟩
          case measure => simp [intOf]; omega
        · have z0 : (kind == 0) = false := by simp [h0]
          by_cases h1 : kind = 1
          · have z1 : (kind == 1) = true := by simp [h1]
            have h1' := hid h1; clear h1 h0
            go_wp2
            go_round
            case rel => exact ⟨k + 1, hlt, by go_num, by rw [He.out], HB2⟩
            case measure => simp [intOf]; omega
          · have z1 : (kind == 1) = false := by simp [h1]
            clear h0 h1
            go_wp2
            go_round
            case rel => exact ⟨k + 1, hlt, by go_num, by rw [He.out], HB2⟩
            case measure => simp [intOf]; omega
    · obtain rfl : k = M.length := by omega
      have hcc : cntF M M.length = (ordI M).length := by rw [← ordF_count, hil.out]
      rw [hcc]
      clear hcc hck
      have z : (((ordI M).length : Int) != ((ordI M).length : Int)) = false := by simp
      have mk := make_b M.length wr (by omega)
      obtain ⟨V, hV⟩ : ∃ V, V = wr.alloc (.cells (madeCells #[.bool false] M.length) 4) := ⟨_, rfl⟩
      rw [← hV] at mk
      have HR0 : Hid (V.rowIs wr.heap.size 4 M.length (fun _ => .bool false)) := by rw [hV]; exact World.rowIs_made wr (.bool false) M.length 4
      have HBV : Hid (Below w2.heap.size w2 V) := by rw [hV]; exact HB.out.alloc HB.out.size _
      have hg := HB.out.size
      obtain ⟨g, hgg⟩ : ∃ g, g = wr.heap.size := ⟨_, rfl⟩
      rw [← hgg] at mk HR0 hg
      have HBw : Hid (Below w.heap.size w w2) := B1.out.trans (B2.out.mono B1.out.size)
      clear hV hgg HB z
      have z : (((ordI M).length : Int) != ((ordI M).length : Int)) = false := by simp
      go_upto_region 13 with fail
      clear mk z
      go_wp2
      go_loopw [51] (fun v wr => ∃ k : Nat, k ≤ (ordI M).length ∧ v = .int .i64 k ∧ Hid (wr.rowIs g 4 M.length (fun i => .bool (decide (i ∈ (ordF M).take k)))) ∧ Hid (Below w2.heap.size w2 wr)) (fun v _ => (ordI M).length - (intOf v).toNat)
      case atStart => exact ⟨0, Nat.zero_le _, rfl, by simpa using HR0, HBV⟩
      case round =>
        obtain ⟨k, hk, rfl, HR, HB⟩ := hrel
        clear HR0 HBV
        by_cases hlt : k < (ordI M).length
        · have hko : k < (ordF M).length := by have := hil.out; omega
          obtain ⟨i, hi⟩ : ∃ i, i = (ordF M)[k] := ⟨_, rfl⟩
          have hi1 : i < M.length := by rw [hi]; exact (ordF_at hko).1
          have hi2 : Hid (stopF (rgt M i) = true) := by rw [hi]; exact (ordF_at hko).2
          have hgi : Hid (gt (ordI M) k = (i : Int)) := by
            show _ = _
            rw [ordI_gt M hko, hi]; simp [List.getD, List.getElem?_eq_getElem hko]
          have Hi := hid hi; clear hi
          have HO : Hid (I.Own wr w1.heap.size a3 c3 (ordI M)) := O3.out.grow HB.out
          obtain ⟨b3, o3, rfl, hc3⟩ := HO.out.sl.at hlt
          have ck := hc3 k hlt
          rw [hgi.out] at ck
          have HC3 := hid hc3; clear hc3
          have hnot : ¬ i ∈ (ordF M).take k := by
            intro h
            obtain ⟨j, hj, he⟩ := List.mem_iff_getElem.1 h
            rw [List.length_take] at hj
            rw [List.getElem_take] at he
            have := ordF_inj (l := M) (i := j) (j := k) (by omega) hko (by rw [he, Hi.out])
            omega
          have cs := HR.out.cell hi1
          rw [decide_eq_false hnot] at cs
          have fs := HR.out.frozen i
          clear hnot
          have HMr : Hid (RSl encFl wr a2 M) := HM2.out.bel HB.out
          obtain ⟨bm, om, rfl, _, cn⟩ := fl_num HMr.out hi1
          obtain ⟨X, hX⟩ : ∃ X, X = (rgt M i).num := ⟨_, rfl⟩
          rw [← hX] at cn
          have hX0 : 0 ≤ X := by rw [hX]; have := hi2.out; unfold stopF at this; simp only [Bool.and_eq_true, decide_eq_true_eq] at this; exact this.2
          have HX := hid hX; clear hX
          have z1 : ¬ (i : Int) < 0 := by omega
          have z2 : decide ((i : Int) ≥ (M.length : Int)) = false := decide_eq_false (by omega)
          have z3 : ¬ X < 0 := by omega
          have z4 : (i : Int) < (M.length : Int) := by omega
          go_upto_region 19 with fail
          obtain ⟨V3, hV3⟩ : ∃ V3, V3 = wr.setCell ⟨g, i, none⟩ (.bool true) := ⟨_, rfl⟩
          rw [← hV3]
          have HR3 : Hid (V3.rowIs g 4 M.length (fun j => .bool (decide (j ∈ (ordF M).take (k + 1))))) := by
            rw [hV3]
            refine (HR.out.set i (.bool true)).congr fun j hj => ?_
            have e : (ordF M).take (k + 1) = (ordF M).take k ++ [i] := by rw [List.take_succ_eq_append_getElem hko, Hi.out]
            rw [e]
            by_cases hji : j = i
            · rw [if_pos hji, hji]; simp
            · rw [if_neg hji]; simp [hji]
          have HB3 : Hid (Below w2.heap.size w2 V3) := by rw [hV3]; exact HB.out.setCell hg _
          clear hV3 HR HB cs fs ck cn HMr HO
          have hln := HM2.out.bel HB3.out
          have hnx := next_c V3 (some ⟨bm, om, none⟩) c2 M i hln HOK.out (by omega)
          by_cases hlast : k + 1 < (ordI M).length
          · have hk1 : k + 1 < (ordF M).length := by have := hil.out; omega
            obtain ⟨n, hn⟩ : ∃ n, n = (ordF M)[k + 1] := ⟨_, rfl⟩
            have en : besF (ordF M) i 1 = some n := by
              rw [besF_of hko (by rw [Hi.out]) (by omega) (by omega), show ((k : Int) + 1).toNat = k + 1 by omega, hn]; simp [List.getD, List.getElem?_eq_getElem hk1]
            have ep : besF (ordF M) n (-1) = some i := by
              rw [besF_of hk1 (by rw [hn]) (by omega) (by omega), show (((k + 1 : Nat) : Int) + -1).toNat = k by omega, Hi.out]; simp [List.getD, List.getElem?_eq_getElem hko]
            have hn1 : n < M.length := by rw [hn]; exact (ordF_at hk1).1
            have hgn : Hid (gt (ordI M) (k + 1) = (n : Int)) := by
              show _ = _
              rw [ordI_gt M hk1, hn]; simp [List.getD, List.getElem?_eq_getElem hk1]
            have hah : Hid (ahdF M i n) := by have h := ordF_next hk1; rwa [← hn, ← Hi.out] at h
            rw [en] at hnx
            have HNX : Hid (Calls Try.prog 11 #[.slice (some ⟨bm, om, none⟩) M.length c2, .int .i64 i] V3 fun e w' => e = .returned (.tuple #[.int .i64 n, .bool true]) ∧ Below V3.heap.size V3 w') := hnx
            have Hep := hid ep
            clear hnx en ep hn
            have z5 : decide ((k : Int) + 1 < ((ordI M).length : Int)) = true := decide_eq_true (by omega)
            go_wp2_with fail
            refine HNX.out.mono ?_
            rintro _ w4 ⟨rfl, b4⟩
            have B4 : Hid (Below w2.heap.size w2 w4) := HB3.out.trans (b4.mono HB3.out.size)
            have HR4 : Hid (w4.rowIs g 4 M.length (fun j => .bool (decide (j ∈ (ordF M).take (k + 1))))) := HR3.out.of_block (b4.block g HR3.out.lt)
            clear b4 HNX HR3 HB3
            have hpv := prev_c w4 (some ⟨bm, om, none⟩) c2 M n (HM2.out.bel B4.out) HOK.out (by omega)
            rw [Hep.out] at hpv
            have HPV : Hid (Calls Try.prog 12 #[.slice (some ⟨bm, om, none⟩) M.length c2, .int .i64 n] w4 fun e w' => e = .returned (.tuple #[.int .i64 i, .bool true]) ∧ Below w4.heap.size w4 w') := hpv
            clear hpv
            go_wp2_with fail
            refine HPV.out.mono ?_
            rintro _ w5 ⟨rfl, b5⟩
            have B5 : Hid (Below w2.heap.size w2 w5) := B4.out.trans (b5.mono B4.out.size)
            have HR5 : Hid (w5.rowIs g 4 M.length (fun j => .bool (decide (j ∈ (ordF M).take (k + 1))))) := HR4.out.of_block (b5.block g HR4.out.lt)
            clear b5 HPV HR4
            have HMr := HM2.out.bel B5.out
            obtain ⟨b', o', he, _, ci⟩ := fl_num HMr hi1
            simp only [Option.some.injEq, Addr.mk.injEq, and_true] at he
            obtain ⟨rfl, rfl⟩ := he
            obtain ⟨b', o', he, _, cm⟩ := fl_num HMr hn1
            simp only [Option.some.injEq, Addr.mk.injEq, and_true] at he
            obtain ⟨rfl, rfl⟩ := he
            have HOo : Hid (I.Own w5 w1.heap.size (some ⟨b3, o3, none⟩) c3 (ordI M)) := O3.out.grow B5.out
            obtain ⟨bo, oo, he, hco⟩ := HOo.out.sl.at hlast
            simp only [Option.some.injEq, Addr.mk.injEq, and_true] at he
            obtain ⟨rfl, rfl⟩ := he
            have cq := hco (k + 1) hlast
            rw [hgn.out] at cq
            clear hco HMr hln
            obtain ⟨Y, hY⟩ : ∃ Y, Y = (rgt M n).num := ⟨_, rfl⟩
            rw [← HX.out] at ci
            rw [← hY] at cm
            have hcase : (Y = 0 ∧ X = 0) ∨ (Y = 0 ∧ X ≠ 0) ∨ (Y ≠ 0 ∧ X ≠ 0 ∧ X < Y) ∨ (Y ≠ 0 ∧ X ≠ 0 ∧ X = Y ∧ i < n) := by
              have h := hah.out
              unfold ahdF at h
              rw [← HX.out, ← hY] at h
              omega
            have zi : (i : Int) < (M.length : Int) := by omega
            have zn : (n : Int) < (M.length : Int) := by omega
            have zk : (k : Int) + 1 < ((ordI M).length : Int) := by omega
            have y1 : ((n : Int) != (n : Int)) = false := by simp
            have y2 : ((i : Int) != (i : Int)) = false := by simp
            clear hY B4 HC3
            rcases hcase with ⟨hy, hx⟩ | ⟨hy, hx⟩ | ⟨hy, hx, hxy⟩ | ⟨hy, hx, hxy, hin⟩
            · have q1 : (X == 0) = true := by simp [hx]
              have q2 : (Y != 0) = false := by simp [hy]
              clear hx hy
              have HRk := HR5; have HBk := B5
              go_wp2_with fail
              go_quiet (fail)
              have HR6 : Hid ((w5.drewN nq).rowIs g 4 M.length (fun j => .bool (decide (j ∈ (ordF M).take (k + 1))))) := HRk
              have HB6 : Hid (Below w2.heap.size w2 (w5.drewN nq)) := bdrewN HBk.out nq
              have cq' : (w5.drewN nq).cell? ⟨b3, o3 + (k + 1), none⟩ = some (.int .i64 n) := cq
              clear ci cm cq HRk HBk
              generalize w5.drewN nq = w6 at HR6 HB6 cq' ⊢
              go_wp2
              go_round
              case rel => exact ⟨k + 1, hlt, by go_num, HR6, HB6⟩
              case measure => simp [intOf]; omega
            · have q1 : (X == 0) = false := by simp [hx]
              have q2 : (Y != 0) = false := by simp [hy]
              clear hx hy
              have HRk := HR5; have HBk := B5
              go_wp2_with fail
              go_quiet (fail)
              have HR6 : Hid ((w5.drewN nq).rowIs g 4 M.length (fun j => .bool (decide (j ∈ (ordF M).take (k + 1))))) := HRk
              have HB6 : Hid (Below w2.heap.size w2 (w5.drewN nq)) := bdrewN HBk.out nq
              have cq' : (w5.drewN nq).cell? ⟨b3, o3 + (k + 1), none⟩ = some (.int .i64 n) := cq
              clear ci cm cq HRk HBk
              generalize w5.drewN nq = w6 at HR6 HB6 cq' ⊢
              go_wp2
              go_round
              case rel => exact ⟨k + 1, hlt, by go_num, HR6, HB6⟩
              case measure => simp [intOf]; omega
            · have q1 : (X == 0) = false := by simp [hx]
              have q2 : (Y != 0) = true := by simp [hy]
              have q3 : decide (X > Y) = false := decide_eq_false (by omega)
              have q4 : (X == Y) = false := by rw [beq_eq_false_iff_ne]; omega
              clear hx hy
              have HRk := HR5; have HBk := B5
              go_wp2_with fail
              go_quiet (fail)
              have HR6 : Hid ((w5.drewN nq).rowIs g 4 M.length (fun j => .bool (decide (j ∈ (ordF M).take (k + 1))))) := HRk
              have HB6 : Hid (Below w2.heap.size w2 (w5.drewN nq)) := bdrewN HBk.out nq
              have cq' : (w5.drewN nq).cell? ⟨b3, o3 + (k + 1), none⟩ = some (.int .i64 n) := cq
              clear ci cm cq HRk HBk
              generalize w5.drewN nq = w6 at HR6 HB6 cq' ⊢
              go_wp2
              go_round
              case rel => exact ⟨k + 1, hlt, by go_num, HR6, HB6⟩
              case measure => simp [intOf]; omega
            · have q1 : (X == 0) = false := by simp [hx]
              have q2 : (Y != 0) = true := by simp [hy]
              have q3 : decide (X > Y) = false := decide_eq_false (by omega)
              have q4 : (X == Y) = true := by simp [hxy]
              have q5 : decide ((i : Int) > (n : Int)) = false := decide_eq_false (by omega)
              have Hxy := hid hxy
              clear hx hy hxy
              have HRk := HR5; have HBk := B5
              go_wp2_with fail
              go_quiet (fail)
              have HR6 : Hid ((w5.drewN nq).rowIs g 4 M.length (fun j => .bool (decide (j ∈ (ordF M).take (k + 1))))) := HRk
              have HB6 : Hid (Below w2.heap.size w2 (w5.drewN nq)) := bdrewN HBk.out nq
              have cq' : (w5.drewN nq).cell? ⟨b3, o3 + (k + 1), none⟩ = some (.int .i64 n) := cq
              clear ci cm cq HRk HBk
              generalize w5.drewN nq = w6 at HR6 HB6 cq' ⊢
              go_wp2
              go_round
              case rel => exact ⟨k + 1, hlt, by go_num, HR6, HB6⟩
              case measure => simp [intOf]; omega
          · have en : besF (ordF M) i 1 = none := besF_none fun k2 g1 g2 g3 g4 => by
              have e1 : (ordF M).getD k2 0 = (ordF M)[k2]'g1 := by simp [List.getD, List.getElem?_eq_getElem g1]
              rw [e1, Hi.out] at g2
              have := ordF_inj g1 hko (by exact_mod_cast g2)
              have := hil.out
              omega
            rw [en] at hnx
            have HNX : Hid (Calls Try.prog 11 #[.slice (some ⟨bm, om, none⟩) M.length c2, .int .i64 i] V3 fun e w' => e = .returned (.tuple #[.int .i64 0, .bool false]) ∧ Below V3.heap.size V3 w') := hnx
            clear hnx en hln
            have z5 : decide ((k : Int) + 1 < ((ordI M).length : Int)) = false := decide_eq_false (by omega)
            go_wp2_with fail
            refine HNX.out.mono ?_
            rintro _ w4 ⟨rfl, b4⟩
            have B4 : Hid (Below w2.heap.size w2 w4) := HB3.out.trans (b4.mono HB3.out.size)
            have HR4 : Hid (w4.rowIs g 4 M.length (fun j => .bool (decide (j ∈ (ordF M).take (k + 1))))) := HR3.out.of_block (b4.block g HR3.out.lt)
            clear b4 HNX HR3 HB3
            go_wp2
            go_round
            case rel => exact ⟨k + 1, hlt, by go_num, HR4, B4⟩
            case measure => simp [intOf]; omega
        · obtain rfl : k = (ordI M).length := by omega
          go_wp2_with fail
          refine (known18_c wr).mono ?_
          rintro _ w6 ⟨rfl, b6⟩
          have B6 : Hid (Below w2.heap.size w2 w6) := HB.out.trans (b6.mono HB.out.size)
          clear b6
          go_wp2
          go_ret
          exact ⟨rfl, HBw.out.trans (B6.out.mono HBw.out.size)⟩
end Go.Proofs.Ythkkpcfmifhllaa
