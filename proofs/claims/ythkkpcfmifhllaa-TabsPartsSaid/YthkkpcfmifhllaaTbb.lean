/- Package tabs: Order. -/
import Derived.Test.YthkkpcfmifhllaaTba
import Derived.Deep.DeepCutAuto
namespace Go.Proofs.Ythkkpcfmifhllaa
open Go.RowKit Go.ChangeShapes

/-- the stops among the first k -/
def stL (l : List Fl) (k : Nat) : List Int := ((List.range k).filter fun i => stopF (rgt l i)).map fun (i : Nat) => (i : Int)
theorem stL_step (l : List Fl) (k : Nat) : stL l (k + 1) = if stopF (rgt l k) = true then stL l k ++ [(k : Int)] else stL l k := by
  unfold stL
  rw [List.range_succ, List.filter_append, List.map_append]
  by_cases h : stopF (rgt l k) = true
  · rw [if_pos h]; simp [h]
  · rw [if_neg h]; simp [h]
theorem stL_len (l : List Fl) (k : Nat) : (stL l k).length ≤ k := by
  unfold stL
  rw [List.length_map]
  exact Nat.le_trans (List.length_filter_le _ _) (by simp)
theorem stL_mem (l : List Fl) (k : Nat) (x : Int) : x ∈ stL l k ↔ ∃ i : Nat, x = i ∧ i < k ∧ stopF (rgt l i) = true := by
  unfold stL
  simp only [List.mem_map, List.mem_filter, List.mem_range]
  constructor
  · rintro ⟨i, ⟨h1, h2⟩, rfl⟩; exact ⟨i, rfl, h1, h2⟩
  · rintro ⟨i, rfl, h1, h2⟩; exact ⟨i, ⟨h1, h2⟩, rfl⟩
theorem stL_asc (l : List Fl) (k : Nat) : ∀ p q, p < q → q < (stL l k).length → gt (stL l k) p < gt (stL l k) q := by
  have h : (stL l k).Pairwise (· < ·) := by
    unfold stL
    rw [List.pairwise_map]
    refine List.Pairwise.imp (R := (· < ·)) (fun {a b} h => by omega) ?_
    exact List.Pairwise.filter _ List.pairwise_lt_range
  intro p q h1 h2
  rw [gt_get (by omega), gt_get h2]
  exact List.pairwise_iff_getElem.1 h p q (by omega) h2 h1
theorem stL_rgn (l : List Fl) : Rgn l.length (stL l l.length) := fun p hp => by
  obtain ⟨i, e, h1, _⟩ := (stL_mem l _ _).1 (gt_mem hp)
  rw [e]; omega
/-- the order, as ints -/
def ordI (l : List Fl) : List Int := (ordF l).map fun (i : Nat) => (i : Int)
theorem ord_sorted {l : List Fl} {M : List Int} (hok : OkF l) (hs : Seg 0 (stL l l.length).length (stL l l.length) M) (ht : Srt (keyF l) 0 (stL l l.length).length M) : M = ordI l := by
  have hmem : ∀ x, x ∈ M ↔ ∃ i : Nat, x = i ∧ i < l.length ∧ stopF (rgt l i) = true := fun x => (hs.mem (Nat.le_refl _) x).trans (stL_mem l _ x)
  have hcast : M = (M.map Int.toNat).map fun (i : Nat) => (i : Int) := by
    rw [List.map_map]
    conv => lhs; rw [← List.map_id M]
    refine List.map_congr_left fun x hx => ?_
    obtain ⟨i, rfl, _⟩ := (hmem x).1 hx
    rfl
  have ho : OrdF l (M.map Int.toNat) := by
    refine ⟨?_, fun i => ?_⟩
    · rw [List.pairwise_map, List.pairwise_iff_getElem]
      intro p q hp hq hpq
      have h := ht p q (Nat.zero_le _) hpq (by rw [← hs.len]; exact hq)
      rw [gt_get hp, gt_get hq] at h
      obtain ⟨i, e1, i1, i2⟩ := (hmem _).1 (List.getElem_mem hp)
      obtain ⟨j, e2, j1, j2⟩ := (hmem _).1 (List.getElem_mem hq)
      rw [e1, e2] at h ⊢
      have n1 := hok.num i1
      have n2 := hok.num j1
      have k1 : keyF l (i : Int) = trn (rgt l i).num := rfl
      have k2 : keyF l (j : Int) = trn (rgt l j).num := rfl
      unfold Ahd at h
      rw [k1, k2] at h
      have s1 : 0 ≤ (rgt l i).num := by unfold stopF at i2; simp only [Bool.and_eq_true, decide_eq_true_eq] at i2; exact i2.2
      have s2 : 0 ≤ (rgt l j).num := by unfold stopF at j2; simp only [Bool.and_eq_true, decide_eq_true_eq] at j2; exact j2.2
      show ahdF l i j
      unfold ahdF
      unfold trn at h
      split at h <;> split at h <;> omega
    · rw [List.mem_map]
      constructor
      · rintro ⟨x, hx, rfl⟩
        obtain ⟨i, rfl, h⟩ := (hmem x).1 hx
        exact h
      · intro h
        exact ⟨(i : Int), (hmem _).2 ⟨i, rfl, h⟩, rfl⟩
  rw [hcast, ho.unique (ordF_ord l)]
  rfl
set_option maxRecDepth 20000 in
set_option maxHeartbeats 4000000 in
theorem ishome_c (m : Fl) (w : World) : Calls Try.prog 16 #[m.val] w fun e w' => e = .returned (.bool (homeF m)) ∧ Below w.heap.size w w' := by
  obtain ⟨kind, num, fr, tt, par, of_, ia, il, ic, pa, pl, pc, fa, fl, fc, al, fo⟩ := m
  obtain ⟨V, hV⟩ : ∃ V, V = w.alloc (.cells #[.int .i64 kind, .int .i64 num, .int .i64 fr, .int .i64 tt, .int .i64 par, .int .i64 of_, .slice ia il ic, .slice pa pl pc, .slice fa fl fc, .bool al, .bool fo] 33) := ⟨_, rfl⟩
  have bV : Below w.heap.size w V := by subst hV; (repeat' (first | exact Below.refl _ _ | assumption | refine bdrewN ?_ _ | refine Below.drew ?_ | refine bal ?_ _ | refine bthen ?_ (by assumption)))
  have n0 : V.cell? ⟨w.heap.size, 0, none⟩ = some (.int .i64 kind) := by rw [hV, cell_alloc_new]; rfl
  have BV := hid bV; clear bV
  unfold Fl.val
  simp only [encFl]
  go_enter Try.func16, Try.ntmps16
  go_upto_region 1 with fail
  rw [← hV]; clear hV
  go_wp2
  all_goals go_ret
  all_goals first
    | exact ⟨ret_bool rfl, BV.out⟩
    | (rename_i hk; refine ⟨ret_bool ?_, BV.out⟩; simp [homeF, hk]; done)
    | (refine ⟨ret_bool ?_, BV.out⟩; simp [homeF]; done)
set_option maxRecDepth 20000 in
set_option maxHeartbeats 4000000 in
theorem rishome_c (m : Fl) (w : World) : Calls Try.prog 22 #[m.val] w fun e w' => e = .returned (.bool (homeF m)) ∧ Below w.heap.size w w' := by
  obtain ⟨kind, num, fr, tt, par, of_, ia, il, ic, pa, pl, pc, fa, fl, fc, al, fo⟩ := m
  obtain ⟨V, hV⟩ : ∃ V, V = w.alloc (.cells #[.int .i64 kind, .int .i64 num, .int .i64 fr, .int .i64 tt, .int .i64 par, .int .i64 of_, .slice ia il ic, .slice pa pl pc, .slice fa fl fc, .bool al, .bool fo] 33) := ⟨_, rfl⟩
  have bV : Below w.heap.size w V := by subst hV; (repeat' (first | exact Below.refl _ _ | assumption | refine bdrewN ?_ _ | refine Below.drew ?_ | refine bal ?_ _ | refine bthen ?_ (by assumption)))
  have n0 : V.cell? ⟨w.heap.size, 0, none⟩ = some (.int .i64 kind) := by rw [hV, cell_alloc_new]; rfl
  have BV := hid bV; clear bV
  unfold Fl.val
  simp only [encFl]
  go_enter Try.func22, Try.ntmps22
  go_upto_region 1 with fail
  rw [← hV]; clear hV
  go_wp2
  all_goals go_ret
  all_goals first
    | exact ⟨ret_bool rfl, BV.out⟩
    | (rename_i hk; refine ⟨ret_bool ?_, BV.out⟩; simp [homeF, hk]; done)
    | (refine ⟨ret_bool ?_, BV.out⟩; simp [homeF]; done)

/-- a field in memory, loaded -/
theorem fl_load {w : World} {a : Option Addr} {l : List Fl} (h : RSl encFl w a l) {i : Nat} (hi : i < l.length) :
    ∃ b off, a = some ⟨b, off, none⟩ ∧ Rec1 encFl w b (off + i * 11) (rgt l i) := by
  obtain ⟨b, off, ha, hc⟩ := h.at hi
  exact ⟨b, off, ha, hc i hi⟩
set_option maxRecDepth 20000 in
set_option maxHeartbeats 4000000 in
theorem order_c (w : World) (a : Option Addr) (c : Nat) (l : List Fl) (hl : RSl encFl w a l) (hok : OkF l) (hn : l.length ≤ 80) :
    Calls Try.prog 10 #[.slice a l.length c] w (I.Makes w (ordI l)) := by
  obtain ⟨V, hV⟩ : ∃ V, V = w.alloc (.cells #[.slice a l.length c] 22) := ⟨_, rfl⟩
  have bV : Below w.heap.size w V := by subst hV; (repeat' (first | exact Below.refl _ _ | assumption | refine bdrewN ?_ _ | refine Below.drew ?_ | refine bal ?_ _ | refine bthen ?_ (by assumption)))
  have n0 : V.cell? ⟨w.heap.size, 0, none⟩ = some (.slice a l.length c) := by rw [hV, cell_alloc_new]; rfl
  have nz : w.heap.size < V.heap.size := by rw [hV]; simp
  have HVs : Hid (V.heap.size = w.heap.size + 1) := by show _ = _; rw [hV]; simp
  have HL := hid hl
  have HOK := hid hok
  have BV := hid bV
  have N0 := hid n0
  go_enter Try.func10, Try.ntmps10
  go_upto_region 1 with fail
  rw [← hV]; clear hV bV hl hok
  go_wp2
  go_loopw [8, 3] (fun i o wr => ∃ (k c1 : Nat) (a1 : Option Addr), k ≤ l.length ∧ i = .int .i64 k ∧ o = .slice a1 (stL l k).length c1 ∧ Hid (I.Own wr (w.heap.size + 1) a1 c1 (stL l k)) ∧ Hid (Below (w.heap.size + 1) V wr)) (fun i _ _ => l.length - (intOf i).toNat)
  case atStart => exact ⟨0, 0, none, Nat.zero_le _, rfl, rfl, hid (I.Own.nil _ _), hid (Below.refl _ _)⟩
  case round =>
    obtain ⟨k, c1, a1, hk, rfl, rfl, HO, HB⟩ := hrel
    have hk8 := stL_len l k
    by_cases hlt : k < l.length
    · have hw : Below w.heap.size w wr := BV.out.trans (HB.out.mono (by omega))
      obtain ⟨b, off, rfl, hc⟩ := fl_load (HL.out.bel hw) hlt
      have HW := hid hw
      obtain ⟨mm, hm⟩ : ∃ mm, mm = rgt l k := ⟨_, rfl⟩
      rw [← hm] at hc
      have HST := stL_step l k
      rw [← hm] at HST
      have HST' := hid HST
      have Hm := hid hm
      clear HST hw hm
      obtain ⟨kind, num, fr, tt, par, of_, ia, il, ic, pa, pl, pc, fa, fl, fc, al, fo⟩ := mm
      obtain ⟨c0, c1', c2, c3, c4, c5, c6, c7, c8, c9, c10⟩ := rec_fl hc
      clear hc
      go_upto_region 5 with fail
      obtain ⟨V2, hV2⟩ : ∃ V2, V2 = wr.alloc (.cells #[.int .i64 kind, .int .i64 num, .int .i64 fr, .int .i64 tt, .int .i64 par, .int .i64 of_, .slice ia il ic, .slice pa pl pc, .slice fa fl fc, .bool al, .bool fo] 33) := ⟨_, rfl⟩
      rw [← hV2]
      have bV2 : Below wr.heap.size wr V2 := by subst hV2; (repeat' (first | exact Below.refl _ _ | assumption | refine bdrewN ?_ _ | refine Below.drew ?_ | refine bal ?_ _ | refine bthen ?_ (by assumption)))
      have zV2 : wr.heap.size < V2.heap.size := by rw [hV2]; simp
      clear c0 c1' c2 c3 c4 c5 c6 c7 c8 c9 c10
      have d0 : V2.cell? ⟨wr.heap.size, 0, none⟩ = some (.int .i64 kind) := by rw [hV2, cell_alloc_new]; rfl
      have d1 : V2.cell? ⟨wr.heap.size, 0 + 1, none⟩ = some (.int .i64 num) := by rw [hV2, cell_alloc_new]; rfl
      have d2 : V2.cell? ⟨wr.heap.size, 0 + 2, none⟩ = some (.int .i64 fr) := by rw [hV2, cell_alloc_new]; rfl
      have d3 : V2.cell? ⟨wr.heap.size, 0 + 3, none⟩ = some (.int .i64 tt) := by rw [hV2, cell_alloc_new]; rfl
      have d4 : V2.cell? ⟨wr.heap.size, 0 + 4, none⟩ = some (.int .i64 par) := by rw [hV2, cell_alloc_new]; rfl
      have d5 : V2.cell? ⟨wr.heap.size, 0 + 5, none⟩ = some (.int .i64 of_) := by rw [hV2, cell_alloc_new]; rfl
      have d6 : V2.cell? ⟨wr.heap.size, 0 + 6, none⟩ = some (.slice ia il ic) := by rw [hV2, cell_alloc_new]; rfl
      have d7 : V2.cell? ⟨wr.heap.size, 0 + 7, none⟩ = some (.slice pa pl pc) := by rw [hV2, cell_alloc_new]; rfl
      have d8 : V2.cell? ⟨wr.heap.size, 0 + 8, none⟩ = some (.slice fa fl fc) := by rw [hV2, cell_alloc_new]; rfl
      have d9 : V2.cell? ⟨wr.heap.size, 0 + 9, none⟩ = some (.bool al) := by rw [hV2, cell_alloc_new]; rfl
      have d10 : V2.cell? ⟨wr.heap.size, 0 + 10, none⟩ = some (.bool fo) := by rw [hV2, cell_alloc_new]; rfl
      have BV2 := hid bV2
      clear hV2 bV2
      go_wp2_with fail
      refine (ishome_c ⟨kind, num, fr, tt, par, of_, ia, il, ic, pa, pl, pc, fa, fl, fc, al, fo⟩ _).mono ?_
      rintro _ w2 ⟨rfl, hb2⟩
      have m1 := (hb2.cell (p := ⟨wr.heap.size, 0 + 1, none⟩) zV2).trans d1
      clear d0 d1 d2 d3 d4 d5 d6 d7 d8 d9 d10
      have HB2 : Hid (Below wr.heap.size wr w2) := BV2.out.trans (hb2.mono (by omega))
      have z2 : wr.heap.size < w2.heap.size := Nat.lt_of_lt_of_le zV2 hb2.size
      clear hb2 zV2 BV2
      obtain ⟨B, hB⟩ : ∃ B, B = homeF ⟨kind, num, fr, tt, par, of_, ia, il, ic, pa, pl, pc, fa, fl, fc, al, fo⟩ := ⟨_, rfl⟩
      have HS : Hid (stopF ⟨kind, num, fr, tt, par, of_, ia, il, ic, pa, pl, pc, fa, fl, fc, al, fo⟩ = (B && decide (0 ≤ num))) := by rw [hB]; rfl
      rw [← hB]; clear hB
      have zz : w.heap.size + 1 ≤ wr.heap.size := Nat.le_trans nz HB.out.size
      cases B with
      | false =>
        have e : stL l (k + 1) = stL l k := by rw [HST'.out, HS.out]; simp
        have He := hid e; clear e
        go_wp2
        go_round
        case rel => exact ⟨k + 1, c1, a1, hlt, by go_num, by rw [He.out], by rw [He.out]; exact HO.out.grow HB2.out, HB.out.trans (HB2.out.mono zz)⟩
        case measure => simp [intOf]; omega
      | true =>
        by_cases hnum : 0 ≤ num
        · have e : stL l (k + 1) = stL l k ++ [(k : Int)] := by rw [HST'.out, HS.out]; simp [hnum]
          have He := hid e; clear e
          go_wp2_with ((at_builtin; (refine I.wpL_appn rfl (.tmp 20) (.tmp 22) rfl (w.heap.size + 1) a1 (some ⟨w2.heap.size, 0, none⟩) (stL l k).length 1 c1 1 (stL l k) [(k : Int)] rfl (by first | rfl | simp | omega) ((HO.out.grow HB2.out).grow ((Below.refl _ _).alloc (Nat.le_refl _) _)) rfl (by first | rfl | simp | omega) (I.Sl.lit' w2 [(k : Int)] _ _ rfl (by simp) (I.rng_one (by omega)) _ rfl) (by simp; omega) (by simp; omega) ?_); intro a5 c5 w5 L5 Hl5 ho5 hb5 hk5 hA5; have HA5 := hid hA5; clear hA5; have Ho5 := hid ho5; clear ho5; have Hk5 := hid hk5; clear hk5; have hz5 := hb5.size))
          go_round
          case rel =>
            refine ⟨k + 1, c5, a5, hlt, by go_num, by rw [He.out, ← Hl5.out], ?_, ?_⟩
            · rw [He.out, ← Hl5.out]; exact Ho5.out
            · exact HB.out.trans ((HB2.out.mono zz).trans ((((Below.refl _ _).alloc (Nat.le_refl _) _).mono (by omega)).trans hb5))
          case measure => simp [intOf]; omega
        · have e : stL l (k + 1) = stL l k := by rw [HST'.out, HS.out]; simp [hnum]
          have He := hid e; clear e
          go_wp2
          go_round
          case rel => exact ⟨k + 1, c1, a1, hlt, by go_num, by rw [He.out], by rw [He.out]; exact HO.out.grow HB2.out, HB.out.trans (HB2.out.mono zz)⟩
          case measure => simp [intOf]; omega
    · obtain rfl : k = l.length := by omega
      obtain ⟨L, hL⟩ : ∃ L, L = stL l l.length := ⟨_, rfl⟩
      rw [← hL] at HO hk8
      have HLe := hid hL
      rw [← hL]
      clear hL
      have hcmp : Cmp wr (Blk a1) #[.pointer (some ⟨w.heap.size, 0, none⟩)] l.length (keyF l) := fun w' k' x y h1 h2 h3 h4 => by
        have hb : Below (w.heap.size + 1) wr w' := k'.below (fun k hk => by
          rcases Nat.lt_or_ge k (w.heap.size + 1) with h | h
          · exact absurd hk (HO.out.offlt h)
          · exact h) (Nat.le_trans nz HB.out.size)
        have hb0 : Below (w.heap.size + 1) V w' := HB.out.trans hb
        have hw : Below w.heap.size w w' := BV.out.trans (hb0.mono (by omega))
        exact closure_c w' w.heap.size c a l x y ((hb0.cell (p := ⟨w.heap.size, 0, none⟩) (by simp)).trans N0.out) (HL.out.bel hw) HOK.out h1 h2 h3 h4
      have hs := sortstable_c wr (w.heap.size + 1) c1 a1 l.length L #[.pointer (some ⟨w.heap.size, 0, none⟩)] (keyF l) HO.out hcmp (by rw [HLe.out]; exact stL_rgn l) (by omega) (by rw [HLe.out]; exact stL_asc l l.length)
      have HS := hid hs
      clear hs hcmp
      go_wp2_with fail
      refine HS.out.mono ?_
      rintro _ w2 ⟨rfl, M, o2, k2, l2, s2, t2⟩
      have he : M = ordI l := by rw [HLe.out] at s2 t2; exact ord_sorted HOK.out s2 t2
      have HE := hid he
      have H2 := hid o2; have K2 := hid k2; have L2 := hid l2
      clear he o2 k2 l2 s2 t2 HS
      go_wp2
      go_ret
      have hb : Below (w.heap.size + 1) wr w2 := K2.out.below (fun k hk => by
        rcases Nat.lt_or_ge k (w.heap.size + 1) with h | h
        · exact absurd hk (HO.out.offlt h)
        · exact h) (Nat.le_trans nz HB.out.size)
      refine ⟨a1, c1, ?_, ?_, BV.out.trans ((HB.out.trans hb).mono (by omega))⟩
      · rw [← HE.out, L2.out]; rfl
      · rw [← HE.out]; exact H2.out.base_le (by omega)
end Go.Proofs.Ythkkpcfmifhllaa
