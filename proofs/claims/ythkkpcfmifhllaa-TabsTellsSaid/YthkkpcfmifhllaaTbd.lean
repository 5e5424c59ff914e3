/- The document's Order. -/
import Derived.Test.YthkkpcfmifhllaaTbb
import Derived.Deep.CutBlock
import Derived.Deep.RegionLaw
import Derived.Deep.DeepCutAuto
namespace Go.Proofs.Ythkkpcfmifhllaa
open Go.RowKit Go.ChangeShapes

def posI (l : List Fl) (k : Nat) : List Int := (posF l k).map fun (i : Nat) => (i : Int)
def zerI (l : List Fl) (k : Nat) : List Int := (zerF l k).map fun (i : Nat) => (i : Int)
theorem take_while_at {α : Type} {p : α → Bool} : ∀ (L : List α) (k : Nat), k ≤ L.length → (∀ j (h : j < L.length), j < k → p L[j] = true) → (∀ j (h : j < L.length), k ≤ j → p L[j] = false) → L.takeWhile p = L.take k ∧ L.dropWhile p = L.drop k
  | [], k, hk, _, _ => by simp
  | a :: L, 0, _, _, h2 => by
    have := h2 0 (by simp) (Nat.le_refl _)
    simp only [List.getElem_cons_zero] at this
    simp [this]
  | a :: L, k + 1, hk, h1, h2 => by
    have h0 := h1 0 (by simp) (by omega)
    simp only [List.getElem_cons_zero] at h0
    have ih := take_while_at L k (by simpa using hk) (fun j h hj => by have := h1 (j + 1) (by simp; omega) (by omega); simpa using this) (fun j h hj => by have := h2 (j + 1) (by simp; omega) (by omega); simpa using this)
    simp [h0, ih.1, ih.2]
theorem posI_ins {l : List Fl} {k p : Nat} (hs : stopF (rgt l k) = true) (hz : (rgt l k).num ≠ 0) (hp : p ≤ (posF l k).length)
    (h1 : ∀ j (h : j < (posF l k).length), j < p → (rgt l (posF l k)[j]).num ≤ (rgt l k).num) (h2 : ∀ j (h : j < (posF l k).length), p ≤ j → (rgt l k).num < (rgt l (posF l k)[j]).num) :
    posI l (k + 1) = (posI l k).take p ++ [(k : Int)] ++ (posI l k).drop p := by
  unfold posI
  rw [posF, if_pos (by simp [hs, hz])]
  unfold insF
  have h := take_while_at (p := fun j => decide ((rgt l j).num ≤ (rgt l k).num)) (posF l k) p hp (fun j h hj => decide_eq_true (h1 j h hj)) (fun j h hj => decide_eq_false (by have := h2 j h hj; omega))
  rw [h.1, h.2]
  simp [List.map_take, List.map_drop]
theorem posF_mono {l : List Fl} {k i j : Nat} (hij : i < j) (hj : j < (posF l k).length) : (rgt l ((posF l k)[i]'(by omega))).num ≤ (rgt l (posF l k)[j]).num := by
  have h := List.pairwise_iff_getElem.1 (posF_sorted l k) i j (by omega) hj hij
  have m1 := (posF_mem l k _).1 (List.getElem_mem (show i < (posF l k).length by omega))
  have m2 := (posF_mem l k _).1 (List.getElem_mem hj)
  unfold ahdF at h
  omega
theorem posF_len (l : List Fl) (k : Nat) : (posF l k).length ≤ k := by
  have h := cnt_eq l k
  have h2 : ∀ k, cntF l k ≤ k := by
    intro k; induction k with
    | zero => simp [cntF]
    | succ k ih => rw [cntF]; split <;> omega
  have := h2 k; omega
theorem zerF_len (l : List Fl) (k : Nat) : (zerF l k).length ≤ k := by
  have h := cnt_eq l k
  have h2 : ∀ k, cntF l k ≤ k := by
    intro k; induction k with
    | zero => simp [cntF]
    | succ k ih => rw [cntF]; split <;> omega
  have := h2 k; omega
theorem I.Own.apart {w w' : World} {base c : Nat} {a b : Option Addr} {l : List Int} (h : I.Own w base a c l) (hk : Kpt (Blk b) w w') (hd : ∀ q, Blk a q → ¬ Blk b q) : I.Own w' base a c l :=
  h.same fun ad ha hlt => hk.block _ hlt (hd _ ⟨ad, ha, rfl⟩)
theorem I.Own.cap {w : World} {base c : Nat} {a : Option Addr} {l : List Int} (h : I.Own w base a c l) : l.length ≤ c := by
  rcases h.shape with ⟨_, _, h0⟩ | ⟨_, _, _, _, h0⟩
  · simp [h0]
  · exact h0
theorem I.Own.blk_lt {w : World} {base c : Nat} {a : Option Addr} {l : List Int} (h : I.Own w base a c l) {q : Nat} (hq : Blk a q) : q < w.heap.size := by
  rcases Nat.lt_or_ge q w.heap.size with h1 | h1
  · exact h1
  · exact absurd hq (h.off h1)

set_option maxRecDepth 20000 in
set_option maxHeartbeats 16000000 in
theorem rorder_c (w : World) (a : Option Addr) (c : Nat) (l : List Fl) (hl : RSl encFl w a l) (hn : l.length ≤ 80) :
    Calls Try.prog 15 #[.slice a l.length c] w (I.Makes w (ordI l)) := by
  have HL := hid hl
  go_enter Try.func15, Try.ntmps15
  clear hl
  go_wp2
  go_loopw [5, 3, 4] (fun i o z wr => ∃ (k c3 c4 : Nat) (a3 a4 : Option Addr), k ≤ l.length ∧ i = .int .i64 k ∧ o = .slice a3 (posI l k).length c3 ∧ z = .slice a4 (zerI l k).length c4 ∧ Hid (I.Own wr w.heap.size a3 c3 (posI l k)) ∧ Hid (I.Own wr w.heap.size a4 c4 (zerI l k)) ∧ Hid (∀ q, Blk a3 q → ¬ Blk a4 q) ∧ Hid (Below w.heap.size w wr)) (fun i _ _ _ => l.length - (intOf i).toNat)
  case atStart => exact ⟨0, 0, 0, none, none, Nat.zero_le _, rfl, rfl, rfl, hid (I.Own.nil _ _), hid (I.Own.nil _ _), hid (fun q ⟨ad, h, _⟩ => by cases h), hid (Below.refl _ _)⟩
  case round =>
    obtain ⟨k, c3, c4, a3, a4, hk, rfl, rfl, rfl, HO, HZ, HD, HB⟩ := hrel
    have p8 : (posI l k).length ≤ k := by unfold posI; rw [List.length_map]; exact posF_len l k
    have z8 : (zerI l k).length ≤ k := by unfold zerI; rw [List.length_map]; exact zerF_len l k
    by_cases hlt : k < l.length
    · have HLw : Hid (RSl encFl wr a l) := HL.out.bel HB.out
      obtain ⟨b, off, rfl, hc⟩ := fl_load HLw.out hlt
      obtain ⟨mm, hm⟩ : ∃ mm, mm = rgt l k := ⟨_, rfl⟩
      rw [← hm] at hc
      have Hm := hid hm
      clear hm
      obtain ⟨kind, num, fr, tt, par, of_, ia, il, ic, pa, pl, pc, fa, fl, fc, al, fo⟩ := mm
      obtain ⟨d0, d1, d2, d3, d4, d5, d6, d7, d8, d9, d10⟩ := rec_fl hc
      clear hc
      go_wp2_with fail
      refine (rishome_c ⟨kind, num, fr, tt, par, of_, ia, il, ic, pa, pl, pc, fa, fl, fc, al, fo⟩ _).mono ?_
      rintro _ w2 ⟨rfl, hb2⟩
      have HB2 : Hid (Below wr.heap.size wr w2) := hb2
      have m1 := (hb2.cell (p := ⟨b, off + k * 11 + 1, none⟩) (World.block_lt_of_cell? wr _ d1)).trans d1
      clear d0 d1 d2 d3 d4 d5 d6 d7 d8 d9 d10 hb2
      obtain ⟨B, hB⟩ : ∃ B, B = homeF ⟨kind, num, fr, tt, par, of_, ia, il, ic, pa, pl, pc, fa, fl, fc, al, fo⟩ := ⟨_, rfl⟩
      have HS : Hid (stopF (rgt l k) = (B && decide (0 ≤ num))) := by rw [← Hm.out, hB]; rfl
      have HN : Hid ((rgt l k).num = num) := by rw [← Hm.out]; rfl
      rw [← hB]; clear hB
      have zz : w.heap.size ≤ wr.heap.size := HB.out.size
      have HBw : Hid (Below w.heap.size w w2) := HB.out.trans (HB2.out.mono zz)
      have HO2 : Hid (I.Own w2 w.heap.size a3 c3 (posI l k)) := HO.out.grow HB2.out
      have HZ2 : Hid (I.Own w2 w.heap.size a4 c4 (zerI l k)) := HZ.out.grow HB2.out
      have zw2 : wr.heap.size ≤ w2.heap.size := HB2.out.size
      clear HO HZ HB
      by_cases hst : B = true ∧ 0 ≤ num
      · obtain ⟨rfl, hnum⟩ := hst
        have hst : Hid (stopF (rgt l k) = true) := by show _ = _; rw [HS.out]; simp [hnum]
        have hnn : ¬ num < 0 := by omega
        by_cases h0 : num = 0
        · have ez : zerI l (k + 1) = zerI l k ++ [(k : Int)] := by unfold zerI; rw [zerF, if_pos (by simp [hst.out, HN.out, h0])]; simp
          have ep : posI l (k + 1) = posI l k := by unfold posI; rw [posF, if_neg (by simp [HN.out, h0])]
          have Hez := hid ez; have Hep := hid ep
          clear ez ep
          go_wp2_with ((at_builtin; (refine I.wpL_appn rfl (.tmp 33) (.tmp 35) rfl w.heap.size a4 (some ⟨w2.heap.size, 0, none⟩) (zerI l k).length 1 c4 1 (zerI l k) [(k : Int)] rfl (by first | rfl | simp | omega) (HZ2.out.grow ((Below.refl _ _).alloc (Nat.le_refl _) _)) rfl (by first | rfl | simp | omega) (I.Sl.lit' w2 [(k : Int)] _ _ rfl (by simp) (I.rng_one (by omega)) _ rfl) (by simp; omega) (by simp; omega) ?_); intro a5 c5 w5 L5 Hl5 ho5 hb5 hk5 hA5; have HA5 := hid hA5; clear hA5; have Ho5 := hid ho5; clear ho5; have Hk5 := hid hk5; clear hk5; have hz5 := hb5.size))
          go_round
          case rel =>
            refine ⟨k + 1, c3, c5, a3, a5, hlt, by go_num, by rw [Hep.out], by rw [Hez.out, ← Hl5.out], ?_, ?_, ?_, ?_⟩
            · rw [Hep.out]; exact (HO2.out.grow ((Below.refl _ _).alloc (Nat.le_refl _) _)).apart Hk5.out HD.out
            · rw [Hez.out, ← Hl5.out]; exact Ho5.out
            · intro q hq hq2
              obtain ⟨ad, rfl, rfl⟩ := hq2
              rcases HA5.out ad rfl with h | h
              · exact HD.out _ hq h
              · have := HO2.out.blk_lt hq; simp at h; omega
            · exact (HBw.out.trans (((Below.refl _ _).alloc (Nat.le_refl _) _).mono (by omega))).trans hb5
          case measure => simp [intOf]; omega
        · have ez : zerI l (k + 1) = zerI l k := by unfold zerI; rw [zerF, if_neg (by simp [HN.out, h0])]
          have Hez := hid ez
          clear ez
          have e0 : (num == 0) = false := by simp [h0]
          go_upto_block 2 with fail
          go_cut [6] (fun v wx => ∃ p : Nat, p ≤ (posI l k).length ∧ v = .int .i64 p ∧ Hid (∀ j (h : j < (posF l k).length), j < p → (rgt l (posF l k)[j]).num ≤ (rgt l k).num) ∧ Hid (∀ j (h : j < (posF l k).length), p ≤ j → (rgt l k).num < (rgt l (posF l k)[j]).num) ∧ Hid (I.Own wx w.heap.size a3 c3 (posI l k)) ∧ Hid (I.Own wx w.heap.size a4 c4 (zerI l k)) ∧ Hid (Below w.heap.size w wx))
          case first =>
            go_wp2_with fail
            go_loopw [6] (fun v wx => ∃ p : Nat, p ≤ (posI l k).length ∧ v = .int .i64 p ∧ Hid (∀ j (h : j < (posF l k).length), p ≤ j → (rgt l k).num < (rgt l (posF l k)[j]).num) ∧ Hid (∃ n, wx = w2.drewN n)) (fun v _ => (intOf v).toNat)
            case atStart => exact ⟨_, Nat.le_refl _, rfl, hid fun j h hj => by unfold posI at hj; rw [List.length_map] at hj; omega, hid ⟨0, rfl⟩⟩
            case round =>
              obtain ⟨p, hp, rfl, HG, HW⟩ := hrel
              have hpl : Hid ((posI l k).length = (posF l k).length) := by show _ = _; unfold posI; simp
              by_cases hp0 : 0 < p
              · obtain ⟨q, rfl⟩ : ∃ q, p = q + 1 := ⟨p - 1, by omega⟩
                have hq : q < (posF l k).length := by have := hpl.out; omega
                obtain ⟨j, hj⟩ : ∃ j, j = (posF l k)[q] := ⟨_, rfl⟩
                have hjl : j < k := by rw [hj]; exact ((posF_mem l k _).1 (List.getElem_mem hq)).1
                have hjg : Hid (gt (posI l k) q = (j : Int)) := by
                  show _ = _
                  rw [gt_get (by have := hpl.out; omega)]; unfold posI; simp [hj]
                obtain ⟨n, hw⟩ := HW.out
                have HOx : Hid (I.Own wr w.heap.size a3 c3 (posI l k)) := by rw [hw]; exact HO2.out.drewN n
                have HZx : Hid (I.Own wr w.heap.size a4 c4 (zerI l k)) := by rw [hw]; exact HZ2.out.drewN n
                have HBx : Hid (Below w.heap.size w wr) := by rw [hw]; exact bdrewN HBw.out n
                have HLx : Hid (RSl encFl wr (some ⟨b, off, none⟩) l) := HL.out.bel HBx.out
                clear hw
                obtain ⟨bo, oo, rfl, hco⟩ := HOx.out.sl.at (i := q) (by have := hpl.out; omega)
                have cq := hco q (by have := hpl.out; omega)
                rw [hjg.out] at cq
                clear hco
                obtain ⟨b', off', he, _, cj⟩ := fl_num HLx.out (i := j) (by omega)
                simp only [Option.some.injEq, Addr.mk.injEq, and_true] at he
                obtain ⟨rfl, rfl⟩ := he
                obtain ⟨b', off', he, _, ck⟩ := fl_num HLx.out (i := k) hlt
                simp only [Option.some.injEq, Addr.mk.injEq, and_true] at he
                obtain ⟨rfl, rfl⟩ := he
                obtain ⟨X, hX⟩ : ∃ X, X = (rgt l j).num := ⟨_, rfl⟩
                rw [← hX] at cj
                rw [HN.out] at ck
                have HX := hid hX; have Hj := hid hj; clear hX hj
                have hqz : (q : Int) + 1 ≤ ((posI l k).length : Int) := by omega
                have hqz2 : (q : Int) < ((posI l k).length : Int) := by omega
                have hz3 : (j : Int) < (l.length : Int) := by omega
                have hz4 : (0 : Int) < (q : Int) + 1 := by omega
                by_cases hgr : num < X
                · have HG2 : Hid (∀ j (h : j < (posF l k).length), q ≤ j → (rgt l k).num < (rgt l (posF l k)[j]).num) := fun i h hi => by
                    by_cases hiq : i = q
                    · subst hiq; rw [← Hj.out, ← HX.out, HN.out]; exact hgr
                    · exact HG.out i h (by omega)
                  have hgr2 : decide (X > num) = true := decide_eq_true hgr
                  go_wp2_with fail
                  go_quiet (fail)
                  go_wp2
                  go_round
                  case rel => exact ⟨q, by omega, by go_num, HG2, hid (by obtain ⟨n, hw⟩ := HW.out; exact ⟨n + nq, by rw [hw]; exact World.drewN_drewN ..⟩)⟩
                  case measure => simp [intOf]
                · have HG1 : Hid (∀ i (h : i < (posF l k).length), i < q + 1 → (rgt l (posF l k)[i]).num ≤ (rgt l k).num) := fun i h hi => by
                    have h1 : (rgt l (posF l k)[q]).num ≤ (rgt l k).num := by rw [← Hj.out, ← HX.out, HN.out]; omega
                    by_cases hiq : i = q
                    · subst hiq; exact h1
                    · exact Int.le_trans (posF_mono (by omega) hq) h1
                  have hgr2 : decide (X > num) = false := decide_eq_false hgr
                  go_wp2_with fail
                  go_quiet (fail)
                  go_wp2
                  go_meet
                  exact ⟨q + 1, hp, rfl, HG1, HG, hid (HOx.out.drewN nq), hid (HZx.out.drewN nq), hid (bdrewN HBx.out nq)⟩
              · obtain rfl : p = 0 := by omega
                obtain ⟨n, hw⟩ := HW.out
                have HOx : Hid (I.Own wr w.heap.size a3 c3 (posI l k)) := by rw [hw]; exact HO2.out.drewN n
                have HZx : Hid (I.Own wr w.heap.size a4 c4 (zerI l k)) := by rw [hw]; exact HZ2.out.drewN n
                have HBx : Hid (Below w.heap.size w wr) := by rw [hw]; exact bdrewN HBw.out n
                clear hw
                go_wp2_with fail
                go_quiet (fail)
                go_wp2
                go_meet
                exact ⟨0, Nat.zero_le _, rfl, hid (fun i h hi => by omega), HG, hid (HOx.out.drewN nq), hid (HZx.out.drewN nq), hid (bdrewN HBx.out nq)⟩
          case rest =>
            obtain ⟨p, hp, rfl, H1, H2, HO3, HZ3, HB3⟩ := hcut
            clear HO2 HZ2 HBw
            have hpl : (posI l k).length = (posF l k).length := by unfold posI; simp
            have ep : Hid (posI l (k + 1) = (posI l k).take p ++ [(k : Int)] ++ (posI l k).drop p) := posI_ins hst.out (by rw [HN.out]; exact h0) (by omega) H1.out H2.out
            clear hpl
            obtain ⟨a1, j1, D1, HD1, s1, hD1, r1⟩ := I.slice_to HO3.out.sl p c3 hp HO3.out.cap
            obtain ⟨a2, j2, D2, HD2, s2, hD2, r2⟩ := I.slice_from HO3.out.sl p c3 hp HO3.out.cap
            have l1 : D1.length ≤ 80 := by rw [HD1.out, List.length_take]; omega
            have l2 : D2.length ≤ 80 := by rw [HD2.out, List.length_drop]; omega
            have S1 : Hid (∀ w', Below wc.heap.size wc w' → I.Sl w' a1 D1) := hid fun w' hb => s1.bel hb
            have S2 : Hid (∀ w', Below wc.heap.size wc w' → I.Sl w' a2 D2) := hid fun w' hb => s2.bel hb
            have HL1 := hid l1; have HL2 := hid l2
            have hz := HB3.out.size
            clear s1 s2
            go_upto_region 11 with fail
            go_region_law
              (first
                | (((refine I.step_appn rfl ((.const (.slice none 0 0))) (.tmp 62) rfl wc.heap.size none a1 0 D1.length 0 j1 [] D1 (by first | (simp [Act.eval]; done) | (simp [Act.eval, Act.put]; done)) (by first | rfl | simp | omega) (I.Own.nil _ _) (by first | (simp [Act.eval]; done) | (simp [Act.eval, Act.put]; done)) (by first | rfl | simp | omega) (S1.out _ (by (repeat' (first | exact Below.refl _ _ | assumption | refine bdrewN ?_ _ | refine Below.drew ?_ | refine bal ?_ _ | refine bthen ?_ (by assumption))))) (by first | omega | (simp; omega)) (by simp) ?_); intro a5 c5 w5 L5 Hl5 ho5 hb5 hk5 hA5; have HA5 := hid hA5; clear hA5; have Ho5 := hid ho5; clear ho5; have Hk5 := hid hk5; clear hk5; have hz5 := hb5.size); have X5 : Below wc.heap.size wc w5 := (Below.trans (by (repeat' (first | exact Below.refl _ _ | assumption | refine bdrewN ?_ _ | refine Below.drew ?_ | refine bal ?_ _ | refine bthen ?_ (by assumption)))) hb5); have X5z := X5.size; have l5 : L5.length ≤ 80 := (by rw [Hl5.out]; simpa using HL1.out))
                | (((refine I.step_appn rfl (.tmp 63) (.tmp 65) rfl wc.heap.size a5 (some ⟨w5.heap.size, 0, none⟩) L5.length 1 c5 1 L5 [(k : Int)] (by first | (simp [Act.eval]; done) | (simp [Act.eval, Act.put]; done)) (by first | rfl | simp | omega) (by first | exact Ho5.out | exact Ho5.out.grow (by (repeat' (first | exact Below.refl _ _ | assumption | refine bdrewN ?_ _ | refine Below.drew ?_ | refine bal ?_ _ | refine bthen ?_ (by assumption))))) (by first | (simp [Act.eval]; done) | (simp [Act.eval, Act.put]; done)) (by first | rfl | simp | omega) (I.Sl.lit' _ [(k : Int)] _ _ (by simp) (by simp) (I.rng_one (by omega)) _ rfl) (by first | omega | (simp; omega)) (by first | omega | (simp; omega)) ?_); intro a6 c6 w6 L6 Hl6 ho6 hb6 hk6 hA6; have HA6 := hid hA6; clear hA6; have Ho6 := hid ho6; clear ho6; have Hk6 := hid hk6; clear hk6; have hz6 := hb6.size); have X6 : Below wc.heap.size wc w6 := (X5.trans (Below.trans (by first | exact Below.refl _ _ | exact (Below.refl _ _).drew | exact (Below.refl _ _).alloc (by omega) _ | exact ((Below.refl _ _).alloc (by omega) _).drew) hb6)); have X6z := X6.size; have l6 : L6.length ≤ 81 := (by rw [Hl6.out]; simpa using l5))
                | (((refine I.step_appn rfl (.tmp 63) (.tmp 65) rfl wc.heap.size a5 (some ⟨wc.heap.size, 0, none⟩) L5.length 1 c5 1 L5 [(k : Int)] (by first | (simp [Act.eval]; done) | (simp [Act.eval, Act.put]; done)) (by first | rfl | simp | omega) Ho5.out (by first | (simp [Act.eval]; done) | (simp [Act.eval, Act.put]; done)) (by first | rfl | simp | omega) (by first | exact I.Sl.kpt (I.Sl.lit' _ [(k : Int)] _ _ (by simp) (by simp) (I.rng_one (by omega)) _ rfl) (fun _ _ ⟨_, h, _⟩ => by cases h) Hk5.out | exact I.Sl.kpt (I.Sl.drew (I.Sl.lit' _ [(k : Int)] _ _ (by simp) (by simp) (I.rng_one (by omega)) _ rfl)) (fun _ _ ⟨_, h, _⟩ => by cases h) Hk5.out | exact (I.Sl.kpt (I.Sl.lit' _ [(k : Int)] _ _ (by simp) (by simp) (I.rng_one (by omega)) _ rfl) (fun _ _ ⟨_, h, _⟩ => by cases h) Hk5.out).drew | exact (I.Sl.kpt (I.Sl.drew (I.Sl.lit' _ [(k : Int)] _ _ (by simp) (by simp) (I.rng_one (by omega)) _ rfl)) (fun _ _ ⟨_, h, _⟩ => by cases h) Hk5.out).drew) (by first | omega | (simp; omega)) (by first | omega | (simp; omega)) ?_); intro a6 c6 w6 L6 Hl6 ho6 hb6 hk6 hA6; have HA6 := hid hA6; clear hA6; have Ho6 := hid ho6; clear ho6; have Hk6 := hid hk6; clear hk6; have hz6 := hb6.size); have X6 : Below wc.heap.size wc w6 := (X5.trans (Below.trans (by first | exact Below.refl _ _ | exact (Below.refl _ _).drew) hb6)); have X6z := X6.size; have l6 : L6.length ≤ 81 := (by rw [Hl6.out]; simpa using l5))
                | (((refine I.step_appn rfl (.tmp 66) (.tmp 69) rfl wc.heap.size a6 a2 L6.length D2.length c6 j2 L6 D2 (by first | (simp [Act.eval]; done) | (simp [Act.eval, Act.put]; done)) (by first | rfl | simp | omega) (by first | exact Ho6.out | exact Ho6.out.grow (by (repeat' (first | exact Below.refl _ _ | assumption | refine bdrewN ?_ _ | refine Below.drew ?_ | refine bal ?_ _ | refine bthen ?_ (by assumption))))) (by first | (simp [Act.eval]; done) | (simp [Act.eval, Act.put]; done)) (by first | rfl | simp | omega) (S2.out _ (by (repeat' (first | exact Below.refl _ _ | assumption | refine bdrewN ?_ _ | refine Below.drew ?_ | refine bal ?_ _ | refine bthen ?_ (by assumption))))) (by omega) (by first | omega | (simp; omega)) ?_); intro a7 c7 w7 L7 Hl7 ho7 hb7 hk7 hA7; have HA7 := hid hA7; clear hA7; have Ho7 := hid ho7; clear ho7; have Hk7 := hid hk7; clear hk7; have hz7 := hb7.size); have X7 : Below wc.heap.size wc w7 := X6.trans hb7))
            all_goals go_wp2
            all_goals go_roundw
            all_goals first
              | (have hL : Hid (L7 = posI l (k + 1)) := (by show _ = _; rw [Hl7.out, Hl6.out, Hl5.out, List.nil_append, HD1.out, HD2.out, ep.out]); exact ⟨k + 1, c7, c4, a7, a4, hlt, by go_num, by rw [← hL.out], by rw [Hez.out], (by rw [← hL.out]; first | exact Ho7.out.base_le hz | exact (Ho7.out.base_le hz).drewN 1), (by rw [Hez.out]; first | exact HZ3.out.grow X7 | exact (HZ3.out.grow X7).drewN 1), fun q hq hq2 => absurd hq (Ho7.out.offlt (HZ3.out.blk_lt hq2)), (by first | exact HB3.out.trans (X7.mono hz) | exact (HB3.out.trans (X7.mono hz)).drew)⟩)
              | (simp [intOf]; omega)
      · have ez : zerI l (k + 1) = zerI l k := by unfold zerI; rw [zerF, if_neg (by rw [HS.out]; simp; intro h1 h2; exact absurd ⟨h1, h2⟩ hst)]
        have ep : posI l (k + 1) = posI l k := by unfold posI; rw [posF, if_neg (by rw [HS.out]; simp; intro h1 h2; exact absurd ⟨h1, h2⟩ hst)]
        have Hez := hid ez; have Hep := hid ep
        clear ez ep
        cases B with
        | false =>
          clear hst
          go_wp2
          go_round
          case rel => exact ⟨k + 1, c3, c4, a3, a4, hlt, by go_num, by rw [Hep.out], by rw [Hez.out], by rw [Hep.out]; exact HO2, by rw [Hez.out]; exact HZ2, HD, HBw⟩
          case measure => simp [intOf]; omega
        | true =>
          have hneg : num < 0 := by
            rcases Int.lt_or_le num 0 with h | h
            · exact h
            · exact absurd ⟨rfl, h⟩ hst
          clear hst
          go_wp2
          go_round
          case rel => exact ⟨k + 1, c3, c4, a3, a4, hlt, by go_num, by rw [Hep.out], by rw [Hez.out], by rw [Hep.out]; exact HO2, by rw [Hez.out]; exact HZ2, HD, HBw⟩
          case measure => simp [intOf]; omega
    · obtain rfl : k = l.length := by omega
      have eo : Hid (ordI l = posI l l.length ++ zerI l l.length) := by show _ = _; unfold ordI posI zerI; rw [ordF, List.map_append]
      go_wp2_with ((at_builtin; (refine I.wpL_appn rfl (.tmp 71) (.tmp 72) rfl w.heap.size a3 a4 (posI l l.length).length (zerI l l.length).length c3 c4 (posI l l.length) (zerI l l.length) rfl (by first | rfl | simp | omega) HO.out rfl (by first | rfl | simp | omega) HZ.out.sl (by omega) (by have := HB.out.size; omega) ?_); intro a5 c5 w5 L5 Hl5 ho5 hb5 hk5 hA5; have HA5 := hid hA5; clear hA5; have Ho5 := hid ho5; clear ho5; have Hk5 := hid hk5; clear hk5; have hz5 := hb5.size))
      go_ret
      rw [eo.out, ← Hl5.out]
      exact ⟨a5, c5, rfl, Ho5.out, HB.out.trans hb5⟩
end Go.Proofs.Ythkkpcfmifhllaa
