/- The code's Parse: what is not even read (refused), the whole. -/
import Derived.Test.YtefgjicegbhcaaaGreatRxm
namespace Go.Proofs.YtefgjicegbhcaaaGreat
open Go.RowKit ReM

/-- the first sign that may not be -/
def fbad (p : List Int) : Nat := (p.takeWhile sgn).length
theorem fbad_le (p : List Int) : fbad p ≤ p.length := (List.takeWhile_prefix sgn).length_le
theorem fbad_lt {p : List Int} {k : Nat} (h : k < fbad p) : sgn (gt p k) = true := by
  induction p generalizing k with
  | nil => simp [fbad] at h
  | cons x p ih =>
    unfold fbad at h ih
    rw [List.takeWhile_cons] at h
    split at h
    · rename_i hx
      cases k with
      | zero => exact hx
      | succ k => exact ih (by simpa using h)
    · simp at h
theorem fbad_at {p : List Int} (h : fbad p < p.length) : sgn (gt p (fbad p)) = false := by
  induction p with
  | nil => simp at h
  | cons x p ih =>
    unfold fbad at h ih ⊢
    rw [List.takeWhile_cons] at h ⊢
    split at h
    · rename_i hx
      rw [if_pos hx]
      exact ih (by simpa using h)
    · rename_i hx
      rw [if_neg hx]
      simpa [gt] using hx
theorem fbad_all {p : List Int} (h : p.length ≤ fbad p) : ∀ x, x ∈ p → sgn x = true := by
  intro x hx
  obtain ⟨k, hk, rfl⟩ := List.getElem_of_mem hx
  rw [← gt_get hk]
  exact fbad_lt (by omega)
def refR (p : List Int) : Int × Int := if 60 < p.length then (3, 60) else if fbad p < p.length then (1, fbad p) else (0, 0)
/-- the whole, with what is refused -/
def parseW (p : List Int) : List Rn × Int × Int := if 60 < p.length then ([], 3, 60) else if fbad p < p.length then ([], 1, fbad p) else parse CC p
theorem cls_sgn (r : Int) : (cls r == 0) = !sgn r := by
  unfold cls
  cases h : sgn r with
  | true =>
    simp only [if_true]
    repeat' split
    all_goals rfl
  | false => rfl
set_option maxHeartbeats 8000000 in
theorem refused_c (a : Option Addr) (c : Nat) (p : List Int) (w : World) (h : Sl w a p) :
    Calls Tryz.prog 70 #[.slice a p.length c] w fun e' w' => e' = .returned (.agg #[.int .i64 (refR p).1, .int .i64 (refR p).2]) ∧ Below w.heap.size w w' := by
  have hl := h.len
  obtain ⟨R, hR⟩ : ∃ R, R = refR p := ⟨_, rfl⟩
  rw [← hR]
  have HR := hid hR
  obtain ⟨V, hV⟩ : ∃ V, V = w.alloc (.cells #[.int .i64 0, .int .i64 0] 47) := ⟨_, rfl⟩
  have bV : Below w.heap.size w V := by subst hV; (repeat' (first | exact Below.refl _ _ | assumption | refine bdrewN ?_ _ | refine Below.drew ?_ | refine bal ?_ _ | refine bthen ?_ (by assumption)))
  have F0 : Hid (FtC V w.heap.size 0 0) := by subst hV; exact FtC.new _ _ _ _ _ rfl
  have h := h.bel bV
  have ff := F0.out
  have g0 := ff.c0
  have g1 := ff.c1
  have g2 := ff.fz 0
  have g3 := ff.fz 1
  clear hR ff
  by_cases h60 : 60 < p.length
  · have b1 : decide ((60 : Int) < (p.length : Int)) = true := by simp; omega
    have e : R = (3, 60) := by rw [HR.out]; unfold refR; rw [if_pos h60]
    have E := hid e
    clear h e
    go_enter Tryz.func70, Tryz.ntmps70
    go_upto_region 1 with fail
    rw [← hV]; clear hV
    go_wp2_with fail
    refine ret_ft Tryz.results70 rfl rfl (F0.out.put 3 60) ?_
    rw [E.out]
    exact ⟨rfl, (bV.setCell (by exact Nat.le_refl _) _).setCell (by exact Nat.le_refl _) _⟩
  · have b1 : decide ((60 : Int) < (p.length : Int)) = false := by simp; omega
    have HR := hid (HR.out.trans (show refR p = if fbad p < p.length then (1, (fbad p : Int)) else (0, 0) by unfold refR; rw [if_neg h60]))
    have hfl := fbad_le p
    obtain ⟨K, hK⟩ : ∃ K, K = fbad p := ⟨_, rfl⟩
    rw [← hK] at HR hfl
    have HK := hid hK
    clear hK h60
    go_enter Tryz.func70, Tryz.ntmps70
    go_upto_region 1 with fail
    rw [← hV]; clear hV
    go_wp2_with fail
    go_loopw [11] (fun iv wr => ∃ k : Nat, k ≤ K ∧ iv = .int .i64 k ∧ V = wr) (fun iv _ => p.length - (intOf iv).toNat)
    case atStart => exact ⟨0, by omega, rfl, rfl⟩
    case round =>
      obtain ⟨k, hk, rfl, rfl⟩ := hrel
      by_cases hlt : k < p.length
      · obtain ⟨b, off, rfl, hcs⟩ := h.at hlt
        have ck := hcs k hlt
        have C := hid (class_c (gt p k) V)
        have hcl := cls_sgn (gt p k)
        clear hcs h
        by_cases hkK : k = K
        · have hs : sgn (gt p k) = false := by rw [hkK, HK.out]; exact fbad_at (by have := HK.out; omega)
          rw [hs] at hcl
          have e : R = (1, (k : Int)) := by rw [HR.out, if_pos (by omega), hkK]
          have E := hid e
          generalize cls (gt p k) = cv at *
          clear hs e hkK hk HK
          go_wp2_with fail
          refine C.out.mono ?_
          rintro _ _ ⟨rfl, rfl⟩
          go_wp2_with fail
          refine ret_ft Tryz.results70 rfl rfl (F0.out.put 1 k) ?_
          rw [E.out]
          exact ⟨rfl, (bV.setCell (by exact Nat.le_refl _) _).setCell (by exact Nat.le_refl _) _⟩
        · have hs : sgn (gt p k) = true := fbad_lt (by rw [← HK.out]; omega)
          rw [hs] at hcl
          have Hk1 := hid (show k + 1 ≤ K by omega)
          generalize cls (gt p k) = cv at *
          clear hs hkK hk
          go_wp2_with fail
          refine C.out.mono ?_
          rintro _ _ ⟨rfl, rfl⟩
          go_wp2_with fail
          go_roundw
          case rel => exact ⟨k + 1, Hk1.out, by go_num, by first | rfl | trivial⟩
          case measure => simp [intOf]; omega
      · have e : R = (0, 0) := by rw [HR.out, if_neg (by omega)]
        have E := hid e
        clear h e
        go_wp2_with fail
        refine ret_ft Tryz.results70 rfl rfl (F0.out.put 0 0) ?_
        rw [E.out]
        exact ⟨rfl, (bV.setCell (by exact Nat.le_refl _) _).setCell (by exact Nat.le_refl _) _⟩
/-- what a parser tells: the tree, the fault -/
def ParseP (w : World) (res : List Rn × Int × Int) (e' : Ending) (w' : World) : Prop :=
  ∃ a2 c2 L, e' = .returned (.tuple #[.slice a2 L.length c2, .agg #[.int .i64 res.2.1, .int .i64 res.2.2]]) ∧ rns L = res.1 ∧ RO w' w.heap.size a2 c2 L ∧ Sets w.heap.size w' L ∧ Sml 5000 5000 L ∧ Below w.heap.size w w'
theorem sgn_txt {p : List Int} (h : ∀ x, x ∈ p → sgn x = true) : ∀ x, x ∈ p → 0 ≤ x := fun x hx => by
  have := h x hx
  simp [sgn] at this
  omega
theorem Rdr.new (w : World) (a : Option Addr) (c : Nat) (p : List Int) (h : Sl w a p) (hc : p.length ≤ c) (T : TypeId) (b : Nat) (hb : b = w.heap.size) :
    Rdr (b + 1) (w.alloc (.cells #[.slice a p.length c, .int .i64 0, .int .i64 0, .int .i64 0, .int .i64 0, .int .i64 0] T)) b a c p 0 0 0 0 0 := by
  subst hb
  refine ⟨by rw [cell_alloc_new]; rfl, by rw [cell_alloc_new]; rfl, by rw [cell_alloc_new]; rfl, by rw [cell_alloc_new]; rfl, by rw [cell_alloc_new]; rfl, by rw [cell_alloc_new]; rfl, fun o => by simp, h.alloc _, ?_, by omega, by simp, hc⟩
  cases p with
  | nil => exact .inl rfl
  | cons x t =>
    obtain ⟨b, off, rfl, hcs⟩ := h.at (i := 0) (by simp)
    have := World.block_lt_of_cell? w _ (hcs 0 (by simp))
    exact .inr ⟨_, rfl, by show b < _; simp at this; omega, by show b ≠ _; simp at this; omega⟩
theorem parse_bad {p : List Int} {e f : Int} (h : altP CC p.length (4 * p.length + 8) (p.drop 0) 0 0 = .bad e f) : parse CC p = ([], e, f) := by
  rw [List.drop_zero] at h
  unfold parse; rw [h]
theorem parse_ok' {p : List Int} {l : List Rn} {j g : Nat} (h : altP CC p.length (4 * p.length + 8) (p.drop 0) 0 0 = .ok l (p.drop j) g) : parse CC p = if p.length ≤ j then (l, 0, 0) else ([], 5, (j : Int)) := by
  rw [List.drop_zero] at h
  unfold parse; rw [h]
  dsimp only
  split
  · rename_i hh
    rw [if_pos (List.drop_eq_nil_iff.1 hh)]
  · rename_i hh
    rcases Nat.lt_or_ge j p.length with h1 | h1
    · rw [if_neg (by omega), at_drop p j (by omega)]
    · exact absurd (drop_end h1) (by intro e; exact hh e)
set_option maxHeartbeats 16000000 in
theorem parse_c (a : Option Addr) (c : Nat) (p : List Int) (w : World) (h : Sl w a p) (hc : p.length ≤ c) :
    Calls Tryz.prog 44 #[.slice a p.length c] w (ParseP w (parseW p)) := by
  have hlen := h.len
  obtain ⟨X, hX⟩ : ∃ X, X = parseW p := ⟨_, rfl⟩
  rw [← hX]
  have HX := hid hX
  obtain ⟨V, hV⟩ : ∃ V, V = w.alloc (.cells #[.int .i64 0, .int .i64 0] 47) := ⟨_, rfl⟩
  have bV : Below w.heap.size w V := by subst hV; (repeat' (first | exact Below.refl _ _ | assumption | refine bdrewN ?_ _ | refine Below.drew ?_ | refine bal ?_ _ | refine bthen ?_ (by assumption)))
  have F0 : Hid (FtC V w.heap.size 0 0) := by subst hV; exact FtC.new _ _ _ _ _ rfl
  have zV : V.heap.size = w.heap.size + 1 := by subst hV; simp
  have HS := hid h
  have RF := hid (refused_c a c p V (h.bel bV))
  clear hX h
  by_cases hrf : refR p = (0, 0)
  · have h60 : ¬ 60 < p.length := fun h => by unfold refR at hrf; rw [if_pos h] at hrf; cases hrf
    have hfb : ¬ fbad p < p.length := fun h => by unfold refR at hrf; rw [if_neg h60, if_pos h] at hrf; cases hrf
    have HX := hid (HX.out.trans (show parseW p = parse CC p by unfold parseW; rw [if_neg h60, if_neg hfb]))
    have hT : Txt1 p := ⟨by omega, sgn_txt (fbad_all (by omega))⟩
    have HT := hid hT
    rw [hrf] at RF
    clear hrf hfb hT
    go_enter Tryz.func44, Tryz.ntmps44
    go_upto_region 1 with fail
    rw [← hV]; clear hV
    go_wp2_with fail
    refine RF.out.mono ?_
    rintro _ w1 ⟨rfl, b1⟩
    have F1 := hid (F0.out.bel b1)
    have B1 := hid (bV.trans (b1.mono (by omega)))
    have HS1 := hid ((HS.out.bel bV).bel b1)
    have zw := b1.size
    clear b1 RF F0
    go_upto_region 5 with fail
    obtain ⟨r, hr⟩ : ∃ r, r = w1.heap.size + 1 := ⟨_, rfl⟩
    obtain ⟨V2, hV2⟩ : ∃ V2, V2 = (w1.alloc (.cells #[.int .i64 0, .int .i64 0] 47)).alloc (.cells #[.slice a p.length c, .int .i64 0, .int .i64 0, .int .i64 0, .int .i64 0, .int .i64 0] 124) := ⟨_, rfl⟩
    have R0 : Rdr (r + 1) V2 r a c p 0 0 0 0 0 := by rw [hV2]; exact Rdr.new _ a c p (HS1.out.alloc _) hc _ _ (by rw [hr]; simp)
    have F2 : Hid (FtC V2 w.heap.size 0 0) := by rw [hV2]; exact F1.out.bel (by (repeat' (first | exact Below.refl _ _ | assumption | refine bdrewN ?_ _ | refine Below.drew ?_ | refine bal ?_ _ | refine bthen ?_ (by assumption))))
    have K0 : Hid (Below w.heap.size w V2) := by rw [hV2]; exact B1.out.trans (Below.mono (by (repeat' (first | exact Below.refl _ _ | assumption | refine bdrewN ?_ _ | refine Below.drew ?_ | refine bal ?_ _ | refine bthen ?_ (by assumption)))) (by omega))
    have z2 : V2.heap.size = r + 1 := by rw [hV2, hr]; simp
    rw [← hV2, ← hr]
    have hrw : w.heap.size < r := by omega
    have PC := hid (pat_all (r + 1) r a c p HT.out (4 * p.length + 8) V2 0 0 0 R0 (by omega) (by omega) (by omega) (by omega))
    clear hV2 hr R0 F1 B1 HS1 HS
    go_wp2_with fail
    refine PC.out.mono ?_
    rintro e2 w2 hx
    clear PC
    cases hA : altP CC p.length (4 * p.length + 8) (p.drop 0) 0 0 with
    | bad e f =>
      rw [hA] at hx
      obtain ⟨a2, d2, L, y, rfl, ho, hs, he, h4, k4⟩ := hx
      have E := hid (HX.out.trans (parse_bad hA))
      have C := hid (next_o (r + 1) w2 r a c p p.length 0 y e f h4 (Nat.le_refl _))
      rw [nx_end (Nat.le_refl _)] at C
      have K2 := hid (k4.below (B := w.heap.size) (fun q hq => by omega) (by omega))
      have F3 := hid (F2.out.kpt k4 (by omega))
      have b1 : (e != 0) = true := by simpa using he
      have zk := k4.size
      clear ho hs h4 k4 hA he HX F2
      go_wp2_with fail
      refine C.out.mono ?_
      rintro _ w3 ⟨rfl, h3, k3⟩
      have K3 := hid (k3.below (B := w.heap.size) (fun q hq => by omega) (by have := k3.size; omega))
      have F4 := F3.out.kpt k3 (by omega)
      have F5 := hid F4
      have m0 := F4.c0
      have m1 := F4.c1
      have m2 := F4.fz 0
      have m3 := F4.fz 1
      have m4 := F4.lt
      have h5 := h3
      clear k3 F4 C F3
      (have c0 := h5.c0; have c1 := h5.c1; have c2 := h5.c2; have c3 := h5.c3; have c4 := h5.c4; have c5 := h5.c5; have f1 := h5.fz 1; have f2 := h5.fz 2; have f3 := h5.fz 3; have f4 := h5.fz 4; have f5 := h5.fz 5; have rl := h5.lt; have Hh5 := hid h5; clear h5)
      go_upto_region 9 with fail
      go_region
      all_goals
        go_wp2_with fail
        refine ret_tf Tryz.results44 rfl rfl rfl (FtC.put (e := 0) (f := 0) (w := w3.drew) ?_ e f) ?_
        · exact F5.out.same rfl
        · rw [E.out]
          exact ⟨none, 0, [], rfl, rfl, ROwn.nil _ _, Sets.nil _ _, Sml.nil _ _, (((K0.out.trans K2.out).trans K3.out).drew.setCell (by exact Nat.le_refl _) _).setCell (by exact Nat.le_refl _) _⟩
    | ok l s1 g1 =>
      rw [hA] at hx
      obtain ⟨a2, d2, L, j, rfl, hrn, ho, hS, hij, hjn, hs, hs1, hg1, h4, k4⟩ := hx
      rw [hs1] at hA
      have E := hid (HX.out.trans (parse_ok' hA))
      have C := hid (next_o (r + 1) w2 r a c p j 0 g1 0 0 h4 hjn)
      have zk := k4.size
      have K2 := hid (k4.below (B := w.heap.size) (fun q hq => by omega) (by omega))
      have F3 := hid (F2.out.kpt k4 (by omega))
      have Ho := hid (ho.base_le (base' := w.heap.size) (by omega))
      have HSs := hid (hS.base_le (base' := w.heap.size) (by omega))
      have Hs := hid hs
      have Hrn := hid hrn
      have hbl := hid (fun q (hq : Blk a2 q) => (ho.lt hq).1)
      have hsb := hid (fun q (hq : V2.heap.size ≤ q) => (show q ≠ r by omega))
      have Ho2 := hid ho
      have HS2 := hid hS
      clear ho hS hs h4 k4 hA HX F2 hs1 hrn
      by_cases hjl : p.length ≤ j
      · obtain rfl : j = p.length := by omega
        rw [nx_end (Nat.le_refl _)] at C
        have E := hid (E.out.trans (if_pos (Nat.le_refl _)))
        go_wp2_with fail
        refine C.out.mono ?_
        rintro _ w3 ⟨rfl, h3, k3⟩
        have K3 := hid (k3.below (B := w.heap.size) (fun q hq => by omega) (by have := k3.size; omega))
        have O3 := hid ((Ho2.out.kr k3 (by omega)).base_le (base' := w.heap.size) (by omega))
        have S3 := hid ((HS2.out.kr k3 (by omega)).base_le (base' := w.heap.size) (by omega))
        have O3' := hid (Ho2.out.kr k3 (by omega))
        have S3' := hid (HS2.out.kr k3 (by omega))
        have F4 := F3.out.kpt k3 (by omega)
        have F5 := hid F4
        have m0 := F4.c0
        have m1 := F4.c1
        have m2 := F4.fz 0
        have m3 := F4.fz 1
        have m4 := F4.lt
        clear k3 F4 C F3
        (have c0 := h3.c0; have c1 := h3.c1; have c2 := h3.c2; have c3 := h3.c3; have c4 := h3.c4; have c5 := h3.c5; have f1 := h3.fz 1; have f2 := h3.fz 2; have f3 := h3.fz 3; have f4 := h3.fz 4; have f5 := h3.fz 5; have rl := h3.lt; have Hh3 := hid h3; clear h3)
        go_wp2_with fail
        refine ret_tf Tryz.results44 rfl rfl rfl (F5.out.put 0 0) ?_
        rw [E.out]
        refine ⟨a2, d2, L, rfl, Hrn.out, ?_, ?_, Hs.out.mono (by omega) (by omega), (((K0.out.trans K2.out).trans K3.out).setCell (by exact Nat.le_refl _) _).setCell (by exact Nat.le_refl _) _⟩
        · refine (O3'.out.stay fun q hq _ => ?_).base_le (by omega)
          exact (Below.heap_setCell _ _ _ _ (by show q ≠ w.heap.size; omega)).trans (Below.heap_setCell _ _ _ _ (by show q ≠ w.heap.size; omega))
        · refine (S3'.out.stay fun q hq _ => ?_).base_le (by omega)
          exact (Below.heap_setCell _ _ _ _ (by show q ≠ w.heap.size; omega)).trans (Below.heap_setCell _ _ _ _ (by show q ≠ w.heap.size; omega))
      · have hge := HT.out.nxp (i := j) (by omega)
        have b1 : (nx p j != -1) = true := by simp; omega
        have E := hid (E.out.trans (if_neg hjl))
        generalize nx p j = q at *
        clear hge
        go_wp2_with fail
        refine C.out.mono ?_
        rintro _ w3 ⟨rfl, h3, k3⟩
        have K3 := hid (k3.below (B := w.heap.size) (fun q hq => by omega) (by have := k3.size; omega))
        have F4 := hid (F3.out.kpt k3 (by omega))
        have zk3 := k3.size
        clear k3 C F3
        have h5 := h3
        (have c0 := h5.c0; have c1 := h5.c1; have c2 := h5.c2; have c3 := h5.c3; have c4 := h5.c4; have c5 := h5.c5; have f1 := h5.fz 1; have f2 := h5.fz 2; have f3 := h5.fz 3; have f4 := h5.fz 4; have f5 := h5.fz 5; have rl := h5.lt; have Hh5 := hid h5; clear h5)
        go_wp2_with fail
        refine (fail_one 5 j (r + 1) w3 r a c p j 0 g1 0 h3).mono ?_
        rintro _ w4 ⟨rfl, h6, k4⟩
        have K4 := hid (k4.below (B := w.heap.size) (fun q hq => by omega) (by have := k4.size; omega))
        have F6 := F4.out.kpt k4 (by omega)
        have F5 := hid F6
        have m0 := F6.c0
        have m1 := F6.c1
        have m2 := F6.fz 0
        have m3 := F6.fz 1
        have m4 := F6.lt
        clear k4 F6 F4 h3
        clear rl c0 c1 c2 c3 c4 c5 f1 f2 f3 f4 f5
        (have c0 := h6.c0; have c1 := h6.c1; have c2 := h6.c2; have c3 := h6.c3; have c4 := h6.c4; have c5 := h6.c5; have f1 := h6.fz 1; have f2 := h6.fz 2; have f3 := h6.fz 3; have f4 := h6.fz 4; have f5 := h6.fz 5; have rl := h6.lt; have Hh6 := hid h6; clear h6)
        go_upto_region 9 with fail
        go_region
        all_goals
          go_wp2_with fail
          refine ret_tf Tryz.results44 rfl rfl rfl (FtC.put (e := 0) (f := 0) (w := w4.drew) ?_ 5 j) ?_
          · exact F5.out.same rfl
          · rw [E.out]
            exact ⟨none, 0, [], rfl, rfl, ROwn.nil _ _, Sets.nil _ _, Sml.nil _ _, ((((K0.out.trans K2.out).trans K3.out).trans K4.out).drew.setCell (by exact Nat.le_refl _) _).setCell (by exact Nat.le_refl _) _⟩
  · have E := hid (HX.out.trans (show parseW p = ([], (refR p).1, (refR p).2) by
      unfold parseW refR at *
      by_cases h60 : 60 < p.length
      · rw [if_pos h60, if_pos h60]
      · rw [if_neg h60, if_neg h60] at *
        by_cases hf : fbad p < p.length
        · rw [if_pos hf, if_pos hf]
        · rw [if_neg hf] at hrf; exact absurd rfl hrf))
    have hne : ((refR p).1 != 0) = true := by
      unfold refR at hrf ⊢
      by_cases h60 : 60 < p.length
      · rw [if_pos h60]; rfl
      · rw [if_neg h60] at hrf ⊢
        by_cases hf : fbad p < p.length
        · rw [if_pos hf]; rfl
        · rw [if_neg hf] at hrf; exact absurd rfl hrf
    generalize (refR p).1 = e1 at *
    generalize (refR p).2 = e2 at *
    clear hrf HX
    go_enter Tryz.func44, Tryz.ntmps44
    go_upto_region 1 with fail
    rw [← hV]; clear hV
    go_wp2_with fail
    refine RF.out.mono ?_
    rintro _ w1 ⟨rfl, b1⟩
    have F1 := F0.out.bel b1
    have F5 := hid F1
    have B1 := hid (bV.trans (b1.mono (by omega)))
    have m0 := F1.c0
    have m1 := F1.c1
    have m2 := F1.fz 0
    have m3 := F1.fz 1
    have m4 := F1.lt
    clear b1 RF F0 F1
    go_upto_region 3 with fail
    clear m0 m1 m2 m3 m4
    obtain ⟨V3, hV3⟩ : ∃ V3, V3 = w1.alloc (.cells #[.int .i64 e1, .int .i64 e2] 47) := ⟨_, rfl⟩
    have G3 : FtC V3 w1.heap.size e1 e2 := by rw [hV3]; exact FtC.new _ _ _ _ _ rfl
    have F6 : FtC V3 w.heap.size 0 0 := by rw [hV3]; exact F5.out.bel (by (repeat' (first | exact Below.refl _ _ | assumption | refine bdrewN ?_ _ | refine Below.drew ?_ | refine bal ?_ _ | refine bthen ?_ (by assumption))))
    have B3 : Hid (Below w.heap.size w V3) := by rw [hV3]; exact B1.out.trans (Below.mono (by (repeat' (first | exact Below.refl _ _ | assumption | refine bdrewN ?_ _ | refine Below.drew ?_ | refine bal ?_ _ | refine bthen ?_ (by assumption)))) B1.out.size)
    rw [← hV3]; clear hV3 F5 B1
    have F5 := hid F6
    have m0 := F6.c0
    have m1 := F6.c1
    have m2 := F6.fz 0
    have m3 := F6.fz 1
    have m4 := F6.lt
    have n0 := G3.c0
    have n1 := G3.c1
    clear F6 G3
    go_region
    all_goals
      go_wp2_with fail
      refine ret_tf Tryz.results44 rfl rfl rfl (FtC.put (e := 0) (f := 0) (w := V3.drew) ?_ e1 e2) ?_
      · exact F5.out.same rfl
      · rw [E.out]
        exact ⟨none, 0, [], rfl, rfl, ROwn.nil _ _, Sets.nil _ _, Sml.nil _ _, (B3.out.drew.setCell (by exact Nat.le_refl _) _).setCell (by exact Nat.le_refl _) _⟩
end Go.Proofs.YtefgjicegbhcaaaGreat
