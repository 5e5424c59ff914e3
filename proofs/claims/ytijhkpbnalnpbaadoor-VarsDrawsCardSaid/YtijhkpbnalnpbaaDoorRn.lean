/- The document's own answer for a variable: Value. -/
import Derived.Test.YtijhkpbnalnpbaaDoorRu
namespace Go.Proofs.YtijhkpbnalnpbaaDoor
open Go.RowKit

/-- the signs of a name: A to Z, and the low line -/
def okN (l : List Int) : Bool := l.all fun r => decide (r = 95) || decide (65 ≤ r ∧ r ≤ 90)
theorem okN_asc {l : List Int} (h : okN l = true) : asc l = true := by
  unfold okN at h; unfold asc
  rw [List.all_eq_true] at *
  intro r hr
  have := h r hr
  simp only [Bool.or_eq_true, decide_eq_true_eq] at *
  omega
theorem names_ok : ∀ k, k < 24 → okN (nameL k) = true ∧ (nameL k).length ≤ 40 := by
  have h : ((List.range 24).all fun k => okN (nameL k) && decide ((nameL k).length ≤ 40)) = true := by decide +kernel
  intro k hk
  simpa using List.all_eq_true.1 h k (List.mem_range.2 hk)
theorem rowOf_bad {l : List Int} {i : Nat} (hi : i < l.length) (h : gt l i ≠ 95) (h2 : ¬ (65 ≤ gt l i ∧ gt l i ≤ 90)) : rowOf l = none := by
  cases hr : rowOf l with
  | none => rfl
  | some k =>
    obtain ⟨hk, e⟩ := rowOf_some hr
    have := (names_ok k hk).1
    rw [e, okN, List.all_eq_true] at this
    have h3 := this (gt l i) (gt_mem hi)
    simp only [Bool.or_eq_true, decide_eq_true_eq] at h3
    rcases h3 with h3 | h3
    · exact absurd h3 h
    · exact absurd h3 h2
theorem rowOf_long {l : List Int} (h : 40 < l.length) : rowOf l = none := by
  cases hr : rowOf l with
  | none => rfl
  | some k =>
    obtain ⟨hk, e⟩ := rowOf_some hr
    have := (names_ok k hk).2
    rw [e] at this; omega
theorem bStr_snoc {l : List Int} {i : Nat} (hi : i < l.length) (h : 0 ≤ gt l i ∧ gt l i < 128) : bStr (l.take i) ++ Utf8.encode (gt l i) = bStr (l.take (i + 1)) := by
  have e1 : l.take (i + 1) = l.take i ++ [gt l i] := by rw [List.take_add_one, List.getElem?_eq_getElem hi]; simp [gt, hi]
  have e2 := encL_low h
  apply ByteArray.ext; apply Array.ext'
  rw [e1]
  simp only [bStr, List.map_append, List.map_cons, List.map_nil, ByteArray.data_append, Array.toList_append]
  rw [show (Utf8.encode (gt l i)).data.toList = _ from e2]
theorem bStr_inj {a b : List Int} (ha : asc a = true) (hb : asc b = true) (h : bStr a = bStr b) : a = b := by
  rw [← strL_bStr ha, h, strL_bStr hb]
theorem name_ne {l : List Int} {N : ByteArray} {j : Nat} (ho : okN l = true) (hN : bStr l = N) (hj : j < 24) (h : nameL j ≠ l) : (N.toList == (nameL j).map fun r => UInt8.ofNat r.toNat) = false := by
  cases hq : (N.toList == (nameL j).map fun r => UInt8.ofNat r.toNat) with
  | false => rfl
  | true =>
    exfalso
    apply h
    have h1 : N.toList = (nameL j).map fun r => UInt8.ofNat r.toNat := by simpa using hq
    refine bStr_inj (names_asc j hj).1 (okN_asc ho) ?_
    rw [hN]
    apply ByteArray.ext; apply Array.ext'
    simp only [bStr]
    rw [← h1, ByteArray.toList_eq]
theorem name_far : ∀ k, k ≤ 20 → ∀ j, 21 ≤ j → j < 24 → ((bStr (nameL k)).toList == (nameL j).map fun r => UInt8.ofNat r.toNat) = false := by
  have h : ((List.range 21).all fun k => (List.range 24).all fun j => j < 21 || !((bStr (nameL k)).toList == (nameL j).map fun r => UInt8.ofNat r.toNat)) = true := by decide +kernel
  intro k hk j h1 hj
  have a1 := List.all_eq_true.1 h k (List.mem_range.2 (by omega))
  have a2 := List.all_eq_true.1 a1 j (List.mem_range.2 hj)
  simpa [show ¬ j < 21 from by omega] using a2
set_option maxHeartbeats 4000000 in
set_option maxRecDepth 100000 in
theorem rvalue_c (m : En) (a : Option Addr) (c : Nat) (l : List Int) (used : Int) (w : World) (hm : Hid (EnOk w m)) (hs : Hid (Sl w a l)) (hu : i64 used) :
    Calls Tryd.prog 18 #[.agg (enC m), .slice a l.length c, .int .i64 used] w (ValE w m l used) := by
  have HX0 := hid (BoxAt.new w m 26)
  have MAY : Hid (∀ w, Hid (EnOk w m) → Calls Tryd.prog 20 #[.agg #[.slice m.a0 m.t0.length m.c0, .slice m.a1 m.t1.length m.c1, .slice m.a2 m.t2.length m.c2, .slice m.a3 m.t3.length m.c3, .slice m.a4 m.t4.length m.c4, .slice m.a5 m.t5.length m.c5, .int .i64 m.ix, .int .i64 m.k0, .int .i64 m.k1, .int .i64 m.k2, .int .i64 m.k3, .int .i64 m.k4, .int .i64 m.k5, .int .i64 m.k6, .slice m.da m.dl.length m.dc]] w (MayP w (mayE m))) := hid fun w h1 => rmay_e m w h1
  simp only [enC] at HX0 ⊢
  go_enter Tryd.func18, Tryd.ntmps18
  go_wp2_with fail
  generalize hW0 : w.alloc (.cells #[.slice m.a0 m.t0.length m.c0, .slice m.a1 m.t1.length m.c1, .slice m.a2 m.t2.length m.c2, .slice m.a3 m.t3.length m.c3, .slice m.a4 m.t4.length m.c4, .slice m.a5 m.t5.length m.c5, .int .i64 m.ix, .int .i64 m.k0, .int .i64 m.k1, .int .i64 m.k2, .int .i64 m.k3, .int .i64 m.k4, .int .i64 m.k5, .int .i64 m.k6, .slice m.da m.dl.length m.dc] 26) = W0 at HX0 ⊢
  have hb0 : Hid (Below w.heap.size w W0) := hid (by rw [← hW0]; exact bal (Below.refl _ _) _)
  have hz0 : W0.heap.size = w.heap.size + 1 := by rw [← hW0]; simp
  have S := hid (hs.out.bel hb0.out)
  have hll := hs.out.len
  clear hW0 hs
  go_loopw [9, 10] (fun nv iv wr => ∃ k : Nat, k ≤ l.length ∧ k ≤ 41 ∧ iv = .int .i64 k ∧ nv = .string (bStr (l.take k)) ∧ Hid (okN (l.take k) = true) ∧ wr = W0) (fun _ iv _ => l.length - (intOf iv).toNat)
  case atStart => exact ⟨0, by omega, by omega, rfl, by simp [bStr], hid (by simp [okN]), rfl⟩
  case round =>
    obtain ⟨k, hk, hk4, rfl, rfl, ho, rfl⟩ := hrel
    by_cases hlt : k < l.length
    · obtain ⟨b, o, ha, hc⟩ := S.out.at hlt
      have ck := hc k hlt
      clear hc
      subst ha
      have b1 : decide (k < l.length) = true := by simpa using hlt
      have bads : Hid ((40 < k ∨ gt l k ≠ 95 ∧ ¬ (65 ≤ gt l k ∧ gt l k ≤ 90)) → ValE w m l used (.returned (.tuple #[.slice none 0 0, .bool false, .int .i64 used])) wr) := hid fun h =>
        ⟨hb0.out, .inl ⟨by
          have h0 : rowOf l = none := by
            rcases h with h | ⟨h, h2⟩
            · exact rowOf_long (by omega)
            · exact rowOf_bad hlt h h2
          simp [okV, h0], rfl⟩⟩
      have hsn := fun h => bStr_snoc hlt h
      have hok : Hid (gt l k = 95 ∨ 65 ≤ gt l k ∧ gt l k ≤ 90 → okN (l.take (k + 1)) = true) := hid fun h => by
        have e1 : l.take (k + 1) = l.take k ++ [gt l k] := by rw [List.take_add_one, List.getElem?_eq_getElem hlt]; simp [gt, hlt]
        have h0 := ho.out
        rw [e1]
        simp only [okN, List.all_append, Bool.and_eq_true, List.all_cons, List.all_nil, Bool.and_true] at h0 ⊢
        refine ⟨h0, ?_⟩
        simpa using h
      have hsz : (bStr (l.take k)).size ≤ 50 := by
        have : (bStr (l.take k)).size = (l.take k).length := by simp [bStr, ByteArray.size]
        rw [this]; simp; omega
      generalize gt l k = r at ck bads hsn hok
      generalize hs : bStr (l.take k) = s at hsn hsz
      clear hs
      have hes : r = 95 ∨ 65 ≤ r ∧ r ≤ 90 → (Utf8.encode r).size ≤ 4 := fun h => by
        have := encL_len (r := r)
        simp only [encL, Array.length_toList] at this
        exact this.2
      by_cases h40 : 40 < k
      · have c40 : decide (40 < (k : Int)) = true := by simp; omega
        have bad := hid (bads.out (.inl h40))
        clear bads hsn hok hes
        go_wp2
        all_goals exact bodyPost_ret (v := .tuple #[.slice none 0 0, .bool false, .int .i64 used]) (by simp [results, Tryd.results18, go_sem]) rfl bad.out
      · have c40 : decide (40 < (k : Int)) = false := by simp; omega
        by_cases q : r = 95 ∨ 65 ≤ r ∧ r ≤ 90
        · have h2 := hes q
          have h3 : decide (9223372036854775807 < s.size + (Utf8.encode r).size) = false := by simp; omega
          have h4 := hsn (by omega)
          have h5 := hid (hok.out q)
          clear hsn hok hes bads
          have H4 := hid h4
          clear h4
          by_cases q95 : r = 95
          · subst q95
            clear q
            go_wp2
            go_roundw
            case rel => exact ⟨k + 1, by omega, by omega, by go_num, by rw [H4.out], h5, by trivial⟩
            case measure => simp [intOf]; omega
          · have d1 : (r != 95) = true := by simpa using q95
            have d2 : decide (r < 65) = false := by simp; omega
            have d3 : decide (90 < r) = false := by simp; omega
            clear q95 q
            go_wp2
            go_roundw
            case rel => exact ⟨k + 1, by omega, by omega, by go_num, by rw [H4.out], h5, by trivial⟩
            case measure => simp [intOf]; omega
        · have d1 : (r != 95) = true := by simp; omega
          have bad := hid (bads.out (.inr (by omega)))
          clear bads hsn hok hes
          go_wp2
          all_goals exact bodyPost_ret (v := .tuple #[.slice none 0 0, .bool false, .int .i64 used]) (by simp [results, Tryd.results18, go_sem]) rfl bad.out
    · have b1 : decide (k < l.length) = false := by simpa using hlt
      have hkl : k = l.length := by omega
      subst hkl
      rw [List.take_length] at ho
      have hlen : l.length ≤ 41 := hk4
      obtain ⟨N, hN⟩ : ∃ N, bStr (l.take l.length) = N := ⟨_, rfl⟩
      rw [hN]
      rw [List.take_length] at hN
      have HN := hid hN
      clear hN hll S b1 hlt hk hk4
      have hEW : Hid (EnOk wr m) := hid (hm.out.bel hb0.out)
      have hwz : w.heap.size ≤ wr.heap.size := by omega
      have d0 : wr.cell? ⟨w.heap.size, 0, none⟩ = some (.slice m.a0 m.t0.length m.c0) := (HX0.out).c 0 _ rfl
      have d1 : wr.cell? ⟨w.heap.size, 1, none⟩ = some (.slice m.a1 m.t1.length m.c1) := (HX0.out).c 1 _ rfl
      have d2 : wr.cell? ⟨w.heap.size, 2, none⟩ = some (.slice m.a2 m.t2.length m.c2) := (HX0.out).c 2 _ rfl
      have d3 : wr.cell? ⟨w.heap.size, 3, none⟩ = some (.slice m.a3 m.t3.length m.c3) := (HX0.out).c 3 _ rfl
      have d4 : wr.cell? ⟨w.heap.size, 4, none⟩ = some (.slice m.a4 m.t4.length m.c4) := (HX0.out).c 4 _ rfl
      have d5 : wr.cell? ⟨w.heap.size, 5, none⟩ = some (.slice m.a5 m.t5.length m.c5) := (HX0.out).c 5 _ rfl
      have d6 : wr.cell? ⟨w.heap.size, 6, none⟩ = some (.int .i64 m.ix) := (HX0.out).c 6 _ rfl
      have d7 : wr.cell? ⟨w.heap.size, 7, none⟩ = some (.int .i64 m.k0) := (HX0.out).c 7 _ rfl
      have d8 : wr.cell? ⟨w.heap.size, 8, none⟩ = some (.int .i64 m.k1) := (HX0.out).c 8 _ rfl
      have d9 : wr.cell? ⟨w.heap.size, 9, none⟩ = some (.int .i64 m.k2) := (HX0.out).c 9 _ rfl
      have d10 : wr.cell? ⟨w.heap.size, 10, none⟩ = some (.int .i64 m.k3) := (HX0.out).c 10 _ rfl
      have d11 : wr.cell? ⟨w.heap.size, 11, none⟩ = some (.int .i64 m.k4) := (HX0.out).c 11 _ rfl
      have d12 : wr.cell? ⟨w.heap.size, 12, none⟩ = some (.int .i64 m.k5) := (HX0.out).c 12 _ rfl
      have d13 : wr.cell? ⟨w.heap.size, 13, none⟩ = some (.int .i64 m.k6) := (HX0.out).c 13 _ rfl
      have d14 : wr.cell? ⟨w.heap.size, 14, none⟩ = some (.slice m.da m.dl.length m.dc) := (HX0.out).c 14 _ rfl
      go_wp2_with fail
      refine (MAY.out wr hEW).mono ?_
      rintro e w2 ⟨rfl, hb2⟩
      clear d0 d1 d2 d3 d4 d5 d6 d7 d8 d9 d10 d11 d12 d13 d14
      have hbw2 := hid (hb0.out.trans (hb2.mono hwz))
      have HX2 := hid (HX0.out.bel (by omega) hb2)
      have hz2 := hb2.size
      clear hb2 MAY
      cases hq2 : mayE m with
      | false =>
        have ho : Hid (okV m l used = none) := hid (by simp [okV, hq2])
        clear hq2
        go_wp2
        exact bodyPost_ret (v := .tuple #[.slice none 0 0, .bool false, .int .i64 used]) (by simp [results, Tryd.results18, go_sem]) rfl ⟨hbw2.out, .inl ⟨ho.out, rfl⟩⟩
      | true =>
        have Hq2 := hid hq2
        by_cases hu1 : 0 ≤ used ∧ used ≤ 1000
        · have l1 : decide (used < 0) = false := by simp; omega
          have l2 : decide (1000 < used) = false := by simp; omega
          have hokv : Hid (okV m l used = rowOf l) := hid (by simp [okV, hq2, bti, hu1])
          obtain ⟨u, rfl⟩ : ∃ u : Nat, used = (u : Int) := ⟨used.toNat, by omega⟩
          have hu4 : u ≤ 1000 := by omega
          clear hq2
          have hEW2 : Hid (EnOk w2 m) := hid (hm.out.bel hbw2.out)
          have d0 : w2.cell? ⟨w.heap.size, 0, none⟩ = some (.slice m.a0 m.t0.length m.c0) := (HX2.out).c 0 _ rfl
          have d1 : w2.cell? ⟨w.heap.size, 1, none⟩ = some (.slice m.a1 m.t1.length m.c1) := (HX2.out).c 1 _ rfl
          have d2 : w2.cell? ⟨w.heap.size, 2, none⟩ = some (.slice m.a2 m.t2.length m.c2) := (HX2.out).c 2 _ rfl
          have d3 : w2.cell? ⟨w.heap.size, 3, none⟩ = some (.slice m.a3 m.t3.length m.c3) := (HX2.out).c 3 _ rfl
          have d4 : w2.cell? ⟨w.heap.size, 4, none⟩ = some (.slice m.a4 m.t4.length m.c4) := (HX2.out).c 4 _ rfl
          have d5 : w2.cell? ⟨w.heap.size, 5, none⟩ = some (.slice m.a5 m.t5.length m.c5) := (HX2.out).c 5 _ rfl
          have d6 : w2.cell? ⟨w.heap.size, 6, none⟩ = some (.int .i64 m.ix) := (HX2.out).c 6 _ rfl
          have d7 : w2.cell? ⟨w.heap.size, 7, none⟩ = some (.int .i64 m.k0) := (HX2.out).c 7 _ rfl
          have d8 : w2.cell? ⟨w.heap.size, 8, none⟩ = some (.int .i64 m.k1) := (HX2.out).c 8 _ rfl
          have d9 : w2.cell? ⟨w.heap.size, 9, none⟩ = some (.int .i64 m.k2) := (HX2.out).c 9 _ rfl
          have d10 : w2.cell? ⟨w.heap.size, 10, none⟩ = some (.int .i64 m.k3) := (HX2.out).c 10 _ rfl
          have d11 : w2.cell? ⟨w.heap.size, 11, none⟩ = some (.int .i64 m.k4) := (HX2.out).c 11 _ rfl
          have d12 : w2.cell? ⟨w.heap.size, 12, none⟩ = some (.int .i64 m.k5) := (HX2.out).c 12 _ rfl
          have d13 : w2.cell? ⟨w.heap.size, 13, none⟩ = some (.int .i64 m.k6) := (HX2.out).c 13 _ rfl
          have d14 : w2.cell? ⟨w.heap.size, 14, none⟩ = some (.slice m.da m.dl.length m.dc) := (HX2.out).c 14 _ rfl
          have hww : w.heap.size ≤ w2.heap.size := by omega
          have hd := hid (mayE_tx Hq2.out).dr
          cases hrow : rowOf l with
          | none =>
            have hne : Hid (∀ j, j < 24 → (N.toList == (nameL j).map fun r => UInt8.ofNat r.toNat) = false) := hid fun j hj => name_ne ho.out HN.out hj (rowOf_none hrow j hj)
            have hok : Hid (okV m l (u : Int) = none) := hid (hokv.out.trans hrow)
            clear hrow hokv
            have e21 : (N.toList == [82, 65, 78, 68, 79, 77]) = false := hne.out 21 (by omega)
            have e22 : (N.toList == [82, 65, 78, 68, 79, 77, 95, 72, 69, 88]) = false := hne.out 22 (by omega)
            have e23 : (N.toList == [85, 85, 73, 68]) = false := hne.out 23 (by omega)
            have T := hid (rtextsN_c m N w2 fun j hj => hne.out j (by omega))
            simp only [enC] at T
            go_wp2_with fail
            refine T.out.mono ?_
            rintro e w3 ⟨rfl, hb3⟩
            have hbw3 := hid (hbw2.out.trans (hb3.mono hww))
            clear d0 d1 d2 d3 d4 d5 d6 d7 d8 d9 d10 d11 d12 d13 d14 hb3
            go_wp2
            exact bodyPost_ret (v := .tuple #[.slice none 0 0, .bool false, .int .i64 (u : Int)]) (by simp [results, Tryd.results18, go_sem]) rfl ⟨hbw3.out, .inl ⟨hok.out, rfl⟩⟩
          | some k =>
            obtain ⟨hk24, hlk⟩ := rowOf_some hrow
            have hok : Hid (okV m l (u : Int) = some k) := hid (hokv.out.trans hrow)
            have HNk : Hid (N = bStr (nameL k)) := hid (by rw [HN.out.symm, hlk])
            clear hrow hokv hlk
            have close : Hid (∀ L a c w', L = tellL m u k → Own w' w2.heap.size a c L → Below w.heap.size w w' → ValE w m l (u : Int) (.returned (.tuple #[.slice a L.length c, .bool true, .int .i64 ((u : Int) + takesN k)])) w') := hid fun L a c w' h1 h2 h3 =>
              ⟨h3, .inr ⟨k, L, a, c, hk24, hok.out, by omega, by omega, hid (by rw [Int.toNat_natCast]; exact h1), rfl, h2.base_le hww⟩⟩
            by_cases hk20 : k ≤ 20
            · have e21 : (N.toList == [82, 65, 78, 68, 79, 77]) = false := by rw [HNk.out]; exact name_far k hk20 21 (by omega) (by omega)
              have e22 : (N.toList == [82, 65, 78, 68, 79, 77, 95, 72, 69, 88]) = false := by rw [HNk.out]; exact name_far k hk20 22 (by omega) (by omega)
              have e23 : (N.toList == [85, 85, 73, 68]) = false := by rw [HNk.out]; exact name_far k hk20 23 (by omega) (by omega)
              have T := hid (rtextsK_c m k hk20 w2 hEW2 Hq2 u)
              rw [← HNk.out] at T
              simp only [enC] at T
              have hLL : Hid ((tellL m u k).length ≤ 1000) := hid (tellL_len (mayE_tx Hq2.out) u k)
              have ht0 : takesN k = 0 := by
                rcases (show k = 0 ∨ k = 1 ∨ k = 2 ∨ k = 3 ∨ k = 4 ∨ k = 5 ∨ k = 6 ∨ k = 7 ∨ k = 8 ∨ k = 9 ∨ k = 10 ∨ k = 11 ∨ k = 12 ∨ k = 13 ∨ k = 14 ∨ k = 15 ∨ k = 16 ∨ k = 17 ∨ k = 18 ∨ k = 19 ∨ k = 20 by omega) with rfl | rfl | rfl | rfl | rfl | rfl | rfl | rfl | rfl | rfl | rfl | rfl | rfl | rfl | rfl | rfl | rfl | rfl | rfl | rfl | rfl <;> rfl
              rw [ht0] at close
              generalize hL : tellL m u k = L at T hLL close
              clear hL ht0
              have HLL := hLL.out
              go_wp2_with fail
              refine T.out.mono ?_
              rintro e w3 ⟨a3, c3, rfl, hs3, hb3⟩
              have hbw3 := hid (hbw2.out.trans (hb3.mono hww))
              have S3 := hid hs3
              have hz3 := hb3.size
              clear d0 d1 d2 d3 d4 d5 d6 d7 d8 d9 d10 d11 d12 d13 d14 hb3 hs3 T
              go_wp2_with (at_builtin; (refine wpL_appn rfl ((.const (.slice none 0 0))) (.tmp 93) rfl w3.heap.size none a3 0 L.length 0 c3 [] L rfl (by first | rfl | simp | omega) (Own.nil _ _) rfl (by first | rfl | simp | omega) S3.out (by simp; omega) (Nat.le_refl _) ?_); intro a5 c5 w5 L5 Hl5 ho5 hb5 hk5 hA5; have HA5 := hid hA5; clear hA5; have Ho5 := hid ho5; clear ho5; have Hk5 := hid hk5; clear hk5; have hz5 := hb5.size)
              have hb5' := hid (hbw3.out.trans (hb5.mono hbw3.out.size))
              have C5 := hid (close.out L5 a5 c5 w5 (by rw [Hl5.out]; rfl) (Ho5.out.base_le hz3) hb5'.out)
              clear hb5
              refine bodyPost_ret (v := .tuple #[.slice a5 L5.length c5, .bool true, .int .i64 (u : Int)]) (by simp [results, Tryd.results18, go_sem]) rfl ?_
              have C := C5.out
              rwa [Int.natCast_zero, Int.add_zero] at C
            · rcases (show k = 21 ∨ k = 22 ∨ k = 23 by omega) with rfl | rfl | rfl
              · have e21 : (N.toList == [82, 65, 78, 68, 79, 77]) = true := by rw [HNk.out]; decide +kernel
                have T := hid (rdraw_c m u w2 hEW2 hd (by omega))
                simp only [enC] at T
                have hdl := drw_lt hd.out u
                have cl := hid fun (a : Option Addr) (c : Nat) (w' : World) => close.out (tellL m u 21) a c w' rfl
                simp only [tellL, takesN] at cl
                generalize drw m u = x at T hdl cl
                clear close
                go_wp2_with fail
                refine T.out.mono ?_
                rintro e w3 ⟨rfl, hb3⟩
                have e1 : ((x : Int)).tmod 1000000 = ((x % 1000000 : Nat) : Int) := rfl
                have hbw3 := hid (hbw2.out.trans (hb3.mono hww))
                have hz3 := hb3.size
                clear d0 d1 d2 d3 d4 d5 d6 d7 d8 d9 d10 d11 d12 d13 d14 hb3 T
                go_wp2_with fail
                refine (rdigits_c (x % 1000000) 6 w3 (by omega) (by omega)).mono ?_
                rintro e w4 ⟨L, hL, a4, c4, rfl, ho4, hb4⟩
                have hL2 : Hid (L = digs 10 6 (x % 1000000)) := hid (hL.fix (by omega))
                have hx4 := hid (hbw3.out.trans (hb4.mono hbw3.out.size))
                rw [← hL2.out] at cl
                have C := hid (cl.out a4 c4 w4 (ho4.base_le hz3) hx4.out)
                clear hL ho4 hb4 cl
                go_wp2
                exact bodyPost_ret (v := .tuple #[.slice a4 L.length c4, .bool true, .int .i64 ((u : Int) + 1)]) (by simp [results, Tryd.results18, go_sem]) rfl C.out
              · have e21 : (N.toList == [82, 65, 78, 68, 79, 77]) = false := by rw [HNk.out]; decide +kernel
                have e22 : (N.toList == [82, 65, 78, 68, 79, 77, 95, 72, 69, 88]) = true := by rw [HNk.out]; decide +kernel
                have T := hid (rdraw_c m u w2 hEW2 hd (by omega))
                simp only [enC] at T
                have hdl := drw_lt hd.out u
                have cl := hid fun (a : Option Addr) (c : Nat) (w' : World) => close.out (tellL m u 22) a c w' rfl
                simp only [tellL, takesN] at cl
                generalize drw m u = x at T hdl cl
                clear close
                go_wp2_with fail
                refine T.out.mono ?_
                rintro e w3 ⟨rfl, hb3⟩
                have hbw3 := hid (hbw2.out.trans (hb3.mono hww))
                have hz3 := hb3.size
                clear d0 d1 d2 d3 d4 d5 d6 d7 d8 d9 d10 d11 d12 d13 d14 hb3 T
                go_wp2_with fail
                refine (rhex_c x w3 hdl).mono ?_
                rintro e w4 ⟨a4, c4, rfl, ho4, hb4⟩
                have hx4 := hid (hbw3.out.trans (hb4.mono hbw3.out.size))
                have C := hid (cl.out a4 c4 w4 (ho4.base_le hz3) hx4.out)
                generalize digs 16 6 x = L at C
                clear ho4 hb4 cl
                go_wp2
                exact bodyPost_ret (v := .tuple #[.slice a4 L.length c4, .bool true, .int .i64 ((u : Int) + 1)]) (by simp [results, Tryd.results18, go_sem]) rfl C.out
              · have e21 : (N.toList == [82, 65, 78, 68, 79, 77]) = false := by rw [HNk.out]; decide +kernel
                have e22 : (N.toList == [82, 65, 78, 68, 79, 77, 95, 72, 69, 88]) = false := by rw [HNk.out]; decide +kernel
                have e23 : (N.toList == [85, 85, 73, 68]) = true := by rw [HNk.out]; decide +kernel
                have T := hid (ruuid_c m u w2 hEW2 hd (by omega))
                simp only [enC] at T
                have cl := hid fun (a : Option Addr) (c : Nat) (w' : World) => close.out (tellL m u 23) a c w' rfl
                simp only [tellL, takesN] at cl
                generalize uuidL (hexesL m u 5) = L at T cl
                clear close
                go_wp2_with fail
                refine T.out.mono ?_
                rintro e w4 ⟨a4, c4, rfl, ho4, hb4⟩
                have hx4 := hid (hbw2.out.trans (hb4.mono hww))
                have C := hid (cl.out a4 c4 w4 ho4 hx4.out)
                clear d0 d1 d2 d3 d4 d5 d6 d7 d8 d9 d10 d11 d12 d13 d14 ho4 hb4 cl T
                go_wp2
                exact bodyPost_ret (v := .tuple #[.slice a4 L.length c4, .bool true, .int .i64 ((u : Int) + 5)]) (by simp [results, Tryd.results18, go_sem]) rfl C.out
        · have hokv : Hid (okV m l used = none) := hid (by simp [okV, bti, hu1])
          clear hq2
          by_cases l1 : used < 0
          · have l2 : decide (used < 0) = true := by simpa using l1
            go_wp2
            exact bodyPost_ret (v := .tuple #[.slice none 0 0, .bool false, .int .i64 used]) (by simp [results, Tryd.results18, go_sem]) rfl ⟨hbw2.out, .inl ⟨hokv.out, rfl⟩⟩
          · have l2 : decide (used < 0) = false := by simpa using l1
            have l3 : decide (1000 < used) = true := by simp; omega
            clear l1 hu1
            go_wp2
            exact bodyPost_ret (v := .tuple #[.slice none 0 0, .bool false, .int .i64 used]) (by simp [results, Tryd.results18, go_sem]) rfl ⟨hbw2.out, .inl ⟨hokv.out, rfl⟩⟩
end Go.Proofs.YtijhkpbnalnpbaaDoor
