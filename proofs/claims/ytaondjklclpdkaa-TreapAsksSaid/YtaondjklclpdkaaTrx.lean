/- The walk of TreapAsks. -/
import Derived.Test.YtaondjklclpdkaaTrw
namespace Go.Proofs.Ytaondjklclpdkaa
open Go.RowKit

theorem stL_split {a : Int} {l : List Mk} {k : Nat} (h : k < l.length) (hc : (mgt l k).fr ≤ a ∧ a ≤ (mgt l k).to) :
    (stL a (l.take k)).length < (stL a l).length ∧ gt (stL a l) (stL a (l.take k)).length = (mgt l k).id ∧ (stL a (l.take (k + 1))).length = (stL a (l.take k)).length + 1 := by
  have e1 := stL_take (a := a) h
  rw [if_pos hc] at e1
  have e2 : stL a l = stL a (l.take (k + 1)) ++ stL a (l.drop (k + 1)) := by rw [← stL_app, List.take_append_drop]
  have e3 : stL a l = stL a (l.take k) ++ ((mgt l k).id :: stL a (l.drop (k + 1))) := by rw [e2, e1, List.append_assoc]; rfl
  refine ⟨by rw [e3]; simp, ?_, by rw [e1]; simp⟩
  rw [e3, gt_app_right (Nat.le_refl _), Nat.sub_self]; rfl
theorem stL_stay {a : Int} {l : List Mk} {k : Nat} (h : k < l.length) (hc : ¬((mgt l k).fr ≤ a ∧ a ≤ (mgt l k).to)) : (stL a (l.take (k + 1))).length = (stL a (l.take k)).length := by
  rw [stL_take h, if_neg hc, List.append_nil]
theorem wiL_split {f t : Int} {l : List Mk} {k : Nat} (h : k < l.length) (hc : f ≤ (mgt l k).fr ∧ (mgt l k).to ≤ t) :
    (wiL f t (l.take k)).length < (wiL f t l).length ∧ gt (wiL f t l) (wiL f t (l.take k)).length = (mgt l k).id ∧ (wiL f t (l.take (k + 1))).length = (wiL f t (l.take k)).length + 1 := by
  have e1 := wiL_take (f := f) (t := t) h
  rw [if_pos hc] at e1
  have e2 : wiL f t l = wiL f t (l.take (k + 1)) ++ wiL f t (l.drop (k + 1)) := by rw [← wiL_app, List.take_append_drop]
  have e3 : wiL f t l = wiL f t (l.take k) ++ ((mgt l k).id :: wiL f t (l.drop (k + 1))) := by rw [e2, e1, List.append_assoc]; rfl
  refine ⟨by rw [e3]; simp, ?_, by rw [e1]; simp⟩
  rw [e3, gt_app_right (Nat.le_refl _), Nat.sub_self]; rfl
theorem wiL_stay {f t : Int} {l : List Mk} {k : Nat} (h : k < l.length) (hc : ¬(f ≤ (mgt l k).fr ∧ (mgt l k).to ≤ t)) : (wiL f t (l.take (k + 1))).length = (wiL f t (l.take k)).length := by
  rw [wiL_take h, if_neg hc, List.append_nil]
/-- a slice of numbers read at a place -/
theorem isl_at {w : World} {a : Option Addr} {l : List Int} (h : I.Sl w a l) {i : Nat} (hi : i < l.length) {x : Int} (hx : gt l i = x) : ∃ b o, a = some ⟨b, o, none⟩ ∧ w.cell? ⟨b, o + i, none⟩ = some (.int .i64 x) := by
  obtain ⟨b, o, ha, hc⟩ := h.at hi
  exact ⟨b, o, ha, by rw [hc i hi, hx]⟩
set_option maxRecDepth 20000 in
set_option maxHeartbeats 60000000 in
theorem asks_w (a0 : Option Addr) (c0 : Nat) (l0 : List Mk) (xa xb : Int) (W : World) (h0 : MSl W a0 l0) :
    Calls Try.prog 7 #[.slice a0 l0.length c0, .int .i64 xa, .int .i64 xb] W fun e w' => e = .returned (.bool true) ∧ Below W.heap.size W w' := by
  obtain ⟨x1, y1⟩ := band_le xa 63 (by decide)
  obtain ⟨x2, y2⟩ := band_le xb 63 (by decide)
  rw [show ((63 : Nat) : Int) = 63 from rfl] at x1 y1 x2 y2
  obtain ⟨p, hp⟩ := Int.eq_ofNat_of_zero_le x1
  obtain ⟨q, hq⟩ := Int.eq_ofNat_of_zero_le x2
  clear x1 y1 x2 y2
  go_enter Try.func7, Try.ntmps7
  go_wp2_with fail
  refine (marks_c a0 c0 l0 W h0).mono ?_
  rintro e w1 ⟨am, cm, ms, rfl, hM, hOm, b1⟩
  have HM := hid hM
  have hn := hM.len
  have HOm := hid hOm
  have B1 := hid b1
  clear hM hOm h0
  go_wp2_with fail
  refine (one_new (B := w1.heap.size) (Nat.le_refl _)).mono ?_
  rintro e w2 ⟨s, rfl, hO, b2⟩
  have O2 := hid hO
  clear hO
  go_wp2_with fail
  go_loopw [27] (fun iv wr => ∃ k : Nat, k ≤ ms.length ∧ iv = .int .i64 k ∧ Hid (One w1.heap.size wr s (insL ms k)) ∧ Below w1.heap.size w1 wr) (fun iv _ => ms.length - (intOf iv).toNat)
  case atStart => exact ⟨0, Nat.zero_le _, rfl, O2.out, b2⟩
  case round =>
    obtain ⟨k, hk, rfl, hOk, hb⟩ := hrel
    by_cases hlt : k < ms.length
    · have hd : decide (k < ms.length) = true := by simpa using hlt
      obtain ⟨bb, off, rfl, hcs⟩ := (HOm.out.grow hb).sl.at hlt
      obtain ⟨k0, k1, k2, k3⟩ := hcs k hlt
      have hbl := World.block_lt_of_cell? wr _ k0
      have Hadd := hid (insL_add HM.out hlt)
      have Hg := hid (insL_gd HM.out k hk)
      have Hir := hid (HM.out.irs hlt)
      clear hcs
      generalize hm : mgt ms k = m at *
      have Hmm := hid hm
      clear hm
      go_upto_region 9 with fail
      obtain ⟨V, hV⟩ : ∃ V, V = wr.alloc (.cells #[.int .i64 m.id, .int .i64 m.fr, .int .i64 m.to, .int .i64 m.pr] 33) := ⟨_, rfl⟩
      rw [← hV]
      have bV : Below wr.heap.size wr V := by subst hV; exact (Below.refl _ _).alloc (Nat.le_refl _) _
      have KV : Bx V wr.heap.size m := by subst hV; exact Bx.new wr m _
      have xV := bthen hb bV
      have OV := hid (hOk.out.bel bV)
      obtain ⟨m0, m1, m2, m3⟩ := KV
      clear hV k0 k1 k2 k3 hbl
      go_wp2_with fail
      refine (one_add m OV.out Hg.out Hir.out Hadd.out.1 Hadd.out.2).mono ?_
      rintro e w3 ⟨rfl, hO3, hb3⟩
      have O3 := hid hO3
      have x3 := xV.trans hb3
      clear hO3 m0 m1 m2 m3
      go_wp2_with fail
      go_roundw
      case rel => exact ⟨k + 1, by omega, by go_num, O3, x3⟩
      case measure => simp [intOf]; omega
    · have hd : decide (k < ms.length) = false := by simpa using hlt
      obtain rfl : k = ms.length := by omega
      have Hg := hid (insL_gd HM.out ms.length (Nat.le_refl _))
      have hL : (insL ms ms.length).length ≤ 30 := by rw [insL_len]; exact hn
      have hb1 := bthen B1.out hb
      clear hlt hk HM HOm B1 O2 b1 b2
      generalize insL ms ms.length = L at *
      go_wp2_with fail
      refine (one_stab p hOk.out Hg.out).mono ?_
      rintro e w3 ⟨a3, c3, S1, rfl, hS1, ho3, b3⟩
      have O3 := hid (hOk.out.bel b3)
      have x3 := bthen hb1 b3
      have Sl1 := hid (fun w' (hb : Below w3.heap.size w3 w') => (ho3.grow hb).sl)
      clear ho3
      go_wp2_with fail
      refine (one_within p q O3.out Hg.out).mono ?_
      rintro e w4 ⟨a4, c4, S2, rfl, hS2, ho4, b4⟩
      have O4 := hid (O3.out.bel b4)
      have x4 := bthen x3 b4
      have Sl2 := hid (fun w' (hb : Below w4.heap.size w4 w') => (ho4.grow hb).sl)
      clear ho4
      go_wp2_with fail
      refine (one_all O4.out Hg.out).mono ?_
      rintro e w5 ⟨a5, c5, L5, rfl, hL5, ho5, b5⟩
      have hL5e := hL5.out.symm
      subst hL5e
      have O5 := hid (O4.out.bel b5)
      have x5 := bthen x4 b5
      have SlL := hid (fun w' (hb : Below w5.heap.size w5 w') => (ho5.grow hb).sl)
      have b45 := hid b5
      have b35 := hid (bthen b4 b5)
      have hs1 : S1.length ≤ 30 := by rw [hS1.out]; have := stL_len p L; omega
      have hs2 : S2.length ≤ 30 := by rw [hS2.out]; have := wiL_len p q L; omega
      clear ho5
      go_wp2_with fail
      go_loopw [12, 13, 46] (fun iv jv kv wr => ∃ (k i j : Nat), k ≤ L.length ∧ kv = .int .i64 k ∧ iv = .int .i64 i ∧ jv = .int .i64 j ∧ Hid (i = (stL p (L.take k)).length) ∧ Hid (j = (wiL p q (L.take k)).length) ∧ i ≤ 30 ∧ j ≤ 30 ∧ Below w5.heap.size w5 wr) (fun _ _ kv _ => L.length - (intOf kv).toNat)
      case atStart => exact ⟨0, 0, 0, Nat.zero_le _, rfl, rfl, rfl, hid (by simp [stL]), hid (by simp [wiL]), by omega, by omega, Below.refl _ _⟩
      case round =>
        rename World => v0
        obtain ⟨k, i, j, hk, rfl, rfl, rfl, hi, hj, hi3, hj3, hb5⟩ := hrel
        by_cases hlt : k < L.length
        · have hd2 : decide (k < L.length) = true := by simpa using hlt
          have hir := Hg.out.ok _ (mgt_mem hlt)
          obtain ⟨bb, off, rfl, hcs⟩ := (SlL.out _ hb5).at hlt
          obtain ⟨k0, k1, k2, k3⟩ := hcs k hlt
          have hbl := World.block_lt_of_cell? v0 _ k0
          have O6 := hid (O5.out.bel hb5)
          have Hst := hid (fun hc => stL_split (a := (p : Int)) hlt hc)
          have Hss := hid (fun hc => stL_stay (a := (p : Int)) hlt hc)
          have Hwt := hid (fun hc => wiL_split (f := (p : Int)) (t := (q : Int)) hlt hc)
          have Hws := hid (fun hc => wiL_stay (f := (p : Int)) (t := (q : Int)) hlt hc)
          have Hord : Hid (0 < k → ahd (mgt L (k - 1)) (mgt L k)) := fun h => by
            have ho := Hg.out.ord
            unfold Ord at ho
            rw [List.pairwise_iff_getElem] at ho
            have := ho (k - 1) k (by omega) hlt (by omega)
            rw [mgt_get hlt, mgt_get (by omega)]; exact this
          obtain ⟨m, hm⟩ : ∃ m, m = mgt L k := ⟨_, rfl⟩
          rw [← hm] at k0 k1 k2 k3 Hst Hss Hwt Hws Hord hir
          have Hm := hid hm
          clear hcs hm
          go_upto_region 17 with fail
          obtain ⟨V, hV⟩ : ∃ V, V = v0.alloc (.cells #[.int .i64 m.id, .int .i64 m.fr, .int .i64 m.to, .int .i64 m.pr] 33) := ⟨_, rfl⟩
          rw [← hV]
          have bV : Below v0.heap.size v0 V := by subst hV; exact (Below.refl _ _).alloc (Nat.le_refl _) _
          have KV : Bx V v0.heap.size m := by subst hV; exact Bx.new v0 m _
          have OV := hid (O6.out.bel bV)
          have hcV := hid (bthen hb5 bV)
          have HKV := hid KV
          clear hV k0 k1 k2 k3 hbl
          obtain ⟨m0, m1, m2, m3⟩ := KV
          go_cut [63] (fun s63 wc => s63 = .bool false ∧ Below V.heap.size V wc)
          case first =>
            by_cases hk0 : 0 < k
            · have hd3 : decide (0 < k) = true := by simpa using hk0
              have ha2 : decide (ahd (mgt L (k - 1)) m) = true := decide_eq_true (Hord.out hk0)
              obtain ⟨k', rfl⟩ : ∃ k', k = k' + 1 := ⟨k - 1, by omega⟩
              have hw1 : IntKind.i64.wrap (((k' + 1 : Nat) : Int) - 1) = (k' : Int) := by rw [IntKind.wrap_i64]; omega
              have hlt' : k' < L.length := by omega
              have hw2 : IntKind.i64.wrap (k' : Int) = (k' : Int) := by rw [IntKind.wrap_i64]; omega
              have hw3 : IntKind.i64.wrap ((k' : Int) + 1 - 1) = (k' : Int) := by rw [IntKind.wrap_i64]; omega
              have xr : Below V.heap.size V V.drew := (Below.refl _ _).drew
              go_region_with
                (first | (go_at_call 18; refine (one_all (OV.out.bel xr) Hg.out).mono ?_; rintro e w6 ⟨a6, c6, L6, rfl, hL6, ho6, b6⟩; have hL6e := hL6.out.symm; subst hL6e; have x6 : Below V.heap.size V w6 := bthen xr b6; obtain ⟨bc, oc, ha6, hc6⟩ := ho6.sl.at hlt'; subst ha6; obtain ⟨r0, r1, r2, r3⟩ := hc6 k' hlt'; clear hc6 ho6; have kk := HKV.out.bel x6; obtain ⟨n0, n1, n2, n3⟩ := kk)
                       | (go_at_call 21; refine (ahead_c (mgt L k') m _).mono ?_; rintro e w7 ⟨rfl, b7⟩; have ha3 := ha2; simp only [Nat.add_sub_cancel] at ha3; rw [ha3]; have x7 : Below V.heap.size V w7 := bthen x6 b7))
              all_goals
                go_wp2_with fail
                go_meet
                exact ⟨rfl, by (repeat' (first | exact Below.refl _ _ | assumption | refine bdrewN ?_ _ | refine Below.drew ?_ | refine bal ?_ _ | refine bthen ?_ (by assumption)))⟩
            · have hd3 : decide (0 < k) = false := by simpa using hk0
              go_quiet (first | (go_at_call 18; fail))
              go_wp2_with fail
              go_meet
              exact ⟨rfl, bdrewN (Below.refl _ _) _⟩
          case rest =>
            obtain ⟨rfl, hx⟩ := hcut
            rename World => v1
            have kk := HKV.out.bel hx
            obtain ⟨n0, n1, n2, n3⟩ := kk
            clear m0 m1 m2 m3 hir
            by_cases hA1 : m.fr ≤ (p : Int)
            · have dA1 : decide (m.fr ≤ (p : Int)) = true := by simpa using hA1
              by_cases hA2 : (p : Int) ≤ m.to
              · have dA2 : decide ((p : Int) ≤ m.to) = true := by simpa using hA2
                obtain ⟨ha1', ha2', ha3'⟩ := Hst.out ⟨hA1, hA2⟩
                rw [← hS1.out, ← hi.out] at ha1' ha2'
                obtain ⟨bp, op, rfl, pc⟩ := isl_at (Sl1.out v1 (bthen b35.out (bthen hcV.out hx))) ha1' ha2'
                have dA3 : decide (S1.length ≤ i) = false := by simpa using ha1'
                have hi' : i + 1 = (stL p (L.take (k + 1))).length := by rw [ha3', ← hi.out]
                have hi30 : i + 1 ≤ 30 := by omega
                clear ha2' ha3' hA1 hA2
                by_cases hB1 : (p : Int) ≤ m.fr
                · have dB1 : decide ((p : Int) ≤ m.fr) = true := by simpa using hB1
                  by_cases hB2 : m.to ≤ (q : Int)
                  · have dB2 : decide (m.to ≤ (q : Int)) = true := by simpa using hB2
                    obtain ⟨hb1', hb2', hb3'⟩ := Hwt.out ⟨hB1, hB2⟩
                    rw [← hS2.out, ← hj.out] at hb1' hb2'
                    obtain ⟨bq, oq, rfl, qc⟩ := isl_at (Sl2.out v1 (bthen b45.out (bthen hcV.out hx))) hb1' hb2'
                    have dB3 : decide (S2.length ≤ j) = false := by simpa using hb1'
                    have hj' : j + 1 = (wiL p q (L.take (k + 1))).length := by rw [hb3', ← hj.out]
                    have hj30 : j + 1 ≤ 30 := by omega
                    clear hb2' hb3' hB1 hB2
                    go_wp2_with fail
                    go_quiet (fail)
                    go_wp2_with fail
                    go_quiet (fail)
                    go_wp2_with fail
                    go_roundw
                    case rel => exact ⟨k + 1, i + 1, j + 1, by omega, by go_num, by go_num, by go_num, hid hi', hid hj', hi30, hj30, (bthen hcV.out (by (repeat' (first | exact Below.refl _ _ | assumption | refine bdrewN ?_ _ | refine Below.drew ?_ | refine bal ?_ _ | refine bthen ?_ (by assumption)))))⟩
                    case measure => (simp [intOf] <;> omega)
                  · have dB2 : decide (m.to ≤ (q : Int)) = false := by simpa using hB2
                    have hj' : j = (wiL p q (L.take (k + 1))).length := by rw [Hws.out (fun h => hB2 h.2), ← hj.out]
                    have hj30 := hj3
                    clear hB1 hB2
                    go_wp2_with fail
                    go_quiet (fail)
                    go_wp2_with fail
                    go_roundw
                    case rel => exact ⟨k + 1, i + 1, j, by omega, by go_num, by go_num, rfl, hid hi', hid hj', hi30, hj30, (bthen hcV.out (by (repeat' (first | exact Below.refl _ _ | assumption | refine bdrewN ?_ _ | refine Below.drew ?_ | refine bal ?_ _ | refine bthen ?_ (by assumption)))))⟩
                    case measure => (simp [intOf] <;> omega)
                · have dB1 : decide ((p : Int) ≤ m.fr) = false := by simpa using hB1
                  have hj' : j = (wiL p q (L.take (k + 1))).length := by rw [Hws.out (fun h => hB1 h.1), ← hj.out]
                  have hj30 := hj3
                  clear hB1
                  go_wp2_with fail
                  go_quiet (fail)
                  go_wp2_with fail
                  go_roundw
                  case rel => exact ⟨k + 1, i + 1, j, by omega, by go_num, by go_num, rfl, hid hi', hid hj', hi30, hj30, (bthen hcV.out (by (repeat' (first | exact Below.refl _ _ | assumption | refine bdrewN ?_ _ | refine Below.drew ?_ | refine bal ?_ _ | refine bthen ?_ (by assumption)))))⟩
                  case measure => (simp [intOf] <;> omega)
              · have dA2 : decide ((p : Int) ≤ m.to) = false := by simpa using hA2
                have hi' : i = (stL p (L.take (k + 1))).length := by rw [Hss.out (fun h => hA2 h.2), ← hi.out]
                have hi30 := hi3
                clear hA1 hA2
                by_cases hB1 : (p : Int) ≤ m.fr
                · have dB1 : decide ((p : Int) ≤ m.fr) = true := by simpa using hB1
                  by_cases hB2 : m.to ≤ (q : Int)
                  · have dB2 : decide (m.to ≤ (q : Int)) = true := by simpa using hB2
                    obtain ⟨hb1', hb2', hb3'⟩ := Hwt.out ⟨hB1, hB2⟩
                    rw [← hS2.out, ← hj.out] at hb1' hb2'
                    obtain ⟨bq, oq, rfl, qc⟩ := isl_at (Sl2.out v1 (bthen b45.out (bthen hcV.out hx))) hb1' hb2'
                    have dB3 : decide (S2.length ≤ j) = false := by simpa using hb1'
                    have hj' : j + 1 = (wiL p q (L.take (k + 1))).length := by rw [hb3', ← hj.out]
                    have hj30 : j + 1 ≤ 30 := by omega
                    clear hb2' hb3' hB1 hB2
                    go_wp2_with fail
                    go_quiet (fail)
                    go_wp2_with fail
                    go_roundw
                    case rel => exact ⟨k + 1, i, j + 1, by omega, by go_num, rfl, by go_num, hid hi', hid hj', hi30, hj30, (bthen hcV.out (by (repeat' (first | exact Below.refl _ _ | assumption | refine bdrewN ?_ _ | refine Below.drew ?_ | refine bal ?_ _ | refine bthen ?_ (by assumption)))))⟩
                    case measure => (simp [intOf] <;> omega)
                  · have dB2 : decide (m.to ≤ (q : Int)) = false := by simpa using hB2
                    have hj' : j = (wiL p q (L.take (k + 1))).length := by rw [Hws.out (fun h => hB2 h.2), ← hj.out]
                    have hj30 := hj3
                    clear hB1 hB2
                    go_wp2_with fail
                    go_roundw
                    case rel => exact ⟨k + 1, i, j, by omega, by go_num, rfl, rfl, hid hi', hid hj', hi30, hj30, (bthen hcV.out (by (repeat' (first | exact Below.refl _ _ | assumption | refine bdrewN ?_ _ | refine Below.drew ?_ | refine bal ?_ _ | refine bthen ?_ (by assumption)))))⟩
                    case measure => (simp [intOf] <;> omega)
                · have dB1 : decide ((p : Int) ≤ m.fr) = false := by simpa using hB1
                  have hj' : j = (wiL p q (L.take (k + 1))).length := by rw [Hws.out (fun h => hB1 h.1), ← hj.out]
                  have hj30 := hj3
                  clear hB1
                  go_wp2_with fail
                  go_roundw
                  case rel => exact ⟨k + 1, i, j, by omega, by go_num, rfl, rfl, hid hi', hid hj', hi30, hj30, (bthen hcV.out (by (repeat' (first | exact Below.refl _ _ | assumption | refine bdrewN ?_ _ | refine Below.drew ?_ | refine bal ?_ _ | refine bthen ?_ (by assumption)))))⟩
                  case measure => (simp [intOf] <;> omega)
            · have dA1 : decide (m.fr ≤ (p : Int)) = false := by simpa using hA1
              have hi' : i = (stL p (L.take (k + 1))).length := by rw [Hss.out (fun h => hA1 h.1), ← hi.out]
              have hi30 := hi3
              clear hA1
              by_cases hB1 : (p : Int) ≤ m.fr
              · have dB1 : decide ((p : Int) ≤ m.fr) = true := by simpa using hB1
                by_cases hB2 : m.to ≤ (q : Int)
                · have dB2 : decide (m.to ≤ (q : Int)) = true := by simpa using hB2
                  obtain ⟨hb1', hb2', hb3'⟩ := Hwt.out ⟨hB1, hB2⟩
                  rw [← hS2.out, ← hj.out] at hb1' hb2'
                  obtain ⟨bq, oq, rfl, qc⟩ := isl_at (Sl2.out v1 (bthen b45.out (bthen hcV.out hx))) hb1' hb2'
                  have dB3 : decide (S2.length ≤ j) = false := by simpa using hb1'
                  have hj' : j + 1 = (wiL p q (L.take (k + 1))).length := by rw [hb3', ← hj.out]
                  have hj30 : j + 1 ≤ 30 := by omega
                  clear hb2' hb3' hB1 hB2
                  go_wp2_with fail
                  go_quiet (fail)
                  go_wp2_with fail
                  go_roundw
                  case rel => exact ⟨k + 1, i, j + 1, by omega, by go_num, rfl, by go_num, hid hi', hid hj', hi30, hj30, (bthen hcV.out (by (repeat' (first | exact Below.refl _ _ | assumption | refine bdrewN ?_ _ | refine Below.drew ?_ | refine bal ?_ _ | refine bthen ?_ (by assumption)))))⟩
                  case measure => (simp [intOf] <;> omega)
                · have dB2 : decide (m.to ≤ (q : Int)) = false := by simpa using hB2
                  have hj' : j = (wiL p q (L.take (k + 1))).length := by rw [Hws.out (fun h => hB2 h.2), ← hj.out]
                  have hj30 := hj3
                  clear hB1 hB2
                  go_wp2_with fail
                  go_roundw
                  case rel => exact ⟨k + 1, i, j, by omega, by go_num, rfl, rfl, hid hi', hid hj', hi30, hj30, (bthen hcV.out (by (repeat' (first | exact Below.refl _ _ | assumption | refine bdrewN ?_ _ | refine Below.drew ?_ | refine bal ?_ _ | refine bthen ?_ (by assumption)))))⟩
                  case measure => (simp [intOf] <;> omega)
              · have dB1 : decide ((p : Int) ≤ m.fr) = false := by simpa using hB1
                have hj' : j = (wiL p q (L.take (k + 1))).length := by rw [Hws.out (fun h => hB1 h.1), ← hj.out]
                have hj30 := hj3
                clear hB1
                go_wp2_with fail
                go_roundw
                case rel => exact ⟨k + 1, i, j, by omega, by go_num, rfl, rfl, hid hi', hid hj', hi30, hj30, (bthen hcV.out (by (repeat' (first | exact Below.refl _ _ | assumption | refine bdrewN ?_ _ | refine Below.drew ?_ | refine bal ?_ _ | refine bthen ?_ (by assumption)))))⟩
                case measure => (simp [intOf] <;> omega)
        · have hd2 : decide (k < L.length) = false := by simpa using hlt
          have hkL : L.take k = L := List.take_of_length_le (by omega)
          have hi' : i = S1.length := by rw [hi.out, hS1.out, hkL]
          have hj' : j = S2.length := by rw [hj.out, hS2.out, hkL]
          subst hi'
          subst hj'
          clear hkL hlt
          go_wp2_with fail
          refine (known_c v0).mono ?_
          rintro e w9 ⟨rfl, b9⟩
          go_wp2_with fail
          go_ret
          exact ⟨rfl, bthen x5 (bthen hb5 b9)⟩
end Go.Proofs.Ytaondjklclpdkaa
