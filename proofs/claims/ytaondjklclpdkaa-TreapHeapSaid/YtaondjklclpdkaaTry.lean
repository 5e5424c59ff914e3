/- The walk of TreapHeap. -/
import Derived.Test.YtaondjklclpdkaaTrw
namespace Go.Proofs.Ytaondjklclpdkaa
open Go.RowKit

/-- the greatest priority -/
def mxp (ms : List Mk) : Nat → Int
  | 0 => 0
  | k + 1 => if mxp ms k < (mgt ms k).pr then (mgt ms k).pr else mxp ms k
theorem mxp_ge (ms : List Mk) (k : Nat) : ∀ i, i < k → (mgt ms i).pr ≤ mxp ms k := by
  induction k with
  | zero => intro i hi; omega
  | succ k ih =>
    intro i hi
    simp only [mxp]
    rcases Nat.lt_or_ge i k with h | h
    · have := ih i h
      split <;> omega
    · obtain rfl : i = k := by omega
      split <;> omega
theorem mxp_at {ms : List Mk} (h : MkL ms) (k : Nat) (hk : k ≤ ms.length) : 0 ≤ mxp ms k ∧ mxp ms k ≤ 7 ∧ (0 < k → ∃ i, i < k ∧ (mgt ms i).pr = mxp ms k) := by
  induction k with
  | zero => exact ⟨by simp [mxp], by simp [mxp], fun h => by omega⟩
  | succ k ih =>
    obtain ⟨h1, h2, h3⟩ := ih (by omega)
    have hm := h.at_ k (by omega)
    simp only [mxp]
    split
    · exact ⟨by omega, by omega, fun _ => ⟨k, by omega, rfl⟩⟩
    · rename_i hn
      refine ⟨h1, h2, fun _ => ?_⟩
      by_cases hk0 : 0 < k
      · obtain ⟨i, hi, he⟩ := h3 hk0
        exact ⟨i, by omega, he⟩
      · obtain rfl : k = 0 := by omega
        refine ⟨0, by omega, ?_⟩
        simp only [mxp] at hn ⊢
        omega
/-- how deep the mark at a place lies -/
def dpK (L : List Mk) (k : Nat) : Nat := depR (L.take k) (mgt L k) (L.drop (k + 1))
theorem dpK_depL {L : List Mk} (hi : Ids L) {k : Nat} (hk : k < L.length) : depL L (mgt L k).id = (dpK L k : Nat) := by
  unfold depL
  rw [pos_at hi hk, if_pos hk]; rfl
theorem dpK_le {L : List Mk} {k : Nat} (hk : k < L.length) : 1 ≤ dpK L k ∧ dpK L k ≤ L.length := by
  have := depR_le (L.take k) (mgt L k) (L.drop (k + 1))
  rw [← mgt_split hk] at this
  exact this
theorem dpK_top {L : List Mk} {k : Nat} (hk : k < L.length) (h : dpK L k = 1) : ∀ y, y ∈ L → ¬ ovr y (mgt L k) := by
  have := depR_top h
  rw [← mgt_split hk] at this
  exact this
theorem dpK_next {L : List Mk} (hi : Ids L) {k : Nat} (hk : k + 1 < L.length) : (ovr (mgt L k) (mgt L (k + 1)) → dpK L k < dpK L (k + 1)) ∧ (ovr (mgt L (k + 1)) (mgt L k) → dpK L (k + 1) < dpK L k) := by
  have e1 : L = L.take k ++ mgt L k :: mgt L (k + 1) :: L.drop (k + 2) := by
    rw [← mgt_drop hk, ← mgt_drop (by omega : k < L.length), List.take_append_drop]
  have h := depR_next (A := L.take k) (w := mgt L k) (m := mgt L (k + 1)) (B := L.drop (k + 2)) (by rw [← e1]; exact hi)
  unfold dpK
  rw [mgt_take (by omega : k < L.length), mgt_drop hk]
  exact h
theorem dpK_ids {L : List Mk} (hi : Ids L) {i j : Nat} (hj : j < L.length) (h : i < j) : (mgt L i).id ≠ (mgt L j).id := by
  unfold Ids at hi
  rw [List.pairwise_iff_getElem] at hi
  have := hi i j (by omega) hj h
  rw [mgt_get hj, mgt_get (by omega)]; exact this
theorem dpK_one {L : List Mk} (hi : Ids L) (h0 : L ≠ []) : ∃ T, T < L.length ∧ ∀ k, k < L.length → (dpK L k = 1 ↔ k = T) := by
  obtain ⟨A, x, B, hL, hx⟩ := top_ex L hi h0
  have hT : A.length < L.length := by rw [hL]; simp
  have hm : mgt L A.length = x := by rw [hL]; simp [mgt, List.getD]
  have hA : L.take A.length = A := by rw [hL]; simp
  have hB : L.drop (A.length + 1) = B := by rw [hL]; simp
  have h1 : dpK L A.length = 1 := by unfold dpK; rw [hm, hA, hB]; exact depR_one hx
  refine ⟨A.length, hT, fun k hk => ⟨fun h => ?_, fun h => by rw [h]; exact h1⟩⟩
  rcases Nat.lt_trichotomy k A.length with h2 | h2 | h2
  · have h3 := dpK_top hk h _ (mgt_mem hT)
    have h4 := dpK_top hT h1 _ (mgt_mem hk)
    exact absurd (ovr_total (dpK_ids hi hT h2)) (by rintro (h | h); exact h4 h; exact h3 h)
  · exact h2
  · have h3 := dpK_top hk h _ (mgt_mem hT)
    have h4 := dpK_top hT h1 _ (mgt_mem hk)
    exact absurd (ovr_total (dpK_ids hi hk h2)) (by rintro (h | h); exact h3 h; exact h4 h)
theorem dpK_most {ms : List Mk} (h : MkL ms) {k : Nat} (hk : k < (insL ms ms.length).length) (hd : dpK (insL ms ms.length) k = 1) : (mgt (insL ms ms.length) k).pr = mxp ms ms.length := by
  have h1 := dpK_top hk hd
  have h2 := mgt_mem hk
  obtain ⟨i, hi, he⟩ := (insL_mem ms ms.length _).1 h2
  have h3 := mxp_ge ms ms.length i hi
  have hn : 0 < ms.length := by omega
  obtain ⟨_, _, h4⟩ := mxp_at h ms.length (Nat.le_refl _)
  obtain ⟨j, hj, hje⟩ := h4 hn
  have h5 := h1 (mgt ms j) ((insL_mem ms ms.length _).2 ⟨j, hj, rfl⟩)
  rw [he] at h5 ⊢
  unfold ovr at h5
  omega
set_option maxRecDepth 20000 in
set_option maxHeartbeats 60000000 in
theorem heap_w (a0 : Option Addr) (c0 : Nat) (l0 : List Mk) (W : World) (h0 : MSl W a0 l0) :
    Calls Try.prog 6 #[.slice a0 l0.length c0] W fun e w' => e = .returned (.bool true) ∧ Below W.heap.size W w' := by
  go_enter Try.func6, Try.ntmps6
  go_wp2_with fail
  refine (marks_c a0 c0 l0 W h0).mono ?_
  rintro e w1 ⟨am, cm, ms, rfl, hM, hOm, b1⟩
  have HM := hid hM
  have hn := hM.len
  have HOm := hid hOm
  have B1 := hid b1
  clear hM hOm h0
  go_wp2_with fail
  refine (one_new (B := w1.heap.size) (Nat.le_refl _)).mono ?_
  rintro e w2 ⟨s, rfl, hO, b2⟩
  have O2 := hid hO
  clear hO
  go_wp2_with fail
  go_loopw [4, 21] (fun xv iv wr => ∃ (k : Nat) (mx : Int), k ≤ ms.length ∧ iv = .int .i64 k ∧ xv = .int .i64 mx ∧ Hid (mx = mxp ms k) ∧ Hid (One w1.heap.size wr s (insL ms k)) ∧ Below w1.heap.size w1 wr) (fun _ iv _ => ms.length - (intOf iv).toNat)
  case atStart => exact ⟨0, 0, Nat.zero_le _, rfl, rfl, hid rfl, O2.out, b2⟩
  case round =>
    obtain ⟨k, mx, hk, rfl, rfl, hmx, hOk, hb⟩ := hrel
    by_cases hlt : k < ms.length
    · have hd : decide (k < ms.length) = true := by simpa using hlt
      obtain ⟨bb, off, rfl, hcs⟩ := (HOm.out.grow hb).sl.at hlt
      obtain ⟨k0, k1, k2, k3⟩ := hcs k hlt
      have hbl := World.block_lt_of_cell? wr _ k0
      have Hadd := hid (insL_add HM.out hlt)
      have Hg := hid (insL_gd HM.out k hk)
      have Hir := hid (HM.out.irs hlt)
      clear hcs
      generalize hm : mgt ms k = m at *
      have Hmm := hid hm
      clear hm
      go_upto_region 9 with fail
      obtain ⟨V, hV⟩ : ∃ V, V = wr.alloc (.cells #[.int .i64 m.id, .int .i64 m.fr, .int .i64 m.to, .int .i64 m.pr] 33) := ⟨_, rfl⟩
      rw [← hV]
      have bV : Below wr.heap.size wr V := by subst hV; exact (Below.refl _ _).alloc (Nat.le_refl _) _
      have KV : Bx V wr.heap.size m := by subst hV; exact Bx.new wr m _
      have xV := bthen hb bV
      have OV := hid (hOk.out.fresh bV)
      have KVh := hid KV
      have Hms : Hid (mxp ms (k + 1) = if mx < m.pr then m.pr else mx) := by rw [hmx.out, ← Hmm.out]; exact rfl
      obtain ⟨m0, m1, m2, m3⟩ := KV
      clear hV k0 k1 k2 k3 hbl
      go_wp2_with fail
      refine (one_addP m OV.out Hg.out Hir.out Hadd.out.1 Hadd.out.2).mono ?_
      rintro e w3 ⟨rfl, hO3, hb3, hf3⟩
      have O3 := hid hO3
      have x3 := xV.trans hb3
      have kk := bx_held KVh.out ⟨Nat.le_refl _, World.block_lt_of_cell? V _ KVh.out.1⟩ hf3
      clear hO3 m0 m1 m2 m3 hf3
      obtain ⟨m0, m1, m2, m3⟩ := kk
      by_cases hlp : mx < m.pr
      · have hd3 : decide (mx < m.pr) = true := by simpa using hlp
        rw [if_pos hlp] at Hms
        have hmn : (if mx < m.pr then m.pr else mx) = m.pr := if_pos hlp
        have hmn2 : max mx m.pr = m.pr := by omega
        go_wp2_with fail
        go_roundw
        case rel => exact ⟨k + 1, m.pr, by omega, by go_num, rfl, hid Hms.out.symm, O3, x3⟩
        case measure => simp [intOf]; omega
      · have hd3 : decide (mx < m.pr) = false := by simpa using hlp
        rw [if_neg hlp] at Hms
        have hmn : (if mx < m.pr then m.pr else mx) = mx := if_neg hlp
        have hmn2 : max mx m.pr = mx := by omega
        go_wp2_with fail
        go_roundw
        case rel => exact ⟨k + 1, mx, by omega, by go_num, rfl, hid Hms.out.symm, O3, x3⟩
        case measure => simp [intOf]; omega
    · have hd : decide (k < ms.length) = false := by simpa using hlt
      obtain rfl : k = ms.length := by omega
      have Hg := hid (insL_gd HM.out ms.length (Nat.le_refl _))
      have hL : (insL ms ms.length).length ≤ 30 := by rw [insL_len]; exact hn
      have Hmost := hid (fun k hk hd => dpK_most HM.out (k := k) hk hd)
      have hb1 := bthen B1.out hb
      rw [← hmx.out] at Hmost
      clear hlt hk HM HOm B1 O2 b1 b2 hmx
      generalize insL ms ms.length = L at *
      go_wp2_with fail
      refine (one_all hOk.out Hg.out).mono ?_
      rintro e w5 ⟨a5, c5, L5, rfl, hL5, ho5, b5⟩
      have hL5e := hL5.out.symm
      subst hL5e
      have O5 := hid (hOk.out.bel b5)
      have x5 := bthen hb1 b5
      have SlL := hid (fun w' (hb : Below w5.heap.size w5 w') => (ho5.grow hb).sl)
      clear ho5
      obtain ⟨T, hT⟩ : ∃ T : Nat, (0 < L.length → T < L.length) ∧ ∀ k, k < L.length → (dpK L k = 1 ↔ k = T) := by
        by_cases h0 : L = []
        · exact ⟨0, fun h => by rw [h0] at h; simp at h, fun k hk => by rw [h0] at hk; simp at hk⟩
        · obtain ⟨T, h1, h2⟩ := dpK_one Hg.out.ids h0
          exact ⟨T, fun _ => h1, h2⟩
      have HT := hid hT
      clear hT
      go_wp2_with fail
      go_loopw [8, 38] (fun tv kv wr => ∃ (k tp : Nat), k ≤ L.length ∧ kv = .int .i64 k ∧ tv = .int .i64 tp ∧ Hid (tp = if T < k then 1 else 0) ∧ tp ≤ 1 ∧ Below w5.heap.size w5 wr) (fun _ kv _ => L.length - (intOf kv).toNat)
      case atStart => exact ⟨0, 0, Nat.zero_le _, rfl, rfl, hid (by simp), by omega, Below.refl _ _⟩
      case round =>
        rename World => v0
        obtain ⟨k, tp, hk, rfl, rfl, htp, htp1, hb5⟩ := hrel
        by_cases hlt : k < L.length
        · have hd2 : decide (k < L.length) = true := by simpa using hlt
          obtain ⟨bb, off, rfl, hcs⟩ := (SlL.out _ hb5).at hlt
          have HC : Hid (∀ w', Below w5.heap.size w5 w' → ∀ j, j < L.length → (w'.cell? ⟨bb, off + j * 4, none⟩ = some (.int .i64 (mgt L j).id) ∧ w'.cell? ⟨bb, off + j * 4 + 1, none⟩ = some (.int .i64 (mgt L j).fr) ∧ w'.cell? ⟨bb, off + j * 4 + 2, none⟩ = some (.int .i64 (mgt L j).to) ∧ w'.cell? ⟨bb, off + j * 4 + 3, none⟩ = some (.int .i64 (mgt L j).pr))) := fun w' hb' j hj => by
            obtain ⟨bb', off', he, hcs⟩ := (SlL.out _ hb').at hj
            simp only [Option.some.injEq, Addr.mk.injEq, and_true] at he
            obtain ⟨rfl, rfl⟩ := he
            exact hcs j hj
          obtain ⟨k0, k1, k2, k3⟩ := hcs k hlt
          have hbl := World.block_lt_of_cell? v0 _ k0
          have O6 := hid (O5.out.bel hb5)
          obtain ⟨hd1a, hd1b⟩ := dpK_le hlt
          have HdL := hid (dpK_depL Hg.out.ids hlt)
          have HdT := hid (HT.out.2 k hlt)
          have Hmk := hid (Hmost.out k hlt)
          have Hnx : Hid (∀ p, k = p + 1 → (ovr (mgt L p) (mgt L k) → dpK L p < dpK L k) ∧ (ovr (mgt L k) (mgt L p) → dpK L k < dpK L p) ∧ (mgt L p).id ≠ (mgt L k).id) := fun p hp => by
            subst hp
            exact ⟨(dpK_next Hg.out.ids hlt).1, (dpK_next Hg.out.ids hlt).2, dpK_ids Hg.out.ids hlt (by omega)⟩
          obtain ⟨m, hm⟩ : ∃ m, m = mgt L k := ⟨_, rfl⟩
          obtain ⟨d, hdd⟩ : ∃ d, d = dpK L k := ⟨_, rfl⟩
          rw [← hm] at k0 k1 k2 k3 HdL Hmk Hnx
          rw [← hdd] at HdL HdT Hmk Hnx hd1a hd1b
          have Hm := hid hm
          clear hcs hm hdd
          go_upto_region 17 with fail
          obtain ⟨V, hV⟩ : ∃ V, V = v0.alloc (.cells #[.int .i64 m.id, .int .i64 m.fr, .int .i64 m.to, .int .i64 m.pr] 33) := ⟨_, rfl⟩
          rw [← hV]
          have bV : Below v0.heap.size v0 V := by subst hV; exact (Below.refl _ _).alloc (Nat.le_refl _) _
          have KV : Bx V v0.heap.size m := by subst hV; exact Bx.new v0 m _
          have OV := hid (O6.out.bel bV)
          have hcV := hid (bthen hb5 bV)
          have HKV := hid KV
          clear hV k0 k1 k2 k3 hbl
          obtain ⟨m0, m1, m2, m3⟩ := KV
          go_wp2_with fail
          refine (one_depth m.id OV.out Hg.out HdL.out).mono ?_
          rintro e v1 ⟨rfl, bv1⟩
          have O7 := hid (OV.out.bel bv1)
          have kk := HKV.out.bel bv1
          obtain ⟨n0, n1, n2, n3⟩ := kk
          have hxb := World.block_lt_of_cell? v1 _ n0
          have x7 := bthen hcV.out bv1
          have HBV := hid (HKV.out.bel bv1)
          clear m0 m1 m2 m3
          have y1 : decide ((d : Int) < 1) = false := by simp; omega
          have y2 : decide (L.length < d) = false := by simp; omega
          have y3 : decide ((L.length : Int) < (d : Int)) = false := by simp; omega
          by_cases hd1 : d = 1
          · have hkT := HdT.out.1 hd1
            have hmp := Hmk.out hd1
            have y4 : ((d : Int) == 1) = true := by simp; omega
            have y5 : (d == 1) = true := by simp; omega
            have htp' : Hid (tp + 1 = if T < k + 1 then 1 else 0) := by rw [htp.out, if_neg (by omega), if_pos (by omega)]; exact rfl
            have htp1' : tp + 1 ≤ 1 := by rw [htp.out, if_neg (by omega)]; omega
            have hmq : (m.pr == mx) = true := by simpa using hmp
            clear hmp hkT hd1
            rcases Nat.eq_zero_or_pos k with hk0 | hk0
            · subst hk0
              go_wp2_with fail
              go_roundw
              case rel => exact ⟨0 + 1, tp + 1, by omega, by go_num, by go_num, htp', htp1', x7⟩
              case measure => (simp [intOf] <;> omega)
            · obtain ⟨p, hkp⟩ : ∃ p, k = p + 1 := ⟨k - 1, by omega⟩
              have hw1 : IntKind.i64.wrap ((k : Int) - 1) = (p : Int) := by rw [IntKind.wrap_i64]; omega
              have hw2 : wrap64 ((k : Int) - 1) = (p : Int) := by unfold wrap64; omega
              have hk1 : (((k : Int)) == 0) = false := by simp; omega
              have hk2 : (k == 0) = false := by simp; omega
              have hpl : p < L.length := by omega
              obtain ⟨q0, q1, q2, q3⟩ := HC.out _ x7 p hpl
              have hbl := World.block_lt_of_cell? v1 _ q0
              obtain ⟨g1, g2, g3⟩ := Hnx.out p hkp
              have HeL := hid (dpK_depL Hg.out.ids hpl)
              have hpr : (m.pr ≤ (mgt L p).pr ∧ dpK L p < d) ∨ ((mgt L p).pr ≤ m.pr ∧ d < dpK L p) := by
                rcases ovr_total g3 with h | h
                · have h2 := g1 h
                  left; unfold ovr at h; exact ⟨by omega, h2⟩
                · have h2 := g2 h
                  right; unfold ovr at h; exact ⟨by omega, h2⟩
              obtain ⟨wm, hwm⟩ : ∃ wm, wm = mgt L p := ⟨_, rfl⟩
              obtain ⟨e, hee⟩ : ∃ e, e = dpK L p := ⟨_, rfl⟩
              rw [← hwm] at q0 q1 q2 q3 HeL hpr
              rw [← hee] at HeL hpr
              have hwm2 := hid hwm
              have hee2 := hid hee
              clear g1 g2 g3 hwm hee hkp hk0
              go_upto_region 26 with fail
              obtain ⟨V2, hV2⟩ : ∃ V2, V2 = v1.alloc (.cells #[.int .i64 wm.id, .int .i64 wm.fr, .int .i64 wm.to, .int .i64 wm.pr] 33) := ⟨_, rfl⟩
              rw [← hV2]
              have bV2 : Below v1.heap.size v1 V2 := by subst hV2; exact (Below.refl _ _).alloc (Nat.le_refl _) _
              have KV2 : Bx V2 v1.heap.size wm := by subst hV2; exact Bx.new v1 wm _
              have HKV2 := hid KV2
              have O8 := hid (O7.out.bel bV2)
              obtain ⟨m0, m1, m2, m3⟩ := KV2
              clear hV2 q0 q1 q2 q3 hbl n0 n1 n2 n3 hxb
              go_wp2_with fail
              refine (one_depth wm.id O8.out Hg.out HeL.out).mono ?_
              rintro e9 v2 ⟨rfl, bv2⟩
              have x9 := bthen (bthen x7 bV2) bv2
              have kk := HKV2.out.bel bv2
              clear m0 m1 m2 m3
              obtain ⟨m0, m1, m2, m3⟩ := kk
              have kk := (HBV.out.bel bV2).bel bv2
              obtain ⟨n0, n1, n2, n3⟩ := kk
              rcases hpr with ⟨hp1, hp2⟩ | ⟨hp1, hp2⟩
              · have z1 : ((d : Int) == (e : Int)) = false := by simp; omega
                have z2 : decide (e < d) = true := by simp; omega
                have z3 : decide (wm.pr < m.pr) = false := by simp; omega
                have z4 : decide (d < e) = false := by simp; omega
                have z5 : (d == e) = false := by simp; omega
                clear hp1 hp2
                go_wp2_with fail
                go_roundw
                case rel => exact ⟨k + 1, tp + 1, by omega, by go_num, by go_num, htp', htp1', x9⟩
                case measure => (simp [intOf] <;> omega)
              · have z1 : ((d : Int) == (e : Int)) = false := by simp; omega
                have z2 : decide (e < d) = false := by simp; omega
                have z3 : decide (m.pr < wm.pr) = false := by simp; omega
                have z4 : decide (d < e) = true := by simp; omega
                have z5 : (d == e) = false := by simp; omega
                clear hp1 hp2
                go_wp2_with fail
                go_roundw
                case rel => exact ⟨k + 1, tp + 1, by omega, by go_num, by go_num, htp', htp1', x9⟩
                case measure => (simp [intOf] <;> omega)
          · have hkT : k ≠ T := fun h => hd1 (HdT.out.2 h)
            have htp' : Hid (tp = if T < k + 1 then 1 else 0) := by
              rw [htp.out]
              by_cases h : T < k
              · rw [if_pos h, if_pos (by omega)]; exact rfl
              · rw [if_neg h, if_neg (by omega)]; exact rfl
            have htp1' := htp1
            have y4 : ((d : Int) == 1) = false := by simp; omega
            have y5 : (d == 1) = false := by simp; omega
            clear hkT hd1
            rcases Nat.eq_zero_or_pos k with hk0 | hk0
            · subst hk0
              go_wp2_with fail
              go_roundw
              case rel => exact ⟨0 + 1, tp, by omega, by go_num, rfl, htp', htp1', x7⟩
              case measure => (simp [intOf] <;> omega)
            · obtain ⟨p, hkp⟩ : ∃ p, k = p + 1 := ⟨k - 1, by omega⟩
              have hw1 : IntKind.i64.wrap ((k : Int) - 1) = (p : Int) := by rw [IntKind.wrap_i64]; omega
              have hw2 : wrap64 ((k : Int) - 1) = (p : Int) := by unfold wrap64; omega
              have hk1 : (((k : Int)) == 0) = false := by simp; omega
              have hk2 : (k == 0) = false := by simp; omega
              have hpl : p < L.length := by omega
              obtain ⟨q0, q1, q2, q3⟩ := HC.out _ x7 p hpl
              have hbl := World.block_lt_of_cell? v1 _ q0
              obtain ⟨g1, g2, g3⟩ := Hnx.out p hkp
              have HeL := hid (dpK_depL Hg.out.ids hpl)
              have hpr : (m.pr ≤ (mgt L p).pr ∧ dpK L p < d) ∨ ((mgt L p).pr ≤ m.pr ∧ d < dpK L p) := by
                rcases ovr_total g3 with h | h
                · have h2 := g1 h
                  left; unfold ovr at h; exact ⟨by omega, h2⟩
                · have h2 := g2 h
                  right; unfold ovr at h; exact ⟨by omega, h2⟩
              obtain ⟨wm, hwm⟩ : ∃ wm, wm = mgt L p := ⟨_, rfl⟩
              obtain ⟨e, hee⟩ : ∃ e, e = dpK L p := ⟨_, rfl⟩
              rw [← hwm] at q0 q1 q2 q3 HeL hpr
              rw [← hee] at HeL hpr
              have hwm2 := hid hwm
              have hee2 := hid hee
              clear g1 g2 g3 hwm hee hkp hk0
              go_upto_region 26 with fail
              obtain ⟨V2, hV2⟩ : ∃ V2, V2 = v1.alloc (.cells #[.int .i64 wm.id, .int .i64 wm.fr, .int .i64 wm.to, .int .i64 wm.pr] 33) := ⟨_, rfl⟩
              rw [← hV2]
              have bV2 : Below v1.heap.size v1 V2 := by subst hV2; exact (Below.refl _ _).alloc (Nat.le_refl _) _
              have KV2 : Bx V2 v1.heap.size wm := by subst hV2; exact Bx.new v1 wm _
              have HKV2 := hid KV2
              have O8 := hid (O7.out.bel bV2)
              obtain ⟨m0, m1, m2, m3⟩ := KV2
              clear hV2 q0 q1 q2 q3 hbl n0 n1 n2 n3 hxb
              go_wp2_with fail
              refine (one_depth wm.id O8.out Hg.out HeL.out).mono ?_
              rintro e9 v2 ⟨rfl, bv2⟩
              have x9 := bthen (bthen x7 bV2) bv2
              have kk := HKV2.out.bel bv2
              clear m0 m1 m2 m3
              obtain ⟨m0, m1, m2, m3⟩ := kk
              have kk := (HBV.out.bel bV2).bel bv2
              obtain ⟨n0, n1, n2, n3⟩ := kk
              rcases hpr with ⟨hp1, hp2⟩ | ⟨hp1, hp2⟩
              · have z1 : ((d : Int) == (e : Int)) = false := by simp; omega
                have z2 : decide (e < d) = true := by simp; omega
                have z3 : decide (wm.pr < m.pr) = false := by simp; omega
                have z4 : decide (d < e) = false := by simp; omega
                have z5 : (d == e) = false := by simp; omega
                clear hp1 hp2
                go_wp2_with fail
                go_roundw
                case rel => exact ⟨k + 1, tp, by omega, by go_num, rfl, htp', htp1', x9⟩
                case measure => (simp [intOf] <;> omega)
              · have z1 : ((d : Int) == (e : Int)) = false := by simp; omega
                have z2 : decide (e < d) = false := by simp; omega
                have z3 : decide (m.pr < wm.pr) = false := by simp; omega
                have z4 : decide (d < e) = true := by simp; omega
                have z5 : (d == e) = false := by simp; omega
                clear hp1 hp2
                go_wp2_with fail
                go_roundw
                case rel => exact ⟨k + 1, tp, by omega, by go_num, rfl, htp', htp1', x9⟩
                case measure => (simp [intOf] <;> omega)
        · have hd2 : decide (k < L.length) = false := by simpa using hlt
          by_cases h0 : 0 < L.length
          · have h1 := HT.out.1 h0
            have ht : tp = 1 := by rw [htp.out, if_pos (by omega)]
            subst ht
            have hd4 : decide (0 < L.length) = true := by simpa using h0
            have hd5 : decide ((L.length : Int) > 0) = true := by simpa using h0
            clear hlt
            go_wp2_with fail
            refine (known_c v0).mono ?_
            rintro e w9 ⟨rfl, b9⟩
            go_wp2_with fail
            go_ret
            exact ⟨rfl, bthen x5 (bthen hb5 b9)⟩
          · have ht : tp = 0 := by
              rw [htp.out, if_neg]
              omega
            subst ht
            have hd4 : decide (0 < L.length) = false := by simpa using h0
            clear hlt
            go_wp2_with fail
            refine (known_c v0).mono ?_
            rintro e w9 ⟨rfl, b9⟩
            go_wp2_with fail
            go_ret
            exact ⟨rfl, bthen x5 (bthen hb5 b9)⟩
end Go.Proofs.Ytaondjklclpdkaa
