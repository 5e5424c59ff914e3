/- Package tabs: Next, Prev. -/
import Derived.Test.YthkkpcfmifhllaaTbb
namespace Go.Proofs.Ythkkpcfmifhllaa
open Go.RowKit Go.ChangeShapes

set_option maxRecDepth 20000 in
set_option maxHeartbeats 4000000 in
theorem index_c (w : World) (a : Option Addr) (c : Nat) (L : List Int) (x : Int) (hL : I.Sl w a L) (hl : L.length ≤ 80) :
    Calls Try.prog 25 #[.slice a L.length c, .int .i64 x] w fun e w' => (∃ r : Int, e = .returned (.int .i64 r) ∧ ((r = -1 ∧ ∀ j, j < L.length → gt L j ≠ x) ∨ ∃ k : Nat, r = k ∧ k < L.length ∧ gt L k = x)) ∧ w' = w := by
  have HL := hid hL
  go_enter Try.func25, Try.ntmps25
  clear hL
  go_wp2
  go_loopw [8] (fun i wr => ∃ k : Nat, k ≤ L.length ∧ i = .int .i64 k ∧ Hid (∀ j, j < k → gt L j ≠ x) ∧ Hid (wr = w)) (fun i _ => L.length - (intOf i).toNat)
  case atStart => exact ⟨0, Nat.zero_le _, rfl, hid fun j h => by omega, hid rfl⟩
  case round =>
    obtain ⟨k, hk, rfl, HN, HW⟩ := hrel
    have HLw : Hid (I.Sl wr a L) := by rw [HW.out]; exact HL
    by_cases hlt : k < L.length
    · obtain ⟨b, o, rfl, hc⟩ := HLw.out.at hlt
      have ck := hc k hlt
      clear hc
      by_cases hx : x = gt L k
      · have e : (x == gt L k) = true := by simp [hx]
        have Hx := hid hx; clear hx
        go_wp2
        go_ret
        exact ⟨⟨_, rfl, .inr ⟨k, rfl, hlt, Hx.out.symm⟩⟩, HW.out⟩
      · have e : (x == gt L k) = false := by simp [hx]
        have Hx := hid hx; clear hx
        go_wp2
        go_round
        case rel => exact ⟨k + 1, hlt, by go_num, hid fun j h => by
          by_cases hj : j = k
          · rw [hj]; exact fun h => Hx.out h.symm
          · exact HN.out j (by omega), HW⟩
        case measure => simp [intOf]; omega
    · obtain rfl : k = L.length := by omega
      go_wp2
      go_ret
      exact ⟨⟨_, rfl, .inl ⟨rfl, HN.out⟩⟩, HW.out⟩
/-- the answer of Next and Prev -/
def besV (o : Option Nat) : Ending := .returned (.tuple #[.int .i64 ((o.getD 0 : Nat) : Int), .bool o.isSome])
theorem ordI_len (l : List Fl) : (ordI l).length = (ordF l).length := by simp [ordI]
theorem ordI_gt (l : List Fl) {k : Nat} (h : k < (ordF l).length) : gt (ordI l) k = ((ordF l).getD k 0 : Nat) := by
  rw [gt_get (by rw [ordI_len]; exact h)]
  simp [ordI, List.getD, List.getElem?_eq_getElem h]
set_option maxRecDepth 20000 in
set_option maxHeartbeats 4000000 in
theorem beside_c (w : World) (a : Option Addr) (c : Nat) (l : List Fl) (at_ by_ : Int) (hl : RSl encFl w a l) (hok : OkF l) (hn : l.length ≤ 80) (hby : by_ = 1 ∨ by_ = -1) :
    Calls Try.prog 21 #[.slice a l.length c, .int .i64 at_, .int .i64 by_] w fun e w' => e = besV (besF (ordF l) at_ by_) ∧ Below w.heap.size w w' := by
  have ho := order_c w a c l hl hok hn
  have HO := hid ho
  have hlen := ordF_len l
  have hil := hid (ordI_len l)
  have hol : (ordI l).length ≤ 80 := by rw [ordI_len]; omega
  go_enter Try.func21, Try.ntmps21
  clear ho hl hok
  go_wp2_with fail
  refine HO.out.mono ?_
  rintro _ w1 ⟨a1, c1, rfl, o1, b1⟩
  have O1 := hid o1
  have hs := o1.sl
  have hi := index_c w1 a1 c1 (ordI l) at_ hs hol
  have HI := hid hi
  have B1 := hid b1
  clear o1 b1 hi HO
  go_wp2_with fail
  refine HI.out.mono ?_
  rintro _ w2 ⟨⟨r, rfl, hr⟩, rfl⟩
  clear HI
  rcases hr with ⟨rfl, hn1⟩ | ⟨k, rfl, hk, hg⟩
  · have e : besF (ordF l) at_ by_ = none := besF_none fun k h1 h2 _ _ => hn1 k (by have := hil.out; omega) (by rw [ordI_gt l h1]; exact h2)
    have He := hid e
    clear hn1 e hs
    go_wp2
    go_ret2
    rw [He.out]; exact ⟨rfl, B1.out⟩
  · have hk' : k < (ordF l).length := by have := hil.out; omega
    have hat : (((ordF l)[k]'hk' : Nat) : Int) = at_ := by
      have := ordI_gt l hk'
      rw [hg] at this
      simp [List.getD, List.getElem?_eq_getElem hk'] at this
      exact this.symm
    have Hat := hid hat
    clear hg hat
    by_cases h0 : 0 ≤ (k : Int) + by_
    · by_cases h1 : (k : Int) + by_ < (ordF l).length
      · have e := besF_of hk' Hat.out h0 h1
        obtain ⟨q, hq⟩ : ∃ q : Nat, (k : Int) + by_ = q := ⟨((k : Int) + by_).toNat, by omega⟩
        have hq2 : q < (ordI l).length := by have := hil.out; omega
        have ev : besV (some ((ordF l).getD ((k : Int) + by_).toNat 0)) = .returned (.tuple #[.int .i64 (gt (ordI l) q), .bool true]) := by
          rw [hq, ordI_gt l (by have := hil.out; omega)]; first | done | rfl
        have He := hid (show besV (besF (ordF l) at_ by_) = .returned (.tuple #[.int .i64 (gt (ordI l) q), .bool true]) by rw [e]; exact ev)
        clear e ev
        have z1 : ¬ (q : Int) < 0 := by omega
        have z2 : ((q : Int) == ((ordI l).length : Int)) = false := by rw [beq_eq_false_iff_ne]; have := hil.out; omega
        have hwq : IntKind.i64.wrap ((k : Int) + by_) = (q : Int) := by rw [hq, IntKind.wrap_i64]; omega
        obtain ⟨b, o, rfl, hc⟩ := hs.at hq2
        have cq := hc q hq2
        clear hc hs hq
        go_wp2
        go_ret2
        rw [He.out]; exact ⟨rfl, B1.out⟩
      · have e : besF (ordF l) at_ by_ = none := besF_none fun k2 g1 g2 g3 g4 => by
          have : (ordF l)[k2]'g1 = (ordF l)[k]'hk' := by
            have e1 : (ordF l).getD k2 0 = (ordF l)[k2]'g1 := by simp [List.getD, List.getElem?_eq_getElem g1]
            rw [e1, ← Hat.out] at g2
            exact_mod_cast g2
          have := ordF_inj g1 hk' this
          omega
        have hq : (k : Int) + by_ = ((ordI l).length : Int) := by have := hil.out; omega
        have hwq : IntKind.i64.wrap ((k : Int) + by_) = ((ordI l).length : Int) := by rw [hq, IntKind.wrap_i64]; omega
        have z2 : decide (((ordI l).length : Int) = ((ordI l).length : Int)) = true := decide_eq_true rfl
        have z1 : ¬ ((ordI l).length : Int) < 0 := by omega
        have He := hid e
        clear e hs hq
        go_wp2
        go_ret2
        rw [He.out]; exact ⟨rfl, B1.out⟩
    · have e : besF (ordF l) at_ by_ = none := besF_none fun k2 g1 g2 g3 g4 => by
        have : (ordF l)[k2]'g1 = (ordF l)[k]'hk' := by
          have e1 : (ordF l).getD k2 0 = (ordF l)[k2]'g1 := by simp [List.getD, List.getElem?_eq_getElem g1]
          rw [e1, ← Hat.out] at g2
          exact_mod_cast g2
        have := ordF_inj g1 hk' this
        omega
      have hq : (k : Int) + by_ = -1 := by omega
      have hwq : IntKind.i64.wrap ((k : Int) + by_) = -1 := by rw [hq, IntKind.wrap_i64]; omega
      have He := hid e
      clear e hs hq
      go_wp2
      go_ret2
      rw [He.out]; exact ⟨rfl, B1.out⟩
theorem next_c (w : World) (a : Option Addr) (c : Nat) (l : List Fl) (at_ : Int) (hl : RSl encFl w a l) (hok : OkF l) (hn : l.length ≤ 80) :
    Calls Try.prog 11 #[.slice a l.length c, .int .i64 at_] w fun e w' => e = besV (besF (ordF l) at_ 1) ∧ Below w.heap.size w w' := by
  have hb := hid (beside_c w a c l at_ 1 hl hok hn (.inl rfl))
  go_enter Try.func11, Try.ntmps11
  go_wp2_with fail
  refine hb.out.mono ?_
  rintro _ w1 ⟨rfl, b1⟩
  have B1 := hid b1
  unfold besV
  go_wp2
  go_ret2
  exact ⟨rfl, B1.out⟩
theorem prev_c (w : World) (a : Option Addr) (c : Nat) (l : List Fl) (at_ : Int) (hl : RSl encFl w a l) (hok : OkF l) (hn : l.length ≤ 80) :
    Calls Try.prog 12 #[.slice a l.length c, .int .i64 at_] w fun e w' => e = besV (besF (ordF l) at_ (-1)) ∧ Below w.heap.size w w' := by
  have hb := hid (beside_c w a c l at_ (-1) hl hok hn (.inr rfl))
  go_enter Try.func12, Try.ntmps12
  go_wp2_with fail
  refine hb.out.mono ?_
  rintro _ w1 ⟨rfl, b1⟩
  have B1 := hid b1
  unfold besV
  go_wp2
  go_ret2
  exact ⟨rfl, B1.out⟩
end Go.Proofs.Ythkkpcfmifhllaa
