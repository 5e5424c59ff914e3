/- The document's Beside; the law's few. -/
import Derived.Test.YthkkpcfmifhllaaTbc
import Derived.Test.YthkkpcfmifhllaaTbd
namespace Go.Proofs.Ythkkpcfmifhllaa
open Go.RowKit Go.ChangeShapes

set_option maxRecDepth 20000 in
set_option maxHeartbeats 8000000 in
theorem rbeside_c (w : World) (a : Option Addr) (c : Nat) (l : List Fl) (at_ by_ : Int) (hl : RSl encFl w a l) (hn : l.length ≤ 80) (hby : by_ = 1 ∨ by_ = -1) :
    Calls Try.prog 14 #[.slice a l.length c, .int .i64 at_, .int .i64 by_] w fun e w' => e = besV (besF (ordF l) at_ by_) ∧ Below w.heap.size w w' := by
  have ho := rorder_c w a c l hl hn
  have HO := hid ho
  have hlen := ordF_len l
  have hil := hid (ordI_len l)
  have hol : (ordI l).length ≤ 80 := by rw [ordI_len]; omega
  go_enter Try.func14, Try.ntmps14
  clear ho hl
  go_wp2_with fail
  refine HO.out.mono ?_
  rintro _ w1 ⟨a1, c1, rfl, o1, b1⟩
  have O1 := hid o1
  have B1 := hid b1
  have Hby := hid hby
  clear o1 b1 HO hby
  go_wp2
  go_loopw [9] (fun v wr => ∃ k : Nat, k ≤ (ordI l).length ∧ v = .int .i64 k ∧ Hid (∀ j, j < k → ¬ (gt (ordI l) j = at_ ∧ 0 ≤ (j : Int) + by_ ∧ (j : Int) + by_ < (ordI l).length)) ∧ Hid (wr = w1)) (fun v _ => (ordI l).length - (intOf v).toNat)
  case atStart => exact ⟨0, Nat.zero_le _, rfl, hid fun j h => by omega, hid rfl⟩
  case round =>
    obtain ⟨k, hk, rfl, HN, HW⟩ := hrel
    have O2 : Hid (I.Own wr w.heap.size a1 c1 (ordI l)) := by rw [HW.out]; exact O1
    have B2 : Hid (Below w.heap.size w wr) := by rw [HW.out]; exact B1
    by_cases hlt : k < (ordI l).length
    · obtain ⟨b, o, rfl, hc⟩ := O2.out.sl.at hlt
      have ck := hc k hlt
      have HC := hid hc
      clear hc
      have hwr : IntKind.i64.wrap ((k : Int) + by_) = (k : Int) + by_ := by rw [IntKind.wrap_i64]; have := Hby.out; omega
      by_cases hx : gt (ordI l) k = at_
      · have e1 : (gt (ordI l) k == at_) = true := by simp [hx]
        by_cases h0 : 0 ≤ (k : Int) + by_
        · have z0 : decide ((k : Int) + by_ ≥ 0) = true := decide_eq_true h0
          by_cases h1 : (k : Int) + by_ < (ordI l).length
          · have z1 : decide ((k : Int) + by_ < ((ordI l).length : Int)) = true := decide_eq_true h1
            have hk' : k < (ordF l).length := by have := hil.out; omega
            have hat : (((ordF l)[k]'hk' : Nat) : Int) = at_ := by
              have := ordI_gt l hk'
              rw [hx] at this
              simp [List.getD, List.getElem?_eq_getElem hk'] at this
              exact this.symm
            have e := besF_of hk' hat h0 (by have := hil.out; omega)
            obtain ⟨q, hq⟩ : ∃ q : Nat, (k : Int) + by_ = q := ⟨((k : Int) + by_).toNat, by omega⟩
            have hq2 : q < (ordI l).length := by omega
            have cq := HC.out q hq2
            have He := hid (show besV (besF (ordF l) at_ by_) = .returned (.tuple #[.int .i64 (gt (ordI l) q), .bool true]) by
              rw [e, hq, ordI_gt l (by have := hil.out; omega)]; first | done | rfl)
            clear e hat
            go_wp2
            go_ret2
            rw [He.out]; exact ⟨rfl, B2.out⟩
          · have z1 : decide ((k : Int) + by_ < ((ordI l).length : Int)) = false := decide_eq_false h1
            have HN2 : Hid (∀ j, j < k + 1 → ¬ (gt (ordI l) j = at_ ∧ 0 ≤ (j : Int) + by_ ∧ (j : Int) + by_ < (ordI l).length)) := fun j h => by
              by_cases hj : j = k
              · subst hj; exact fun ⟨_, _, h3⟩ => h1 h3
              · exact HN.out j (by omega)
            go_wp2
            go_round
            case rel => exact ⟨k + 1, hlt, by go_num, HN2, HW⟩
            case measure => simp [intOf]; omega
        · have z0 : decide ((k : Int) + by_ ≥ 0) = false := decide_eq_false h0
          have HN2 : Hid (∀ j, j < k + 1 → ¬ (gt (ordI l) j = at_ ∧ 0 ≤ (j : Int) + by_ ∧ (j : Int) + by_ < (ordI l).length)) := fun j h => by
            by_cases hj : j = k
            · subst hj; exact fun ⟨_, h2, _⟩ => h0 h2
            · exact HN.out j (by omega)
          go_wp2
          go_round
          case rel => exact ⟨k + 1, hlt, by go_num, HN2, HW⟩
          case measure => simp [intOf]; omega
      · have e1 : (gt (ordI l) k == at_) = false := by simp [hx]
        have HN2 : Hid (∀ j, j < k + 1 → ¬ (gt (ordI l) j = at_ ∧ 0 ≤ (j : Int) + by_ ∧ (j : Int) + by_ < (ordI l).length)) := fun j h => by
          by_cases hj : j = k
          · subst hj; exact fun ⟨h1, _, _⟩ => hx h1
          · exact HN.out j (by omega)
        go_wp2
        go_round
        case rel => exact ⟨k + 1, hlt, by go_num, HN2, HW⟩
        case measure => simp [intOf]; omega
    · obtain rfl : k = (ordI l).length := by omega
      have e : besF (ordF l) at_ by_ = none := besF_none fun j g1 g2 g3 g4 => HN.out j (by have := hil.out; omega) ⟨by rw [ordI_gt l g1]; exact g2, g3, by have := hil.out; omega⟩
      have He := hid e
      clear e
      go_wp2
      go_ret2
      rw [He.out]; exact ⟨rfl, B2.out⟩
theorem bandle (x : Int) (m : Nat) (hm : m < 9223372036854775808) : 0 ≤ bits .and .i64 x m ∧ bits .and .i64 x m ≤ m := by
  have h1 : (BitVec.ofInt 64 x &&& BitVec.ofInt 64 (m : Int)).toNat ≤ m := by
    rw [BitVec.toNat_and]
    refine Nat.le_trans Nat.and_le_right ?_
    rw [BitVec.ofInt_natCast, BitVec.toNat_ofNat]
    exact Nat.mod_le _ _
  have h2 : bits .and .i64 x m = IntKind.i64.wrap ((BitVec.ofInt 64 x &&& BitVec.ofInt 64 (m : Int)).toNat : Int) := rfl
  rw [h2, IntKind.wrap_i64]; omega
/-- what few leaves: up to 40 fields of few numbers -/
def FewE (w : World) (n : Nat) (e : Ending) (w' : World) : Prop :=
  ∃ a c M, e = .returned (.slice a M.length c) ∧ ROwn encFl 33 w' w.heap.size a c M ∧ M.length ≤ 40 ∧ M.length ≤ n ∧ OkF M ∧ Below w.heap.size w w'
set_option maxRecDepth 20000 in
set_option maxHeartbeats 8000000 in
theorem few_c (w : World) (a : Option Addr) (c : Nat) (l : List Fl) (hl : RSl encFl w a l) :
    Calls Try.prog 6 #[.slice a l.length c] w (FewE w l.length) := by
  have HL := hid hl
  have hlen : l.length ≤ 1099511627776 := hl.len
  go_enter Try.func6, Try.ntmps6
  clear hl
  go_wp2
  go_loopw [4, 3] (fun v o wr => ∃ (k c1 : Nat) (a1 : Option Addr) (M : List Fl), k ≤ 40 ∧ k ≤ l.length ∧ v = .int .i64 k ∧ o = .slice a1 M.length c1 ∧ Hid (M.length = k) ∧ Hid (ROwn encFl 33 wr w.heap.size a1 c1 M) ∧ Hid (OkF M) ∧ Hid (Below w.heap.size w wr)) (fun v _ _ => 40 - (intOf v).toNat)
  case atStart => exact ⟨0, 0, none, [], by omega, Nat.zero_le _, rfl, rfl, hid rfl, hid (ROwn.nil _ _), hid (fun m h => by cases h), hid (Below.refl _ _)⟩
  case round =>
    obtain ⟨k, c1, a1, M, hk4, hk, rfl, rfl, HMl, HM, HOK, HB⟩ := hrel
    by_cases hlt : k < l.length
    · have z1 : decide ((k : Int) < (l.length : Int)) = true := decide_eq_true (by omega)
      by_cases h40 : k < 40
      · have z2 : decide ((k : Int) < 40) = true := decide_eq_true (by omega)
        have HLw : Hid (RSl encFl wr a l) := HL.out.bel HB.out
        obtain ⟨b, off, rfl, d0, d1⟩ := fl_num HLw.out hlt
        obtain ⟨X, hX⟩ : ∃ X, X = (rgt l k).num := ⟨_, rfl⟩
        obtain ⟨Y, hY⟩ : ∃ Y, Y = (rgt l k).kind := ⟨_, rfl⟩
        rw [← hX] at d1; rw [← hY] at d0
        clear hX hY
        obtain ⟨p, hp⟩ : ∃ p, bits .and .i64 X 7 = p := ⟨_, rfl⟩
        obtain ⟨q, hq⟩ : ∃ q, bits .and .i64 Y 3 = q := ⟨_, rfl⟩
        have b7 : 0 ≤ p ∧ p ≤ 7 := by rw [← hp]; exact bandle X 7 (by decide)
        have b3 : 0 ≤ q ∧ q ≤ 3 := by rw [← hq]; exact bandle Y 3 (by decide)
        have hwp : IntKind.i64.wrap (p - 1) = p - 1 := by rw [IntKind.wrap_i64]; omega
        obtain ⟨p1, hp1⟩ : ∃ p1, p - 1 = p1 := ⟨_, rfl⟩
        have bp1 : -1 ≤ p1 ∧ p1 ≤ 6 := by omega
        rw [hp1] at hwp
        have hbz := HB.out.size
        have HMl2 : M.length ≤ 40 := by have := HMl.out; omega
        go_upto_region 5 with fail
        go_region_law
          (first | ((go_loud (refine step_rapp Try.tyFl rfl (.tmp 15) (.tmp 30) rfl w.heap.size a1 (some ⟨wr.heap.size, 0, none⟩) M.length 1 c1 1 M [flN q p1] (by simp [Act.eval]) (by first | rfl | simp | omega) (HM.out.grow (by (repeat' (first | exact Below.refl _ _ | assumption | refine bdrewN ?_ _ | refine Below.drew ?_ | refine bal ?_ _ | refine bthen ?_ (by assumption))))) (by simp [Act.eval]) (by first | rfl | simp | omega) (RSl.lit (E := encFl) _ (flN q p1) 33 wr.heap.size rfl #[.int .i64 q, .int .i64 p1, .int .i64 0, .int .i64 0, .int .i64 0, .int .i64 0, .slice none 0 0, .slice none 0 0, .slice none 0 0, .bool false, .bool false] rfl (by decide)).drew (by show _ ≤ 1099511627776; simp; omega) (by simp; omega) ?_); intro a7 c7 w7 L7 Hl7 ho7 hb7 hk7 hA7; have HA7 := hid hA7; clear hA7; have Ho7 := hid ho7; clear ho7; have Hk7 := hid hk7; clear hk7; have hz7 := hb7.size)) | fail)
        all_goals go_wp2
        all_goals
          refine ⟨⟨k + 1, c7, a7, L7, by omega, by omega, by go_num, rfl, ?_, Ho7.out, ?_, ?_⟩, by simp [intOf]; omega⟩
          · show _ = _; rw [Hl7.out]; have := HMl.out; simp; omega
          · intro m hm
            rw [Hl7.out] at hm
            rcases List.mem_append.1 hm with h | h
            · exact HOK.out m h
            · rw [List.mem_singleton.1 h]; exact ⟨by show _ ≤ q ∧ q ≤ _; omega, by show _ ≤ p1 ∧ p1 ≤ _; omega⟩
          · refine HB.out.trans (Below.trans ?_ hb7)
            first
              | exact (((Below.refl _ _).alloc (Nat.le_refl _) _).mono hbz).drew
              | exact ((Below.refl _ _).alloc (Nat.le_refl _) _).mono hbz
              | exact ((Below.refl _ _).drew.alloc (Nat.le_refl _) _).mono hbz
      · obtain rfl : k = 40 := by omega
        have z2 : decide (((40 : Nat) : Int) < 40) = false := decide_eq_false (by omega)
        go_wp2
        go_ret
        exact ⟨a1, c1, M, rfl, HM.out, by have := HMl.out; omega, by have := HMl.out; omega, HOK.out, HB.out⟩
    · have z1 : decide ((k : Int) < (l.length : Int)) = false := decide_eq_false (by omega)
      go_wp2
      go_ret
      exact ⟨a1, c1, M, rfl, HM.out, by have := HMl.out; omega, by have := HMl.out; omega, HOK.out, HB.out⟩
set_option maxHeartbeats 400000 in
theorem kindex_c (k : Int) (n : Nat) (w : World) (hn : 0 < n) (hn2 : n ≤ 1000000) :
    Calls Try.prog 8 #[.int .i64 k, .int .i64 n] w fun e w' => (∃ i : Nat, i < n ∧ e = .returned (.int .i64 i)) ∧ w = w' := by
  have hb := bandle k 4294967295 (by decide)
  rw [show ((4294967295 : Nat) : Int) = 4294967295 from rfl] at hb
  obtain ⟨m, hm⟩ := Int.eq_ofNat_of_zero_le hb.1
  rw [hm] at hb
  have hx : (bits .and .i64 k 4294967295).tmod n = ((m % n : Nat) : Int) := by rw [hm]; rfl
  have Hx := hid hx
  clear hx
  go_enter Try.func8, Try.ntmps8
  go_wp2
  go_ret
  refine ⟨⟨m % n, Nat.mod_lt _ hn, ret_int ?_⟩, rfl⟩
  first | exact Hx.out | (have := Hx.out; rw [hm] at this; exact this)
end Go.Proofs.Ythkkpcfmifhllaa
