/- Layer 18's own functions: same, known. -/
import Derived.Test.YthkkpcfmifhllaaTbe
import Derived.Test.YthkkpcfmifhllaaKeepI
namespace Go.Proofs.Ythkkpcfmifhllaa
open Go.RowKit Go.ChangeShapes

theorem RSl.lits {α : Type} [Inhabited α] {E : Enc α} (w : World) (L : List α) (e : TypeId) (b : Nat) (hb : b = w.heap.size) (cs : Array Value) (hcs : cs = (rflat E L).toArray) (hl : L.length ≤ E.cap) : RSl E (w.alloc (.cells cs e)) (some ⟨b, 0, none⟩) L := by
  subst hb
  refine ⟨hl, .inr ⟨_, _, rfl, fun n u hu => ?_⟩⟩
  rw [Nat.zero_add, cell_alloc_new, hcs]
  simpa using hu
theorem besV_eq (o : Option Nat) : ∃ (v : Int) (s : Bool), besV o = .returned (.tuple #[.int .i64 v, .bool s]) := ⟨_, _, rfl⟩
set_option maxRecDepth 20000 in
set_option maxHeartbeats 8000000 in
theorem same18_c (w : World) (a : Option Addr) (c : Nat) (l : List Fl) (at_ : Int) (hl : RSl encFl w a l) (hok : OkF l) (hn : l.length ≤ 80) :
    Calls Try.prog 7 #[.slice a l.length c, .int .i64 at_] w fun e w' => e = .returned (.bool true) ∧ Below w.heap.size w w' := by
  have HL := hid hl
  have HOK := hid hok
  have HX : Hid (∀ w' (x : Int), Below w.heap.size w w' → Calls Try.prog 10 #[.slice a l.length c] w' (I.Makes w' (ordI l))) := fun w' _ hb => order_c w' a c l (HL.out.bel hb) HOK.out hn
  have HR : Hid (∀ w', Below w.heap.size w w' → Calls Try.prog 15 #[.slice a l.length c] w' (I.Makes w' (ordI l))) := fun w' hb => rorder_c w' a c l (HL.out.bel hb) hn
  have hol : Hid ((ordI l).length ≤ 80) := by rw [ordI_len]; have := ordF_len l; show _ ≤ _; omega
  obtain ⟨v1, s1, e1⟩ := besV_eq (besF (ordF l) at_ 1)
  obtain ⟨v2, s2, e2⟩ := besV_eq (besF (ordF l) at_ (-1))
  have HN : Hid (∀ w', Below w.heap.size w w' → Calls Try.prog 11 #[.slice a l.length c, .int .i64 at_] w' fun e w2 => e = .returned (.tuple #[.int .i64 v1, .bool s1]) ∧ Below w'.heap.size w' w2) := fun w' hb => by rw [← e1]; exact next_c w' a c l at_ (HL.out.bel hb) HOK.out hn
  have HP : Hid (∀ w', Below w.heap.size w w' → Calls Try.prog 12 #[.slice a l.length c, .int .i64 at_] w' fun e w2 => e = .returned (.tuple #[.int .i64 v2, .bool s2]) ∧ Below w'.heap.size w' w2) := fun w' hb => by rw [← e2]; exact prev_c w' a c l at_ (HL.out.bel hb) HOK.out hn
  have HN2 : Hid (∀ w', Below w.heap.size w w' → Calls Try.prog 14 #[.slice a l.length c, .int .i64 at_, .int .i64 1] w' fun e w2 => e = .returned (.tuple #[.int .i64 v1, .bool s1]) ∧ Below w'.heap.size w' w2) := fun w' hb => by rw [← e1]; exact rbeside_c w' a c l at_ 1 (HL.out.bel hb) hn (.inl rfl)
  have HP2 : Hid (∀ w', Below w.heap.size w w' → Calls Try.prog 14 #[.slice a l.length c, .int .i64 at_, .int .i64 (-1)] w' fun e w2 => e = .returned (.tuple #[.int .i64 v2, .bool s2]) ∧ Below w'.heap.size w' w2) := fun w' hb => by rw [← e2]; exact rbeside_c w' a c l at_ (-1) (HL.out.bel hb) hn (.inr rfl)
  clear e1 e2
  go_enter Try.func7, Try.ntmps7
  clear hl hok
  go_wp2_with fail
  refine (HX.out w 0 (Below.refl _ _)).mono ?_
  rintro _ w1 ⟨a1, c1, rfl, o1, b1⟩
  have O1 := hid o1
  have B1 := hid b1
  clear o1 b1
  go_wp2_with fail
  refine (HN.out w1 B1.out).mono ?_
  rintro _ w2 ⟨rfl, b2⟩
  have B2 : Hid (Below w.heap.size w w2) := B1.out.trans (b2.mono B1.out.size)
  have O2 := hid (O1.out.grow b2)
  clear b2 O1
  go_wp2_with fail
  refine (HN2.out w2 B2.out).mono ?_
  rintro _ w3 ⟨rfl, b3⟩
  have B3 : Hid (Below w.heap.size w w3) := B2.out.trans (b3.mono B2.out.size)
  have O3 := hid (O2.out.grow b3)
  clear b3 O2
  go_wp2_with fail
  refine (HP.out w3 B3.out).mono ?_
  rintro _ w4 ⟨rfl, b4⟩
  have B4 : Hid (Below w.heap.size w w4) := B3.out.trans (b4.mono B3.out.size)
  have O4 := hid (O3.out.grow b4)
  clear b4 O3
  go_wp2_with fail
  refine (HP2.out w4 B4.out).mono ?_
  rintro _ w5 ⟨rfl, b5⟩
  have B5 : Hid (Below w.heap.size w w5) := B4.out.trans (b5.mono B4.out.size)
  have O5 := hid (O4.out.grow b5)
  clear b5 O4
  go_wp2_with fail
  refine (HR.out w5 B5.out).mono ?_
  rintro _ w6 ⟨a6, c6, rfl, o6, b6⟩
  have B6 : Hid (Below w.heap.size w w6) := B5.out.trans (b6.mono B5.out.size)
  have O6 := hid (O5.out.grow b6)
  have P6 := hid o6
  clear b6 o6 O5
  go_wp2_with fail
  refine (sameInts_c a1 a6 c1 c6 (ordI l) (ordI l) w6 O6.out.sl P6.out.sl).mono ?_
  rintro _ w7 ⟨rfl, n7, rfl⟩
  rw [eqM_self]
  have B7 : Hid (Below w.heap.size w (w6.drewN n7)) := bdrewN B6.out n7
  have O7 : Hid (I.Own (w6.drewN n7) w.heap.size a1 c1 (ordI l)) := O6.out.drewN n7
  clear O6 P6
  generalize w6.drewN n7 = w7 at B7 O7 ⊢
  have hv1 : (v1 == v1) = true := by simp
  have hv2 : (v2 == v2) = true := by simp
  have hs1 : (s1 == s1) = true := by simp
  have hs2 : (s2 == s2) = true := by simp
  go_wp2
  go_loopw [68] (fun v wr => ∃ (k : Nat) (M : List Int), k ≤ (ordI l).length ∧ v = .int .i64 k ∧ Hid (M.length = (ordI l).length) ∧ Hid (I.Own wr w.heap.size a1 c1 M) ∧ Hid (Below w.heap.size w wr)) (fun v _ => (ordI l).length - (intOf v).toNat)
  case atStart => exact ⟨0, _, Nat.zero_le _, rfl, hid rfl, O7, B7⟩
  case round =>
    obtain ⟨k, M, hk, rfl, HMl, HM, HB⟩ := hrel
    by_cases hlt : k < (ordI l).length
    · have ho8 := hol.out
      rcases HM.out.shape with ⟨_, _, h0⟩ | ⟨g, rfl, hg, hg2, _⟩
      · exfalso; have := HMl.out; rw [h0] at this; simp at this; omega
      · have ck := HM.out.cell (i := k) (by have := HMl.out; omega)
        have fk := HM.out.frz k
        go_wp2
        have HM2 : Hid (I.Own (wr.setCell ⟨g, k, none⟩ (.int .i64 (-9))) w.heap.size (some ⟨g, 0, none⟩) c1 (M.set k (-9))) := HM.out.stored k (-9) (by omega)
        have HB2 : Hid (Below w.heap.size w (wr.setCell ⟨g, k, none⟩ (.int .i64 (-9)))) := HB.out.setCell hg _
        go_round
        case rel => exact ⟨k + 1, M.set k (-9), hlt, by go_num, hid (by rw [List.length_set]; exact HMl.out), HM2, HB2⟩
        case measure => simp [intOf]; omega
    · have ho8 := hol.out
      go_wp2_with fail
      refine (HX.out wr 0 HB.out).mono ?_
      rintro _ w8 ⟨a8, c8, rfl, o8, b8⟩
      have B8 : Hid (Below w.heap.size w w8) := HB.out.trans (b8.mono HB.out.size)
      have O8 := hid o8
      clear o8 b8
      go_wp2_with fail
      refine (HR.out w8 B8.out).mono ?_
      rintro _ w9 ⟨a9, c9, rfl, o9, b9⟩
      have B9 : Hid (Below w.heap.size w w9) := B8.out.trans (b9.mono B8.out.size)
      have O9 := hid o9
      have P9 := hid (O8.out.grow b9)
      clear o9 b9
      go_wp2_with fail
      refine (sameInts_c a8 a9 c8 c9 (ordI l) (ordI l) w9 P9.out.sl O9.out.sl).mono ?_
      rintro _ w10 ⟨rfl, n10, rfl⟩
      rw [eqM_self]
      go_wp2
      go_ret
      exact ⟨rfl, bdrewN B9.out n10⟩

def l18 : List Fl := [flN 0 0, flN 0 2, flN 1 1, flN 2 1]
theorem k18_ord : ordI l18 = [2, 1, 0] := by decide
theorem k18_next : besV (besF (ordF l18) 2 1) = .returned (.tuple #[.int .i64 1, .bool true]) := by
  have : besF (ordF l18) 2 1 = some 1 := by decide
  rw [this]; rfl
theorem k18_prev : besV (besF (ordF l18) 0 (-1)) = .returned (.tuple #[.int .i64 1, .bool true]) := by
  have : besF (ordF l18) 0 (-1) = some 1 := by decide
  rw [this]; rfl
theorem k18_none : besV (besF (ordF l18) 0 1) = .returned (.tuple #[.int .i64 0, .bool false]) := by
  have : besF (ordF l18) 0 1 = none := by decide
  rw [this]; rfl
set_option maxRecDepth 20000 in
set_option maxHeartbeats 8000000 in
theorem known18_c (w : World) : Calls Try.prog 9 #[] w fun e w' => e = .returned (.bool true) ∧ Below w.heap.size w w' := by
  obtain ⟨V, hV⟩ : ∃ V, V = w.alloc (.cells (rflat encFl l18).toArray 33) := ⟨_, rfl⟩
  have bV : Below w.heap.size w V := by subst hV; (repeat' (first | exact Below.refl _ _ | assumption | refine bdrewN ?_ _ | refine Below.drew ?_ | refine bal ?_ _ | refine bthen ?_ (by assumption)))
  have sV : RSl encFl V (some ⟨w.heap.size, 0, none⟩) l18 := by subst hV; exact RSl.lits w l18 _ _ rfl _ rfl (by decide)
  have ok : OkF l18 := by
    intro m hm
    simp only [l18, List.mem_cons, List.not_mem_nil, or_false] at hm
    rcases hm with rfl | rfl | rfl | rfl <;> exact ⟨by decide, by decide⟩
  have BV := hid bV; have SV := hid sV; have OK := hid ok
  have nil_s : ∀ w', RSl encFl w' none ([] : List Fl) := fun w' => RSl.nil _ _
  have okn : OkF ([] : List Fl) := fun m h => by cases h
  have NS := hid nil_s; have ON := hid okn
  have HN : Hid (∀ w', Below V.heap.size V w' → Calls Try.prog 11 #[.slice (some ⟨w.heap.size, 0, none⟩) 4 4, .int .i64 2] w' fun e w2 => e = .returned (.tuple #[.int .i64 1, .bool true]) ∧ Below w'.heap.size w' w2) := fun w' hb => by rw [← k18_next]; exact next_c w' _ 4 l18 2 (SV.out.bel hb) ok (by decide)
  have HP : Hid (∀ w', Below V.heap.size V w' → Calls Try.prog 12 #[.slice (some ⟨w.heap.size, 0, none⟩) 4 4, .int .i64 0] w' fun e w2 => e = .returned (.tuple #[.int .i64 1, .bool true]) ∧ Below w'.heap.size w' w2) := fun w' hb => by rw [← k18_prev]; exact prev_c w' _ 4 l18 0 (SV.out.bel hb) ok (by decide)
  have HQ : Hid (∀ w', Below V.heap.size V w' → Calls Try.prog 11 #[.slice (some ⟨w.heap.size, 0, none⟩) 4 4, .int .i64 0] w' fun e w2 => e = .returned (.tuple #[.int .i64 0, .bool false]) ∧ Below w'.heap.size w' w2) := fun w' hb => by rw [← k18_none]; exact next_c w' _ 4 l18 0 (SV.out.bel hb) ok (by decide)
  have HX : Hid (∀ w', Below V.heap.size V w' → Calls Try.prog 10 #[.slice (some ⟨w.heap.size, 0, none⟩) 4 4] w' (I.Makes w' [2, 1, 0])) := fun w' hb => by rw [← k18_ord]; exact order_c w' _ 4 l18 (SV.out.bel hb) ok (by decide)
  have HE : Hid (∀ w', Calls Try.prog 10 #[.slice none 0 0] w' (I.Makes w' [])) := fun w' => order_c w' none 0 [] (NS.out w') ON.out (by decide)
  clear bV sV ok nil_s okn
  go_enter Try.func9, Try.ntmps9
  go_upto_region 2 with fail
  have e4 : (rflat encFl l18).toArray = #[.int .i64 0, .int .i64 0, .int .i64 0, .int .i64 0, .int .i64 0, .int .i64 0, .slice none 0 0, .slice none 0 0, .slice none 0 0, .bool false, .bool false, .int .i64 0, .int .i64 2, .int .i64 0, .int .i64 0, .int .i64 0, .int .i64 0, .slice none 0 0, .slice none 0 0, .slice none 0 0, .bool false, .bool false, .int .i64 1, .int .i64 1, .int .i64 0, .int .i64 0, .int .i64 0, .int .i64 0, .slice none 0 0, .slice none 0 0, .slice none 0 0, .bool false, .bool false, .int .i64 2, .int .i64 1, .int .i64 0, .int .i64 0, .int .i64 0, .int .i64 0, .slice none 0 0, .slice none 0 0, .slice none 0 0, .bool false, .bool false] := rfl
  rw [e4] at hV
  rw [← hV]
  clear hV e4
  go_wp2_with fail
  refine (HN.out V (Below.refl _ _)).mono ?_
  rintro _ w1 ⟨rfl, b1⟩
  have B1 := hid b1; clear b1
  go_wp2_with fail
  refine (HP.out w1 B1.out).mono ?_
  rintro _ w2 ⟨rfl, b2⟩
  have B2 : Hid (Below V.heap.size V w2) := B1.out.trans (b2.mono B1.out.size)
  clear b2
  go_wp2_with fail
  refine (HQ.out w2 B2.out).mono ?_
  rintro _ w3 ⟨rfl, b3⟩
  have B3 : Hid (Below V.heap.size V w3) := B2.out.trans (b3.mono B2.out.size)
  clear b3
  go_wp2_with fail
  refine (HX.out w3 B3.out).mono ?_
  rintro _ w4 ⟨a4, c4, rfl, o4, b4⟩
  have B4 : Hid (Below V.heap.size V w4) := B3.out.trans (b4.mono B3.out.size)
  have O4 := hid o4
  clear b4 o4
  have hs := sameInts_c a4 (some ⟨w4.heap.size, 0, none⟩) c4 3 [2, 1, 0] [2, 1, 0] (w4.alloc (.cells #[.int .i64 2, .int .i64 1, .int .i64 0] 3)) (O4.out.sl.alloc _) (I.Sl.lit' _ [2, 1, 0] _ _ (by simp) (by simp) (by simp [I.rng]) _ rfl)
  have HS := hid hs
  clear hs
  go_wp2_with fail
  refine (HS.out).mono ?_
  rintro _ w5 ⟨rfl, n5, rfl⟩
  rw [eqM_self]
  have B5 : Hid (Below V.heap.size V ((w4.alloc (.cells #[.int .i64 2, .int .i64 1, .int .i64 0] 3)).drewN n5)) := bdrewN (B4.out.alloc B4.out.size _) n5
  clear HS
  generalize (w4.alloc (.cells #[.int .i64 2, .int .i64 1, .int .i64 0] 3)).drewN n5 = w5 at B5 ⊢
  go_wp2_with fail
  refine (HE.out w5).mono ?_
  rintro _ w6 ⟨a6, c6, rfl, o6, b6⟩
  have B6 : Hid (Below V.heap.size V w6) := B5.out.trans (b6.mono B5.out.size)
  clear b6 o6
  go_wp2
  go_ret
  exact ⟨rfl, BV.out.trans (B6.out.mono BV.out.size)⟩
end Go.Proofs.Ythkkpcfmifhllaa
