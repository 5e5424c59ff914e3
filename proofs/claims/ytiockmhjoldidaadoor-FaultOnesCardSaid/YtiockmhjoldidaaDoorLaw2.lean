/- standishlaw2: some, turned, known. -/
import Derived.Test.YtiockmhjoldidaaDoorFaultT
import Derived.Test.YtiockmhjoldidaaDoorKeepI
namespace Go.Proofs.YtiockmhjoldidaaDoor
open Go.RowKit

/-- at most forty of a list -/
def som (l : List Int) : List Int := l.take 40
theorem som_len (l : List Int) : (som l).length ≤ 40 := by simp [som]; omega
def Somes (w : World) (m : List Int) (a : Option Addr) (e : Ending) (w' : World) : Prop := ∃ c, e = .returned (.slice a m.length c) ∧ w = w'
theorem some_c (a : Option Addr) (c : Nat) (l : List Int) (w : World) (hs : I.Sl w a l) (hlc : l.length ≤ c) : Calls Tryd.prog 6 #[.slice a l.length c] w (Somes w (som l) a) := by
  have hl := hs.len
  by_cases h : l.length ≤ 40
  · have h0 : ¬ (40 < l.length) := by omega
    have e1 : som l = l := List.take_of_length_le h
    have E1 := hid e1
    clear e1
    go_enter Tryd.func6, Tryd.ntmps6
    go_wp2
    go_ret
    exact ⟨c, by rw [E1.out]; rfl, rfl⟩
  · have h0 : 40 < l.length := by omega
    have e1 : (som l).length = 40 := by simp [som]; omega
    have E1 := hid e1
    obtain ⟨b, o, rfl, _⟩ := hs.at (i := 0) (by omega)
    clear e1
    go_enter Tryd.func6, Tryd.ntmps6
    go_wp2
    go_ret
    exact ⟨c, by rw [E1.out]; rfl, rfl⟩

set_option maxHeartbeats 1000000 in
theorem turned_c (a : Option Addr) (c : Nat) (l : List Int) (w : World) (hs : I.Sl w a l) (hlc : l.length ≤ 100) : Calls Tryd.prog 12 #[.slice a l.length c] w (I.Makes w l.reverse) := by
  have hl := hs.len
  go_enter Tryd.func12, Tryd.ntmps12
  go_wp2
  go_loopw [3, 4] (fun o i wr => ∃ (j : Nat) (D : List Int) (a3 : Option Addr) (c3 : Nat), j ≤ l.length ∧ i = .int .i64 ((j : Int) - 1) ∧ o = .slice a3 D.length c3 ∧ Hid (D = (l.drop j).reverse) ∧ Hid (I.Own wr w.heap.size a3 c3 D) ∧ Below w.heap.size w wr) (fun _ i _ => (intOf i + 1).toNat)
  case atStart => exact ⟨l.length, [], none, 0, by omega, rfl, rfl, by simp [Hid], I.Own.nil _ _, Below.refl _ _⟩
  case round =>
    obtain ⟨j, D, a3, c3, hj, rfl, rfl, HD, HO, hb⟩ := hrel
    cases j with
    | zero =>
      have e0 : D = l.reverse := by rw [HD.out]; simp
      have E0 := hid e0
      clear e0
      rw [show ((0 : Nat) : Int) - 1 = -1 from rfl]
      go_wp2
      go_ret
      exact ⟨a3, c3, by rw [← E0.out]; rfl, by rw [← E0.out]; exact HO.out, hb⟩
    | succ j =>
      rw [show ((j + 1 : Nat) : Int) - 1 = (j : Int) from by omega]
      obtain ⟨b, o, rfl, hc⟩ := hs.at (i := j) (by omega)
      have hlt : j < l.length := by omega
      have hd : l.drop j = gt l j :: l.drop (j + 1) := by rw [gt_get hlt]; exact List.drop_eq_getElem_cons hlt
      have Hd := hid hd
      have hx := I.rng_gt hs.rng hlt
      have Hx := hid hx
      have hD : D.length ≤ 100 := by rw [HD.out]; simp; omega
      have ck : wr.cell? ⟨b, o + j, none⟩ = some (.int .i64 (gt l j)) := by
        have := hc j hlt
        rw [hb.cell (p := ⟨b, o + j, none⟩) (World.block_lt_of_cell? w _ this)]; exact this
      clear hc hd hx hs
      go_wp2_with ((at_builtin; (refine I.wpL_appn rfl (.tmp 12) (.tmp 17) rfl w.heap.size a3 (some ⟨wr.heap.size, 0, none⟩) D.length 1 c3 1 D [gt l j] rfl (by first | rfl | simp) (HO.out.grow ((Below.refl _ _).alloc (Nat.le_refl _) _)) rfl (by first | rfl | simp) (I.Sl.lit' wr [gt l j] _ _ rfl (by simp) (I.rng_one Hx.out) _ rfl) (by simp; omega) (by have := hb.size; simp; omega) ?_); intro a5 c5 w5 L5 Hl5 ho5 hb5; have Ho5 := hid ho5; clear ho5; have hz5 := hb5.size))
      have e5 : L5 = (l.drop j).reverse := by rw [Hl5.out, HD.out, Hd.out]; simp
      have E5 := hid e5
      clear e5
      go_roundw
      case rel => exact ⟨j, L5, a5, c5, by omega, rfl, rfl, E5, Ho5, (hb.alloc hb.size _).trans hb5⟩
      case measure => simp [intOf]

set_option maxHeartbeats 4000000 in
theorem known_c (w : World) (hg : Hid (Handle w)) : Calls Tryd.prog 10 #[] w (Tells w true) := by
  have q3 : ((3 : Int) == 0) = false := by decide
  have q2 : ((2 : Int) == 0) = false := by decide
  have q6 : ((6 : Int) == 0) = false := by decide
  have q23 : ((2 : Int) == 3) = false := by decide
  have b1 : Below w.heap.size w (w.alloc (.cells #[.int .i64 3, .int .i64 7] 3)) := (Below.refl _ _).alloc (Nat.le_refl _) _
  have hg1 : Hid (Handle (w.alloc (.cells #[.int .i64 3, .int .i64 7] 3))) := hg.out.bel b1
  go_enter Tryd.func10, Tryd.ntmps10
  go_wp2_with fail
  refine (trip_c 3 _ 2 [3, 7] _ q3 (I.Sl.lit' _ [3, 7] _ _ (by simp) (by simp) (by simp [I.rng]) _ rfl) (by simp) hg1).mono ?_
  rintro e w1 ⟨a1, k1, rfl, ho1, hb1⟩
  have B1 : Below w.heap.size w w1 := bthen b1 hb1
  have Ho1 := hid ho1
  have Hg2 : Hid (Handle w1) := hg.out.bel B1
  clear hb1 b1 ho1 hg1
  go_wp2_with fail
  refine (trip_nil _ _).mono ?_
  rintro e w2 ⟨a2, k2, rfl, ho2, hb2⟩
  have B2 : Below w.heap.size w w2 := bthen B1 (bthen ((Below.refl _ _).alloc (Nat.le_refl _) _) hb2)
  have Ho2 := hid (Ho1.out.grow (bthen ((Below.refl _ _).alloc (Nat.le_refl _) _) hb2))
  clear hb2 ho2 B1 Ho1
  have so2 : I.Sl w2 a1 [7, 3] := Ho2.out.sl
  have qe : eqM [7, 3] [7, 3] = true := by decide
  go_wp2_with fail
  refine (sameInts_c a1 _ k1 2 [7, 3] [7, 3] _ (so2.alloc _) (I.Sl.lit' _ [7, 3] _ _ (by simp) (by simp) (by simp [I.rng]) _ rfl)).mono ?_
  rintro e w' ⟨rfl, n3, rfl⟩
  rw [qe]
  have B3 : Below w.heap.size w ((w2.alloc (.cells #[.int .i64 7, .int .i64 3] 3)).drewN n3) := bdrewN (B2.alloc B2.size _) _
  clear so2 Ho2 B2 qe
  go_wp2_with fail
  refine (asks_c 2 2 _ 1 [2] _ q2 (I.Sl.lit' _ [2] _ _ (by simp) (by simp) (by simp [I.rng]) _ rfl)).mono ?_
  rintro e w4 ⟨rfl, hb4⟩
  have B4 : Below w.heap.size w w4 := bthen (B3.alloc B3.size _) hb4
  clear hb4 B3
  rw [show ((2 : Int) == 2) = true from rfl]
  go_wp2_with fail
  refine (asks_c 2 3 none 0 [] _ q2 (I.Sl.nil _ _)).mono ?_
  rintro e w5 ⟨rfl, hb5⟩
  have B5 : Below w.heap.size w w5 := bthen B4 hb5
  clear hb5 B4
  rw [q23]
  go_wp2_with fail
  refine (depth_c 6 _ 3 [1, 2, 3] _ q6 (I.Sl.lit' _ [1, 2, 3] _ _ (by simp) (by simp) (by simp [I.rng]) _ rfl)).mono ?_
  rintro e w6 ⟨rfl, hb6⟩
  have B6 : Below w.heap.size w w6 := bthen (B5.alloc B5.size _) hb6
  clear hb6 B5
  go_wp2
  go_ret
  exact ⟨rfl, B6⟩
end Go.Proofs.YtiockmhjoldidaaDoor
