/- Walks of the laws of layer 2: FaultTells. -/
import Derived.Test.YtiockmhjoldidaaDoorLaw2
namespace Go.Proofs.YtiockmhjoldidaaDoor
open Go.RowKit

set_option maxHeartbeats 4000000 in
theorem tells_0 (d : Int) (a : Option Addr) (k : Nat) (l : List Int) (w : World) (hs : I.Sl w a l) (hlk : l.length ≤ k) (hg : Hid (Handle w)) :
    Calls Tryd.prog 3 #[.int .i64 0, .int .i64 d, .slice a l.length k] w (Tells w true) := by
  go_enter Tryd.func3, Tryd.ntmps3
  go_wp2_with fail
  refine (some_c a k l w hs hlk).mono ?_
  rintro e w' ⟨k1, rfl, rfl⟩
  go_wp2_with fail
  refine (trip_nil _ _).mono ?_
  rintro e w2 ⟨a2, k2, rfl, ho2, B2⟩
  clear ho2
  go_wp2_with fail
  refine (asks_nil _ _ _).mono ?_
  rintro e w3 ⟨rfl, hb3⟩
  have B3 : Below w.heap.size w w3 := bthen B2 hb3
  clear hb3 B2
  go_wp2_with fail
  refine (depth_nil _ _).mono ?_
  rintro e w' ⟨rfl, rfl⟩
  go_wp2_with fail
  refine (known_c _ (hg.out.bel B3)).mono ?_
  rintro e w4 ⟨rfl, hb4⟩
  have B4 := bthen B3 hb4
  clear hb4 B3
  go_wp2
  go_ret
  exact ⟨rfl, B4⟩

theorem trip_r (c : Int) (a : Option Addr) (k : Nat) (l r : List Int) (w : World) (hr : Hid (r = l.reverse)) (hc : (c == 0) = false) (hs : I.Sl w a l) (hl : l.length ≤ 100) (hg : Hid (Handle w)) :
    Calls Tryd.prog 7 #[.int .i64 c, .slice a l.length k] w (Trips w c r) := by rw [hr.out]; exact trip_c c a k l w hc hs hl hg
theorem turned_r (a : Option Addr) (c : Nat) (l r : List Int) (w : World) (hr : Hid (r = l.reverse)) (hs : I.Sl w a l) (hlc : l.length ≤ 100) : Calls Tryd.prog 12 #[.slice a l.length c] w (I.Makes w r) := by
  rw [hr.out]; exact turned_c a c l w hs hlc

set_option maxHeartbeats 4000000 in
theorem tells_1 (c d : Int) (a : Option Addr) (k : Nat) (l : List Int) (w : World) (hc : (c == 0) = false) (hs : I.Sl w a l) (hlk : l.length ≤ k) (hg : Hid (Handle w)) :
    Calls Tryd.prog 3 #[.int .i64 c, .int .i64 d, .slice a l.length k] w (Tells w true) := by
  have s0 : I.Sl w a (som l) := hs.take 40
  have hl := som_len l
  have so := some_c a k l w hs hlk
  generalize som l = m at s0 hl so
  have So := hid so
  obtain ⟨r, hr⟩ : ∃ r, r = m.reverse := ⟨_, rfl⟩
  have Hr := hid hr
  clear hr
  have qcc : ((c : Int) == c) = true := by simp
  clear so
  go_enter Tryd.func3, Tryd.ntmps3
  go_wp2_with fail
  refine So.out.mono ?_
  rintro e w' ⟨k1, rfl, rfl⟩
  go_wp2_with fail
  refine (trip_r c a k1 m r w Hr hc s0 (by omega) hg).mono ?_
  rintro e w2 ⟨a2, k2, rfl, ho2, B2⟩
  have s2 : I.Sl w2 a2 r := ho2.sl
  clear ho2
  go_wp2_with fail
  refine (turned_r a k1 m r _ Hr (s0.bel B2) (by omega)).mono ?_
  rintro e w3 ⟨a3, k3, rfl, ho3, hb3⟩
  have s3 : I.Sl w3 a3 r := ho3.sl
  have B3 : Below w.heap.size w w3 := bthen B2 hb3
  go_wp2_with fail
  refine (sameInts_c a2 a3 k2 k3 r r _ (s2.bel hb3) s3).mono ?_
  rintro e w' ⟨rfl, n4, rfl⟩
  rw [eqM_self]
  have B4 := bdrewN B3 n4
  clear hb3 ho3 s2 s3 B2 B3
  go_wp2_with fail
  refine (asks_c c d a k1 m _ hc (s0.bel B4)).mono ?_
  rintro e w5 ⟨rfl, hb5⟩
  have B5 : Below w.heap.size w w5 := bthen B4 hb5
  clear hb5 B4
  cases hcd : (c == d) with
  | true =>
    go_wp2_with fail
    refine (asks_c c c a k1 m _ hc (s0.bel B5)).mono ?_
    rintro e w6 ⟨rfl, hb6⟩
    have B6 : Below w.heap.size w w6 := bthen B5 hb6
    clear hb6 B5
    rw [qcc]
    go_wp2_with fail
    refine (depth_c c a k1 m _ hc (s0.bel B6)).mono ?_
    rintro e w7 ⟨rfl, hb7⟩
    have B7 : Below w.heap.size w w7 := bthen B6 hb7
    clear hb7 B6
    go_wp2_with fail
    refine (known_c _ (hg.out.bel B7)).mono ?_
    rintro e w8 ⟨rfl, hb8⟩
    have B8 := bthen B7 hb8
    clear hb8 B7
    go_wp2
    go_ret
    exact ⟨rfl, B8⟩
  | false =>
    go_wp2_with fail
    refine (asks_c c c a k1 m _ hc (s0.bel B5)).mono ?_
    rintro e w6 ⟨rfl, hb6⟩
    have B6 : Below w.heap.size w w6 := bthen B5 hb6
    clear hb6 B5
    rw [qcc]
    go_wp2_with fail
    refine (depth_c c a k1 m _ hc (s0.bel B6)).mono ?_
    rintro e w7 ⟨rfl, hb7⟩
    have B7 : Below w.heap.size w w7 := bthen B6 hb7
    clear hb7 B6
    go_wp2_with fail
    refine (known_c _ (hg.out.bel B7)).mono ?_
    rintro e w8 ⟨rfl, hb8⟩
    have B8 := bthen B7 hb8
    clear hb8 B7
    go_wp2
    go_ret
    exact ⟨rfl, B8⟩
end Go.Proofs.YtiockmhjoldidaaDoor
