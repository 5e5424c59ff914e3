/- Walks of the laws of layer 2: FaultLonger. -/
import Derived.Test.YtiockmhjoldidaaDoorLaw2T
namespace Go.Proofs.YtiockmhjoldidaaDoor
open Go.RowKit

theorem I.Own.some_of {w : World} {base c : Nat} {a : Option Addr} {l : List Int} (h : I.Own w base a c l) {i : Nat} (hi : i < l.length) : ∃ g, a = some ⟨g, 0, none⟩ ∧ base ≤ g ∧ g < w.heap.size := by
  rcases h.shape with ⟨_, _, h0⟩ | ⟨g, h0, h1, h2, _⟩
  · subst h0; simp at hi
  · exact ⟨g, h0, h1, h2⟩
theorem I.Own.le_cap {w : World} {base c : Nat} {a : Option Addr} {l : List Int} (h : I.Own w base a c l) : l.length ≤ c := by
  rcases h.shape with ⟨_, _, h0⟩ | ⟨g, _, _, _, h2⟩
  · subst h0; simp
  · exact h2

set_option maxHeartbeats 4000000 in
theorem longer_0 (a1 a2 : Option Addr) (k1 k2 : Nat) (l1 l2 : List Int) (w : World) (hs1 : I.Sl w a1 l1) (hk1 : l1.length ≤ k1) (hs2 : I.Sl w a2 l2) (hk2 : l2.length ≤ k2) (hg : Hid (Handle w)) :
    Calls Tryd.prog 4 #[.int .i64 0, .slice a1 l1.length k1, .slice a2 l2.length k2] w (Tells w true) := by
  go_enter Tryd.func4, Tryd.ntmps4
  go_wp2_with fail
  refine (some_c a1 k1 l1 w hs1 hk1).mono ?_
  rintro e w' ⟨j1, rfl, rfl⟩
  go_wp2_with fail
  refine (some_c a2 k2 l2 w hs2 hk2).mono ?_
  rintro e w' ⟨j2, rfl, rfl⟩
  go_wp2_with fail
  refine (known_c _ hg).mono ?_
  rintro e w4 ⟨rfl, hb4⟩
  go_wp2
  go_ret
  exact ⟨rfl, hb4⟩

set_option maxHeartbeats 4000000 in
theorem longer_1 (c : Int) (a1 a2 : Option Addr) (k1 k2 : Nat) (l1 l2 : List Int) (w : World) (hc : (c == 0) = false) (hs1 : I.Sl w a1 l1) (hk1 : l1.length ≤ k1) (hs2 : I.Sl w a2 l2) (hk2 : l2.length ≤ k2) (hg : Hid (Handle w)) :
    Calls Tryd.prog 4 #[.int .i64 c, .slice a1 l1.length k1, .slice a2 l2.length k2] w (Tells w true) := by
  have t1 : I.Sl w a1 (som l1) := hs1.take 40
  have t2 : I.Sl w a2 (som l2) := hs2.take 40
  have h1 := som_len l1
  have h2 := som_len l2
  have so1 := some_c a1 k1 l1 w hs1 hk1
  have so2 := some_c a2 k2 l2 w hs2 hk2
  generalize som l1 = m1 at t1 h1 so1
  generalize som l2 = m2 at t2 h2 so2
  have So1 := hid so1
  have So2 := hid so2
  have qcc : ((c : Int) != c) = false := by simp
  obtain ⟨r1, hr1⟩ : ∃ r, r = m1.reverse := ⟨_, rfl⟩
  have Hr1 := hid hr1
  have Hrl : Hid (r1.length = m1.length) := by rw [hr1]; simp [Hid]
  clear so1 so2 hr1
  go_enter Tryd.func4, Tryd.ntmps4
  go_wp2_with fail
  refine So1.out.mono ?_
  rintro e w' ⟨j1, rfl, rfl⟩
  go_wp2_with fail
  refine So2.out.mono ?_
  rintro e w' ⟨j2, rfl, rfl⟩
  go_wp2_with fail
  refine (trip_r c a1 j1 m1 r1 w Hr1 hc t1 (by omega) hg).mono ?_
  rintro e w2 ⟨a3, k3, rfl, ho3, B2⟩
  have s3 : I.Sl w2 a3 r1 := ho3.sl
  have u1 : I.Sl w2 a1 m1 := t1.bel B2
  have u2 : I.Sl w2 a2 m2 := t2.bel B2
  clear ho3
  go_wp2_with (first | (at_builtin; (refine I.wpL_appn rfl (.const (.slice none 0 0)) (.tmp 28) rfl w2.heap.size none a1 0 m1.length 0 j1 [] m1 rfl (by first | rfl | simp) (I.Own.nil _ _) rfl (by first | rfl | simp) u1 (by simp; omega) (Nat.le_refl _) ?_); intro a5 c5 w5 L5 Hl5 ho5 hb5; have Ho5 := hid ho5; clear ho5; have hz5 := hb5.size) | (at_builtin; (refine I.wpL_appn rfl (.tmp 29) (.tmp 30) rfl w2.heap.size a5 a2 L5.length m2.length c5 j2 L5 m2 rfl (by first | rfl | simp) Ho5.out rfl (by first | rfl | simp) (u2.bel hb5) (by rw [Hl5.out]; simp; omega) hz5 ?_); intro a6 c6 w6 L6 Hl6 ho6 hb6; have Ho6 := hid ho6; clear ho6; have hz6 := hb6.size))
  have B6 : Below w2.heap.size w2 w6 := hb5.trans hb6
  have e6 : L6 = m1 ++ m2 := by rw [Hl6.out, Hl5.out]; rfl
  have E6 := hid e6
  have hL6 : L6.length ≤ 80 := by rw [e6]; simp; omega
  obtain ⟨r2, hr2⟩ : ∃ r, r = L6.reverse := ⟨_, rfl⟩
  have Hr2 := hid hr2
  have hrl2 : Hid (r2.length = m1.length + m2.length) := by rw [hr2, e6]; simp [Hid]; omega
  have hrm : m2.length ≤ r2.length := by have := hrl2.out; omega
  have hr80 : r2.length ≤ 80 := by have := hrl2.out; rw [e6] at hL6; simp at hL6; omega
  have hB26 : Below w.heap.size w w6 := bthen B2 B6
  have G6 : Hid (Handle w6) := hg.out.bel hB26
  have S6 : Hid (I.Sl w6 a6 L6) := Ho6.out.sl
  have b6s := B6.size
  have V1 := u1.bel B6
  have V2 := u2.bel B6
  have V3 := s3.bel B6
  clear e6 hr2 hb5 hb6 Ho5 u1 u2 s3 B6 hz5 hz6
  refine (trip_r c a6 c6 L6 r2 w6 Hr2 hc S6.out (by omega) G6).mono ?_
  rintro e w7 ⟨a7, k7, rfl, ho7, B7⟩
  have Ho7 := hid ho7
  have s7 : I.Sl w7 a7 r2 := ho7.sl
  have hk7 := ho7.le_cap
  obtain ⟨a8, k8, D, HD, s8, hk8, heq8⟩ := I.slice_from s7 m2.length k7 hrm hk7
  have eD : Hid (D = r1) := by
    have : D = r1 := by rw [HD.out, Hr2.out, E6.out, Hr1.out, List.reverse_append]; simp
    exact this
  have q2 : ((r2.length : Int) != (r1.length : Int) + (m2.length : Int)) = false := by
    have h1 := hrl2.out
    have h2 := Hrl.out
    simp; omega
  clear ho7 HD
  have hr1l : r1.length ≤ 80 := by have := Hrl.out; omega
  have W3 : I.Sl w7 a3 r1 := V3.bel B7
  have W1 := hid V1
  have W2 := hid V2
  have hb7 := hid B7
  have hb26 := hid hB26
  clear V1 V2 V3 B7 hB26
  go_wp2_with fail
  refine (sameInts_c a8 a3 k8 k3 D r1 _ s8 W3).mono ?_
  rintro e w' ⟨rfl, n8, rfl⟩
  rw [eD.out, eqM_self]
  clear heq8 s8 W3 hk8 q2
  go_wp2
  go_loopw [62] (fun i wr => ∃ (k : Nat) (L : List Int), k ≤ r2.length ∧ i = .int .i64 k ∧ Hid (L.length = r2.length) ∧ Hid (I.Own wr w6.heap.size a7 k7 L) ∧ Hid (Below w6.heap.size w6 wr)) (fun i _ => (r2.length - intOf i).toNat)
  case atStart => exact ⟨0, r2, by omega, rfl, rfl, Ho7.out.drewN _, bdrewN hb7.out _⟩
  case round =>
    obtain ⟨k, L, hk, rfl, HL, HO, HB⟩ := hrel
    by_cases hlt : k < r2.length
    · have hltL : k < L.length := by have := HL.out; omega
      obtain ⟨g, rfl, hgb, hgl⟩ := HO.out.some_of hltL
      have ck : wr.cell? ⟨g, k, none⟩ = some (.int .i64 (gt L k)) := by
        obtain ⟨b, o, he, hcell⟩ := HO.out.sl.at hltL
        simp only [Option.some.injEq, Addr.mk.injEq, and_true] at he
        obtain ⟨rfl, rfl⟩ := he
        simpa using hcell k hltL
      have fk := HO.out.free k
      have O2 : Hid (I.Own (wr.setCell ⟨g, k, none⟩ (.int .i64 (-1))) w6.heap.size (some ⟨g, 0, none⟩) k7 (L.set k (-1))) := HO.out.stored k (-1) (by omega)
      have B2' : Hid (Below w6.heap.size w6 (wr.setCell ⟨g, k, none⟩ (.int .i64 (-1)))) := HB.out.setCell hgb _
      have L2 : Hid ((L.set k (-1)).length = r2.length) := by unfold Hid; rw [List.length_set]; exact HL.out
      clear s7
      have hsl : (L.set k (-1)).length = L.length := by simp
      have hll : L.length = r2.length := HL.out
      have e1 : r2.length = (L.set k (-1)).length := by rw [hsl, hll]
      clear hsl hll e1
      go_wp2
      go_roundw
      case rel => exact ⟨k + 1, L.set k (-1), by omega, by go_num, L2, O2, B2'⟩
      case measure => simp [intOf]; omega
    · clear s7
      have B0 := HB.out
      have hL6r : Hid (L6 = r2.reverse) := by rw [Hr2.out]; simp [Hid]
      have qd : ((L6.length : Int) == (m1.length : Int) + (m2.length : Int)) = true := by rw [E6.out]; simp
      have hL6' : L6.length ≤ 100 := by omega
      have hr2' : r2.length ≤ 100 := by omega
      go_wp2_with fail
      refine (trip_r c a6 c6 L6 r2 wr Hr2 hc (S6.out.bel B0) hL6' (G6.out.bel B0)).mono ?_
      rintro e w9 ⟨a9, k9, rfl, ho9, hb9⟩
      have s9 : I.Sl w9 a9 r2 := ho9.sl
      have B9 : Below w6.heap.size w6 w9 := bthen B0 hb9
      clear ho9 hb9 B0
      go_wp2_with fail
      refine (turned_r a9 k9 r2 L6 _ hL6r s9 hr2').mono ?_
      rintro e w10 ⟨a10, k10, rfl, ho10, hb10⟩
      have s10 : I.Sl w10 a10 L6 := ho10.sl
      have B10 : Below w6.heap.size w6 w10 := bthen B9 hb10
      clear ho10 hb10 B9 s9
      go_wp2_with fail
      refine (sameInts_c a10 a6 k10 c6 L6 L6 _ s10 (S6.out.bel B10)).mono ?_
      rintro e w' ⟨rfl, n11, rfl⟩
      rw [eqM_self]
      have B11 := bdrewN B10 n11
      clear s10 B10
      go_wp2_with fail
      refine (depth_c c a6 c6 L6 _ hc (S6.out.bel B11)).mono ?_
      rintro e w12 ⟨rfl, hb12⟩
      have B12 : Below w6.heap.size w6 w12 := bthen B11 hb12
      clear hb12 B11
      go_wp2_with fail
      refine (depth_c c a1 j1 m1 _ hc (W1.out.bel B12)).mono ?_
      rintro e w13 ⟨rfl, hb13⟩
      have B13 : Below w6.heap.size w6 w13 := bthen B12 hb13
      clear hb13 B12
      go_wp2_with fail
      refine (depth_c c a2 j2 m2 _ hc (W2.out.bel B13)).mono ?_
      rintro e w14 ⟨rfl, hb14⟩
      have B14 : Below w6.heap.size w6 w14 := bthen B13 hb14
      clear hb14 B13
      go_wp2_with fail
      refine (known_c _ (G6.out.bel B14)).mono ?_
      rintro e w15 ⟨rfl, hb15⟩
      have B15 : Below w.heap.size w w15 := bthen (bthen hb26.out B14) hb15
      clear hb15 B14
      go_wp2
      go_ret
      exact ⟨rfl, B15⟩
end Go.Proofs.YtiockmhjoldidaaDoor
