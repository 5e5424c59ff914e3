/- The walk of GravityNear. -/
import Derived.Test.YthciodfkhgpegaaGta
namespace Go.Proofs.Ythciodfkhgpegaa
open Go.RowKit

/-- the four places of a change -/
def nl (i : Nat) (k : Nat) : Int := if k = 0 then i else if k = 1 then 1099511627773 else if k = 2 then 1099511627776 else -1
theorem nl_in (i k : Nat) (hi : i < 6) : -1 ≤ nl i k ∧ nl i k ≤ 1099511627776 := by
  unfold nl; repeat' split
  all_goals omega
set_option maxRecDepth 20000 in
set_option maxHeartbeats 80000000 in
theorem near_w (a1 a2 : Option Addr) (c1 c2 : Nat) (C P : List Int) (x0 : Int) (W : World) (h1 : Sl W a1 C) (h2 : Sl W a2 P) (hc1 : C.length ≤ c1) (hc2 : P.length ≤ c2) :
    Calls Try.prog 4 #[.int .i64 x0, .slice a1 C.length c1, .slice a2 P.length c2] W fun e w' => e = .returned (.bool true) ∧ Below W.heap.size W w' := by
  go_enter Try.func4, Try.ntmps4
  go_wp2_with fail
  refine (cut_c a1 c1 C 5 W h1 hc1 (by omega)).mono ?_
  rintro e w' ⟨a3, c3, L3, rfl, hL3, -, -, rfl⟩
  have hn : L3.length ≤ 35184372088832 := by rw [hL3.out]; simp; omega
  clear hL3
  go_wp2_with fail
  refine (cut_c a2 c2 P 5 W h2 hc2 (by omega)).mono ?_
  rintro e w' ⟨a4, c4, L4, rfl, hL4, -, -, rfl⟩
  have hm : L4.length ≤ 35184372088832 := by rw [hL4.out]; simp; omega
  clear hL4 h1 h2 hc1 hc2
  generalize L3.length = n at hn ⊢
  generalize L4.length = m at hm ⊢
  go_wp2_with fail
  refine (index_z x0 6 6 W rfl (by omega) (by omega)).mono ?_
  rintro e w' ⟨⟨i, hi, rfl⟩, rfl⟩
  obtain ⟨V, hV⟩ : ∃ V, V = W.alloc (.cells #[.int .i64 (i : Int), .int .i64 1099511627773, .int .i64 1099511627776, .int .i64 (-1)] 3) := ⟨_, rfl⟩
  have hx : Below W.heap.size W V := by subst hV; (repeat' (first | exact Below.refl _ _ | assumption | refine bdrewN ?_ _ | refine Below.drew ?_ | refine bal ?_ _ | refine bthen ?_ (by assumption)))
  have hv : Below V.heap.size V V := Below.refl _ _
  have KV : Hid (∀ w', Below V.heap.size V w' → ∀ k : Nat, k < 4 → w'.cell? ⟨W.heap.size, k, none⟩ = some (.int .i64 (nl i k))) := by
    subst hV
    intro w' hb k hk4
    have hk : Kpt (fun _ => False) _ w' := Kpt.of hb
    rcases (show k = 0 ∨ k = 1 ∨ k = 2 ∨ k = 3 by omega) with rfl | rfl | rfl | rfl
    · exact hk.cell (by go_simp; rfl) id
    · exact hk.cell (by go_simp; rfl) id
    · exact hk.cell (by go_simp; rfl) id
    · exact hk.cell (by go_simp; rfl) id
  go_wp2_with fail
  rw [← hV]; clear hV
  go_loopw [8, 9, 10, 11, 12, 21] (fun _ _ _ _ _ iv wr => ∃ k : Nat, k ≤ 4 ∧ iv = .int .i64 k ∧ Below V.heap.size V wr) (fun _ _ _ _ _ iv _ => 4 - (intOf iv).toNat)
  case atStart => exact ⟨0, by omega, rfl, hv⟩
  case round =>
    obtain ⟨k, hk4, rfl, hb⟩ := hrel
    by_cases hlt : k < 4
    · have hd1 : decide ((k : Int) < 4) = true := by simp; omega
      have l0 := KV.out _ hb k hlt
      obtain ⟨na, nb⟩ := nl_in i k hi
      generalize nl i k = aa at l0 na nb
      obtain ⟨U, hU⟩ : ∃ U, U = wr.alloc (.cells #[.int .i64 aa, .slice a3 n c3, .slice a4 m c4] 24) := ⟨_, rfl⟩
      have hbU : Below V.heap.size V U := by subst hU; exact bal hb _
      have hUU : Below U.heap.size U U := Below.refl _ _
      have KU := hid (box_kept rfl hU)
      go_upto_region 6 with fail
      rw [← hU]; clear hU
      generalize wr.heap.size = CB at KU ⊢
      go_wp2_with fail
      go_loopw [10, 11, 12] (fun pv _ _ w2 => ∃ pp : Int, pv = .int .i64 pp ∧ aa - 3 ≤ pp ∧ pp ≤ aa + 9 ∧ Below U.heap.size U w2) (fun pv _ _ _ => (aa + 9 - intOf pv).toNat)
      case atStart => exact ⟨aa - 3, by go_num, by omega, by omega, hUU⟩
      case round =>
        rename World => w2
        obtain ⟨pp, rfl, hp1, hp2, hb2⟩ := hrel
        by_cases hlp : pp < aa + 9
        · have hd2 : decide (pp < aa + 9) = true := by simp; omega
          go_wp2_with fail
          go_loopw [11, 12] (fun qv _ w3 => ∃ qq : Int, qv = .int .i64 qq ∧ pp ≤ qq ∧ qq ≤ aa + 9 ∧ Below U.heap.size U w3) (fun qv _ _ => (aa + 9 - intOf qv).toNat)
          case atStart => exact ⟨pp, rfl, by omega, by omega, hb2⟩
          case round =>
            rename World => w3
            obtain ⟨qq, rfl, hq1, hq2, hb3⟩ := hrel
            by_cases hlq : qq < aa + 9
            · have hd3 : decide (qq < aa + 9) = true := by simp; omega
              obtain ⟨F, hF⟩ : ∃ F, F = w3.alloc (.cells #[.int .i64 pp, .int .i64 qq] 26) := ⟨_, rfl⟩
              have hbF : Below U.heap.size U F := by subst hF; exact bal hb3 _
              have KF0 : Hid (∀ w', Below F.heap.size F w' → (w'.cell? ⟨CB, 0, none⟩ = some (.int .i64 aa) ∧ w'.cell? ⟨CB, 1, none⟩ = some (.slice a3 n c3) ∧ w'.cell? ⟨CB, 2, none⟩ = some (.slice a4 m c4)) ∧ w'.cell? ⟨w3.heap.size, 0, none⟩ = some (.int .i64 pp) ∧ w'.cell? ⟨w3.heap.size, 1, none⟩ = some (.int .i64 qq)) := by
                intro w' hb
                have hU' := bthen hbF hb
                subst hF
                have hk : Kpt (fun _ => False) _ w' := Kpt.of hb
                exact ⟨KU.out _ hU', hk.cell (by go_simp) id, hk.cell (by go_simp) id⟩
              go_upto_region 13 with fail
              rw [← hF]; clear hF
              generalize w3.heap.size = FB at KF0 ⊢
              have KF := KF0
              clear KF0
              have hf0 : Below F.heap.size F F.drew := (Below.refl _ _).drew
              generalize hH1 : mvG pp aa n m true = g1
              generalize hH2 : mvG pp aa n m false = g2
              generalize hA0 : spF pp qq aa n m 0 = sa0
              generalize hB0 : spT pp qq aa n m 0 = sb0
              generalize hA1 : spF pp qq aa n m 1 = sa1
              generalize hB1 : spT pp qq aa n m 1 = sb1
              generalize hA2 : spF pp qq aa n m 2 = sa2
              generalize hB2 : spT pp qq aa n m 2 = sb2
              have H1 := hid hH1
              have H2 := hid hH2
              have J0 := hid (And.intro hA0 hB0)
              have J1 := hid (And.intro hA1 hB1)
              have J2 := hid (And.intro hA2 hB2)
              clear hH1 hH2 hA0 hB0 hA1 hB1 hA2 hB2
              have kk := KF.out _ hf0
              obtain ⟨⟨m0, m1, m2⟩, m3, m4⟩ := kk
              go_region_held3 (fun w' => (w'.cell? ⟨CB, 0, none⟩ = some (.int .i64 aa) ∧ w'.cell? ⟨CB, 1, none⟩ = some (.slice a3 n c3) ∧ w'.cell? ⟨CB, 2, none⟩ = some (.slice a4 m c4)) ∧ w'.cell? ⟨FB, 0, none⟩ = some (.int .i64 pp) ∧ w'.cell? ⟨FB, 1, none⟩ = some (.int .i64 qq)) (first | (with_reducible assumption) | exact ⟨⟨by with_reducible assumption, by with_reducible assumption, by with_reducible assumption⟩, by with_reducible assumption, by with_reducible assumption⟩)
                (first | (go_at_call 9; (with_reducible refine (place_v _ hn hm H1.out).mono ?_); rintro e v0 ⟨rfl, hbv0⟩; have hxv0 : Below F.heap.size F v0 := bthen hf0 hbv0; have kk := KF.out _ hxv0; obtain ⟨⟨k0, k1, k2⟩, k3, k4⟩ := kk)
                         | (go_at_call 10; (with_reducible refine (moved_v _ hn hm H1.out).mono ?_); rintro e v1 ⟨rfl, hbv1⟩; have hxv1 : Below F.heap.size F v1 := bthen hxv0 hbv1; have kk := KF.out _ hxv1; obtain ⟨⟨l0, l1, l2⟩, l3, l4⟩ := kk)
                         | (go_at_call 9; (with_reducible refine (place_v _ hn hm H2.out).mono ?_); rintro e v2 ⟨rfl, hbv2⟩; have hxv2 : Below F.heap.size F v2 := bthen hxv1 hbv2; have kk := KF.out _ hxv2; obtain ⟨⟨o0, o1, o2⟩, o3, o4⟩ := kk)
                         | (go_at_call 10; (with_reducible refine (moved_v _ hn hm H2.out).mono ?_); rintro e v3 ⟨rfl, hbv3⟩; have hxv3 : Below F.heap.size F v3 := bthen hxv2 hbv3; have kk := KF.out _ hxv3; obtain ⟨⟨r0, r1, r2⟩, r3, r4⟩ := kk)
                         | (go_at_call 11; (with_reducible refine (span_v _ _ _ _ _ _ _ _ _ _ _ hn hm J0.out).mono ?_); rintro e v4 ⟨rfl, hbv4⟩; have hxv4 : Below F.heap.size F v4 := bthen hxv3 hbv4; have kk := KF.out _ hxv4; obtain ⟨⟨s0, s1, s2⟩, s3, s4⟩ := kk)
                         | (go_at_call 12; (with_reducible refine (rspan_v _ _ _ _ _ _ _ _ _ _ _ hn hm J0.out).mono ?_); rintro e v5 ⟨rfl, hbv5⟩; have hxv5 : Below F.heap.size F v5 := bthen hxv4 hbv5; have kk := KF.out _ hxv5; obtain ⟨⟨t0, t1, t2⟩, t3, t4⟩ := kk)
                         | (go_at_call 11; (with_reducible refine (span_v _ _ _ _ _ _ _ _ _ _ _ hn hm J1.out).mono ?_); rintro e v6 ⟨rfl, hbv6⟩; have hxv6 : Below F.heap.size F v6 := bthen hxv5 hbv6; have kk := KF.out _ hxv6; obtain ⟨⟨u0, u1, u2⟩, u3, u4⟩ := kk)
                         | (go_at_call 12; (with_reducible refine (rspan_v _ _ _ _ _ _ _ _ _ _ _ hn hm J1.out).mono ?_); rintro e v7 ⟨rfl, hbv7⟩; have hxv7 : Below F.heap.size F v7 := bthen hxv6 hbv7; have kk := KF.out _ hxv7; obtain ⟨⟨v0, v1, v2⟩, v3, v4⟩ := kk)
                         | (go_at_call 11; (with_reducible refine (span_v _ _ _ _ _ _ _ _ _ _ _ hn hm J2.out).mono ?_); rintro e v8 ⟨rfl, hbv8⟩; have hxv8 : Below F.heap.size F v8 := bthen hxv7 hbv8; have kk := KF.out _ hxv8; obtain ⟨⟨w0, w1, w2⟩, w3, w4⟩ := kk)
                         | (go_at_call 12; (with_reducible refine (rspan_v _ _ _ _ _ _ _ _ _ _ _ hn hm J2.out).mono ?_); rintro e v9 ⟨rfl, hbv9⟩; have hxv9 : Below F.heap.size F v9 := bthen hxv8 hbv9; have kk := KF.out _ hxv9; obtain ⟨⟨x0, x1, x2⟩, x3, x4⟩ := kk))
              clear m0 m1 m2 m3 m4 KF
              go_wp2_with fail
              go_roundw
              case rel => exact ⟨qq + 1, by go_num, by omega, by omega, bthen hbF hxv9⟩
              case measure => simp [intOf]; omega
            · obtain rfl : qq = aa + 9 := by omega
              go_wp2_with fail
              go_roundw
              case rel => exact ⟨pp + 1, by go_num, by omega, by omega, hb3⟩
              case measure => simp [intOf]; omega
        · obtain rfl : pp = aa + 9 := by omega
          go_wp2_with fail
          go_roundw
          case rel => exact ⟨k + 1, by omega, by go_num, bthen hbU hb2⟩
          case measure => simp [intOf]; omega
    · obtain rfl : k = 4 := by omega
      clear hlt hk4
      go_wp2_with fail
      refine (known_c wr).mono ?_
      rintro e w3 ⟨rfl, hb4⟩
      go_wp2_with fail
      go_ret
      exact ⟨rfl, bthen hx (bthen hb hb4)⟩
end Go.Proofs.Ythciodfkhgpegaa
