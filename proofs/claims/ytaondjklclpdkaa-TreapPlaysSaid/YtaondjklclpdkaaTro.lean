/- The document's own set in memory: put. -/
import Derived.Test.YtaondjklclpdkaaTrn
import Derived.Deep.CutBlock
import Derived.Deep.DeepCutAuto
namespace Go.Proofs.Ytaondjklclpdkaa
open Go.RowKit

theorem ahdN_at {l : List Mk} {m : Mk} (h : ahdN l m < l.length) : ¬ ahd (mgt l (ahdN l m)) m := by
  induction l with
  | nil => simp at h
  | cons x l ih =>
    simp only [ahdN] at h ⊢
    split
    · rename_i hx
      rw [if_pos hx] at h
      have := ih (by simpa using h)
      simpa [mgt] using this
    · rename_i hx; simpa [mgt] using hx
theorem ahdN_lt {l : List Mk} {m : Mk} {k : Nat} (h : k < ahdN l m) : ahd (mgt l k) m := by
  induction l generalizing k with
  | nil => simp [ahdN] at h
  | cons x l ih =>
    simp only [ahdN] at h
    split at h
    · rename_i hx
      cases k with
      | zero => simpa [mgt] using hx
      | succ k =>
        have := ih (k := k) (by omega)
        simpa [mgt] using this
    · omega
set_option maxRecDepth 20000 in
set_option maxHeartbeats 16000000 in
theorem rput_c (m : Mk) (r : Nat) (l : List Mk) (w : World) (F : Nat → Prop) (h : RefL w F r l) (hl : l.length ≤ 1000) :
    Calls Try.prog 42 #[.pointer (some ⟨r, 0, none⟩), (.agg #[.int .i64 m.id, .int .i64 m.fr, .int .i64 m.to, .int .i64 m.pr])] w fun e w' => e = .returned (.tuple #[]) ∧ RLft w F r (putM l m) w' := by
  obtain ⟨a, c, hr, hG, hC⟩ := h
  have Hr := hid (And.intro hr hG)
  obtain ⟨w1, hw1⟩ : ∃ w1, w1 = w.alloc (.cells #[.int .i64 m.id, .int .i64 m.fr, .int .i64 m.to, .int .i64 m.pr] 33) := ⟨_, rfl⟩
  have b1 : Below w.heap.size w w1 := by subst hw1; exact (Below.refl _ _).alloc (Nat.le_refl _) _
  have k0 : Bx w1 w.heap.size m := by subst hw1; exact Bx.new w m _
  have hlw : w.heap.size < w1.heap.size := World.block_lt_of_cell? w1 _ k0.1
  have B1 := hid b1
  have HC := hid hC
  have HC1 := hid (hC.bel b1)
  have KN : Hid (∀ w', Below w1.heap.size w1 w' → (w'.cell? ⟨r, 0, none⟩ = some (.slice a l.length c) ∧ (w'.cell? ⟨w.heap.size, 0, none⟩ = some (.int .i64 m.id) ∧ w'.cell? ⟨w.heap.size, 1, none⟩ = some (.int .i64 m.fr) ∧ w'.cell? ⟨w.heap.size, 2, none⟩ = some (.int .i64 m.to) ∧ w'.cell? ⟨w.heap.size, 3, none⟩ = some (.int .i64 m.pr))) ∧ w'.frozen? ⟨r, 0, none⟩ = false ∧ r < w'.heap.size ∧ w.heap.size < w'.heap.size) := fun w' hb => ⟨⟨(HC1.out.bel hb).cell, k0.bel hb⟩, (HC1.out.bel hb).free, (HC1.out.bel hb).lt, Nat.lt_of_lt_of_le hlw hb.size⟩
  have hal := ahdN_le l m
  have MS : Hid (∀ w', Below w1.heap.size w1 w' → MSl w' a l) := fun w' hb => (HC1.out.bel hb).sl
  have hcap := hC.cap
  clear hr hG hC b1 k0
  obtain ⟨K, hK⟩ : ∃ K, K = ahdN l m := ⟨_, rfl⟩
  rw [← hK] at hal
  have HK := hid hK
  clear hK
  go_enter Try.func42, Try.ntmps42
  go_upto_block 0 with fail
  rw [← hw1]; clear hw1
  go_cut [4] (fun i wx => i = .int .i64 K ∧ Below w1.heap.size w1 wx)
  case first =>
    go_wp2_with fail
    go_loopw [4] (fun iv wr => ∃ k : Nat, k ≤ K ∧ iv = .int .i64 k ∧ Below w1.heap.size w1 wr) (fun iv _ => l.length - (intOf iv).toNat)
    case atStart => exact ⟨0, by omega, rfl, Below.refl _ _⟩
    case round =>
      obtain ⟨k, hk, rfl, hb⟩ := hrel
      by_cases hlt : k < l.length
      · obtain ⟨bb, off, rfl, hcs⟩ := (MS.out _ hb.drew).at hlt
        have hM := hcs k hlt
        clear hcs
        have kk := KN.out _ hb.drew
        obtain ⟨⟨g0, g1, g2, g3, g4⟩, g5, g6, g7⟩ := kk
        have hMl : ∀ w', Below wr.drew.heap.size wr.drew w' → M4 w' bb (off + k * 4) (mgt l k) := fun w' hb' => by
          have := (MS.out _ (bthen hb.drew hb')).at hlt
          obtain ⟨bb', off', he, hcs⟩ := this
          simp only [Option.some.injEq, Addr.mk.injEq, and_true] at he
          obtain ⟨rfl, rfl⟩ := he
          exact hcs k hlt
        have HM := hid hMl
        have hbd := hid hb.drew
        have hd1 : decide ((k : Int) < (l.length : Int)) = true := by simpa using hlt
        obtain ⟨k0, k1, k2, k3⟩ := hM
        clear hMl
        obtain ⟨bA, hbA⟩ : ∃ bA, bA = decide (ahd (mgt l k) m) := ⟨_, rfl⟩
        have HbA := hid hbA
        clear hbA
        cases bA with
        | true =>
          have Hlt2 : Hid (k + 1 ≤ K) := by
            have h1 : ahd (mgt l k) m := of_decide_eq_true HbA.out.symm
            rcases Nat.lt_or_ge k K with h2 | h2
            · exact h2
            · obtain rfl : k = K := by omega
              rw [HK.out] at h1 hlt
              exact absurd h1 (ahdN_at hlt)
          go_upto_region 2 with fail
          go_region_held3 (fun w' => (w'.cell? ⟨w.heap.size, 0, none⟩ = some (.int .i64 m.id) ∧ w'.cell? ⟨w.heap.size, 1, none⟩ = some (.int .i64 m.fr) ∧ w'.cell? ⟨w.heap.size, 2, none⟩ = some (.int .i64 m.to) ∧ w'.cell? ⟨w.heap.size, 3, none⟩ = some (.int .i64 m.pr)) ∧ (w'.cell? ⟨bb, off + k * 4, none⟩ = some (.int .i64 (mgt l k).id) ∧ w'.cell? ⟨bb, off + k * 4 + 1, none⟩ = some (.int .i64 (mgt l k).fr) ∧ w'.cell? ⟨bb, off + k * 4 + 2, none⟩ = some (.int .i64 (mgt l k).to) ∧ w'.cell? ⟨bb, off + k * 4 + 3, none⟩ = some (.int .i64 (mgt l k).pr)) ∧ w'.cell? ⟨r, 0, none⟩ = some (.slice (some ⟨bb, off, none⟩) l.length c)) (first | (with_reducible assumption) | exact ⟨⟨by with_reducible assumption, by with_reducible assumption, by with_reducible assumption, by with_reducible assumption⟩, ⟨by with_reducible assumption, by with_reducible assumption, by with_reducible assumption, by with_reducible assumption⟩, by with_reducible assumption⟩)
            (first | (go_at_call 21; refine (ahead_c (mgt l k) m _).mono ?_; rintro e v1 ⟨rfl, hb1⟩; rw [← HbA.out]; have hx1 : Below w1.heap.size w1 v1 := bthen hbd.out hb1; have kk := KN.out _ hx1; obtain ⟨⟨p0, p1, p2, p3, p4⟩, p5, p6, p7⟩ := kk; have kk := HM.out _ hb1; obtain ⟨q0, q1, q2, q3⟩ := kk))
          clear p0 p1 p2 p3 p4 p5 p6 p7 q0 q1 q2 q3 g0 g1 g2 g3 g4 g5 g6 g7 k0 k1 k2 k3
          go_wp2_with fail
          go_roundw
          case rel => exact ⟨k + 1, Hlt2.out, by go_num, hx1⟩
          case measure => simp [intOf]; omega
        | false =>
          have hkK : k = K := by
            rcases Nat.lt_or_ge k K with h2 | h2
            · rw [HK.out] at h2
              have := decide_eq_true (ahdN_lt h2)
              rw [← HbA.out] at this; cases this
            · omega
          have HkK := hid hkK
          clear hkK
          go_upto_region 2 with fail
          go_region_held3 (fun w' => (w'.cell? ⟨w.heap.size, 0, none⟩ = some (.int .i64 m.id) ∧ w'.cell? ⟨w.heap.size, 1, none⟩ = some (.int .i64 m.fr) ∧ w'.cell? ⟨w.heap.size, 2, none⟩ = some (.int .i64 m.to) ∧ w'.cell? ⟨w.heap.size, 3, none⟩ = some (.int .i64 m.pr)) ∧ (w'.cell? ⟨bb, off + k * 4, none⟩ = some (.int .i64 (mgt l k).id) ∧ w'.cell? ⟨bb, off + k * 4 + 1, none⟩ = some (.int .i64 (mgt l k).fr) ∧ w'.cell? ⟨bb, off + k * 4 + 2, none⟩ = some (.int .i64 (mgt l k).to) ∧ w'.cell? ⟨bb, off + k * 4 + 3, none⟩ = some (.int .i64 (mgt l k).pr)) ∧ w'.cell? ⟨r, 0, none⟩ = some (.slice (some ⟨bb, off, none⟩) l.length c)) (first | (with_reducible assumption) | exact ⟨⟨by with_reducible assumption, by with_reducible assumption, by with_reducible assumption, by with_reducible assumption⟩, ⟨by with_reducible assumption, by with_reducible assumption, by with_reducible assumption, by with_reducible assumption⟩, by with_reducible assumption⟩)
            (first | (go_at_call 21; refine (ahead_c (mgt l k) m _).mono ?_; rintro e v1 ⟨rfl, hb1⟩; rw [← HbA.out]; have hx1 : Below w1.heap.size w1 v1 := bthen hbd.out hb1; have kk := KN.out _ hx1; obtain ⟨⟨p0, p1, p2, p3, p4⟩, p5, p6, p7⟩ := kk; have kk := HM.out _ hb1; obtain ⟨q0, q1, q2, q3⟩ := kk))
          clear p0 p1 p2 p3 p4 p5 p6 p7 q0 q1 q2 q3 g0 g1 g2 g3 g4 g5 g6 g7 k0 k1 k2 k3
          go_wp2_with fail
          go_meet
          exact ⟨by rw [HkK.out], hx1⟩
      · have hkK : k = K := by omega
        have hd1 : decide (k < l.length) = false := by simpa using hlt
        have HkK := hid hkK
        clear hkK hlt hal hk
        have kk := KN.out _ hb
        obtain ⟨⟨g0, g1, g2, g3, g4⟩, g5, g6, g7⟩ := kk
        go_upto_region 2 with fail
        go_quiet (first | (go_at_call 21; fail))
        go_wp2_with fail
        go_meet
        exact ⟨by rw [HkK.out], bdrewN hb _⟩
  case rest =>
    obtain ⟨rfl, hx1⟩ := hcut
    rename World => v1
    go_upto_region 4 with fail
    obtain ⟨a1, c1, D1, HD1, s1, q1, run1⟩ := mslice_to (MS.out _ hx1) K c (by omega) hcap
    obtain ⟨a2, c2, D2, HD2, s2, q2, run2⟩ := mslice_from (MS.out _ hx1) K c (by omega) hcap
    have hl1 : D1.length ≤ 1000 := by rw [HD1.out]; simp; omega
    have hl2 : D2.length ≤ 1000 := by rw [HD2.out]; simp; omega
    have S1 : Hid (∀ w', Below v1.heap.size v1 w' → MSl w' a1 D1) := fun w' hb => s1.bel hb
    have S2 : Hid (∀ w', Below v1.heap.size v1 w' → MSl w' a2 D2) := fun w' hb => s2.bel hb
    have Hx := hid hx1
    have KV : Hid (∀ w', Below v1.heap.size v1 w' → (w'.cell? ⟨r, 0, none⟩ = some (.slice a l.length c) ∧ (w'.cell? ⟨w.heap.size, 0, none⟩ = some (.int .i64 m.id) ∧ w'.cell? ⟨w.heap.size, 1, none⟩ = some (.int .i64 m.fr) ∧ w'.cell? ⟨w.heap.size, 2, none⟩ = some (.int .i64 m.to) ∧ w'.cell? ⟨w.heap.size, 3, none⟩ = some (.int .i64 m.pr))) ∧ w'.frozen? ⟨r, 0, none⟩ = false ∧ r < w'.heap.size ∧ w.heap.size < w'.heap.size) := fun w' hb => KN.out _ (bthen Hx.out hb)
    have y0 : Below v1.heap.size v1 v1.drew := (Below.refl _ _).drew
    have kk := KV.out _ (Below.refl _ _)
    obtain ⟨⟨g0, g1, g2, g3, g4⟩, g5, g6, g7⟩ := kk
    clear s1 s2
    go_region_law
      (first | (((refine step_mapp rfl ((.const (.slice none 0 0))) (.tmp 31) rfl v1.heap.size none a1 0 D1.length 0 c1 [] D1 rfl (by first | rfl | simp | omega) (MOwn.nil _ _) rfl (by first | rfl | simp | omega) (S1.out _ (by (repeat' (first | exact Below.refl _ _ | assumption | refine bdrewN ?_ _ | refine Below.drew ?_ | refine bal ?_ _ | refine bthen ?_ (by assumption))))) (by simp; omega) (by simp) ?_); intro a3 c3 w3 L3 Hl3 ho3 hb3 hk3 hA3; have HA3 := hid hA3; clear hA3; have Ho3 := hid ho3; clear ho3; have Hk3 := hid hk3; clear hk3; have hz3 := hb3.size); have x3 : Below v1.heap.size v1 w3 := Below.trans (by (repeat' (first | exact Below.refl _ _ | assumption | refine bdrewN ?_ _ | refine Below.drew ?_ | refine bal ?_ _ | refine bthen ?_ (by assumption)))) hb3; have nn3 := bel_none Hk3.out; (try (have z3 := (MSl.lit _ m 33 _ rfl #[.int .i64 m.id, .int .i64 m.fr, .int .i64 m.to, .int .i64 m.pr] rfl).bel nn3)); (try (have z3 := (MSl.lit _ m 33 _ rfl #[.int .i64 m.id, .int .i64 m.fr, .int .i64 m.to, .int .i64 m.pr] rfl).drew.bel nn3)); clear nn3; have kk := KV.out _ x3; obtain ⟨⟨n0, n1, n2, n3, n4⟩, n5, n6, n7⟩ := kk; have hq3 : L3.length ≤ 1000 := (by rw [Hl3.out]; simpa using hl1))
             | (((refine step_mapp rfl (.tmp 32) (.tmp 34) rfl v1.heap.size a3 (some ⟨w3.heap.size, 0, none⟩) L3.length 1 c3 1 L3 [m] rfl (by first | rfl | simp | omega) (Ho3.out.grow (by (repeat' (first | exact Below.refl _ _ | assumption | refine bdrewN ?_ _ | refine Below.drew ?_ | refine bal ?_ _ | refine bthen ?_ (by assumption))))) rfl (by first | rfl | simp | omega) (MSl.lit w3 m 33 _ rfl #[.int .i64 m.id, .int .i64 m.fr, .int .i64 m.to, .int .i64 m.pr] rfl) (by simp; omega) (by have := x3.size; simp; omega) ?_); intro a4 c4 w4 L4 Hl4 ho4 hb4 hk4 hA4; have HA4 := hid hA4; clear hA4; have Ho4 := hid ho4; clear ho4; have Hk4 := hid hk4; clear hk4; have hz4 := hb4.size); have x4 : Below v1.heap.size v1 w4 := Below.trans (by (repeat' (first | exact Below.refl _ _ | assumption | refine bdrewN ?_ _ | refine Below.drew ?_ | refine bal ?_ _ | refine bthen ?_ (by assumption)))) hb4; have kk := KV.out _ x4; obtain ⟨⟨p0, p1, p2, p3, p4⟩, p5, p6, p7⟩ := kk; have hq4 : L4.length ≤ 1001 := (by rw [Hl4.out]; simp; omega))
             | (((refine step_mapp rfl (.tmp 32) (.tmp 34) rfl v1.heap.size a3 (some ⟨v1.heap.size, 0, none⟩) L3.length 1 c3 1 L3 [m] rfl (by first | rfl | simp | omega) Ho3.out rfl (by first | rfl | simp | omega) z3 (by simp; omega) (by have := x3.size; simp; omega) ?_); intro a4 c4 w4 L4 Hl4 ho4 hb4 hk4 hA4; have HA4 := hid hA4; clear hA4; have Ho4 := hid ho4; clear ho4; have Hk4 := hid hk4; clear hk4; have hz4 := hb4.size); have x4 : Below v1.heap.size v1 w4 := Below.trans (by (repeat' (first | exact Below.refl _ _ | assumption | refine bdrewN ?_ _ | refine Below.drew ?_ | refine bal ?_ _ | refine bthen ?_ (by assumption)))) hb4; have kk := KV.out _ x4; obtain ⟨⟨p0, p1, p2, p3, p4⟩, p5, p6, p7⟩ := kk; have hq4 : L4.length ≤ 1001 := (by rw [Hl4.out]; simp; omega))
             | (((refine step_mapp rfl (.tmp 35) (.tmp 41) rfl v1.heap.size a4 a2 L4.length D2.length c4 c2 L4 D2 rfl (by first | rfl | simp | omega) Ho4.out rfl (by first | rfl | simp | omega) (S2.out _ x4) (by omega) (by have := x4.size; omega) ?_); intro a5 c5 w5 L5 Hl5 ho5 hb5 hk5 hA5; have HA5 := hid hA5; clear hA5; have Ho5 := hid ho5; clear ho5; have Hk5 := hid hk5; clear hk5; have hz5 := hb5.size); have x5 : Below v1.heap.size v1 w5 := Below.trans x4 hb5; have kk := KV.out _ x5; obtain ⟨⟨r0, r1, r2, r3, r4⟩, r5, r6, r7⟩ := kk))
    all_goals
      clear g0 g1 g2 g3 g4 g5 g6 g7 n0 n1 n2 n3 n4 n5 n6 n7 p0 p1 p2 p3 p4 p5 p6 p7 r0 r1 r2 r3 r4 r5 r6 r7
      go_wp2_with fail
      go_end0
      refine ⟨rfl, ?_⟩
      have e : L5 = putM l m := by rw [Hl5.out, Hl4.out, Hl3.out, HD1.out, HD2.out]; simp [putM, HK.out]
      rw [← e]
      exact (RLft.set Hr.out.1 HC1.out (bthen Hx.out x5) (Ho5.out.base_le Hx.out.size)).on B1.out
end Go.Proofs.Ytaondjklclpdkaa
