/- What the code tells of a variable: the parts of the clock, the draws. -/
import Derived.Test.YtijhkpbnalnpbaaDoorVu
namespace Go.Proofs.YtijhkpbnalnpbaaDoor
open Go.RowKit

set_option maxHeartbeats 1000000 in
set_option maxRecDepth 100000 in
theorem textck_c (te q x : Nat) (L : List Int) (p : Nat) (m : En) (u : Nat) (N : ByteArray) (w : World) (ht : Hid (TelAt w p m u)) (hg : Hid (Gl w)) (hte : 10 ≤ te ∧ te ≤ 16) (hq : q < 7) (cc : w.cell? ⟨p, 7 + q, none⟩ = some (.int .i64 x))
    (CK : Hid (∀ w, Hid (Gl w) → Calls Tryd.prog 43 #[.int .i64 te, .int .i64 x] w (StrE w L))) :
    Calls Tryd.prog 24 #[.pointer (some ⟨p, 0, none⟩), .agg #[.string N, .int .i64 te, .int .i64 q]] w (TellE w p m u L) := by
  have c6 : w.cell? ⟨p, 6, none⟩ = some (.int .i64 m.ix) := ht.out.c 6 _ rfl
  have hplt := ht.out.lt
  have b0 : ((te : Int) == 0) = false := by simp; omega
  have b1 : ((te : Int) == 1) = false := by simp; omega
  have b2 : ((te : Int) == 2) = false := by simp; omega
  have b3 : ((te : Int) == 3) = false := by simp; omega
  have b4 : ((te : Int) == 4) = false := by simp; omega
  have b5 : ((te : Int) == 5) = false := by simp; omega
  have b6 : ((te : Int) == 6) = false := by simp; omega
  have b7 : ((te : Int) == 7) = false := by simp; omega
  have b8 : ((te : Int) == 8) = false := by simp; omega
  have b9 : ((te : Int) == 9) = false := by simp; omega
  have b17 : ((te : Int) == 17) = false := by simp; omega
  have b18 : ((te : Int) == 18) = false := by simp; omega
  have b19 : ((te : Int) == 19) = false := by simp; omega
  clear hte
  generalize m.ix = ix at c6
  go_enter Tryd.func24, Tryd.ntmps24
  go_wp2
  go_region_with (go_at_call 43; refine (CK.out _ (hid ((hg.out.alloc _).drewN _))).mono ?_; rintro e w2 ⟨s, rfl, hs, hb⟩; have Hs := hid hs; have Hb := hid hb; clear hs hb)
  all_goals go_wp2
  all_goals go_ret
  all_goals exact ⟨s, rfl, Hs.out, (Told.refl ht.out).more (((bdrewN (bal (Below.refl _ _) _) _)).trans (Hb.out.mono (by simp)))⟩
set_option maxHeartbeats 1000000 in
set_option maxRecDepth 100000 in
theorem text21_c (p : Nat) (m : En) (u : Nat) (N : ByteArray) (w : World) (ht : Hid (TelAt w p m u)) (hE : Hid (EnP w p m)) (hm : Hid (mayE m = true)) (hu : u ≤ 4000) (hg : Hid (Gl w)) (hp : 8 ≤ p) :
    Calls Tryd.prog 24 #[.pointer (some ⟨p, 0, none⟩), .agg #[.string N, .int .i64 17, .int .i64 0]] w (TellE w p m (u + 1) (digs 10 6 (drw m u % 1000000))) := by
  have hplt := ht.out.lt
  have hd := hid (mayE_tx hm.out).dr
  have c6 : w.cell? ⟨p, 6, none⟩ = some (.int .i64 m.ix) := ht.out.c 6 _ rfl
  have ht1 : Hid (∀ o, TelAt (w.alloc o) p m u) := hid fun o => ht.out.bel (bal (Below.refl _ _) _)
  have hE1 : Hid (∀ o, EnP (w.alloc o) p m) := hid fun o => hE.out.bel ((Below.refl p w).alloc (Nat.le_of_lt hplt) o)
  generalize m.ix = ix at c6
  go_enter Tryd.func24, Tryd.ntmps24
  go_wp2_with fail
  refine (draw_c p m u _ (hid (ht1.out _)) (hid (hE1.out _)) hd (by omega)).mono ?_
  rintro e w1 ⟨rfl, k1⟩
  have hB0 : Below p w (w.alloc (.cells #[.string N, .int .i64 17, .int .i64 0] 48)) := (Below.refl p w).alloc (Nat.le_of_lt hplt) _
  have hK0 : Kpt (fun k => k = p) w (w.alloc (.cells #[.string N, .int .i64 17, .int .i64 0] 48)) := (Kpt.refl _ _).alloc _
  have K1 : Hid (Told w p m (u + 1) w1) := hid ⟨k1.at_, hB0.trans k1.bel, hK0.tr k1.kp⟩
  have g1 := hid (K1.out.gl hg.out hp)
  have e1 : ((drw m u : Nat) : Int).tmod 1000000 = ((drw m u % 1000000 : Nat) : Int) := rfl
  have P := hid (padded10_c 5 (drw m u % 1000000) w1 (by omega) (by have := Nat.mod_lt (drw m u) (show 0 < 1000000 by decide); simpa using this) g1)
  clear k1 hB0 hK0
  generalize hy : drw m u % 1000000 = y at e1 P
  have Hy := hid hy
  clear hy
  go_wp2_with fail
  refine P.out.mono ?_
  rintro e w2 ⟨s, rfl, hs, hb⟩
  have Hs := hid hs
  have Hb := hid hb
  clear hs hb
  go_wp2
  go_ret
  exact ⟨s, rfl, by rw [Hy.out]; exact Hs.out, K1.out.more Hb.out⟩
set_option maxHeartbeats 1000000 in
set_option maxRecDepth 100000 in
theorem text22_c (p : Nat) (m : En) (u : Nat) (N : ByteArray) (w : World) (ht : Hid (TelAt w p m u)) (hE : Hid (EnP w p m)) (hm : Hid (mayE m = true)) (hu : u ≤ 4000) (hg : Hid (Gl w)) (hp : 8 ≤ p) :
    Calls Tryd.prog 24 #[.pointer (some ⟨p, 0, none⟩), .agg #[.string N, .int .i64 18, .int .i64 0]] w (TellE w p m (u + 1) (digs 16 6 (drw m u))) := by
  have hplt := ht.out.lt
  have hd := hid (mayE_tx hm.out).dr
  have c6 : w.cell? ⟨p, 6, none⟩ = some (.int .i64 m.ix) := ht.out.c 6 _ rfl
  have ht1 : Hid (∀ o, TelAt (w.alloc o) p m u) := hid fun o => ht.out.bel (bal (Below.refl _ _) _)
  have hE1 : Hid (∀ o, EnP (w.alloc o) p m) := hid fun o => hE.out.bel ((Below.refl p w).alloc (Nat.le_of_lt hplt) o)
  generalize m.ix = ix at c6
  go_enter Tryd.func24, Tryd.ntmps24
  go_wp2_with fail
  refine (hex_c p m u _ (hid (ht1.out _)) (hid (hE1.out _)) hd (by omega) (hid (hg.out.alloc _)) hp).mono ?_
  rintro e w1 ⟨s, rfl, hs, k1⟩
  have hB0 : Below p w (w.alloc (.cells #[.string N, .int .i64 18, .int .i64 0] 48)) := (Below.refl p w).alloc (Nat.le_of_lt hplt) _
  have hK0 : Kpt (fun k => k = p) w (w.alloc (.cells #[.string N, .int .i64 18, .int .i64 0] 48)) := (Kpt.refl _ _).alloc _
  have K1 : Hid (Told w p m (u + 1) w1) := hid ⟨k1.at_, hB0.trans k1.bel, hK0.tr k1.kp⟩
  have Hs := hid hs
  clear k1 hB0 hK0 hs
  go_wp2
  go_ret
  exact ⟨s, rfl, Hs.out, K1.out⟩
set_option maxHeartbeats 1000000 in
set_option maxRecDepth 100000 in
theorem text23_c (p : Nat) (m : En) (u : Nat) (N : ByteArray) (w : World) (ht : Hid (TelAt w p m u)) (hE : Hid (EnP w p m)) (hm : Hid (mayE m = true)) (hu : u ≤ 4000) (hg : Hid (Gl w)) (hp : 8 ≤ p) :
    Calls Tryd.prog 24 #[.pointer (some ⟨p, 0, none⟩), .agg #[.string N, .int .i64 19, .int .i64 0]] w (TellE w p m (u + 5) (uuidL (hexesL m u 5))) := by
  have hplt := ht.out.lt
  have hd := hid (mayE_tx hm.out).dr
  have c6 : w.cell? ⟨p, 6, none⟩ = some (.int .i64 m.ix) := ht.out.c 6 _ rfl
  have ht1 : Hid (∀ o, TelAt (w.alloc o) p m u) := hid fun o => ht.out.bel (bal (Below.refl _ _) _)
  have hE1 : Hid (∀ o, EnP (w.alloc o) p m) := hid fun o => hE.out.bel ((Below.refl p w).alloc (Nat.le_of_lt hplt) o)
  generalize m.ix = ix at c6
  go_enter Tryd.func24, Tryd.ntmps24
  go_wp2_with fail
  refine (uuid_c p m u _ (hid (ht1.out _)) (hid (hE1.out _)) hd (by omega) (hid (hg.out.alloc _)) hp).mono ?_
  rintro e w1 ⟨s, rfl, hs, k1⟩
  have hB0 : Below p w (w.alloc (.cells #[.string N, .int .i64 19, .int .i64 0] 48)) := (Below.refl p w).alloc (Nat.le_of_lt hplt) _
  have hK0 : Kpt (fun k => k = p) w (w.alloc (.cells #[.string N, .int .i64 19, .int .i64 0] 48)) := (Kpt.refl _ _).alloc _
  have K1 : Hid (Told w p m (u + 5) w1) := hid ⟨k1.at_, hB0.trans k1.bel, hK0.tr k1.kp⟩
  have Hs := hid hs
  clear k1 hB0 hK0 hs
  go_wp2
  go_ret
  exact ⟨s, rfl, Hs.out, K1.out⟩
set_option maxRecDepth 100000 in
theorem text_c (k : Nat) (hk : k < 24) (p : Nat) (m : En) (u : Nat) (w : World) (ht : Hid (TelAt w p m u)) (hE : Hid (EnP w p m)) (hm : Hid (mayE m = true)) (hu : u ≤ 4000) (hg : Hid (Gl w)) (hp : 8 ≤ p) :
    Calls Tryd.prog 24 #[.pointer (some ⟨p, 0, none⟩), rowV k] w (TellE w p m (u + takesN k) (tellL m u k)) := by
  have X := mayE_tx hm.out
  rcases (show k = 0 ∨ k = 1 ∨ k = 2 ∨ k = 3 ∨ k = 4 ∨ k = 5 ∨ k = 6 ∨ k = 7 ∨ k = 8 ∨ k = 9 ∨ k = 10 ∨ k = 11 ∨ k = 12 ∨ k = 13 ∨ k = 14 ∨ k = 15 ∨ k = 16 ∨ k = 17 ∨ k = 18 ∨ k = 19 ∨ k = 20 ∨ k = 21 ∨ k = 22 ∨ k = 23 by omega) with
    rfl | rfl | rfl | rfl | rfl | rfl | rfl | rfl | rfl | rfl | rfl | rfl | rfl | rfl | rfl | rfl | rfl | rfl | rfl | rfl | rfl | rfl | rfl | rfl
  · exact text0_c p m u _ w ht hE hm hu hg hp
  · exact text1_c p m u _ w ht hE hm hu hg hp
  · exact text2_c p m u _ w ht hE hm hu hg hp
  · exact text3_c p m u _ w ht hE hm hu hg hp
  · exact text4_c p m u _ w ht hE hm hu hg hp
  · exact text5_c p m u _ w ht hE hm hu hg hp
  · exact text6_c p m u _ w ht hE hm hu hg hp
  · exact text7_c p m u _ w ht hE hm hu hg hp
  · exact text8_c p m u _ w ht hE hm hu hg hp
  · exact text9_c p m u _ w ht hE hm hu hg hp
  · obtain ⟨x, hx⟩ : ∃ x : Nat, m.k0 = (x : Int) := ⟨m.k0.toNat, by have := X.k0; omega⟩
    have hX := X.k0
    rw [hx] at hX
    refine textck_c 10 0 x _ p m u _ w ht hg (by omega) (by omega) (by rw [← hx]; exact ht.out.c 7 _ rfl) (hid fun w hg => ?_)
    rw [show tellL m u 10 = ckL 10 x by simp [tellL, ckL, hx]]
    exact clockText_c 10 x w hg (by omega)
  · obtain ⟨x, hx⟩ : ∃ x : Nat, m.k0 = (x : Int) := ⟨m.k0.toNat, by have := X.k0; omega⟩
    have hX := X.k0
    rw [hx] at hX
    refine textck_c 11 0 x _ p m u _ w ht hg (by omega) (by omega) (by rw [← hx]; exact ht.out.c 7 _ rfl) (hid fun w hg => ?_)
    rw [show tellL m u 11 = ckL 11 x by simp [tellL, ckL, hx]]
    exact clockText_c 11 x w hg (by omega)
  · obtain ⟨x, hx⟩ : ∃ x : Nat, m.k1 = (x : Int) := ⟨m.k1.toNat, by have := X.k1; omega⟩
    have hX := X.k1
    rw [hx] at hX
    refine textck_c 12 1 x _ p m u _ w ht hg (by omega) (by omega) (by rw [← hx]; exact ht.out.c 8 _ rfl) (hid fun w hg => ?_)
    rw [show tellL m u 12 = ckL 12 x by simp [tellL, ckL, hx]]
    exact clockText_c 12 x w hg (by omega)
  · obtain ⟨x, hx⟩ : ∃ x : Nat, m.k2 = (x : Int) := ⟨m.k2.toNat, by have := X.k2; omega⟩
    have hX := X.k2
    rw [hx] at hX
    refine textck_c 12 2 x _ p m u _ w ht hg (by omega) (by omega) (by rw [← hx]; exact ht.out.c 9 _ rfl) (hid fun w hg => ?_)
    rw [show tellL m u 13 = ckL 12 x by simp [tellL, ckL, hx]]
    exact clockText_c 12 x w hg (by omega)
  · obtain ⟨x, hx⟩ : ∃ x : Nat, m.k3 = (x : Int) := ⟨m.k3.toNat, by have := X.k3; omega⟩
    have hX := X.k3
    rw [hx] at hX
    refine textck_c 12 3 x _ p m u _ w ht hg (by omega) (by omega) (by rw [← hx]; exact ht.out.c 10 _ rfl) (hid fun w hg => ?_)
    rw [show tellL m u 14 = ckL 12 x by simp [tellL, ckL, hx]]
    exact clockText_c 12 x w hg (by omega)
  · obtain ⟨x, hx⟩ : ∃ x : Nat, m.k4 = (x : Int) := ⟨m.k4.toNat, by have := X.k4; omega⟩
    have hX := X.k4
    rw [hx] at hX
    refine textck_c 12 4 x _ p m u _ w ht hg (by omega) (by omega) (by rw [← hx]; exact ht.out.c 11 _ rfl) (hid fun w hg => ?_)
    rw [show tellL m u 15 = ckL 12 x by simp [tellL, ckL, hx]]
    exact clockText_c 12 x w hg (by omega)
  · obtain ⟨x, hx⟩ : ∃ x : Nat, m.k5 = (x : Int) := ⟨m.k5.toNat, by have := X.k5; omega⟩
    have hX := X.k5
    rw [hx] at hX
    refine textck_c 12 5 x _ p m u _ w ht hg (by omega) (by omega) (by rw [← hx]; exact ht.out.c 12 _ rfl) (hid fun w hg => ?_)
    rw [show tellL m u 16 = ckL 12 x by simp [tellL, ckL, hx]]
    exact clockText_c 12 x w hg (by omega)
  · obtain ⟨x, hx⟩ : ∃ x : Nat, m.k1 = (x : Int) := ⟨m.k1.toNat, by have := X.k1; omega⟩
    have hX := X.k1
    rw [hx] at hX
    refine textck_c 13 1 x _ p m u _ w ht hg (by omega) (by omega) (by rw [← hx]; exact ht.out.c 8 _ rfl) (hid fun w hg => ?_)
    rw [show tellL m u 17 = ckL 13 x by simp [tellL, ckL, hx]]
    exact clockText_c 13 x w hg (by omega)
  · obtain ⟨x, hx⟩ : ∃ x : Nat, m.k1 = (x : Int) := ⟨m.k1.toNat, by have := X.k1; omega⟩
    have hX := X.k1
    rw [hx] at hX
    refine textck_c 14 1 x _ p m u _ w ht hg (by omega) (by omega) (by rw [← hx]; exact ht.out.c 8 _ rfl) (hid fun w hg => ?_)
    rw [show tellL m u 18 = ckL 14 x by simp [tellL, ckL, hx]]
    exact clockText_c 14 x w hg (by omega)
  · obtain ⟨x, hx⟩ : ∃ x : Nat, m.k6 = (x : Int) := ⟨m.k6.toNat, by have := X.k6; omega⟩
    have hX := X.k6
    rw [hx] at hX
    refine textck_c 15 6 x _ p m u _ w ht hg (by omega) (by omega) (by rw [← hx]; exact ht.out.c 13 _ rfl) (hid fun w hg => ?_)
    rw [show tellL m u 19 = ckL 15 x by simp [tellL, ckL, hx]]
    exact clockText_c 15 x w hg (by omega)
  · obtain ⟨x, hx⟩ : ∃ x : Nat, m.k6 = (x : Int) := ⟨m.k6.toNat, by have := X.k6; omega⟩
    have hX := X.k6
    rw [hx] at hX
    refine textck_c 16 6 x _ p m u _ w ht hg (by omega) (by omega) (by rw [← hx]; exact ht.out.c 13 _ rfl) (hid fun w hg => ?_)
    rw [show tellL m u 20 = ckL 16 x by simp [tellL, ckL, hx]]
    exact clockText_c 16 x w hg (by omega)
  · exact text21_c p m u _ w ht hE hm hu hg hp
  · exact text22_c p m u _ w ht hE hm hu hg hp
  · exact text23_c p m u _ w ht hE hm hu hg hp
end Go.Proofs.YtijhkpbnalnpbaaDoor
