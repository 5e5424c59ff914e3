/- What the code tells of a variable, row by row. -/
import Derived.Test.YtijhkpbnalnpbaaDoorVt
namespace Go.Proofs.YtijhkpbnalnpbaaDoor
open Go.RowKit

set_option maxHeartbeats 1000000 in
set_option maxRecDepth 100000 in
theorem text0_c (p : Nat) (m : En) (u : Nat) (N : ByteArray) (w : World) (ht : Hid (TelAt w p m u)) (hE : Hid (EnP w p m)) (hm : Hid (mayE m = true)) (_ : u ≤ 4000) (_ : Hid (Gl w)) (_ : 8 ≤ p) :
    Calls Tryd.prog 24 #[.pointer (some ⟨p, 0, none⟩), .agg #[.string N, .int .i64 0, .int .i64 0]] w (TellE w p m u m.t0) := by
  have hplt := ht.out.lt
  have X := mayE_tx hm.out
  have c6 : w.cell? ⟨p, 6, none⟩ = some (.int .i64 m.ix) := ht.out.c 6 _ rfl
  have c0 : w.cell? ⟨p, 0, none⟩ = some (.slice m.a0 m.t0.length m.c0) := ht.out.c 0 _ rfl
  have hS := hid (hE.out w (Below.refl _ _)).s0
  obtain ⟨s, hs, hcv⟩ := conv_str hS.out X.t0
  have Hs := hid hs
  replace hcv := hid hcv
  clear hs X
  generalize m.ix = ix at c6
  go_enter Tryd.func24, Tryd.ntmps24
  go_wp2
  rw [hcv.out _ _ (hS.out.alloc _)]
  simp only [Result.andThen]
  rw [Oper.upon_value]
  go_wp2
  go_ret
  exact ⟨s, rfl, Hs.out, (Told.refl ht.out).more (bal (Below.refl _ _) _)⟩
set_option maxHeartbeats 1000000 in
set_option maxRecDepth 100000 in
theorem text1_c (p : Nat) (m : En) (u : Nat) (N : ByteArray) (w : World) (ht : Hid (TelAt w p m u)) (hE : Hid (EnP w p m)) (hm : Hid (mayE m = true)) (_ : u ≤ 4000) (_ : Hid (Gl w)) (_ : 8 ≤ p) :
    Calls Tryd.prog 24 #[.pointer (some ⟨p, 0, none⟩), .agg #[.string N, .int .i64 1, .int .i64 0]] w (TellE w p m u m.t1) := by
  have hplt := ht.out.lt
  have X := mayE_tx hm.out
  have c6 : w.cell? ⟨p, 6, none⟩ = some (.int .i64 m.ix) := ht.out.c 6 _ rfl
  have c1 : w.cell? ⟨p, 1, none⟩ = some (.slice m.a1 m.t1.length m.c1) := ht.out.c 1 _ rfl
  have hS := hid (hE.out w (Below.refl _ _)).s1
  obtain ⟨s, hs, hcv⟩ := conv_str hS.out X.t1
  have Hs := hid hs
  replace hcv := hid hcv
  clear hs X
  generalize m.ix = ix at c6
  go_enter Tryd.func24, Tryd.ntmps24
  go_wp2
  rw [hcv.out _ _ (hS.out.alloc _)]
  simp only [Result.andThen]
  rw [Oper.upon_value]
  go_wp2
  go_ret
  exact ⟨s, rfl, Hs.out, (Told.refl ht.out).more (bal (Below.refl _ _) _)⟩
set_option maxHeartbeats 1000000 in
set_option maxRecDepth 100000 in
theorem text2_c (p : Nat) (m : En) (u : Nat) (N : ByteArray) (w : World) (ht : Hid (TelAt w p m u)) (hE : Hid (EnP w p m)) (hm : Hid (mayE m = true)) (_ : u ≤ 4000) (_ : Hid (Gl w)) (_ : 8 ≤ p) :
    Calls Tryd.prog 24 #[.pointer (some ⟨p, 0, none⟩), .agg #[.string N, .int .i64 2, .int .i64 0]] w (TellE w p m u m.t2) := by
  have hplt := ht.out.lt
  have X := mayE_tx hm.out
  have c6 : w.cell? ⟨p, 6, none⟩ = some (.int .i64 m.ix) := ht.out.c 6 _ rfl
  have c2 : w.cell? ⟨p, 2, none⟩ = some (.slice m.a2 m.t2.length m.c2) := ht.out.c 2 _ rfl
  have hS := hid (hE.out w (Below.refl _ _)).s2
  obtain ⟨s, hs, hcv⟩ := conv_str hS.out X.t2
  have Hs := hid hs
  replace hcv := hid hcv
  clear hs X
  generalize m.ix = ix at c6
  go_enter Tryd.func24, Tryd.ntmps24
  go_wp2
  rw [hcv.out _ _ (hS.out.alloc _)]
  simp only [Result.andThen]
  rw [Oper.upon_value]
  go_wp2
  go_ret
  exact ⟨s, rfl, Hs.out, (Told.refl ht.out).more (bal (Below.refl _ _) _)⟩
set_option maxHeartbeats 1000000 in
set_option maxRecDepth 100000 in
theorem text5_c (p : Nat) (m : En) (u : Nat) (N : ByteArray) (w : World) (ht : Hid (TelAt w p m u)) (hE : Hid (EnP w p m)) (hm : Hid (mayE m = true)) (_ : u ≤ 4000) (_ : Hid (Gl w)) (_ : 8 ≤ p) :
    Calls Tryd.prog 24 #[.pointer (some ⟨p, 0, none⟩), .agg #[.string N, .int .i64 5, .int .i64 0]] w (TellE w p m u m.t3) := by
  have hplt := ht.out.lt
  have X := mayE_tx hm.out
  have c6 : w.cell? ⟨p, 6, none⟩ = some (.int .i64 m.ix) := ht.out.c 6 _ rfl
  have c3 : w.cell? ⟨p, 3, none⟩ = some (.slice m.a3 m.t3.length m.c3) := ht.out.c 3 _ rfl
  have hS := hid (hE.out w (Below.refl _ _)).s3
  obtain ⟨s, hs, hcv⟩ := conv_str hS.out X.t3
  have Hs := hid hs
  replace hcv := hid hcv
  clear hs X
  generalize m.ix = ix at c6
  go_enter Tryd.func24, Tryd.ntmps24
  go_wp2
  rw [hcv.out _ _ (hS.out.alloc _)]
  simp only [Result.andThen]
  rw [Oper.upon_value]
  go_wp2
  go_ret
  exact ⟨s, rfl, Hs.out, (Told.refl ht.out).more (bal (Below.refl _ _) _)⟩
set_option maxHeartbeats 1000000 in
set_option maxRecDepth 100000 in
theorem text7_c (p : Nat) (m : En) (u : Nat) (N : ByteArray) (w : World) (ht : Hid (TelAt w p m u)) (hE : Hid (EnP w p m)) (hm : Hid (mayE m = true)) (_ : u ≤ 4000) (_ : Hid (Gl w)) (_ : 8 ≤ p) :
    Calls Tryd.prog 24 #[.pointer (some ⟨p, 0, none⟩), .agg #[.string N, .int .i64 7, .int .i64 0]] w (TellE w p m u m.t4) := by
  have hplt := ht.out.lt
  have X := mayE_tx hm.out
  have c6 : w.cell? ⟨p, 6, none⟩ = some (.int .i64 m.ix) := ht.out.c 6 _ rfl
  have c4 : w.cell? ⟨p, 4, none⟩ = some (.slice m.a4 m.t4.length m.c4) := ht.out.c 4 _ rfl
  have hS := hid (hE.out w (Below.refl _ _)).s4
  obtain ⟨s, hs, hcv⟩ := conv_str hS.out X.t4
  have Hs := hid hs
  replace hcv := hid hcv
  clear hs X
  generalize m.ix = ix at c6
  go_enter Tryd.func24, Tryd.ntmps24
  go_wp2
  rw [hcv.out _ _ (hS.out.alloc _)]
  simp only [Result.andThen]
  rw [Oper.upon_value]
  go_wp2
  go_ret
  exact ⟨s, rfl, Hs.out, (Told.refl ht.out).more (bal (Below.refl _ _) _)⟩
set_option maxHeartbeats 1000000 in
set_option maxRecDepth 100000 in
theorem text9_c (p : Nat) (m : En) (u : Nat) (N : ByteArray) (w : World) (ht : Hid (TelAt w p m u)) (hE : Hid (EnP w p m)) (hm : Hid (mayE m = true)) (_ : u ≤ 4000) (_ : Hid (Gl w)) (_ : 8 ≤ p) :
    Calls Tryd.prog 24 #[.pointer (some ⟨p, 0, none⟩), .agg #[.string N, .int .i64 9, .int .i64 0]] w (TellE w p m u m.t5) := by
  have hplt := ht.out.lt
  have X := mayE_tx hm.out
  have c6 : w.cell? ⟨p, 6, none⟩ = some (.int .i64 m.ix) := ht.out.c 6 _ rfl
  have c5 : w.cell? ⟨p, 5, none⟩ = some (.slice m.a5 m.t5.length m.c5) := ht.out.c 5 _ rfl
  have hS := hid (hE.out w (Below.refl _ _)).s5
  obtain ⟨s, hs, hcv⟩ := conv_str hS.out X.t5
  have Hs := hid hs
  replace hcv := hid hcv
  clear hs X
  generalize m.ix = ix at c6
  go_enter Tryd.func24, Tryd.ntmps24
  go_wp2
  rw [hcv.out _ _ (hS.out.alloc _)]
  simp only [Result.andThen]
  rw [Oper.upon_value]
  go_wp2
  go_ret
  exact ⟨s, rfl, Hs.out, (Told.refl ht.out).more (bal (Below.refl _ _) _)⟩
set_option maxHeartbeats 1000000 in
set_option maxRecDepth 100000 in
theorem text3_c (p : Nat) (m : En) (u : Nat) (N : ByteArray) (w : World) (ht : Hid (TelAt w p m u)) (_ : Hid (EnP w p m)) (hm : Hid (mayE m = true)) (_ : u ≤ 4000) (hg : Hid (Gl w)) (_ : 8 ≤ p) :
    Calls Tryd.prog 24 #[.pointer (some ⟨p, 0, none⟩), .agg #[.string N, .int .i64 3, .int .i64 0]] w (TellE w p m u (itoaL m.ix.toNat)) := by
  have hplt := ht.out.lt
  have X := mayE_tx hm.out
  obtain ⟨x, hx⟩ : ∃ x : Nat, m.ix = (x : Int) := ⟨m.ix.toNat, by have := X.ix; omega⟩
  have hx2 : x ≤ 9999 := by have := X.ix; omega
  have c6 : w.cell? ⟨p, 6, none⟩ = some (.int .i64 x) := by rw [← hx]; exact ht.out.c 6 _ rfl
  rw [hx, Int.toNat_natCast]
  clear hx X
  go_enter Tryd.func24, Tryd.ntmps24
  go_wp2_with fail
  refine (itoa_c x _ (by omega) (hid (hg.out.alloc _))).mono ?_
  rintro e w2 ⟨s, rfl, hs, hb⟩
  have Hs := hid hs
  have Hb := hid (((Below.refl w.heap.size w).alloc (Nat.le_refl _) _).trans (hb.mono (by simp)))
  clear hs hb
  go_wp2
  go_ret
  exact ⟨s, rfl, Hs.out, (Told.refl ht.out).more Hb.out⟩
set_option maxHeartbeats 1000000 in
set_option maxRecDepth 100000 in
theorem text4_c (p : Nat) (m : En) (u : Nat) (N : ByteArray) (w : World) (ht : Hid (TelAt w p m u)) (_ : Hid (EnP w p m)) (hm : Hid (mayE m = true)) (_ : u ≤ 4000) (hg : Hid (Gl w)) (_ : 8 ≤ p) :
    Calls Tryd.prog 24 #[.pointer (some ⟨p, 0, none⟩), .agg #[.string N, .int .i64 4, .int .i64 0]] w (TellE w p m u (itoaL (m.ix.toNat + 1))) := by
  have hplt := ht.out.lt
  have X := mayE_tx hm.out
  obtain ⟨x, hx⟩ : ∃ x : Nat, m.ix = (x : Int) := ⟨m.ix.toNat, by have := X.ix; omega⟩
  have hx2 : x ≤ 9999 := by have := X.ix; omega
  have c6 : w.cell? ⟨p, 6, none⟩ = some (.int .i64 x) := by rw [← hx]; exact ht.out.c 6 _ rfl
  rw [hx, Int.toNat_natCast]
  clear hx X
  go_enter Tryd.func24, Tryd.ntmps24
  go_wp2_with fail
  rw [show (x : Int) + 1 = ((x + 1 : Nat) : Int) from by omega]
  refine (itoa_c (x + 1) _ (by omega) (hid (hg.out.alloc _))).mono ?_
  rintro e w2 ⟨s, rfl, hs, hb⟩
  have Hs := hid hs
  have Hb := hid (((Below.refl w.heap.size w).alloc (Nat.le_refl _) _).trans (hb.mono (by simp)))
  clear hs hb
  go_wp2
  go_ret
  exact ⟨s, rfl, Hs.out, (Told.refl ht.out).more Hb.out⟩
set_option maxHeartbeats 1000000 in
set_option maxRecDepth 100000 in
theorem text6_c (p : Nat) (m : En) (u : Nat) (N : ByteArray) (w : World) (ht : Hid (TelAt w p m u)) (hE : Hid (EnP w p m)) (hm : Hid (mayE m = true)) (_ : u ≤ 4000) (_ : Hid (Gl w)) (_ : 8 ≤ p) :
    Calls Tryd.prog 24 #[.pointer (some ⟨p, 0, none⟩), .agg #[.string N, .int .i64 6, .int .i64 0]] w (TellE w p m u (baseL m.t3)) := by
  have hplt := ht.out.lt
  have X := mayE_tx hm.out
  have c6 : w.cell? ⟨p, 6, none⟩ = some (.int .i64 m.ix) := ht.out.c 6 _ rfl
  have c3 : w.cell? ⟨p, 3, none⟩ = some (.slice m.a3 m.t3.length m.c3) := ht.out.c 3 _ rfl
  have hS := hid (hE.out w (Below.refl _ _)).s3
  obtain ⟨s, hs, hcv⟩ := conv_str hS.out X.t3
  have Hs := hid hs
  have hl := X.l3
  replace hcv := hid hcv
  clear hs X
  generalize m.ix = ix at c6
  go_enter Tryd.func24, Tryd.ntmps24
  go_wp2
  rw [hcv.out _ _ (hS.out.alloc _)]
  simp only [Result.andThen]
  rw [Oper.upon_value]
  go_wp2_with fail
  refine (base_c s m.t3 _ Hs.out (by omega)).mono ?_
  rintro e w2 ⟨r, rfl, hr, hb⟩
  have Hr := hid hr
  have Hb := hid (((Below.refl w.heap.size w).alloc (Nat.le_refl _) _).trans (hb.mono (by simp)))
  clear hr hb
  go_wp2
  go_ret
  exact ⟨r, rfl, Hr.out, (Told.refl ht.out).more Hb.out⟩
set_option maxHeartbeats 1000000 in
set_option maxRecDepth 100000 in
theorem text8_c (p : Nat) (m : En) (u : Nat) (N : ByteArray) (w : World) (ht : Hid (TelAt w p m u)) (hE : Hid (EnP w p m)) (hm : Hid (mayE m = true)) (_ : u ≤ 4000) (_ : Hid (Gl w)) (_ : 8 ≤ p) :
    Calls Tryd.prog 24 #[.pointer (some ⟨p, 0, none⟩), .agg #[.string N, .int .i64 8, .int .i64 0]] w (TellE w p m u (m.t4 ++ [47] ++ m.t3)) := by
  have hplt := ht.out.lt
  have X := mayE_tx hm.out
  have c6 : w.cell? ⟨p, 6, none⟩ = some (.int .i64 m.ix) := ht.out.c 6 _ rfl
  have c3 : w.cell? ⟨p, 3, none⟩ = some (.slice m.a3 m.t3.length m.c3) := ht.out.c 3 _ rfl
  have c4 : w.cell? ⟨p, 4, none⟩ = some (.slice m.a4 m.t4.length m.c4) := ht.out.c 4 _ rfl
  have hS := hid (hE.out w (Below.refl _ _)).s3
  have hS4 := hid (hE.out w (Below.refl _ _)).s4
  obtain ⟨s, hs, hcv⟩ := conv_str hS.out X.t3
  obtain ⟨r, hr, hcv4⟩ := conv_str hS4.out X.t4
  have hl1 := hs.size_le
  have hl2 := hr.size_le
  have hl3 := X.l3
  have hl4 := X.l4
  have hz1 : s.size ≤ 400 := by omega
  have hz2 : r.size ≤ 400 := by omega
  have Hs := hid ((hr.app (str_lit ⟨#[47]⟩ [47] rfl rfl)).app hs)
  have k1 : ∀ o n, (convert 22 9 (.slice m.a3 m.t3.length m.c3)).run Tryd.prog ((w.alloc o).drewN n) = .ok (.string s) ((w.alloc o).drewN n) := fun o n => hcv _ _ ((hS.out.alloc o).drewN n)
  have k2 : ∀ o n, (convert 22 9 (.slice m.a4 m.t4.length m.c4)).run Tryd.prog ((w.alloc o).drewN n) = .ok (.string r) ((w.alloc o).drewN n) := fun o n => hcv4 _ _ ((hS4.out.alloc o).drewN n)
  have j1 : ∀ o, (convert 22 9 (.slice m.a3 m.t3.length m.c3)).run Tryd.prog (w.alloc o) = .ok (.string s) (w.alloc o) := fun o => hcv _ _ (hS.out.alloc o)
  have j2 : ∀ o, (convert 22 9 (.slice m.a4 m.t4.length m.c4)).run Tryd.prog (w.alloc o) = .ok (.string r) (w.alloc o) := fun o => hcv4 _ _ (hS4.out.alloc o)
  clear hs hr X hcv hcv4 hl1 hl2 hl3 hl4
  generalize m.ix = ix at c6
  go_enter Tryd.func24, Tryd.ntmps24
  go_wp2
  go_quiet (fail)
  go_wp2
  go_ret
  exact ⟨_, rfl, Hs.out, (Told.refl ht.out).more (bdrewN (bal (Below.refl _ _) _) _)⟩
end Go.Proofs.YtijhkpbnalnpbaaDoor
