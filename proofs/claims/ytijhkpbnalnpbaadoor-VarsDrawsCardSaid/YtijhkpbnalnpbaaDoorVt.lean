/- What the code tells of a variable: the draws; all of it. -/
import Derived.Test.YtijhkpbnalnpbaaDoorVl
namespace Go.Proofs.YtijhkpbnalnpbaaDoor
open Go.RowKit

/-- an environment in a teller's variable, and how many draws have been used -/
structure TelAt (w : World) (p : Nat) (m : En) (u : Nat) : Prop where
  c : ∀ i v, (enC m)[i]? = some v → w.cell? ⟨p, i, none⟩ = some v
  c15 : w.cell? ⟨p, 15, none⟩ = some (.int .i64 u)
  fz : w.frozen? ⟨p, 15, none⟩ = false
theorem TelAt.lt {w : World} {p : Nat} {m : En} {u : Nat} (h : TelAt w p m u) : p < w.heap.size := World.block_lt_of_cell? w _ h.c15
theorem TelAt.same {w w' : World} {p : Nat} {m : En} {u : Nat} (h : TelAt w p m u) (he : w'.heap[p]? = w.heap[p]?) : TelAt w' p m u :=
  ⟨fun i v hv => (World.cell?_of_block (a := ⟨p, i, none⟩) he).trans (h.c i v hv), (World.cell?_of_block (a := ⟨p, 15, none⟩) he).trans h.c15, (World.frozen?_of_block (a := ⟨p, 15, none⟩) he).trans h.fz⟩
theorem TelAt.bel {w w' : World} {p : Nat} {m : En} {u : Nat} (h : TelAt w p m u) (hb : Below w.heap.size w w') : TelAt w' p m u := h.same (hb.block p h.lt)
theorem TelAt.step {w : World} {p : Nat} {m : En} {u : Nat} (h : TelAt w p m u) : TelAt (w.setCell ⟨p, 15, none⟩ (.int .i64 ((u : Int) + 1))) p m (u + 1) := by
  refine ⟨fun i v hv => cell_set1 (h.c i v hv) ?_, World.cell?_setCell_same (h := h.c15) .., by rw [World.frozen?_setCell]; exact h.fz⟩
  have : i < (enC m).size := (Array.getElem?_eq_some_iff.1 hv).1
  simp [enC] at this; omega
/-- the environment stays readable, whatever is written from block p on -/
def EnP (w : World) (p : Nat) (m : En) : Prop := ∀ w', Below p w w' → EnOk w' m
theorem EnP.bel {w w' : World} {p : Nat} {m : En} (h : EnP w p m) (hb : Below p w w') : EnP w' p m := fun v hv => h v (hb.trans hv)
/-- what the teller's calls leave -/
structure Told (w : World) (p : Nat) (m : En) (u : Nat) (w' : World) : Prop where
  at_ : TelAt w' p m u
  bel : Below p w w'
  kp : Kpt (fun k => k = p) w w'
theorem gt_over {l : List Int} {i : Nat} (h : l.length ≤ i) : gt l i = 0 := by simp [gt, List.getD, List.getElem?_eq_none h]
theorem drE_at {l : List Int} (h : drE l = true) (i : Nat) : 0 ≤ gt l i ∧ gt l i < 16777216 := by
  rw [drE, Bool.and_eq_true] at h
  rcases Nat.lt_or_ge i l.length with h1 | h1
  · have := List.all_eq_true.1 h.2 _ (gt_mem h1)
    simp only [bti, decide_eq_true_eq] at this; omega
  · rw [gt_over h1]; omega
theorem drw_lt {m : En} (h : drE m.dl = true) (u : Nat) : drw m u < 16777216 := by have := drE_at h u; unfold drw; omega
theorem drw_eq {m : En} (h : drE m.dl = true) (u : Nat) : gt m.dl u = (drw m u : Int) := by have := drE_at h u; unfold drw; omega
set_option maxHeartbeats 1000000 in
set_option maxRecDepth 100000 in
theorem draw_c (p : Nat) (m : En) (u : Nat) (w : World) (ht : Hid (TelAt w p m u)) (hE : Hid (EnP w p m)) (hd : Hid (drE m.dl = true)) (hu : u ≤ 5000) :
    Calls Tryd.prog 40 #[.pointer (some ⟨p, 0, none⟩)] w fun e w' => e = .returned (.int .i64 (drw m u)) ∧ Told w p m (u + 1) w' := by
  have hb : Hid (Below p w (w.setCell ⟨p, 15, none⟩ (.int .i64 ((u : Int) + 1)))) := hid ((Below.refl p w).setCell (Nat.le_refl p) _)
  have hres : Hid (Told w p m (u + 1) (w.setCell ⟨p, 15, none⟩ (.int .i64 ((u : Int) + 1)))) := hid ⟨ht.out.step, hb.out, Kpt.setCell (F := fun k => k = p) (p := ⟨p, 15, none⟩) (Kpt.refl _ _) rfl _⟩
  have c15 := ht.out.c15
  have fz := ht.out.fz
  have c14 : w.cell? ⟨p, 14, none⟩ = some (.slice m.da m.dl.length m.dc) := ht.out.c 14 _ rfl
  have sd := (hE.out _ hb.out).sd
  have he := drw_eq hd.out u
  have hl := sd.len
  by_cases hlt : u < m.dl.length
  · obtain ⟨b, o, ha, hc⟩ := sd.at hlt
    have ck := hc u hlt
    rw [he] at ck
    have b1 : decide ((m.dl.length : Int) ≤ (u : Int)) = false := by simp; omega
    have Hb := hid hb
    generalize drw m u = v at ck he ⊢
    generalize m.dl.length = n at c14 b1 hlt
    generalize m.dc = c at c14
    rw [ha] at c14
    clear he hc sd ha hb hl
    go_enter Tryd.func40, Tryd.ntmps40
    go_wp2
    go_ret
    exact ⟨rfl, hres.out⟩
  · have h0 : Hid (drw m u = 0) := hid (by unfold drw; rw [gt_over (by omega)]; rfl)
    have b1 : decide ((m.dl.length : Int) ≤ (u : Int)) = true := by simp; omega
    clear he sd hb
    generalize m.dl.length = n at c14 b1 hlt
    go_enter Tryd.func40, Tryd.ntmps40
    go_wp2
    go_ret
    exact ⟨by rw [h0.out]; rfl, hres.out⟩
theorem Told.gl {w w' : World} {p u : Nat} {m : En} (h : Told w p m u w') (hg : Gl w) (hp : 8 ≤ p) : Gl w' := hg.below h.bel hp
theorem Told.then {a b c : World} {p u v : Nat} {m : En} (h : Told a p m u b) (k : Told b p m v c) : Told a p m v c := ⟨k.at_, h.bel.trans k.bel, h.kp.tr k.kp⟩
theorem Told.more {a b c : World} {p u : Nat} {m : En} (h : Told a p m u b) (hb : Below b.heap.size b c) : Told a p m u c :=
  ⟨h.at_.bel hb, h.bel.trans (hb.mono (Nat.le_of_lt h.at_.lt)), h.kp.tr (Kpt.of hb)⟩
theorem Told.refl {w : World} {p u : Nat} {m : En} (h : TelAt w p m u) : Told w p m u w := ⟨h, Below.refl _ _, Kpt.refl _ _⟩
/-- a call on the teller that tells a string -/
def TellE (w : World) (p : Nat) (m : En) (u : Nat) (l : List Int) (e : Ending) (w' : World) : Prop := ∃ s, e = .returned (.string s) ∧ Str s l ∧ Told w p m u w'
theorem hex_c (p : Nat) (m : En) (u : Nat) (w : World) (ht : Hid (TelAt w p m u)) (hE : Hid (EnP w p m)) (hd : Hid (drE m.dl = true)) (hu : u ≤ 5000) (hg : Hid (Gl w)) (hp : 8 ≤ p) :
    Calls Tryd.prog 41 #[.pointer (some ⟨p, 0, none⟩)] w (TellE w p m (u + 1) (digs 16 6 (drw m u))) := by
  have hlt := drw_lt hd.out u
  go_enter Tryd.func41, Tryd.ntmps41
  go_wp2_with fail
  refine (draw_c p m u w ht hE hd hu).mono ?_
  rintro e w1 ⟨rfl, k1⟩
  have K1 := hid k1
  have g1 := hid (k1.gl hg.out hp)
  clear k1
  go_wp2_with fail
  refine (padded16_c (drw m u) w1 hlt g1).mono ?_
  rintro e w2 ⟨s, rfl, hs, hb⟩
  have Hs := hid hs
  have Hb := hid hb
  clear hs hb
  go_wp2
  go_ret
  exact ⟨s, rfl, Hs.out, K1.out.more Hb.out⟩
theorem hexesL_len (m : En) (u : Nat) : ∀ k, (hexesL m u k).length = 6 * k
  | 0 => rfl
  | k + 1 => by rw [hexesL, List.length_append, hexesL_len m u k, digs_len]; omega
theorem hexesL_asc (m : En) (u : Nat) : ∀ k, asc (hexesL m u k) = true
  | 0 => rfl
  | k + 1 => by rw [hexesL]; exact asc_app (hexesL_asc m u k) (digs_asc 16 (by decide) (by decide) _ _)
theorem str_lit (s : ByteArray) (l : List Int) (h : asc l = true) (e : s = bStr l) : Str s l := by subst e; exact bStr_str h
set_option maxHeartbeats 4000000 in
set_option maxRecDepth 100000 in
theorem uuid_c (p : Nat) (m : En) (u : Nat) (w : World) (ht : Hid (TelAt w p m u)) (hE : Hid (EnP w p m)) (hd : Hid (drE m.dl = true)) (hu : u ≤ 4000) (hg : Hid (Gl w)) (hp : 8 ≤ p) :
    Calls Tryd.prog 42 #[.pointer (some ⟨p, 0, none⟩)] w (TellE w p m (u + 5) (uuidL (hexesL m u 5))) := by
  go_enter Tryd.func42, Tryd.ntmps42
  go_wp2
  go_loopw [3, 4] (fun sv iv wr => ∃ (k : Nat) (s : ByteArray), k ≤ 5 ∧ sv = .string s ∧ iv = .int .i64 k ∧ Hid (Str s (hexesL m u k)) ∧ Hid (Told w p m (u + k) wr)) (fun _ iv _ => 5 - (intOf iv).toNat)
  case atStart => exact ⟨0, _, by omega, rfl, rfl, hid ⟨rfl, rfl⟩, hid (Told.refl ht.out)⟩
  case round =>
    obtain ⟨k, s, hk, rfl, rfl, hs, hT⟩ := hrel
    by_cases hlt : k < 5
    · have b1 : decide (k < 5) = true := by simpa using hlt
      go_wp2_with fail
      refine (hex_c p m (u + k) wr (hid hT.out.at_) (hid (hE.out.bel hT.out.bel)) hd (by omega) (hid (hT.out.gl hg.out hp)) hp).mono ?_
      rintro e w2 ⟨r, rfl, hr, hT2⟩
      have HT2 := hid (hT.out.then hT2)
      have Hres : Hid (Str (s ++ r) (hexesL m u (k + 1))) := hid (hs.out.app hr)
      have hz1 : s.size = 6 * k := by rw [hs.out.asc_size (hexesL_asc m u k), hexesL_len]
      have hz2 : r.size = 6 := by rw [hr.asc_size (digs_asc 16 (by decide) (by decide) _ _), digs_len]
      clear hr hT2
      go_wp2
      go_roundw
      case rel => exact ⟨k + 1, _, by omega, rfl, by go_num, Hres, HT2⟩
      case measure => simp [intOf]; omega
    · obtain rfl : k = 5 := by omega
      have hz1 : s.size = 30 := by rw [hs.out.asc_size (hexesL_asc m u 5), hexesL_len]
      clear hlt hk
      go_wp2
      go_quiet (fail)
      go_wp2
      go_ret
      refine ⟨_, rfl, ?_, hT.out.more (bdrewN (Below.refl _ _) _)⟩
      have ha := hexesL_asc m u 5
      have hl := hexesL_len m u 5
      have q := ((((((((hs.out.mid ha 0 8).app (str_lit ⟨#[45]⟩ [45] rfl rfl)).app (hs.out.mid ha 8 12)).app (str_lit ⟨#[45, 52]⟩ [45, 52] rfl rfl)).app (hs.out.mid ha 12 15)).app (str_lit ⟨#[45, 56]⟩ [45, 56] rfl rfl)).app (hs.out.mid ha 15 18)).app (str_lit ⟨#[45]⟩ [45] rfl rfl)).app (hs.out.mid ha 18 30)
      have e : uuidL (hexesL m u 5) = ((((((((hexesL m u 5).take 8).drop 0 ++ [45]) ++ ((hexesL m u 5).take 12).drop 8) ++ [45, 52]) ++ ((hexesL m u 5).take 15).drop 12) ++ [45, 56]) ++ ((hexesL m u 5).take 18).drop 15) ++ [45] ++ ((hexesL m u 5).take 30).drop 18 := by
        rw [List.take_of_length_le (i := 30) (by omega)]
        simp only [uuidL, List.drop_zero, List.append_assoc]
      rw [e]; exact q
/-! ## all of it -/
structure TxsMay (m : En) : Prop where
  t0 : may m.t0 = true
  t1 : may m.t1 = true
  t2 : may m.t2 = true
  t3 : may m.t3 = true
  t4 : may m.t4 = true
  t5 : may m.t5 = true
  l0 : m.t0.length ≤ 100
  l1 : m.t1.length ≤ 100
  l2 : m.t2.length ≤ 100
  l3 : m.t3.length ≤ 100
  l4 : m.t4.length ≤ 100
  l5 : m.t5.length ≤ 100
  ix : 0 ≤ m.ix ∧ m.ix ≤ 9999
  k0 : 0 ≤ m.k0 ∧ m.k0 ≤ 9999
  k1 : 1 ≤ m.k1 ∧ m.k1 ≤ 12
  k2 : 1 ≤ m.k2 ∧ m.k2 ≤ 31
  k3 : 0 ≤ m.k3 ∧ m.k3 ≤ 23
  k4 : 0 ≤ m.k4 ∧ m.k4 ≤ 59
  k5 : 0 ≤ m.k5 ∧ m.k5 ≤ 59
  k6 : 0 ≤ m.k6 ∧ m.k6 ≤ 6
  dr : drE m.dl = true
theorem mayE_tx {m : En} (h : mayE m = true) : TxsMay m := by
  simp only [mayE, txsE, txE, ckE, bti, Bool.and_eq_true, decide_eq_true_eq] at h
  obtain ⟨⟨⟨a0, b0⟩, ⟨a1, b1⟩, ⟨a2, b2⟩, ⟨a3, b3⟩, ⟨a4, b4⟩, a5, b5⟩, i, ⟨j0, j1, j2, j3, j4, j5, j6⟩, d⟩ := h
  exact ⟨b0, b1, b2, b3, b4, b5, a0, a1, a2, a3, a4, a5, i, j0, j1, j2, j3, j4, j5, j6, d⟩
theorem EnP.at {w w' : World} {p : Nat} {m : En} (h : EnP w p m) (hb : Below p w w') : EnOk w' m := h w' hb
def BStr (k : Nat) : ByteArray := bStr (nameL k)
end Go.Proofs.YtijhkpbnalnpbaaDoor
