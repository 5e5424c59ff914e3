/- Package standishkeep: the tape: Next, Sign, Text. -/
import Derived.Test.YtijhkpbnalnpbaaDoorInts
import Derived.Test.YtijhkpbnalnpbaaDoorKeepR
namespace Go.Proofs.YtijhkpbnalnpbaaDoor
open Go.RowKit

structure TapeAt (w : World) (p : Nat) (a : Option Addr) (l : List Int) (c i : Nat) : Prop where
  lt : p < w.heap.size
  c0 : w.cell? ⟨p, 0, none⟩ = some (.slice a l.length c)
  c1 : w.cell? ⟨p, 1, none⟩ = some (.int .i64 i)
  fz : w.frozen? ⟨p, 1, none⟩ = false
  le : i ≤ l.length
theorem TapeAt.drewN {w : World} {p : Nat} {a : Option Addr} {l : List Int} {c i : Nat} (h : TapeAt w p a l c i) (n : Nat) : TapeAt (w.drewN n) p a l c i := ⟨h.lt, h.c0, h.c1, h.fz, h.le⟩
theorem TapeAt.below {w w' : World} {p B : Nat} {a : Option Addr} {l : List Int} {c i : Nat} (h : TapeAt w p a l c i) (hb : Below B w w') (hp : p < B) : TapeAt w' p a l c i :=
  ⟨by have := hb.size; have := h.lt; omega, by rw [hb.cell (p := ⟨p, 0, none⟩) hp]; exact h.c0, by rw [hb.cell (p := ⟨p, 1, none⟩) hp]; exact h.c1,
    (World.frozen?_of_block (w := w) (w' := w') (a := ⟨p, 1, none⟩) (hb.block p hp)).trans h.fz, h.le⟩
theorem TapeAt.stepped {w : World} {p : Nat} {a : Option Addr} {l : List Int} {c i : Nat} (h : TapeAt w p a l c i) (hi : i < l.length) : TapeAt (w.setCell ⟨p, 1, none⟩ (.int .i64 ((i : Int) + 1))) p a l c (i + 1) :=
  ⟨by have := h.lt; simpa using this, by rw [World.cell?_setCell_other (h := by simp)]; exact h.c0, by rw [World.cell?_setCell_same (u := .int .i64 i)]; rfl; exact h.c1, by rw [World.frozen?_setCell]; exact h.fz, by omega⟩

/-- what a tape's call leaves -/
def Took (w : World) (p : Nat) (a : Option Addr) (l : List Int) (c : Nat) (w' : World) : Prop := (∃ i, TapeAt w' p a l c i) ∧ Kpt (fun k => k = p) w w'
theorem Kpt.belowp {w w' : World} {p : Nat} (h : Kpt (fun k => k = p) w w') (hp : p ≤ w.heap.size) : Below p w w' := h.below (fun k hk => by omega) hp

set_option maxHeartbeats 4000000 in
theorem next_c (p : Nat) (a : Option Addr) (l : List Int) (c i n : Nat) (w : World) (ht : TapeAt w p a l c i) (hs : I.Sl w a l) (hn : 0 < n) (hn2 : n ≤ 100000) :
    Calls Tryd.prog 17 #[.pointer (some ⟨p, 0, none⟩), .int .i64 n] w fun e w' => ∃ v : Nat, v < n ∧ e = .returned (.int .i64 v) ∧ Took w p a l c w' := by
  have HT := hid ht
  obtain ⟨hlt, c0, c1, fz, hle⟩ := ht
  have hl := hs.len
  have b2 : decide ((n : Int) < 1) = false := by simp; omega
  by_cases hil : i < l.length
  · have b1 : decide (l.length ≤ i) = false := by simp; omega
    obtain ⟨b, o, rfl, hc⟩ := hs.at hil
    have ck := hc i hil
    have hb := band_le (gt l i) 16777215 (by decide)
    rw [show ((16777215 : Nat) : Int) = 16777215 from rfl] at hb
    obtain ⟨m, hm⟩ := Int.eq_ofNat_of_zero_le hb.1
    rw [hm] at hb
    have hx : ((m : Int)).tmod n = ((m % n : Nat) : Int) := rfl
    have Hx := hid hx
    have hmod := Nat.mod_lt m hn
    clear hx hc
    go_enter Tryd.func17, Tryd.ntmps17
    go_wp2
    go_quiet (fail)
    go_wp2
    go_quiet (fail)
    go_wp2
    go_ret
    refine ⟨m % n, hmod, ret_int ?_, ⟨i + 1, ?_⟩, ?_⟩
    · exact Hx.out
    · exact (HT.out.drewN _).stepped hil
    · exact Kpt.setCell (F := fun k => k = p) (p := ⟨p, 1, none⟩) (Kpt.of (bdrewN (Below.refl _ _) _)) rfl _
  · obtain rfl : i = l.length := by omega
    have b1 : decide (l.length ≤ l.length) = true := by simp
    go_enter Tryd.func17, Tryd.ntmps17
    go_wp2
    go_quiet (fail)
    go_wp2
    go_ret
    exact ⟨0, hn, rfl, ⟨_, HT.out.drewN _⟩, Kpt.of (bdrewN (Below.refl _ _) _)⟩

/-- a sign off the tape -/
def SignE (w : World) (p : Nat) (a : Option Addr) (l : List Int) (c : Nat) (e : Ending) (w' : World) : Prop :=
  ∃ r : Int, (-2147483648 ≤ r ∧ r ≤ 2147483647) ∧ e = .returned (.int .i32 r) ∧ Took w p a l c w'
theorem wrap32_rng (x : Int) : -2147483648 ≤ wrap32 x ∧ wrap32 x ≤ 2147483647 := by unfold wrap32; omega
theorem ix_sign (i : Int) (r : Int) (w : World) (h : (i = 0 ∧ r = 233) ∨ (i = 1 ∧ r = 215) ∨ (i = 2 ∧ r = 128512)) :
    (Instr.index 73 (.agg #[.int .i32 233, .int .i32 215, .int .i32 128512]) (.int .i64 i)).run Tryd.prog w = .ok (.int .i32 r) w := by
  rcases h with ⟨rfl, rfl⟩ | ⟨rfl, rfl⟩ | ⟨rfl, rfl⟩ <;> kernel_rfl
set_option maxHeartbeats 16000000 in
theorem sign_c (p : Nat) (a : Option Addr) (l : List Int) (c i : Nat) (w : World) (ht : TapeAt w p a l c i) (hs : I.Sl w a l) :
    Calls Tryd.prog 25 #[.pointer (some ⟨p, 0, none⟩)] w (SignE w p a l c) := by
  have HT := hid ht
  have HS := hid hs
  have j0 := fun w => ix_sign 0 233 w (by decide)
  have j1 := fun w => ix_sign 1 215 w (by decide)
  have j2 := fun w => ix_sign 2 128512 w (by decide)
  clear ht hs
  go_enter Tryd.func25, Tryd.ntmps25
  go_wp2_with fail
  refine (next_c p a l c i 25 w HT.out HS.out (by omega) (by omega)).mono ?_
  rintro e w1 ⟨v, hv, rfl, hk⟩
  have HK := hid hk
  clear hk
  rcases (show v = 0 ∨ v = 1 ∨ v = 2 ∨ v = 3 ∨ v = 4 ∨ v = 5 ∨ v = 6 ∨ v = 7 ∨ v = 8 ∨ v = 9 ∨ v = 10 ∨ v = 11 ∨ v = 12 ∨ v = 13 ∨ v = 14 ∨ v = 15 ∨ v = 16 ∨ v = 17 ∨ v = 18 ∨ v = 19 ∨ v = 20 ∨ v = 21 ∨ v = 22 ∨ v = 23 ∨ v = 24 by omega) with rfl | rfl | rfl | rfl | rfl | rfl | rfl | rfl | rfl | rfl | rfl | rfl | rfl | rfl | rfl | rfl | rfl | rfl | rfl | rfl | rfl | rfl | rfl | rfl | rfl
  all_goals go_wp2
  all_goals go_ret
  all_goals exact ⟨_, by first | exact wrap32_rng _ | exact ⟨by decide, by decide⟩, rfl, HK.out⟩

/-- a text off the tape: new, short -/
def TextE (w : World) (p : Nat) (m : Nat) (e : Ending) (w' : World) : Prop :=
  ∃ a c L, e = .returned (.slice a L.length c) ∧ L.length ≤ m ∧ Own w' (p + 1) a c L ∧ Below p w w'
set_option maxHeartbeats 4000000 in
theorem tpText_c (p : Nat) (a : Option Addr) (l : List Int) (c i m : Nat) (w : World) (ht : TapeAt w p a l c i) (S : Hid (∀ w', Below p w w' → I.Sl w' a l)) (hm : m ≤ 1000) :
    Calls Tryd.prog 15 #[.pointer (some ⟨p, 0, none⟩), .int .i64 m] w (TextE w p m) := by
  have hplt := ht.lt
  have HT := hid ht
  clear ht
  go_enter Tryd.func15, Tryd.ntmps15
  go_wp2_with fail
  rw [show (m : Int) + 1 = ((m + 1 : Nat) : Int) from by omega]
  refine (next_c p a l c i (m + 1) w HT.out (S.out _ (Below.refl _ _)) (by omega) (by omega)).mono ?_
  rintro e w1 ⟨n, hn, rfl, ⟨i1, ht1⟩, hk1⟩
  have hb1 := hk1.belowp (Nat.le_of_lt hplt)
  have HT1 := hid ht1
  clear ht1 hk1
  go_wp2_with fail
  go_loopw [5, 6] (fun ov nv wr => ∃ (r : Nat) (a3 : Option Addr) (c3 i3 : Nat) (L : List Int), L.length + r ≤ m ∧ nv = .int .i64 r ∧ ov = .slice a3 L.length c3 ∧ Hid (Own wr (p + 1) a3 c3 L) ∧ Hid (TapeAt wr p a l c i3) ∧ Below p w wr) (fun _ nv _ => (intOf nv).toNat)
  case atStart => exact ⟨n, none, 0, i1, [], by simp; omega, rfl, rfl, Own.nil _ _, HT1, hb1⟩
  case round =>
    obtain ⟨r, a3, c3, i3, L, hLr, rfl, rfl, Ho, HT3, hb⟩ := hrel
    have hplr := HT3.out.lt
    by_cases hr : 0 < r
    · have h1 : decide (0 < r) = true := by simpa using hr
      go_wp2_with fail
      refine (sign_c p a l c i3 wr HT3.out (S.out _ hb)).mono ?_
      rintro e w2 ⟨x, hx, rfl, ⟨i4, ht4⟩, hk4⟩
      have hb4 : Below p w w2 := hb.trans (hk4.belowp (Nat.le_of_lt hplr))
      have Ho4 : Hid (Own w2 (p + 1) a3 c3 L) := Ho.out.same fun ad ha hl => hk4.block _ hl (by
        rcases Ho.out.shape with ⟨h0, _⟩ | ⟨g, h0, hg, _⟩
        · rw [h0] at ha; cases ha
        · rw [h0] at ha; simp at ha; subst ha; simp; omega)
      have HT4 := hid ht4
      have hpl4 := ht4.lt
      clear ht4 hk4
      go_wp2_with (at_builtin; (refine wpL_appn rfl (.tmp 15) (.tmp 18) rfl (p + 1) a3 (some ⟨w2.heap.size, 0, none⟩) L.length 1 c3 1 L [x] rfl (by first | rfl | simp | omega) (Ho4.out.grow (by (repeat' (first | exact Below.refl _ _ | assumption | refine bdrewN ?_ _ | refine Below.drew ?_ | refine bal ?_ _ | refine bthen ?_ (by assumption))))) rfl (by first | rfl | simp | omega) (Sl.lit w2 [x] _ (by simp) (rng_one hx) _ rfl) (by simp; omega) (by simp; omega) ?_); intro a5 c5 w5 L5 Hl5 ho5 hb5 hk5 hA5; have HA5 := hid hA5; clear hA5; have Ho5 := hid ho5; clear ho5; have Hk5 := hid hk5; clear hk5; have hz5 := hb5.size)
      have hLl : L5.length = L.length + 1 := by rw [Hl5.out]; simp
      have hb6 : Below p w w5 := (hb4.alloc (by omega) _).trans (hb5.mono (by omega))
      have HT5 : Hid (TapeAt w5 p a l c i4) := (HT4.out.below (B := p + 1) ((Below.refl _ _).alloc (by omega) _) (by omega)).below hb5 (by omega)
      have hL5 : L5.length + (r - 1) ≤ m := by omega
      clear hLl
      go_round
      case rel => exact ⟨r - 1, a5, c5, i4, L5, hL5, by go_num, rfl, Ho5, HT5, hb6⟩
      case measure => simp [intOf]; omega
    · go_wp2_with fail
      go_ret
      exact ⟨a3, c3, L, rfl, by omega, Ho.out, hb⟩
end Go.Proofs.YtijhkpbnalnpbaaDoor
