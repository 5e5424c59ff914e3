/- The tape once more: what it gives at its end. -/
import Derived.Test.YtijhkpbnalnpbaaDoorPla
namespace Go.Proofs.YtijhkpbnalnpbaaDoor
open Go.RowKit

set_option maxHeartbeats 4000000 in
theorem next16_c (p : Nat) (a : Option Addr) (l : List Int) (c i n : Nat) (w : World) (ht : TapeAt w p a l c i) (hs : I.Sl w a l) (hn : 0 < n) (hn2 : n ≤ 16777216) :
    Calls Tryd.prog 17 #[.pointer (some ⟨p, 0, none⟩), .int .i64 n] w fun e w' => ∃ v : Nat, v < n ∧ (l = [] → v = 0) ∧ e = .returned (.int .i64 v) ∧ Took w p a l c w' := by
  have HT := hid ht
  obtain ⟨hlt, c0, c1, fz, hle⟩ := ht
  have hl := hs.len
  have b2 : decide ((n : Int) < 1) = false := by simp; omega
  by_cases hil : i < l.length
  · have b1 : decide (l.length ≤ i) = false := by simp; omega
    obtain ⟨b, o, rfl, hc⟩ := hs.at hil
    have ck := hc i hil
    have hb := band_le (gt l i) 16777215 (by decide)
    rw [show ((16777215 : Nat) : Int) = 16777215 from rfl] at hb
    obtain ⟨m, hm⟩ := Int.eq_ofNat_of_zero_le hb.1
    rw [hm] at hb
    have hx : ((m : Int)).tmod n = ((m % n : Nat) : Int) := rfl
    have Hx := hid hx
    have hmod := Nat.mod_lt m hn
    clear hx hc
    go_enter Tryd.func17, Tryd.ntmps17
    go_wp2
    go_quiet (fail)
    go_wp2
    go_quiet (fail)
    go_wp2
    go_ret
    refine ⟨m % n, hmod, fun h => by simp [h] at hil, ret_int ?_, ⟨i + 1, ?_⟩, ?_⟩
    · exact Hx.out
    · exact (HT.out.drewN _).stepped hil
    · exact Kpt.setCell (F := fun k => k = p) (p := ⟨p, 1, none⟩) (Kpt.of (bdrewN (Below.refl _ _) _)) rfl _
  · obtain rfl : i = l.length := by omega
    have b1 : decide (l.length ≤ l.length) = true := by simp
    go_enter Tryd.func17, Tryd.ntmps17
    go_wp2
    go_quiet (fail)
    go_wp2
    go_ret
    exact ⟨0, hn, fun _ => rfl, rfl, ⟨_, HT.out.drewN _⟩, Kpt.of (bdrewN (Below.refl _ _) _)⟩

theorem Kpt.bl {F : Nat → Prop} {w V w' : World} (h : Kpt F w V) (hb : Below w.heap.size V w') : Kpt F w w' :=
  ⟨hb.os.trans h.os, hb.tape.trans h.tape, hb.output.trans h.output, Nat.le_trans h.size hb.size, fun k hk hn => (hb.block k hk).trans (h.block k hk hn)⟩
/-- a text off the tape: new, short -/
def Text6E (w : World) (p : Nat) (a : Option Addr) (l : List Int) (c : Nat) (m : Nat) (e : Ending) (w' : World) : Prop :=
  ∃ a2 c2 L, e = .returned (.slice a2 L.length c2) ∧ L.length ≤ m ∧ (l = [] → L = []) ∧ Own w' w.heap.size a2 c2 L ∧ Kpt (fun k => k = p) w w' ∧ ∃ i, TapeAt w' p a l c i
set_option maxHeartbeats 4000000 in
theorem text16_c (p : Nat) (a : Option Addr) (l : List Int) (c i m : Nat) (w : World) (ht : TapeAt w p a l c i) (S : Hid (∀ w', Below p w w' → I.Sl w' a l)) (hm : m ≤ 1000) :
    Calls Tryd.prog 15 #[.pointer (some ⟨p, 0, none⟩), .int .i64 m] w (Text6E w p a l c m) := by
  have hplt := ht.lt
  have HT := hid ht
  clear ht
  go_enter Tryd.func15, Tryd.ntmps15
  go_wp2_with fail
  rw [show (m : Int) + 1 = ((m + 1 : Nat) : Int) from by omega]
  refine (next16_c p a l c i (m + 1) w HT.out (S.out _ (Below.refl _ _)) (by omega) (by omega)).mono ?_
  rintro e w1 ⟨n, hn, hn0, rfl, ⟨i1, ht1⟩, hk1⟩
  have HK1 := hid hk1
  have HT1 := hid ht1
  clear ht1 hk1
  go_wp2_with fail
  go_loopw [5, 6] (fun ov nv wr => ∃ (r : Nat) (a3 : Option Addr) (c3 i3 : Nat) (L : List Int), L.length + r ≤ m ∧ Hid (l = [] → L = [] ∧ r = 0) ∧ nv = .int .i64 r ∧ ov = .slice a3 L.length c3 ∧ Hid (Own wr w.heap.size a3 c3 L) ∧ Hid (TapeAt wr p a l c i3) ∧ Hid (Kpt (fun k => k = p) w wr)) (fun _ nv _ => (intOf nv).toNat)
  case atStart => exact ⟨n, none, 0, i1, [], by simp; omega, hid (fun h => ⟨rfl, hn0 h⟩), rfl, rfl, Own.nil _ _, HT1, HK1⟩
  case round =>
    obtain ⟨r, a3, c3, i3, L, hLr, hl0, rfl, rfl, Ho, HT3, hk⟩ := hrel
    have hb := hk.out.belowp (Nat.le_of_lt hplt)
    have hplr := HT3.out.lt
    by_cases hr : 0 < r
    · have h1 : decide (0 < r) = true := by simpa using hr
      go_wp2_with fail
      refine (sign_c p a l c i3 wr HT3.out (S.out _ hb)).mono ?_
      rintro e w2 ⟨x, hx, rfl, ⟨i4, ht4⟩, hk4⟩
      have hb4 : Below p w w2 := hb.trans (hk4.belowp (Nat.le_of_lt hplr))
      have hz4 := hk.out.size
      have hz5 := hk4.size
      have HK4 := hid (hk.out.tr hk4)
      have Ho4 : Hid (Own w2 w.heap.size a3 c3 L) := Ho.out.same fun ad ha hl => hk4.block _ hl (by
        rcases Ho.out.shape with ⟨h0, _⟩ | ⟨g, h0, hg, _⟩
        · rw [h0] at ha; cases ha
        · rw [h0] at ha; simp at ha; subst ha; simp; omega)
      have HT4 := hid ht4
      have hpl4 := ht4.lt
      clear ht4 hk4
      go_wp2_with (at_builtin; (refine wpL_appn rfl (.tmp 15) (.tmp 18) rfl w.heap.size a3 (some ⟨w2.heap.size, 0, none⟩) L.length 1 c3 1 L [x] rfl (by first | rfl | simp | omega) (Ho4.out.grow (by (repeat' (first | exact Below.refl _ _ | assumption | refine bdrewN ?_ _ | refine Below.drew ?_ | refine bal ?_ _ | refine bthen ?_ (by assumption))))) rfl (by first | rfl | simp | omega) (Sl.lit w2 [x] _ (by simp) (rng_one hx) _ rfl) (by simp; omega) (by simp; omega) ?_); intro a5 c5 w5 L5 Hl5 ho5 hb5 hk5 hA5; have HA5 := hid hA5; clear hA5; have Ho5 := hid ho5; clear ho5; have Hk5 := hid hk5; clear hk5; have hz5 := hb5.size)
      have hLl : L5.length = L.length + 1 := by rw [Hl5.out]; simp
      have hk6 := hid ((HK4.out.alloc _).bl hb5)
      have HT5 : Hid (TapeAt w5 p a l c i4) := (HT4.out.below (B := p + 1) ((Below.refl _ _).alloc (by omega) _) (by omega)).below hb5 (by omega)
      have hL5 : L5.length + (r - 1) ≤ m := by omega
      clear hLl
      go_round
      case rel => exact ⟨r - 1, a5, c5, i4, L5, hL5, hid (fun h => absurd (hl0.out h).2 (by omega)), by go_num, rfl, Ho5, HT5, hk6⟩
      case measure => simp [intOf]; omega
    · go_wp2_with fail
      go_ret
      exact ⟨a3, c3, L, rfl, by omega, fun h => (hl0.out h).1, Ho.out, hk.out, _, HT3.out⟩
/-- a text off the tape: one of some, new -/
def One6E (w : World) (p : Nat) (a : Option Addr) (l : List Int) (c : Nat) (ss : List ByteArray) (e' : Ending) (w' : World) : Prop :=
  ∃ s a2 c2 L, s ∈ ss ∧ (l = [] → ss[0]? = some s) ∧ e' = .returned (.slice a2 L.length c2) ∧ Hid (L = strL s) ∧ Own w' w.heap.size a2 c2 L ∧ (∃ i, TapeAt w' p a l c i) ∧ Kpt (fun k => k = p) w w'
set_option maxHeartbeats 4000000 in
theorem one16_c (ss : List ByteArray) (b n m : Nat) (p : Nat) (a : Option Addr) (l : List Int) (c i : Nat) (w : World) (ht : TapeAt w p a l c i) (hs : I.Sl w a l) (hn : n = ss.length) (h0 : 0 < ss.length) (hl : ss.length ≤ 1000) (hss : ∀ s, s ∈ ss → s.size ≤ 1000) (hb : b ≠ p) (hc : StrAt w b ss) :
    Calls Tryd.prog 16 #[.pointer (some ⟨p, 0, none⟩), .slice (some ⟨b, 0, none⟩) n m] w (One6E w p a l c ss) := by
  subst hn
  have C := hid (next16_c p a l c i ss.length w ht hs h0 (by omega))
  have hplt := ht.lt
  have HC := hid hc
  have Hss := hid hss
  clear ht hs hc hss
  go_enter Tryd.func16, Tryd.ntmps16
  go_wp2_with fail
  refine C.out.mono ?_
  rintro _ w1 ⟨v, hv, hv0, rfl, ht1, hk1⟩
  have ck := hk1.cell (HC.out v hv) hb
  have hsz := Hss.out _ (List.getElem_mem hv)
  have H0 : Hid (l = [] → ss[0]? = some ss[v]) := hid (fun h => by have := hv0 h; subst this; exact List.getElem?_eq_getElem _)
  have Hmem := hid (List.getElem_mem hv)
  obtain ⟨s, hse⟩ : ∃ s, s = ss[v] := ⟨_, rfl⟩
  rw [← hse] at ck hsz Hmem H0
  have K1 := hid hk1
  have T1 := hid ht1
  have hz := hk1.size
  clear hk1 ht1 C HC Hss hse
  go_wp2_with fail
  refine (plain_c s w1 hsz).mono ?_
  rintro _ w2 ⟨a2, c2, L, rfl, hL, ho, hb2⟩
  have Ho := hid ho
  have Hb := hid hb2
  clear ho hb2
  go_wp2_with fail
  go_ret
  obtain ⟨i1, t1⟩ := T1.out
  exact ⟨s, a2, c2, L, Hmem.out, H0.out, rfl, hL, Ho.out.base_le hz, ⟨i1, t1.below Hb.out (by omega)⟩, K1.out.tr (Kpt.of Hb.out)⟩
end Go.Proofs.YtijhkpbnalnpbaaDoor
