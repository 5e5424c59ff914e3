/- TransformNone, TransformParts: texts off a tape are of signs; Run where each match is put as it is, where nothing is found; the walks. -/
import Derived.Test.YtkgkbgofphkmdaaGreatFsX
namespace Go.Proofs.YtkgkbgofphkmdaaGreat
open Go.RowKit FmM ReM

def SignV (w : World) (p : Nat) (a : Option Addr) (l : List Int) (c : Nat) (e : Ending) (w' : World) : Prop :=
  ∃ r : Int, (-2147483648 ≤ r ∧ r ≤ 2147483647) ∧ sgn r = true ∧ e = .returned (.int .i32 r) ∧ Took w p a l c w'
set_option maxHeartbeats 16000000 in
theorem signv_c (p : Nat) (a : Option Addr) (l : List Int) (c i : Nat) (w : World) (ht : TapeAt w p a l c i) (hs : I.Sl w a l) :
    Calls Tryz.prog 43 #[.pointer (some ⟨p, 0, none⟩)] w (SignV w p a l c) := by
  have HT := hid ht
  have HS := hid hs
  have j0 := fun w => ix_sign 0 233 w (by decide)
  have j1 := fun w => ix_sign 1 215 w (by decide)
  have j2 := fun w => ix_sign 2 128512 w (by decide)
  clear ht hs
  go_enter Tryz.func43, Tryz.ntmps43
  go_wp2_with fail
  refine (next_c p a l c i 25 w HT.out HS.out (by omega) (by omega)).mono ?_
  rintro e w1 ⟨v, hv, rfl, hk⟩
  have HK := hid hk
  clear hk
  rcases (show v = 0 ∨ v = 1 ∨ v = 2 ∨ v = 3 ∨ v = 4 ∨ v = 5 ∨ v = 6 ∨ v = 7 ∨ v = 8 ∨ v = 9 ∨ v = 10 ∨ v = 11 ∨ v = 12 ∨ v = 13 ∨ v = 14 ∨ v = 15 ∨ v = 16 ∨ v = 17 ∨ v = 18 ∨ v = 19 ∨ v = 20 ∨ v = 21 ∨ v = 22 ∨ v = 23 ∨ v = 24 by omega) with rfl | rfl | rfl | rfl | rfl | rfl | rfl | rfl | rfl | rfl | rfl | rfl | rfl | rfl | rfl | rfl | rfl | rfl | rfl | rfl | rfl | rfl | rfl | rfl | rfl
  all_goals go_wp2
  all_goals go_ret
  all_goals exact ⟨_, by first | exact wrap32_rng _ | exact ⟨by decide, by decide⟩, by first | decide | (simp [wrap32]; decide), rfl, HK.out⟩

theorem Kpt.onb {F : Nat → Prop} {w w2 w3 : World} (h : Kpt F w w2) (b : Below w.heap.size w2 w3) : Kpt F w w3 :=
  ⟨b.os.trans h.os, b.tape.trans h.tape, b.output.trans h.output, Nat.le_trans h.size b.size, fun k hk hn => (b.block k hk).trans (h.block k hk hn)⟩
def TextV (w : World) (p : Nat) (a : Option Addr) (l : List Int) (c m : Nat) (e : Ending) (w' : World) : Prop :=
  ∃ a2 c2 L, e = .returned (.slice a2 L.length c2) ∧ L.length ≤ m ∧ may L = true ∧ Own w' w.heap.size a2 c2 L ∧ (∃ i, TapeAt w' p a l c i) ∧ Kpt (fun k => k = p) w w'
set_option maxHeartbeats 4000000 in
theorem textv_c (p : Nat) (a : Option Addr) (l : List Int) (c i m : Nat) (w : World) (ht : TapeAt w p a l c i) (S : Hid (∀ w', Below p w w' → I.Sl w' a l)) (hm : m ≤ 1000) :
    Calls Tryz.prog 18 #[.pointer (some ⟨p, 0, none⟩), .int .i64 m] w (TextV w p a l c m) := by
  have hplt := ht.lt
  have HT := hid ht
  clear ht
  go_enter Tryz.func18, Tryz.ntmps18
  go_wp2_with fail
  rw [show (m : Int) + 1 = ((m + 1 : Nat) : Int) from by omega]
  refine (next_c p a l c i (m + 1) w HT.out (S.out _ (Below.refl _ _)) (by omega) (by omega)).mono ?_
  rintro e w1 ⟨n, hn, rfl, ⟨i1, ht1⟩, hk1⟩
  have HK1 := hid hk1
  have HT1 := hid ht1
  clear ht1 hk1
  go_wp2_with fail
  go_loopw [5, 6] (fun ov nv wr => ∃ (r : Nat) (a3 : Option Addr) (c3 i3 : Nat) (L : List Int), L.length + r ≤ m ∧ Hid (may L = true) ∧ nv = .int .i64 r ∧ ov = .slice a3 L.length c3 ∧ Hid (Own wr w.heap.size a3 c3 L) ∧ Hid (TapeAt wr p a l c i3) ∧ Hid (Kpt (fun k => k = p) w wr)) (fun _ nv _ => (intOf nv).toNat)
  case atStart => exact ⟨n, none, 0, i1, [], by simp; omega, hid rfl, rfl, rfl, Own.nil _ _, HT1, HK1⟩
  case round =>
    obtain ⟨r, a3, c3, i3, L, hLr, HMy, rfl, rfl, Ho, HT3, HK⟩ := hrel
    have hplr := HT3.out.lt
    by_cases hr : 0 < r
    · have h1 : decide (0 < r) = true := by simpa using hr
      go_wp2_with fail
      refine (signv_c p a l c i3 wr HT3.out (S.out _ (HK.out.belowp (Nat.le_of_lt hplt)))).mono ?_
      rintro e w2 ⟨x, hx, hsx, rfl, ⟨i4, ht4⟩, hk4⟩
      have HMx := hid (may_snoc HMy.out hsx)
      clear hsx
      have HK4 := hid (HK.out.tr hk4)
      have Ho4 : Hid (Own w2 w.heap.size a3 c3 L) := Ho.out.same fun ad ha hl => hk4.block _ hl (by
        rcases Ho.out.shape with ⟨h0, _⟩ | ⟨g, h0, hg, _⟩
        · rw [h0] at ha; cases ha
        · rw [h0] at ha; simp at ha; subst ha; simp; omega)
      have HT4 := hid ht4
      have hpl4 := ht4.lt
      have hz4 := HK4.out.size
      clear ht4 hk4
      go_wp2_with (at_builtin; (refine wpL_appn rfl (.tmp 15) (.tmp 18) rfl w.heap.size a3 (some ⟨w2.heap.size, 0, none⟩) L.length 1 c3 1 L [x] rfl (by first | rfl | simp | omega) (Ho4.out.grow (by (repeat' (first | exact Below.refl _ _ | assumption | refine bdrewN ?_ _ | refine Below.drew ?_ | refine bal ?_ _ | refine bthen ?_ (by assumption))))) rfl (by first | rfl | simp | omega) (Sl.lit w2 [x] _ (by simp) (rng_one hx) _ rfl) (by simp; omega) (by simp; omega) ?_); intro a5 c5 w5 L5 Hl5 ho5 hb5 hk5 hA5; have HA5 := hid hA5; clear hA5; have Ho5 := hid ho5; clear ho5; have Hk5 := hid hk5; clear hk5; have hz5 := hb5.size)
      have hLl : L5.length = L.length + 1 := by rw [Hl5.out]; simp
      have HK6 := hid ((HK4.out.alloc _).onb hb5)
      have HT5 : Hid (TapeAt w5 p a l c i4) := (HT4.out.below (B := p + 1) ((Below.refl _ _).alloc (by omega) _) (by omega)).below hb5 (by omega)
      have hL5 : L5.length + (r - 1) ≤ m := by omega
      clear hLl
      go_round
      case rel => exact ⟨r - 1, a5, c5, i4, L5, hL5, hid (by rw [Hl5.out]; exact HMx.out), by go_num, rfl, Ho5, HT5, HK6⟩
      case measure => simp [intOf]; omega
    · go_wp2_with fail
      go_ret
      exact ⟨a3, c3, L, rfl, by omega, HMy.out, Ho.out, ⟨_, HT3.out⟩, HK.out⟩
theorem tape_new {W V : World} {a0 : Option Addr} {l0 : List Int} {c0 : Nat} (hV : V = W.alloc (.cells #[.slice a0 l0.length c0, .int .i64 0] 34)) : TapeAt V W.heap.size a0 l0 c0 0 := by
  subst hV
  exact ⟨by simp, by rw [cell_alloc_new]; rfl, by rw [cell_alloc_new]; rfl, by simp, by omega⟩
theorem ScL.kp1 {w w' : World} {B p : Nat} {a : Option Addr} {c : Nat} {L : List Fo} {n : Nat} (h : ScL w B a c L n) (k : Kpt (fun j => j = p) w w') (hp : p < B) : ScL w' B a c L n := by
  refine ⟨ROwn.same h.own fun ad ha hl => k.block _ hl ?_, fun m hm => ⟨(h.txt m hm).1.same fun ad ha hl => k.block _ hl ?_, (h.txt m hm).2.same fun ad ha hl => k.block _ hl ?_⟩, h.sep, h.may, h.len⟩
  · rcases h.own.shape with ⟨h0, _⟩ | ⟨g, h0, hg, _⟩
    · rw [h0] at ha; cases ha
    · rw [h0] at ha; simp at ha; subst ha; show g ≠ p; omega
  · have := ((h.txt m hm).1.lt ad ha).1; omega
  · have := ((h.txt m hm).2.lt ad ha).1; omega
def MadeV (w : World) (p : Nat) (a : Option Addr) (l : List Int) (c : Nat) (e' : Ending) (w' : World) : Prop :=
  ∃ pa pc P fa fc L, e' = .returned (.tuple #[.slice pa P.length pc, .slice fa L.length fc]) ∧ Own w' w.heap.size pa pc P ∧ (∀ w2, Kpt (fun k => k = p) w' w2 → Fml w2 fa fc L) ∧ (∃ i, TapeAt w' p a l c i) ∧ Kpt (fun k => k = p) w w'
set_option maxRecDepth 20000 in
set_option maxHeartbeats 16000000 in
theorem madev_c (p : Nat) (a : Option Addr) (l : List Int) (c : Nat) (w : World) (ht : ∃ i, TapeAt w p a l c i) (hS : ∀ w', Below p w w' → I.Sl w' a l) :
    Calls Tryz.prog 17 #[.pointer (some ⟨p, 0, none⟩)] w (MadeV w p a l c) := by
  have C := hid (pattern_all p a l c 2 (by omega) w ht hS)
  have hplt : p < w.heap.size := by obtain ⟨i, t⟩ := ht; exact t.lt
  have HS := hid hS
  clear ht hS
  go_enter Tryz.func17, Tryz.ntmps17
  go_wp2_with fail
  refine C.out.mono ?_
  rintro _ w1 ⟨pa, pc, P, rfl, ho, -, hpl, ht1, hk1⟩
  have HO := hid ho
  have K1 := hid hk1
  have hz1 := hk1.size
  have FC := hid (format_c p a l c w1 ht1 (fun w' hb => HS.out w' ((K1.out.belowp (by omega)).trans hb)))
  clear ho ht1 hk1 C hpl
  go_wp2_with fail
  refine FC.out.mono ?_
  rintro _ w2 ⟨a2, c2, F, rfl, ho2, hl2, ht2, hk2⟩
  have O2 := hid ho2
  have K2 := hid (K1.out.tr hk2)
  have T2 := hid ht2
  have HO2 := hid (HO.out.kr hk2 hplt)
  have hz2 := hk2.size
  have hL2 := hid hl2
  clear ho2 ht2 hk2 FC hl2
  go_wp2_with (at_builtin; (refine wpL_appn rfl (.tmp 12) (.tmp 13) rfl w1.heap.size a2 (some ⟨w2.heap.size, 0, none⟩) F.length 1 c2 1 F [47] rfl (by first | rfl | simp | omega) (O2.out.grow (by (repeat' (first | exact Below.refl _ _ | assumption | refine bdrewN ?_ _ | refine Below.drew ?_ | refine bal ?_ _ | refine bthen ?_ (by assumption))))) rfl (by first | rfl | simp | omega) (Sl.lit' _ [47] _ _ (by simp) (by simp) (by simp [rng]) _ rfl) (by have := hL2.out; simp; omega) (by simp; omega) ?_); intro a5 c5 w5 L5 Hl5 ho5 hb5 hk5 hA5; have HA5 := hid hA5; clear hA5; have Ho5 := hid ho5; clear ho5; have Hk5 := hid hk5; clear hk5; have hz5 := hb5.size)
  have B5 : Hid (Below w1.heap.size w2 w5) := hid (((Below.refl w1.heap.size w2).alloc hz2 _).trans hb5)
  have l5 : L5.length ≤ 61 := by rw [Hl5.out, List.length_append]; have := hL2.out; simp; omega
  have SC := hid (fscan_c a5 c5 L5 w5 Ho5.out.sl (by omega))
  have HO5 := hid (HO2.out.same fun ad ha hl => B5.out.block _ (HO.out.lt ad ha).2)
  have T5 := hid (show ∃ i, TapeAt w5 p a l c i from by obtain ⟨i, t⟩ := T2.out; exact ⟨i, t.below B5.out (by omega)⟩)
  have K5 : Hid (Kpt (fun k => k = p) w w5) := hid ⟨B5.out.os.trans K2.out.os, B5.out.tape.trans K2.out.tape, B5.out.output.trans K2.out.output, Nat.le_trans K2.out.size B5.out.size, fun k hk hn => (B5.out.block k (by omega)).trans (K2.out.block k hk hn)⟩
  refine SC.out.mono ?_
  rintro _ w6 ⟨af, cf, L6, on, b, rfl, hsc, hl6, b6⟩
  have HF6 := hid (show ∀ w2, Kpt (fun k => k = p) w6 w2 → Fml w2 af cf L6 from fun w2 k => (hsc.kp1 k (by have := K5.out.size; omega)).fml (by omega) (by omega))
  have HO6 := hid (HO5.out.grow b6)
  have T6 := hid (show ∃ i, TapeAt w6 p a l c i from by obtain ⟨i, t⟩ := T5.out; exact ⟨i, t.below b6 (by have := K5.out.size; omega)⟩)
  have K6 := hid (K5.out.onb' b6)
  clear hsc b6 SC
  go_wp2_with fail
  go_ret2
  exact ⟨pa, pc, P, af, cf, L6, rfl, HO6.out, HF6.out, T6.out, K6.out⟩
def wholeF : Fo := ⟨1, 0, 0, none, [], 0, none, [], 0⟩
theorem wholeF_ok (w : World) : FoOk w (fun _ => False) wholeF := ⟨fun _ _ => Sl.nil _ _, by decide, fun _ _ => Sl.nil _ _, by decide, by unfold ir wholeF; decide, by unfold ir wholeF; decide, by unfold ir wholeF; decide⟩
theorem wholeF_sl (w : World) : FSl (w.alloc (.cells #[.int .i64 1, .int .i64 0, .int .i64 0, .slice none 0 0, .slice none 0 0] 51)) (some ⟨w.heap.size, 0, none⟩) [wholeF] := RSl.lit w wholeF _ _ rfl _ rfl (by decide)
/-- Run tells the text as it is -/
def StayE (w : World) (s : List Int) (e' : Ending) (w' : World) : Prop := Below w.heap.size w w' ∧ ∃ a c, e' = runE (.slice a s.length c) 0 0 ∧ Own w' w.heap.size a c s
set_option maxRecDepth 20000 in
theorem runwhole_c (sa : Option Addr) (sc : Nat) (s : List Int) (pa : Option Addr) (pc : Nat) (p : List Int) (fa : Option Addr) (all fold : Bool) (w : World) (hs : Sl w sa s) (hsc : s.length ≤ sc) (hp : Sl w pa p) (hpc : p.length ≤ pc) (hM : FSl w fa [wholeF]) (hl : s.length ≤ 20) (hm : may s = true) {P : List Ins} (hc : (P, (0 : Int), (0 : Int)) = compW p) :
    Calls Tryz.prog 20 #[.slice sa s.length sc, .slice pa p.length pc, .slice fa 1 1, .bool all, .bool fold] w (StayE w s) := by
  refine (run_c sa sc s pa pc p fa 1 [wholeF] all fold 1000 w hs hsc hp hpc hM (fun m hm => by rw [List.mem_singleton.1 hm]; exact wholeF_ok w) (fun m hm => by rw [List.mem_singleton.1 hm]; decide) (by decide) (by decide)).mono ?_
  rintro e' w' ⟨hb, ⟨h, -⟩ | ⟨-, ⟨e, f, h1, h2, -⟩ | ⟨Q, G, F, hQ, hM, hG9, hG, hF, hr⟩⟩⟩
  · exact absurd ⟨by omega, hm, by decide⟩ h
  · rw [← hc] at h1; simp only [Prod.mk.injEq] at h1; exact absurd h1.2.1.symm h2
  · obtain ⟨f, hf⟩ := comp_lb hQ
    have hok := FndR.ok (s := s) (fold := fold) (all := all) hM hG9 hf hF
    have hX : repl s (fps [wholeF]) 0 F = s := repl_whole hok.1 rfl
    rw [hX] at hr
    rcases hr with ⟨h, -⟩ | ⟨-, a, c, h1, h2⟩
    · omega
    · exact ⟨hb, a, c, h1, h2⟩
set_option maxRecDepth 20000 in
theorem runnone_c (sa : Option Addr) (sc : Nat) (s : List Int) (pa : Option Addr) (pc : Nat) (p : List Int) (fa : Option Addr) (fc : Nat) (L : List Fo) (all fold : Bool) (w : World) (hs : Sl w sa s) (hsc : s.length ≤ sc) (hp : Sl w pa p) (hpc : p.length ≤ pc) (hM : Fml w fa fc L) (hl : s.length ≤ 20) (hm : may s = true) {P : List Ins} (hc : (P, (0 : Int), (0 : Int)) = compW p)
    {G : Nat} (hG0 : G = (gsL (parseW p).1).length) (hno : FindR (mch P s fold) (List.replicate (2 * G + 2) (-1)) 0 none) :
    Calls Tryz.prog 20 #[.slice sa s.length sc, .slice pa p.length pc, .slice fa L.length fc, .bool all, .bool fold] w (StayE w s) := by
  refine (run_c sa sc s pa pc p fa fc L all fold 1000 w hs hsc hp hpc hM.sl hM.fos (fun m hm => by have := hM.tx m hm; omega) (by decide) (by have := Nat.mul_le_mul_right 1000 hM.len; omega)).mono ?_
  rintro e' w' ⟨hb, ⟨h, -⟩ | ⟨-, ⟨e, f, h1, h2, -⟩ | ⟨Q, G', F, hQ, hM', hG9, hG, hF, hr⟩⟩⟩
  · exact absurd ⟨by omega, hm, hM.may⟩ h
  · rw [← hc] at h1; simp only [Prod.mk.injEq] at h1; exact absurd h1.2.1.symm h2
  · obtain rfl : Q = P := by rw [← hc] at hQ; simpa using hQ
    obtain rfl : G' = G := by rw [hG, hG0]
    have hF0 : F = [] := by
      unfold FndR at hF
      split at hF
      · cases hF with
        | done _ => rfl
        | more h _ => have := FindR.one h hno; cases this
      · rcases hF with ⟨-, h⟩ | ⟨r, h, -⟩
        · exact h
        · have := FindR.one h hno; cases this
    subst hF0
    have hX : repl s (fps L) 0 [] = s := rfl
    rw [hX] at hr
    rcases hr with ⟨h, -⟩ | ⟨-, a, c, h1, h2⟩
    · omega
    · exact ⟨hb, a, c, h1, h2⟩
set_option maxRecDepth 20000 in
set_option maxHeartbeats 60000000 in
theorem none_w (a0 : Option Addr) (c0 : Nat) (l0 : List Int) (all fold : Bool) (W : World) (h0 : I.Sl W a0 l0) :
    Calls Tryz.prog 5 #[.slice a0 l0.length c0, .bool all, .bool fold] W fun e w' => e = .returned (.bool true) ∧ Below W.heap.size W w' := by
  obtain ⟨V, hV⟩ : ∃ V, V = W.alloc (.cells #[.slice a0 l0.length c0, .int .i64 0] 34) := ⟨_, rfl⟩
  have tV := tape_new hV
  have bV : Below W.heap.size W V := by subst hV; (repeat' (first | exact Below.refl _ _ | assumption | refine bdrewN ?_ _ | refine Below.drew ?_ | refine bal ?_ _ | refine bthen ?_ (by assumption)))
  have zV : V.heap.size = W.heap.size + 1 := by subst hV; simp
  have SV : ∀ w', Below W.heap.size V w' → I.Sl w' a0 l0 := fun w' hb => h0.bel (bV.trans hb)
  have HSV := hid SV
  have C := hid (madev_c W.heap.size a0 l0 c0 V ⟨_, tV⟩ SV)
  have BV := hid bV
  clear tV SV h0 bV
  go_enter Tryz.func5, Tryz.ntmps5
  go_wp2_with fail
  rw [← hV]; clear hV
  refine C.out.mono ?_
  rintro _ w1 ⟨pa, pc, p, fa, fc, L, rfl, ho, hf, ht, hk⟩
  have BV1 := hid (hk.belowp (by omega))
  have z1 := hk.size
  have O1 := hid ho
  have F1 := hid hf
  obtain ⟨i1, ht1⟩ := ht
  have TC := hid (textv_c W.heap.size a0 l0 c0 i1 20 w1 ht1 (hid fun w' hb => HSV.out w' (BV1.out.trans hb)) (by omega))
  clear ho hf hk ht1 C
  go_wp2_with fail
  refine TC.out.mono ?_
  rintro _ w2 ⟨sa, sc, s, rfl, hsl, hsm, hso, -, hk⟩
  have BV2 := hid (BV1.out.trans (hk.belowp (by omega)))
  have B2 := hid (BV.out.trans BV2.out)
  have z2 := hk.size
  have S2 := hid hso
  have HSL := hid hsl
  have HSM := hid hsm
  have O2 := hid (O1.out.same fun ad ha hl => hk.block _ hl (by have := (O1.out.lt ad ha).1; omega))
  have F2 : Hid (Fml w2 fa fc L) := hid (F1.out w2 hk)
  have hpc : p.length ≤ pc := Own.cap O2.out
  have hscap : s.length ≤ sc := Own.cap S2.out
  have HPC := hid hpc
  have HSC := hid hscap
  have NC := hid (new_c pa pc p fold w2 O2.out.sl hpc)
  clear hso hk hsl hsm TC O1 F1 BV1 hpc hscap
  go_wp2_with fail
  refine NC.out.mono ?_
  rintro _ w3 ⟨b3, hor⟩
  have B3 := hid (B2.out.trans (b3.mono B2.out.size))
  have O3 := hid (O2.out.sl.bel b3)
  have F3 := hid (F2.out.bel b3)
  have S3 := hid (S2.out.sl.bel b3)
  have z3 := B3.out.size
  clear b3 NC B2 O2 F2 S2
  rcases hor with ⟨e, f, -, he, rfl⟩ | ⟨M2, qa, qc, L2, G, hN, rfl⟩
  · obtain ⟨V4, hV4⟩ : ∃ V4, V4 = w3.alloc (.cells #[.int .i64 e, .int .i64 f] 47) := ⟨_, rfl⟩
    have F4 : FtC V4 w3.heap.size e f := by rw [hV4]; exact FtC.new _ _ _ _ _ rfl
    have b4 : Below w3.heap.size w3 V4 := by rw [hV4]; (repeat' (first | exact Below.refl _ _ | assumption | refine bdrewN ?_ _ | refine Below.drew ?_ | refine bal ?_ _ | refine bthen ?_ (by assumption)))
    have B4 := hid (B3.out.trans (b4.mono z3))
    have c0' := F4.c0
    have e1 : (e != 0) = true := by simpa using he
    have KC := hid (known12_c V4)
    clear F4 b4 he
    go_upto_region 5 with fail
    rw [← hV4]; clear hV4
    go_wp2_with fail
    refine KC.out.mono ?_
    rintro _ w5 ⟨rfl, b5⟩
    have B5 := hid (B4.out.trans (b5.mono B4.out.size))
    clear b5
    go_wp2_with fail
    go_ret
    exact ⟨rfl, B5.out⟩
  · have HN := hid hN
    obtain ⟨V4, hV4⟩ : ∃ V4, V4 = w3.alloc (.cells #[.int .i64 0, .int .i64 0] 47) := ⟨_, rfl⟩
    have F4 : FtC V4 w3.heap.size 0 0 := by rw [hV4]; exact FtC.new _ _ _ _ _ rfl
    have b4 : Below w3.heap.size w3 V4 := by rw [hV4]; (repeat' (first | exact Below.refl _ _ | assumption | refine bdrewN ?_ _ | refine Below.drew ?_ | refine bal ?_ _ | refine bthen ?_ (by assumption)))
    have z4 : V4.heap.size = w3.heap.size + 1 := by rw [hV4]; simp
    obtain ⟨V5, hV5⟩ : ∃ V5, V5 = V4.alloc (.cells #[.int .i64 1, .int .i64 0, .int .i64 0, .slice none 0 0, .slice none 0 0] 51) := ⟨_, rfl⟩
    have b5 : Below V4.heap.size V4 V5 := by rw [hV5]; (repeat' (first | exact Below.refl _ _ | assumption | refine bdrewN ?_ _ | refine Below.drew ?_ | refine bal ?_ _ | refine bthen ?_ (by assumption)))
    have m5 : FSl V5 (some ⟨w3.heap.size + 1, 0, none⟩) [wholeF] := by rw [hV5, ← z4]; exact wholeF_sl V4
    have b45 : Below w3.heap.size w3 V5 := b4.trans (b5.mono b4.size)
    have B5 := hid (B3.out.trans (b45.mono z3))
    have b35 := hid b45
    have c0' := F4.c0
    have RC := hid (runwhole_c sa sc s pa pc p (some ⟨w3.heap.size + 1, 0, none⟩) all fold V5 (S3.out.bel b45) HSC.out (O3.out.bel b45) HPC.out m5 HSL.out HSM.out HN.out.prog)
    clear F4 b4 b5 m5 b45
    go_upto_region 5 with fail
    rw [← hV4]
    go_wp2_with fail
    rw [← hV4, ← hV5]
    clear hV4 hV5 c0'
    refine RC.out.mono ?_
    rintro _ w6 ⟨b6, a6, c6, rfl, o6⟩
    have b36 := hid (b35.out.trans (b6.mono b35.out.size))
    have O6 := hid o6
    obtain ⟨V7, hV7⟩ : ∃ V7, V7 = w6.alloc (.cells #[.int .i64 0, .int .i64 0] 47) := ⟨_, rfl⟩
    have F7 : FtC V7 w6.heap.size 0 0 := by rw [hV7]; exact FtC.new _ _ _ _ _ rfl
    have b7 : Below w6.heap.size w6 V7 := by rw [hV7]; (repeat' (first | exact Below.refl _ _ | assumption | refine bdrewN ?_ _ | refine Below.drew ?_ | refine bal ?_ _ | refine bthen ?_ (by assumption)))
    have b37 := hid (b36.out.trans (b7.mono b36.out.size))
    have c0' := F7.c0
    have SC := hid (rsame_c a6 sa c6 sc s s V7 (O6.out.sl.bel b7) (S3.out.bel b37.out))
    clear F7 b7 b6 o6 RC
    unfold runE
    go_upto_region 9 with fail
    rw [← hV7]; clear hV7
    go_wp2_with fail
    refine SC.out.mono ?_
    rintro _ _ ⟨rfl, n8, rfl⟩
    rw [eqM_self]
    have b38 : Hid (Below w3.heap.size w3 (V7.drewN n8)) := hid (bdrewN b37.out _)
    clear SC c0'
    generalize V7.drewN n8 = w8 at *
    have FX : Hid (FxOk w8 ⟨M2, qa, qc, L2, G, fold, sa, sc, s⟩) := hid (HN.out.fx b38.out (S3.out.bel b38.out) HSC.out (by have := HSL.out; omega))
    have FC := hid (find_c w8 ⟨M2, qa, qc, L2, G, fold, sa, sc, s⟩ FX.out HN.out.made.ok 0 (Nat.zero_le _))
    dsimp only at FC
    go_wp2_with fail
    refine FC.out.mono ?_
    rintro _ w9 ⟨b9, hor⟩
    have b39 := hid (b38.out.trans (b9.mono b38.out.size))
    have B9 := hid (B3.out.trans (b39.out.mono z3))
    clear b9 FC
    rcases hor with ⟨hno, rfl⟩ | ⟨r, g, c, hyes, rfl, -⟩
    · have RN := hid (runnone_c sa sc s pa pc p fa fc L all fold w9 (S3.out.bel b39.out) HSC.out (O3.out.bel b39.out) HPC.out (F3.out.bel b39.out) HSL.out HSM.out HN.out.prog (G := G) HN.out.grp hno)
      go_wp2_with fail
      refine RN.out.mono ?_
      rintro _ w10 ⟨b10, a10, c10, rfl, o10⟩
      have b310 := hid (b39.out.trans (b10.mono b39.out.size))
      have O10 := hid o10
      obtain ⟨V11, hV11⟩ : ∃ V11, V11 = w10.alloc (.cells #[.int .i64 0, .int .i64 0] 47) := ⟨_, rfl⟩
      have F11 : FtC V11 w10.heap.size 0 0 := by rw [hV11]; exact FtC.new _ _ _ _ _ rfl
      have b11 : Below w10.heap.size w10 V11 := by rw [hV11]; (repeat' (first | exact Below.refl _ _ | assumption | refine bdrewN ?_ _ | refine Below.drew ?_ | refine bal ?_ _ | refine bthen ?_ (by assumption)))
      have b311 := hid (b310.out.trans (b11.mono b310.out.size))
      have c0' := F11.c0
      have SC := hid (rsame_c a10 sa c10 sc s s V11 (O10.out.sl.bel b11) (S3.out.bel b311.out))
      clear F11 b11 b10 o10 RN
      unfold runE
      go_upto_region 14 with fail
      rw [← hV11]; clear hV11
      go_wp2_with fail
      refine SC.out.mono ?_
      rintro _ _ ⟨rfl, n12, rfl⟩
      rw [eqM_self]
      have b312 : Hid (Below w3.heap.size w3 (V11.drewN n12)) := hid (bdrewN b311.out _)
      have B12 := hid (B3.out.trans (b312.out.mono z3))
      clear SC c0'
      go_wp2_with fail
      refine (known12_c _).mono ?_
      rintro _ w13 ⟨rfl, b13⟩
      have B13 := hid (B12.out.trans (b13.mono B12.out.size))
      clear b13
      go_wp2_with fail
      go_ret
      exact ⟨rfl, B13.out⟩
    · go_wp2_with fail
      refine (known12_c w9).mono ?_
      rintro _ w13 ⟨rfl, b13⟩
      have B13 := hid (B9.out.trans (b13.mono B9.out.size))
      clear b13
      go_wp2_with fail
      go_ret
      exact ⟨rfl, B13.out⟩
end Go.Proofs.YtkgkbgofphkmdaaGreat
