/- TransformNone, TransformParts: texts off a tape are of signs; Run where each match is put as it is, where nothing is found; the walks. TransformParts: the document's Splice; Run where only the first match is replaced; the groups of a match. TransformParts: the walk. -/
import Derived.Test.YtefgjicegbhcaaaGreatFsX
import Derived.Deep.RegionHeld3
import Derived.Test.YtefgjicegbhcaaaGreatKeepR
import Derived.Deep.QuietTactic
import Derived.BigQuiet
namespace Go.Proofs.YtefgjicegbhcaaaGreat
open Go.RowKit FmM ReM

def SignV (w : World) (p : Nat) (a : Option Addr) (l : List Int) (c : Nat) (e : Ending) (w' : World) : Prop :=
  ∃ r : Int, (-2147483648 ≤ r ∧ r ≤ 2147483647) ∧ sgn r = true ∧ e = .returned (.int .i32 r) ∧ Took w p a l c w'
set_option maxHeartbeats 16000000 in
theorem signv_c (p : Nat) (a : Option Addr) (l : List Int) (c i : Nat) (w : World) (ht : TapeAt w p a l c i) (hs : I.Sl w a l) :
    Calls Tryz.prog 42 #[.pointer (some ⟨p, 0, none⟩)] w (SignV w p a l c) := by
  have HT := hid ht
  have HS := hid hs
  have j0 := fun w => ix_sign 0 233 w (by decide)
  have j1 := fun w => ix_sign 1 215 w (by decide)
  have j2 := fun w => ix_sign 2 128512 w (by decide)
  clear ht hs
  go_enter Tryz.func42, Tryz.ntmps42
  go_wp2_with fail
  refine (next_c p a l c i 25 w HT.out HS.out (by omega) (by omega)).mono ?_
  rintro e w1 ⟨v, hv, rfl, hk⟩
  have HK := hid hk
  clear hk
  rcases (show v = 0 ∨ v = 1 ∨ v = 2 ∨ v = 3 ∨ v = 4 ∨ v = 5 ∨ v = 6 ∨ v = 7 ∨ v = 8 ∨ v = 9 ∨ v = 10 ∨ v = 11 ∨ v = 12 ∨ v = 13 ∨ v = 14 ∨ v = 15 ∨ v = 16 ∨ v = 17 ∨ v = 18 ∨ v = 19 ∨ v = 20 ∨ v = 21 ∨ v = 22 ∨ v = 23 ∨ v = 24 by omega) with rfl | rfl | rfl | rfl | rfl | rfl | rfl | rfl | rfl | rfl | rfl | rfl | rfl | rfl | rfl | rfl | rfl | rfl | rfl | rfl | rfl | rfl | rfl | rfl | rfl
  all_goals go_wp2
  all_goals go_ret
  all_goals exact ⟨_, by first | exact wrap32_rng _ | exact ⟨by decide, by decide⟩, by first | decide | (simp [wrap32]; decide), rfl, HK.out⟩

theorem Kpt.onb {F : Nat → Prop} {w w2 w3 : World} (h : Kpt F w w2) (b : Below w.heap.size w2 w3) : Kpt F w w3 :=
  ⟨b.os.trans h.os, b.tape.trans h.tape, b.output.trans h.output, Nat.le_trans h.size b.size, fun k hk hn => (b.block k hk).trans (h.block k hk hn)⟩
def TextV (w : World) (p : Nat) (a : Option Addr) (l : List Int) (c m : Nat) (e : Ending) (w' : World) : Prop :=
  ∃ a2 c2 L, e = .returned (.slice a2 L.length c2) ∧ L.length ≤ m ∧ may L = true ∧ Own w' w.heap.size a2 c2 L ∧ (∃ i, TapeAt w' p a l c i) ∧ Kpt (fun k => k = p) w w'
set_option maxHeartbeats 4000000 in
theorem textv_c (p : Nat) (a : Option Addr) (l : List Int) (c i m : Nat) (w : World) (ht : TapeAt w p a l c i) (S : Hid (∀ w', Below p w w' → I.Sl w' a l)) (hm : m ≤ 1000) :
    Calls Tryz.prog 17 #[.pointer (some ⟨p, 0, none⟩), .int .i64 m] w (TextV w p a l c m) := by
  have hplt := ht.lt
  have HT := hid ht
  clear ht
  go_enter Tryz.func17, Tryz.ntmps17
  go_wp2_with fail
  rw [show (m : Int) + 1 = ((m + 1 : Nat) : Int) from by omega]
  refine (next_c p a l c i (m + 1) w HT.out (S.out _ (Below.refl _ _)) (by omega) (by omega)).mono ?_
  rintro e w1 ⟨n, hn, rfl, ⟨i1, ht1⟩, hk1⟩
  have HK1 := hid hk1
  have HT1 := hid ht1
  clear ht1 hk1
  go_wp2_with fail
  go_loopw [5, 6] (fun ov nv wr => ∃ (r : Nat) (a3 : Option Addr) (c3 i3 : Nat) (L : List Int), L.length + r ≤ m ∧ Hid (may L = true) ∧ nv = .int .i64 r ∧ ov = .slice a3 L.length c3 ∧ Hid (Own wr w.heap.size a3 c3 L) ∧ Hid (TapeAt wr p a l c i3) ∧ Hid (Kpt (fun k => k = p) w wr)) (fun _ nv _ => (intOf nv).toNat)
  case atStart => exact ⟨n, none, 0, i1, [], by simp; omega, hid rfl, rfl, rfl, Own.nil _ _, HT1, HK1⟩
  case round =>
    obtain ⟨r, a3, c3, i3, L, hLr, HMy, rfl, rfl, Ho, HT3, HK⟩ := hrel
    have hplr := HT3.out.lt
    by_cases hr : 0 < r
    · have h1 : decide (0 < r) = true := by simpa using hr
      go_wp2_with fail
      refine (signv_c p a l c i3 wr HT3.out (S.out _ (HK.out.belowp (Nat.le_of_lt hplt)))).mono ?_
      rintro e w2 ⟨x, hx, hsx, rfl, ⟨i4, ht4⟩, hk4⟩
      have HMx := hid (may_snoc HMy.out hsx)
      clear hsx
      have HK4 := hid (HK.out.tr hk4)
      have Ho4 : Hid (Own w2 w.heap.size a3 c3 L) := Ho.out.same fun ad ha hl => hk4.block _ hl (by
        rcases Ho.out.shape with ⟨h0, _⟩ | ⟨g, h0, hg, _⟩
        · rw [h0] at ha; cases ha
        · rw [h0] at ha; simp at ha; subst ha; simp; omega)
      have HT4 := hid ht4
      have hpl4 := ht4.lt
      have hz4 := HK4.out.size
      clear ht4 hk4
      go_wp2_with (at_builtin; (refine wpL_appn rfl (.tmp 15) (.tmp 18) rfl w.heap.size a3 (some ⟨w2.heap.size, 0, none⟩) L.length 1 c3 1 L [x] rfl (by first | rfl | simp | omega) (Ho4.out.grow (by (repeat' (first | exact Below.refl _ _ | assumption | refine bdrewN ?_ _ | refine Below.drew ?_ | refine bal ?_ _ | refine bthen ?_ (by assumption))))) rfl (by first | rfl | simp | omega) (Sl.lit w2 [x] _ (by simp) (rng_one hx) _ rfl) (by simp; omega) (by simp; omega) ?_); intro a5 c5 w5 L5 Hl5 ho5 hb5 hk5 hA5; have HA5 := hid hA5; clear hA5; have Ho5 := hid ho5; clear ho5; have Hk5 := hid hk5; clear hk5; have hz5 := hb5.size)
      have hLl : L5.length = L.length + 1 := by rw [Hl5.out]; simp
      have HK6 := hid ((HK4.out.alloc _).onb hb5)
      have HT5 : Hid (TapeAt w5 p a l c i4) := (HT4.out.below (B := p + 1) ((Below.refl _ _).alloc (by omega) _) (by omega)).below hb5 (by omega)
      have hL5 : L5.length + (r - 1) ≤ m := by omega
      clear hLl
      go_round
      case rel => exact ⟨r - 1, a5, c5, i4, L5, hL5, hid (by rw [Hl5.out]; exact HMx.out), by go_num, rfl, Ho5, HT5, HK6⟩
      case measure => simp [intOf]; omega
    · go_wp2_with fail
      go_ret
      exact ⟨a3, c3, L, rfl, by omega, HMy.out, Ho.out, ⟨_, HT3.out⟩, HK.out⟩
theorem tape_new {W V : World} {a0 : Option Addr} {l0 : List Int} {c0 : Nat} (hV : V = W.alloc (.cells #[.slice a0 l0.length c0, .int .i64 0] 34)) : TapeAt V W.heap.size a0 l0 c0 0 := by
  subst hV
  exact ⟨by simp, by rw [cell_alloc_new]; rfl, by rw [cell_alloc_new]; rfl, by simp, by omega⟩
theorem ScL.kp1 {w w' : World} {B p : Nat} {a : Option Addr} {c : Nat} {L : List Fo} {n : Nat} (h : ScL w B a c L n) (k : Kpt (fun j => j = p) w w') (hp : p < B) : ScL w' B a c L n := by
  refine ⟨ROwn.same h.own fun ad ha hl => k.block _ hl ?_, fun m hm => ⟨(h.txt m hm).1.same fun ad ha hl => k.block _ hl ?_, (h.txt m hm).2.same fun ad ha hl => k.block _ hl ?_⟩, h.sep, h.may, h.len⟩
  · rcases h.own.shape with ⟨h0, _⟩ | ⟨g, h0, hg, _⟩
    · rw [h0] at ha; cases ha
    · rw [h0] at ha; simp at ha; subst ha; show g ≠ p; omega
  · have := ((h.txt m hm).1.lt ad ha).1; omega
  · have := ((h.txt m hm).2.lt ad ha).1; omega
def MadeV (w : World) (p : Nat) (a : Option Addr) (l : List Int) (c : Nat) (e' : Ending) (w' : World) : Prop :=
  ∃ pa pc P fa fc L, e' = .returned (.tuple #[.slice pa P.length pc, .slice fa L.length fc]) ∧ Own w' w.heap.size pa pc P ∧ (∀ w2, Kpt (fun k => k = p) w' w2 → Fml w2 fa fc L) ∧ (∃ i, TapeAt w' p a l c i) ∧ Kpt (fun k => k = p) w w'
set_option maxRecDepth 20000 in
set_option maxHeartbeats 16000000 in
theorem madev_c (p : Nat) (a : Option Addr) (l : List Int) (c : Nat) (w : World) (ht : ∃ i, TapeAt w p a l c i) (hS : ∀ w', Below p w w' → I.Sl w' a l) :
    Calls Tryz.prog 16 #[.pointer (some ⟨p, 0, none⟩)] w (MadeV w p a l c) := by
  have C := hid (pattern_all p a l c 2 (by omega) w ht hS)
  have hplt : p < w.heap.size := by obtain ⟨i, t⟩ := ht; exact t.lt
  have HS := hid hS
  clear ht hS
  go_enter Tryz.func16, Tryz.ntmps16
  go_wp2_with fail
  refine C.out.mono ?_
  rintro _ w1 ⟨pa, pc, P, rfl, ho, -, hpl, ht1, hk1⟩
  have HO := hid ho
  have K1 := hid hk1
  have hz1 := hk1.size
  have FC := hid (format_c p a l c w1 ht1 (fun w' hb => HS.out w' ((K1.out.belowp (by omega)).trans hb)))
  clear ho ht1 hk1 C hpl
  go_wp2_with fail
  refine FC.out.mono ?_
  rintro _ w2 ⟨a2, c2, F, rfl, ho2, hl2, ht2, hk2⟩
  have O2 := hid ho2
  have K2 := hid (K1.out.tr hk2)
  have T2 := hid ht2
  have HO2 := hid (HO.out.kr hk2 hplt)
  have hz2 := hk2.size
  have hL2 := hid hl2
  clear ho2 ht2 hk2 FC hl2
  go_wp2_with (at_builtin; (refine wpL_appn rfl (.tmp 12) (.tmp 13) rfl w1.heap.size a2 (some ⟨w2.heap.size, 0, none⟩) F.length 1 c2 1 F [47] rfl (by first | rfl | simp | omega) (O2.out.grow (by (repeat' (first | exact Below.refl _ _ | assumption | refine bdrewN ?_ _ | refine Below.drew ?_ | refine bal ?_ _ | refine bthen ?_ (by assumption))))) rfl (by first | rfl | simp | omega) (Sl.lit' _ [47] _ _ (by simp) (by simp) (by simp [rng]) _ rfl) (by have := hL2.out; simp; omega) (by simp; omega) ?_); intro a5 c5 w5 L5 Hl5 ho5 hb5 hk5 hA5; have HA5 := hid hA5; clear hA5; have Ho5 := hid ho5; clear ho5; have Hk5 := hid hk5; clear hk5; have hz5 := hb5.size)
  have B5 : Hid (Below w1.heap.size w2 w5) := hid (((Below.refl w1.heap.size w2).alloc hz2 _).trans hb5)
  have l5 : L5.length ≤ 61 := by rw [Hl5.out, List.length_append]; have := hL2.out; simp; omega
  have SC := hid (fscan_c a5 c5 L5 w5 Ho5.out.sl (by omega))
  have HO5 := hid (HO2.out.same fun ad ha hl => B5.out.block _ (HO.out.lt ad ha).2)
  have T5 := hid (show ∃ i, TapeAt w5 p a l c i from by obtain ⟨i, t⟩ := T2.out; exact ⟨i, t.below B5.out (by omega)⟩)
  have K5 : Hid (Kpt (fun k => k = p) w w5) := hid ⟨B5.out.os.trans K2.out.os, B5.out.tape.trans K2.out.tape, B5.out.output.trans K2.out.output, Nat.le_trans K2.out.size B5.out.size, fun k hk hn => (B5.out.block k (by omega)).trans (K2.out.block k hk hn)⟩
  refine SC.out.mono ?_
  rintro _ w6 ⟨af, cf, L6, on, b, rfl, hsc, hl6, hw6, b6⟩
  have HF6 := hid (show ∀ w2, Kpt (fun k => k = p) w6 w2 → Fml w2 af cf L6 from fun w2 k => (hsc.kp1 k (by have := K5.out.size; omega)).fml (by omega) (by omega) (by omega))
  have HO6 := hid (HO5.out.grow b6)
  have T6 := hid (show ∃ i, TapeAt w6 p a l c i from by obtain ⟨i, t⟩ := T5.out; exact ⟨i, t.below b6 (by have := K5.out.size; omega)⟩)
  have K6 := hid (K5.out.onb' b6)
  clear hsc b6 SC
  go_wp2_with fail
  go_ret2
  exact ⟨pa, pc, P, af, cf, L6, rfl, HO6.out, HF6.out, T6.out, K6.out⟩
def wholeF : Fo := ⟨1, 0, 0, none, [], 0, none, [], 0⟩
theorem wholeF_ok (w : World) : FoOk w (fun _ => False) wholeF := ⟨fun _ _ => Sl.nil _ _, by decide, fun _ _ => Sl.nil _ _, by decide, by unfold ir wholeF; decide, by unfold ir wholeF; decide, by unfold ir wholeF; decide⟩
theorem wholeF_sl (w : World) : FSl (w.alloc (.cells #[.int .i64 1, .int .i64 0, .int .i64 0, .slice none 0 0, .slice none 0 0] 71)) (some ⟨w.heap.size, 0, none⟩) [wholeF] := RSl.lit w wholeF _ _ rfl _ rfl (by decide)
/-- Run tells the text as it is -/
def StayE (w : World) (s : List Int) (e' : Ending) (w' : World) : Prop := Below w.heap.size w w' ∧ ∃ a c, e' = runE (.slice a s.length c) 0 0 ∧ Own w' w.heap.size a c s
set_option maxRecDepth 20000 in
theorem runwhole_c (sa : Option Addr) (sc : Nat) (s : List Int) (pa : Option Addr) (pc : Nat) (p : List Int) (fa : Option Addr) (all fold : Bool) (w : World) (hs : Sl w sa s) (hsc : s.length ≤ sc) (hp : Sl w pa p) (hpc : p.length ≤ pc) (hM : FSl w fa [wholeF]) (hl : s.length ≤ 20) (hm : may s = true) {P : List Ins} (hc : (P, (0 : Int), (0 : Int)) = compW p) :
    Calls Tryz.prog 21 #[.slice sa s.length sc, .slice pa p.length pc, .slice fa 1 1, .bool all, .bool fold] w (StayE w s) := by
  refine (run_c sa sc s pa pc p fa 1 [wholeF] all fold 1000 w hs hsc hp hpc hM (fun m hm => by rw [List.mem_singleton.1 hm]; exact wholeF_ok w) (fun m hm => by rw [List.mem_singleton.1 hm]; decide) (by decide) (by decide)).mono ?_
  rintro e' w' ⟨hb, ⟨h, -⟩ | ⟨-, ⟨e, f, h1, h2, -⟩ | ⟨Q, G, F, hQ, hM, hG9, hG, hF, hr⟩⟩⟩
  · exact absurd ⟨by omega, hm, by decide⟩ h
  · rw [← hc] at h1; simp only [Prod.mk.injEq] at h1; exact absurd h1.2.1.symm h2
  · obtain ⟨f, hf⟩ := comp_lb hQ
    have hok := FndR.ok (s := s) (fold := fold) (all := all) hM hG9 hf hF
    have hX : repl s (fps [wholeF]) 0 F = s := repl_whole hok.1 rfl
    rw [hX] at hr
    rcases hr with ⟨h, -⟩ | ⟨-, a, c, h1, h2⟩
    · omega
    · exact ⟨hb, a, c, h1, h2⟩
set_option maxRecDepth 20000 in
theorem runnone_c (sa : Option Addr) (sc : Nat) (s : List Int) (pa : Option Addr) (pc : Nat) (p : List Int) (fa : Option Addr) (fc : Nat) (L : List Fo) (all fold : Bool) (w : World) (hs : Sl w sa s) (hsc : s.length ≤ sc) (hp : Sl w pa p) (hpc : p.length ≤ pc) (hM : Fml w fa fc L) (hl : s.length ≤ 20) (hm : may s = true) {P : List Ins} (hc : (P, (0 : Int), (0 : Int)) = compW p)
    {G : Nat} (hG0 : G = (gsL (parseW p).1).length) (hno : FindR (mch P s fold) (List.replicate (2 * G + 2) (-1)) 0 none) :
    Calls Tryz.prog 21 #[.slice sa s.length sc, .slice pa p.length pc, .slice fa L.length fc, .bool all, .bool fold] w (StayE w s) := by
  refine (run_c sa sc s pa pc p fa fc L all fold 1000 w hs hsc hp hpc hM.sl hM.fos (fun m hm => by have := hM.tx m hm; omega) (by decide) (by have := Nat.mul_le_mul_right 1000 hM.len; omega)).mono ?_
  rintro e' w' ⟨hb, ⟨h, -⟩ | ⟨-, ⟨e, f, h1, h2, -⟩ | ⟨Q, G', F, hQ, hM', hG9, hG, hF, hr⟩⟩⟩
  · exact absurd ⟨by omega, hm, hM.may⟩ h
  · rw [← hc] at h1; simp only [Prod.mk.injEq] at h1; exact absurd h1.2.1.symm h2
  · obtain rfl : Q = P := by rw [← hc] at hQ; simpa using hQ
    obtain rfl : G' = G := by rw [hG, hG0]
    have hF0 : F = [] := by
      unfold FndR at hF
      split at hF
      · cases hF with
        | done _ => rfl
        | more h _ => have := FindR.one h hno; cases this
      · rcases hF with ⟨-, h⟩ | ⟨r, h, -⟩
        · exact h
        · have := FindR.one h hno; cases this
    subst hF0
    have hX : repl s (fps L) 0 [] = s := rfl
    rw [hX] at hr
    rcases hr with ⟨h, -⟩ | ⟨-, a, c, h1, h2⟩
    · omega
    · exact ⟨hb, a, c, h1, h2⟩
end Go.Proofs.YtefgjicegbhcaaaGreat
namespace Go.Proofs.YtefgjicegbhcaaaGreat
open Go.RowKit FmM ReM

set_option maxHeartbeats 4000000 in
set_option maxRecDepth 20000 in
theorem lsplice_c (a ax : Option Addr) (c cx : Nat) (l put : List Int) (at_ cut : Nat) (w : World) (h : Sl w a l) (hp : Sl w ax put) (hc : l.length ≤ c) (hl : l.length ≤ 100000) (hpl : put.length ≤ 100000) (hw : at_ + cut ≤ l.length) :
    Calls Tryz.prog 20 #[.slice a l.length c, .int .i64 at_, .int .i64 cut, .slice ax put.length cx] w (Makes w (l.take at_ ++ put ++ l.drop (at_ + cut))) := by
  obtain ⟨a1, c1, D1, HD1, s1, hD1, r1⟩ := slice_to h at_ c (by omega) hc
  obtain ⟨a2, c2, D2, HD2, s2, hD2, r2⟩ := slice_from h (at_ + cut) c (by omega) hc
  simp only [Int.natCast_add] at r2
  have hl1 : D1.length ≤ 100000 := by rw [HD1.out]; simp; omega
  have hl2 : D2.length ≤ 100000 := by rw [HD2.out]; simp; omega
  have hwr : IntKind.i64.wrap ((at_ : Int) + (cut : Int)) = (at_ : Int) + (cut : Int) := by rw [IntKind.wrap_i64]; omega
  have S2 : Hid (∀ w', Below w.heap.size w w' → Sl w' a2 D2) := fun w' hb => s2.bel hb
  have hb0 : Below w.heap.size w w := Below.refl _ _
  go_enter Tryz.func20, Tryz.ntmps20
  go_wp2
  have hx0 : Below w.heap.size w w.drew := hb0.drew
  have hJ := hid (join_c a1 ax c1 cx D1 put w.drew s1.drew hp.drew (by omega))
  go_region_held3 (fun w' => Below w.heap.size w w') (first | assumption | go_keep)
    (first | (go_at_call 48; refine hJ.out.mono ?_; rintro e w3 ⟨a3, c3, rfl, ho3, hb3⟩; have Ho3 := hid ho3; have hx3 : Below w.heap.size w w3 := bthen (by assumption) hb3; have hj3 : (D1 ++ put).length ≤ 200000 := (by simp; omega))
               | (((refine step_appn rfl (.tmp 13) (.tmp 18) rfl w.heap.size a3 a2 _ D2.length c3 c2 (D1 ++ put) D2 rfl (by first | rfl | simp | omega) (Ho3.out.base_le (by simp)) rfl (by first | rfl | simp | omega) (S2.out _ (by assumption)) (by omega) (by have := hx3.size; assumption) ?_); intro a4 c4 w4 L4 Hl4 ho4 hb4 hk4 hA4; have HA4 := hid hA4; clear hA4; have Ho4 := hid ho4; clear ho4; have Hk4 := hid hk4; clear hk4; have hz4 := hb4.size); have hx4 : Below w.heap.size w w4 := Below.trans (by assumption) hb4))
  go_wp2
  go_ret
  have e4 : L4 = l.take at_ ++ put ++ l.drop (at_ + cut) := by rw [Hl4.out, HD1.out, HD2.out]
  subst e4
  exact ⟨a4, c4, rfl, Ho4.out, hx4⟩
theorem ptx_wt (m : Fo) (g : List Int) (hg : g.length ≤ 20) : (ptx m.fp g).length ≤ m.text.length + m.els.length + if m.kind = 0 then 0 else 20 := by
  obtain ⟨k, q, hw, ta, t, tc, ea, e, ec⟩ := m
  show (ptx ⟨k, q, hw, t, e⟩ g).length ≤ t.length + e.length + if k = 0 then 0 else 20
  unfold ptx
  dsimp only
  by_cases h1 : k = 1
  · rw [if_pos h1, if_neg (show ¬ k = 0 by omega)]; have := cas_len g hw; omega
  rw [if_neg h1]
  by_cases h3 : k = 3
  · rw [if_pos h3, if_neg (show ¬ k = 0 by omega)]; split <;> omega
  rw [if_neg h3]
  by_cases h2 : k = 2 ∨ k = 4
  · rw [if_pos h2]; split <;> omega
  · rw [if_neg h2]; omega
theorem fill_wt (g : Int → List Int) (hg : ∀ k, (g k).length ≤ 20) : ∀ L : List Fo, (fillF g (fps L)).length ≤ wsum L := by
  intro L
  induction L with
  | nil => simp [fps, fillF]
  | cons m L ih =>
    have e : fillF g (fps (m :: L)) = ptx m.fp (g m.grp) ++ fillF g (fps L) := rfl
    have e2 : wsum (m :: L) = (m.text.length + m.els.length + if m.kind = 0 then 0 else 20) + wsum L := by simp [wsum]
    rw [e, List.length_append, e2]
    have := ptx_wt m (g m.grp) (hg _)
    omega
/-- what Run tells where only the first match is replaced -/
def FirstE (w : World) (X : List Int) (e' : Ending) (w' : World) : Prop := Below w.heap.size w w' ∧ ∃ a c, e' = runE (.slice a X.length c) 0 0 ∧ Own w' w.heap.size a c X
set_option maxRecDepth 20000 in
theorem runfirst_c (sa : Option Addr) (sc : Nat) (s : List Int) (pa : Option Addr) (pc : Nat) (p : List Int) (fa : Option Addr) (fc : Nat) (L : List Fo) (fold : Bool) (w : World) (hs : Sl w sa s) (hsc : s.length ≤ sc) (hp : Sl w pa p) (hpc : p.length ≤ pc) (hM : Fml w fa fc L) (hl : s.length ≤ 20) (hm : may s = true) {P : List Ins} (hc : (P, (0 : Int), (0 : Int)) = compW p)
    {G : Nat} (hG0 : G = (gsL (parseW p).1).length) {r : List Int} (hyes : FindR (mch P s fold) (List.replicate (2 * G + 2) (-1)) 0 (some r)) :
    Calls Tryz.prog 21 #[.slice sa s.length sc, .slice pa p.length pc, .slice fa L.length fc, .bool false, .bool fold] w (FirstE w (s.take (gt r 0).toNat ++ (fillF (gcap s r) (fps L) ++ s.drop (gt r 1).toNat))) := by
  refine (run_c sa sc s pa pc p fa fc L false fold 1000 w hs hsc hp hpc hM.sl hM.fos (fun m hm => by have := hM.tx m hm; omega) (by decide) (by have := Nat.mul_le_mul_right 1000 hM.len; omega)).mono ?_
  rintro e' w' ⟨hb, ⟨h, -⟩ | ⟨-, ⟨e, f, h1, h2, -⟩ | ⟨Q, G', F, hQ, hM', hG9, hG, hF, hr⟩⟩⟩
  · exact absurd ⟨by omega, hm, hM.may⟩ h
  · rw [← hc] at h1; simp only [Prod.mk.injEq] at h1; exact absurd h1.2.1.symm h2
  · obtain rfl : Q = P := by rw [← hc] at hQ; simpa using hQ
    obtain rfl : G' = G := by rw [hG, hG0]
    have hF0 : F = [r] := by
      rcases hF with ⟨h, -⟩ | ⟨q, h, rfl⟩
      · have := FindR.one h hyes; cases this
      · have := FindR.one h hyes
        simp at this; rw [this]
    subst hF0
    have hX : repl s (fps L) 0 [r] = s.take (gt r 0).toNat ++ (fillF (gcap s r) (fps L) ++ s.drop (gt r 1).toNat) := by rw [repl_cons, List.drop_zero]; rfl
    have hlen : (s.take (gt r 0).toNat ++ (fillF (gcap s r) (fps L) ++ s.drop (gt r 1).toNat)).length ≤ 1000 := by
      have := fill_wt (gcap s r) (fun k => gcap_len hl k) L
      have := hM.wt
      simp only [List.length_append, List.length_take, List.length_drop]
      omega
    rw [hX] at hr
    rcases hr with ⟨h, -⟩ | ⟨-, a, c, h1, h2⟩
    · omega
    · exact ⟨hb, a, c, h1, h2⟩
end Go.Proofs.YtefgjicegbhcaaaGreat
namespace Go.Proofs.YtefgjicegbhcaaaGreat
open Go.RowKit FmM ReM
theorem px1 {q m : Nat} (h : q + 1 < m) : (q : Int) + 1 < (m : Int) := by omega
theorem px2 {q : Nat} (h : q ≤ 1000) : wrap64 ((q : Int) + 1) = (q : Int) + 1 := by unfold wrap64; omega
theorem px3 {q : Nat} (h : q ≤ 1000) : wrap64 ((q : Int) + 2) = (q : Int) + 2 := by unfold wrap64; omega
theorem px4 {q n : Nat} (h : q = 2 * n) (k : q ≤ 1000) : n ≤ 1000 := by omega
theorem px5 {Gs : List Tx} {m : Tx} {f : Nat → List Int} (h : ∀ i, i < Gs.length → (rgt Gs i).l = f i) (hm : m.l = f Gs.length) : ∀ i, i < (Gs ++ [m]).length → (rgt (Gs ++ [m]) i).l = f i := by
  intro i hi
  by_cases h1 : i < Gs.length
  · rw [← h i h1]; simp [rgt, List.getElem?_append_left h1]
  · obtain rfl : i = Gs.length := by simp at hi; omega
    rw [← hm]; simp [rgt]
theorem px6 {q m : Nat} (h : ¬ q < m) : ¬ ((q : Int) + 1 < (m : Int)) := by omega
theorem px7 {q : Nat} {L Gs : List Tx} {m : Tx} (h : L = Gs ++ [m]) (hq : q = 2 * Gs.length) : q + 2 = 2 * L.length := by rw [h]; simp; omega
set_option maxRecDepth 20000 in
set_option maxHeartbeats 60000000 in
theorem parts_w (a0 : Option Addr) (c0 : Nat) (l0 : List Int) (fold : Bool) (W : World) (h0 : I.Sl W a0 l0) :
    Calls Tryz.prog 5 #[.slice a0 l0.length c0, .bool fold] W fun e w' => e = .returned (.bool true) ∧ Below W.heap.size W w' := by
  obtain ⟨V, hV⟩ : ∃ V, V = W.alloc (.cells #[.slice a0 l0.length c0, .int .i64 0] 34) := ⟨_, rfl⟩
  have tV := tape_new hV
  have bV : Below W.heap.size W V := by subst hV; (repeat' (first | exact Below.refl _ _ | assumption | refine bdrewN ?_ _ | refine Below.drew ?_ | refine bal ?_ _ | refine bthen ?_ (by assumption)))
  have zV : V.heap.size = W.heap.size + 1 := by subst hV; simp
  have SV : ∀ w', Below W.heap.size V w' → I.Sl w' a0 l0 := fun w' hb => h0.bel (bV.trans hb)
  have HSV := hid SV
  have C := hid (madev_c W.heap.size a0 l0 c0 V ⟨_, tV⟩ SV)
  have BV := hid bV
  clear tV SV h0 bV
  go_enter Tryz.func5, Tryz.ntmps5
  go_wp2_with fail
  rw [← hV]; clear hV
  refine C.out.mono ?_
  rintro _ w1 ⟨pa, pc, p, fa, fc, L, rfl, ho, hf, ht, hk⟩
  have BV1 := hid (hk.belowp (by omega))
  have z1 := hk.size
  have O1 := hid ho
  have F1 := hid hf
  obtain ⟨i1, ht1⟩ := ht
  have TC := hid (textv_c W.heap.size a0 l0 c0 i1 20 w1 ht1 (hid fun w' hb => HSV.out w' (BV1.out.trans hb)) (by omega))
  clear ho hf hk ht1 C
  go_wp2_with fail
  refine TC.out.mono ?_
  rintro _ w2 ⟨sa, sc, s, rfl, hsl, hsm, hso, -, hk⟩
  have BV2 := hid (BV1.out.trans (hk.belowp (by omega)))
  have B2 := hid (BV.out.trans BV2.out)
  have z2 := hk.size
  have S2 := hid hso
  have HSL := hid hsl
  have HSM := hid hsm
  have O2 := hid (O1.out.same fun ad ha hl => hk.block _ hl (by have := (O1.out.lt ad ha).1; omega))
  have F2 : Hid (Fml w2 fa fc L) := hid (F1.out w2 hk)
  have hpc : p.length ≤ pc := Own.cap O2.out
  have hscap : s.length ≤ sc := Own.cap S2.out
  have HPC := hid hpc
  have HSC := hid hscap
  have NC := hid (new_c pa pc p fold w2 O2.out.sl hpc)
  clear hso hk hsl hsm TC O1 F1 BV1 hpc hscap
  go_wp2_with fail
  refine NC.out.mono ?_
  rintro _ w3 ⟨b3, hor⟩
  have B3 := hid (B2.out.trans (b3.mono B2.out.size))
  have O3 := hid (O2.out.sl.bel b3)
  have F3 := hid (F2.out.bel b3)
  have S3 := hid (S2.out.sl.bel b3)
  have z3 := B3.out.size
  clear b3 NC B2 O2 F2 S2
  rcases hor with ⟨e, f, -, he, rfl⟩ | ⟨M2, qa, qc, L2, G, hN, rfl⟩
  · obtain ⟨V4, hV4⟩ : ∃ V4, V4 = w3.alloc (.cells #[.int .i64 e, .int .i64 f] 47) := ⟨_, rfl⟩
    have F4 : FtC V4 w3.heap.size e f := by rw [hV4]; exact FtC.new _ _ _ _ _ rfl
    have b4 : Below w3.heap.size w3 V4 := by rw [hV4]; (repeat' (first | exact Below.refl _ _ | assumption | refine bdrewN ?_ _ | refine Below.drew ?_ | refine bal ?_ _ | refine bthen ?_ (by assumption)))
    have B4 := hid (B3.out.trans (b4.mono z3))
    have c0' := F4.c0
    have e1 : (e != 0) = true := by simpa using he
    have KC := hid (known12_c V4)
    clear F4 b4 he
    go_upto_region 5 with fail
    rw [← hV4]; clear hV4
    go_wp2_with fail
    refine KC.out.mono ?_
    rintro _ w5 ⟨rfl, b5⟩
    have B5 := hid (B4.out.trans (b5.mono B4.out.size))
    clear b5
    go_wp2_with fail
    go_ret
    exact ⟨rfl, B5.out⟩
  · have HN := hid hN
    obtain ⟨V4, hV4⟩ : ∃ V4, V4 = w3.alloc (.cells #[.int .i64 0, .int .i64 0] 47) := ⟨_, rfl⟩
    have F4 : FtC V4 w3.heap.size 0 0 := by rw [hV4]; exact FtC.new _ _ _ _ _ rfl
    have b4 : Below w3.heap.size w3 V4 := by rw [hV4]; (repeat' (first | exact Below.refl _ _ | assumption | refine bdrewN ?_ _ | refine Below.drew ?_ | refine bal ?_ _ | refine bthen ?_ (by assumption)))
    have b34 := hid b4
    have c0' := F4.c0
    have FX : Hid (FxOk V4 ⟨M2, qa, qc, L2, G, fold, sa, sc, s⟩) := hid (HN.out.fx b34.out (S3.out.bel b34.out) HSC.out (by have := HSL.out; omega))
    have FC := hid (find_c V4 ⟨M2, qa, qc, L2, G, fold, sa, sc, s⟩ FX.out HN.out.made.ok 0 (Nat.zero_le _))
    dsimp only at FC
    clear F4 b4
    go_upto_region 5 with fail
    rw [← hV4]; clear hV4
    go_wp2_with fail
    refine FC.out.mono ?_
    rintro _ w9 ⟨b9, hor⟩
    have b39 := hid (b34.out.trans (b9.mono b34.out.size))
    have B9 := hid (B3.out.trans (b39.out.mono z3))
    clear b9 FC c0'
    rcases hor with ⟨hno, rfl⟩ | ⟨r, g, c, hyes, rfl, o9⟩
    · go_wp2_with fail
      refine (known12_c w9).mono ?_
      rintro _ w13 ⟨rfl, b13⟩
      have B13 := hid (B9.out.trans (b13.mono B9.out.size))
      clear b13
      go_wp2_with fail
      go_ret
      exact ⟨rfl, B13.out⟩
    · obtain ⟨lb, hlb⟩ := comp_lb HN.out.prog
      obtain ⟨hrow, hprd⟩ := FndR.ok (s := s) (fold := fold) (all := false) (F := [r]) HN.out.made HN.out.G9 hlb (by unfold FndR; rw [if_neg (by decide)]; exact .inr ⟨r, hyes, rfl⟩)
      have HP := hid (hprd r (by simp))
      have HR := hid hrow
      have RF := hid (fun (W' : World) (hb : Below w9.heap.size w9 W') => runfirst_c sa sc s pa pc p fa fc L fold W' ((S3.out.bel b39.out).bel hb) HSC.out ((O3.out.bel b39.out).bel hb) HPC.out ((F3.out.bel b39.out).bel hb) HSL.out HSM.out HN.out.prog (G := G) HN.out.grp hyes)
      have S9 := hid (S3.out.bel b39.out)
      have F9 := hid (F3.out.bel b39.out)
      have R9 := hid o9.sl
      obtain ⟨m, hml⟩ : ∃ m, m = r.length := ⟨_, rfl⟩
      have hm2 : 2 ≤ m := by
        have h := HR.out
        cases h with
        | more _ _ _ h _ _ _ => omega
      have hme : m % 2 = 0 := by rw [hml]; exact HP.out.1
      have hmk : m ≤ 1000 := by rw [hml]; exact HP.out.2.1
      have HML := hid hml
      rw [← hml]
      clear hlb hrow hprd hyes hml o9
      have e1 : decide ((m : Int) < 2) = false := decide_eq_false (by omega)
      have e2 : decide (m < 2) = false := decide_eq_false (by omega)
      go_wp2_with fail
      go_loopw [13, 14, 15] (fun gv kv _ wr => ∃ (q : Nat) (az : Option Addr) (cz : Nat) (Gs : List Tx), q ≤ m ∧ kv = .int .i64 q ∧ gv = .slice az Gs.length cz ∧ Hid (q = 2 * Gs.length) ∧ Hid (∀ i, i < Gs.length → (rgt Gs i).l = gcap s r i) ∧ Hid (ROwn encTx 24 wr w9.heap.size az cz Gs) ∧ Hid (∀ w', Below w9.heap.size w9 w' → Txs w' Gs) ∧ Hid (Below w9.heap.size w9 wr)) (fun _ kv _ _ => m - (intOf kv).toNat)
      case atStart => exact ⟨0, none, 0, [], by omega, rfl, rfl, hid rfl, hid (fun i h => by simp at h), hid (ROwn.nil _ _), hid (fun w' _ => Txs.nil w'), hid (by (repeat' (first | exact Below.refl _ _ | assumption | refine bdrewN ?_ _ | refine Below.drew ?_ | refine Below.setCell ?_ (Nat.le_refl _) _ | refine bal ?_ _ | refine bthen ?_ (by assumption))))⟩
      case round =>
        obtain ⟨q, az, cz, Gs, hq, rfl, rfl, HQ, HG, HO, HT, HB⟩ := hrel
        by_cases hlt : q < m
        · have hodd : q + 1 < m := by have := HQ.out; omega
          have hR := R9.out.bel HB.out
          obtain ⟨b, off, hga, hcell⟩ := hR.at (i := q) (by have := HML.out; omega)
          simp only [Option.some.injEq, Addr.mk.injEq] at hga
          obtain ⟨rfl, rfl, -⟩ := hga
          have hx := hcell q (by have := HML.out; omega)
          have hy := hcell (q + 1) (by have := HML.out; omega)
          rw [Nat.zero_add] at hx hy
          have hpq := HP.out.2.2 Gs.length (by have := HML.out; have := HQ.out; omega)
          rw [← HQ.out] at hpq
          obtain ⟨x, ex⟩ : ∃ x, x = gt r q := ⟨_, rfl⟩
          obtain ⟨y, ey⟩ : ∃ y, y = gt r (q + 1) := ⟨_, rfl⟩
          have eg : Hid (gcap s r Gs.length = if 0 ≤ x then (s.take y.toNat).drop x.toNat else []) := hid (by
            unfold gcap
            have e : (2 * (Gs.length : Int)).toNat = q := by have := HQ.out; omega
            rw [e, ← ex, ← ey]
            by_cases h : 0 ≤ x
            · rw [if_pos ⟨by have := HML.out; omega, h⟩, if_pos h]
            · rw [if_neg (fun k => h k.2), if_neg h])
          rw [← ex] at hx hpq
          rw [← ey] at hy hpq
          have e3 : decide ((q : Int) + 1 < (m : Int)) = true := decide_eq_true (px1 hodd)
          have e4 : decide (q + 1 < m) = true := decide_eq_true hodd
          have hq1 : q ≤ 1000 := Nat.le_trans hq hmk
          have wz1 : wrap64 ((q : Int) + 1) = (q : Int) + 1 := px2 hq1
          have wz2 : wrap64 ((q : Int) + 2) = (q : Int) + 2 := px3 hq1
          have hGl : Gs.length ≤ 1000 := px4 HQ.out hq1
          have HGl := hid hGl
          have Hlt := hid hlt
          clear hcell hR ex ey hlt hGl hq1
          rcases hpq with hn | ⟨p1, p2, p3⟩
          · have e5 : decide (x ≥ 0) = false := decide_eq_false (by rw [hn]; decide)
            have e6 : decide (0 ≤ x) = false := decide_eq_false (by rw [hn]; decide)
            have eg2 : Hid (gcap s r Gs.length = []) := hid (by rw [eg.out, if_neg (by rw [hn]; decide)])
            clear hn eg
            go_upto_region 15 with fail
            go_quiet (fail)
            go_wp2_with (at_builtin; go_loud (refine wpL_rapp Tryz.tyTx rfl (.tmp 106) (.tmp 108) rfl w9.heap.size az (some ⟨wr.heap.size, 0, none⟩) Gs.length 1 cz 1 Gs [⟨none, [], 0⟩] rfl (by first | rfl | simp | omega) (HO.out.grow (by (repeat' (first | exact Below.refl _ _ | assumption | refine bdrewN ?_ _ | refine Below.drew ?_ | refine Below.setCell ?_ (Nat.le_refl _) _ | refine bal ?_ _ | refine bthen ?_ (by assumption))))) rfl (by first | rfl | simp | omega) (RSl.lit (E := encTx) _ ⟨none, [], 0⟩ 24 wr.heap.size (by simp) #[.slice none 0 0] rfl (by decide)) (by show _ ≤ 4398046511104; have := HGl.out; simp; omega) (by have := HB.out.size; simp; omega) ?_); intro a5 c5 w5 L5 Hl5 ho5 hb5 hk5 hA5; have HA5 := hid hA5; clear hA5; have Ho5 := hid ho5; clear ho5; have Hk5 := hid hk5; clear hk5; have hz5 := hb5.size)
            go_roundw
            case rel => exact ⟨q + 2, a5, c5, L5, by omega, by go_num, rfl, hid (px7 Hl5.out HQ.out), hid (by rw [Hl5.out]; exact px5 HG.out (by first | exact eg2.out.symm | exact HE.out.trans eg2.out.symm)), Ho5, hid (fun w' hb => by rw [Hl5.out]; exact (HT.out w' hb).app (fun x hx => by rw [List.mem_singleton.1 hx]; first | exact ⟨Sl.nil _ _, by simp⟩ | exact ⟨HSE.out.bel hb, HEc.out⟩)), hid (Below.trans (by first | exact (bdrewN HB.out _).alloc (by have := HB.out.size; simp; omega) _ | exact (bdrewN (bdrewN HB.out _) _).alloc (by have := HB.out.size; simp; omega) _ | (repeat' (first | exact Below.refl _ _ | assumption | refine bdrewN ?_ _ | refine Below.drew ?_ | refine Below.setCell ?_ (Nat.le_refl _) _ | refine bal ?_ _ | refine bthen ?_ (by assumption)))) hb5)⟩
            case measure => simp [intOf]; omega
          · have e5 : decide (x ≥ 0) = true := decide_eq_true p1
            have e6 : decide (0 ≤ x) = true := decide_eq_true p1
            have e7 : decide (x ≤ y) = true := decide_eq_true p2
            have e8 : decide (y ≤ (s.length : Int)) = true := decide_eq_true p3
            have eg2 : Hid (gcap s r Gs.length = (s.take y.toNat).drop x.toNat) := hid (by rw [eg.out, if_pos p1])
            obtain ⟨x, rfl⟩ : ∃ u : Nat, x = u := ⟨x.toNat, (Int.toNat_of_nonneg p1).symm⟩
            obtain ⟨y, rfl⟩ : ∃ u : Nat, y = u := ⟨y.toNat, (Int.toNat_of_nonneg (Int.le_trans p1 p2)).symm⟩
            rw [Int.toNat_natCast, Int.toNat_natCast] at eg2
            obtain ⟨a', c', E, HE, sE, hEc, hrun⟩ := slice_mid S9.out x y sc (Int.ofNat_le.1 p2) (Int.ofNat_le.1 p3) HSC.out
            have e9 : decide (x ≤ y) = true := decide_eq_true (Int.ofNat_le.1 p2)
            have e10 : decide (y ≤ s.length) = true := decide_eq_true (Int.ofNat_le.1 p3)
            have HSE := hid sE
            have HEc := hid hEc
            clear sE hEc p1 p2 p3 eg
            go_upto_region 15 with fail
            go_quiet (fail)
            go_upto_region 16 with fail
            go_quiet (fail)
            go_wp2_with (at_builtin; go_loud (refine wpL_rapp Tryz.tyTx rfl (.tmp 106) (.tmp 108) rfl w9.heap.size az (some ⟨wr.heap.size, 0, none⟩) Gs.length 1 cz 1 Gs [⟨a', E, c'⟩] rfl (by first | rfl | simp | omega) (HO.out.grow (by (repeat' (first | exact Below.refl _ _ | assumption | refine bdrewN ?_ _ | refine Below.drew ?_ | refine Below.setCell ?_ (Nat.le_refl _) _ | refine bal ?_ _ | refine bthen ?_ (by assumption))))) rfl (by first | rfl | simp | omega) (RSl.lit (E := encTx) _ ⟨a', E, c'⟩ 24 wr.heap.size (by simp) #[.slice a' E.length c'] rfl (by decide)) (by show _ ≤ 4398046511104; have := HGl.out; simp; omega) (by have := HB.out.size; simp; omega) ?_); intro a5 c5 w5 L5 Hl5 ho5 hb5 hk5 hA5; have HA5 := hid hA5; clear hA5; have Ho5 := hid ho5; clear ho5; have Hk5 := hid hk5; clear hk5; have hz5 := hb5.size)
            go_roundw
            case rel => exact ⟨q + 2, a5, c5, L5, by omega, by go_num, rfl, hid (px7 Hl5.out HQ.out), hid (by rw [Hl5.out]; exact px5 HG.out (by first | exact eg2.out.symm | exact HE.out.trans eg2.out.symm)), Ho5, hid (fun w' hb => by rw [Hl5.out]; exact (HT.out w' hb).app (fun x hx => by rw [List.mem_singleton.1 hx]; first | exact ⟨Sl.nil _ _, by simp⟩ | exact ⟨HSE.out.bel hb, HEc.out⟩)), hid (Below.trans (by first | exact (bdrewN HB.out _).alloc (by have := HB.out.size; simp; omega) _ | exact (bdrewN (bdrewN HB.out _) _).alloc (by have := HB.out.size; simp; omega) _ | (repeat' (first | exact Below.refl _ _ | assumption | refine bdrewN ?_ _ | refine Below.drew ?_ | refine Below.setCell ?_ (Nat.le_refl _) _ | refine bal ?_ _ | refine bthen ?_ (by assumption)))) hb5)⟩
            case measure => simp [intOf]; omega
        · have e3 : decide ((q : Int) + 1 < (m : Int)) = false := decide_eq_false (px6 hlt)
          have e4 : decide (q + 1 < m) = false := decide_eq_false (fun h => hlt (Nat.lt_of_succ_lt h))
          have hq1 : q ≤ 1000 := Nat.le_trans hq hmk
          have wz1 : wrap64 ((q : Int) + 1) = (q : Int) + 1 := px2 hq1
          have hqm : q = m := Nat.le_antisymm hq (Nat.le_of_not_lt hlt)
          have HX : Hid (fillC (fps L) Gs = fillF (gcap s r) (fps L)) := hid (by
            unfold fillC
            rw [if_pos F9.out.may]
            refine fillF_ext fun f hf => ?_
            have h1 := HQ.out
            have h2 := HML.out
            obtain ⟨f0, hf0, rfl⟩ := List.mem_map.1 hf
            have h3 := may_grp F9.out.may f0 hf0
            obtain ⟨k, hk⟩ : ∃ k : Nat, f0.grp = k := ⟨f0.grp.toNat, by omega⟩
            show gtx Gs f0.grp = gcap s r f0.grp
            rw [hk]
            unfold gtx
            by_cases h4 : k < Gs.length
            · rw [if_pos ⟨by omega, by omega⟩, Int.toNat_natCast]; exact HG.out k h4
            · rw [if_neg (fun h => by omega)]
              unfold gcap
              rw [if_neg (fun h => by omega)])
          obtain ⟨X, hX⟩ : ∃ X, X = fillF (gcap s r) (fps L) := ⟨_, rfl⟩
          have hXl : X.length ≤ 1000 := by
            rw [hX]
            have := fill_wt (gcap s r) (fun k => gcap_len HSL.out k) L
            have := F9.out.wt
            omega
          rw [← hX] at HX
          obtain ⟨x0, y0, hx0, hy0, hxy, hys⟩ : ∃ x0 v : Nat, gt r 0 = x0 ∧ gt r 1 = ((x0 + v : Nat) : Int) ∧ x0 + v ≤ s.length ∧ True := by
            have h := HR.out
            cases h with
            | more h1 h2 h3 _ _ _ _ => exact ⟨(gt r 0).toNat, (gt r 1).toNat - (gt r 0).toNat, by omega, by omega, by omega, trivial⟩
          obtain ⟨y1, hy1⟩ : ∃ y1 : Nat, y1 = x0 + y0 := ⟨_, rfl⟩
          rw [← hy1] at hy0 hxy
          have wv : IntKind.i64.wrap ((y1 : Int) - (x0 : Int)) = (y0 : Int) := by rw [IntKind.wrap_i64]; have := HSL.out; omega
          have KC : Hid (∀ w', Below wr.heap.size wr w' → w'.cell? ⟨g, 0, none⟩ = some (.int .i64 x0) ∧ w'.cell? ⟨g, 1, none⟩ = some (.int .i64 y1)) := hid fun w' hb => by
            have hR := (R9.out.bel HB.out).bel hb
            obtain ⟨b, off, hga, hcell⟩ := hR.at (i := 0) (by have := HML.out; omega)
            simp only [Option.some.injEq, Addr.mk.injEq] at hga
            obtain ⟨rfl, rfl, -⟩ := hga
            have hx := hcell 0 (by have := HML.out; omega)
            have hy := hcell 1 (by have := HML.out; omega)
            rw [hx0] at hx
            rw [hy0] at hy
            exact ⟨hx, hy⟩
          have HXl := hid hXl
          have Hy1 := hid hy1
          have Hxy := hid hxy
          have R0 : Hid (∀ W', Below w9.heap.size w9 W' → Calls Tryz.prog 21 #[.slice sa s.length sc, .slice pa p.length pc, .slice fa L.length fc, .bool false, .bool fold] W' (FirstE W' (s.take x0 ++ X ++ s.drop (x0 + y0)))) := hid fun W' hb => by
            have h := RF.out W' hb
            rw [← hX, hx0, hy0, Int.toNat_natCast, Int.toNat_natCast, hy1, ← List.append_assoc] at h
            exact h
          have FC := hid (fun W' (hb : Below wr.heap.size wr W') => tfill_c fa fc L az cz Gs 1000 W' ((F9.out.bel HB.out).bel hb).sl ((F9.out.bel HB.out).bel hb).fos (HO.out.sl.bel hb) (HT.out W' (HB.out.trans (hb.mono HB.out.size))) (fun m hm => by have := F9.out.tx m hm; omega) (fun m hm => by
              obtain ⟨i, hi, rfl⟩ := List.mem_iff_getElem.1 hm
              rw [← rgt_get hi, HG.out i hi]
              have := gcap_len (r := r) HSL.out i
              omega) (by have := Nat.mul_le_mul_right 1000 F9.out.len; omega))
          rw [HX.out] at FC
          clear hx0 hy0 hX hlt hq hqm hys hxy hy1 hq1 RF
          go_upto_region 18 with fail
          obtain ⟨Y, hY⟩ : ∃ Y, Y = s.take x0 ++ X ++ s.drop (x0 + y0) := ⟨_, rfl⟩
          have HY := hid hY
          have HYl : Hid (Y.length = min x0 s.length + (X.length + (s.length - (x0 + y0)))) := hid (by rw [hY]; simp only [List.length_append, List.length_take, List.length_drop]; exact Nat.add_assoc _ _ _)
          rw [← hY] at R0
          clear hY
          go_cut [16] (fun s16 wc => ∃ (a12 : Option Addr) (c12 : Nat), s16 = .slice a12 Y.length c12 ∧ Own wc 0 a12 c12 Y ∧ Below wr.heap.size wr wc)
          case first =>
            have hx0 : Below wr.heap.size wr wr.drew := (Below.refl _ _).drew
            have k3 := KC.out _ hx0
            obtain ⟨q1, q2⟩ := k3
            have l0 : (0 : Int) < (m : Int) := by omega
            have l1 : (1 : Int) < (m : Int) := by omega
            have l2 : 0 < m := by omega
            have l3 : 1 < m := by omega
            go_region_held3 (fun w' => Below wr.heap.size wr w' ∧ w'.cell? ⟨g, 0, none⟩ = some (.int .i64 x0) ∧ w'.cell? ⟨g, 1, none⟩ = some (.int .i64 y1)) (first | assumption | exact ⟨by assumption, by assumption, by assumption⟩ | (refine ⟨bdrewN (by assumption) _, ?_, ?_⟩ <;> first | assumption | go_keep) | go_keep)
              (first | (go_at_call 11; refine (FC.out _ (by assumption)).mono ?_; rintro e w11 ⟨a11, c11, rfl, ho11, hb11⟩; have HO11 := hid ho11; have hx11 : Below wr.heap.size wr w11 := bthen (by assumption) hb11; have kk := KC.out _ hx11; obtain ⟨m1, m2⟩ := kk)
                     | (go_at_call 20; refine (lsplice_c sa a11 sc c11 s X x0 y0 _ ((S9.out.bel HB.out).bel (by assumption)) (HO11.out.sl.bel (by (repeat' (first | exact Below.refl _ _ | assumption | refine bdrewN ?_ _ | refine Below.drew ?_ | refine bal ?_ _ | refine bthen ?_ (by assumption))))) HSC.out (by have := HSL.out; omega) (by have := HXl.out; omega) (by have := Hy1.out; have := Hxy.out; omega)).mono ?_; rintro e w12 ⟨a12, c12, rfl, ho12, hb12⟩; have HO12 := hid ho12; have hx12 : Below wr.heap.size wr w12 := bthen (by assumption) hb12; have kk := KC.out _ hx12; obtain ⟨n1, n2⟩ := kk))
            all_goals
              go_wp2_with fail
              go_meet
              rw [← HY.out] at HO12; exact ⟨a12, c12, by rw [HYl.out], HO12.out.base_le (Nat.zero_le _), by assumption⟩
          case rest =>
            obtain ⟨a12, c12, rfl, ho12', hx12⟩ := hcut
            have ho12 := hid ho12'
            clear ho12'
            go_wp2_with fail
            refine (R0.out _ (HB.out.trans (hx12.mono HB.out.size))).mono ?_
            rintro _ w13 ⟨b13, a13, c13, rfl, o13⟩
            have b113 := hid (hx12.trans (b13.mono hx12.size))
            have O13 := hid o13
            have S12 := hid (ho12.out.sl.bel b13)
            obtain ⟨V11, hV11⟩ : ∃ V11, V11 = w13.alloc (.cells #[.int .i64 0, .int .i64 0] 47) := ⟨_, rfl⟩
            have F11 : FtC V11 w13.heap.size 0 0 := by rw [hV11]; exact FtC.new _ _ _ _ _ rfl
            have b11 : Below w13.heap.size w13 V11 := by rw [hV11]; (repeat' (first | exact Below.refl _ _ | assumption | refine bdrewN ?_ _ | refine Below.drew ?_ | refine bal ?_ _ | refine bthen ?_ (by assumption)))
            have b311 := hid (b113.out.trans (b11.mono b113.out.size))
            have c0' := F11.c0
            have SC := hid (rsame_c a13 a12 c13 c12 Y Y V11 (O13.out.sl.bel b11) (S12.out.bel b11))
            clear F11 b11 b13 o13 hx12
            unfold runE
            go_upto_region 20 with fail
            rw [← hV11]; clear hV11
            go_wp2_with fail
            refine SC.out.mono ?_
            rintro _ _ ⟨rfl, n12, rfl⟩
            rw [eqM_self]
            have b312 : Hid (Below wr.heap.size wr (V11.drewN n12)) := hid (bdrewN b311.out _)
            have B12 := hid (B9.out.trans ((HB.out.trans (b312.out.mono HB.out.size)).mono B9.out.size))
            clear SC c0'
            go_wp2_with fail
            refine (known12_c _).mono ?_
            rintro _ w14 ⟨rfl, b14⟩
            have B14 := hid (B12.out.trans (b14.mono B12.out.size))
            clear b14
            go_wp2_with fail
            go_ret
            exact ⟨rfl, B14.out⟩
end Go.Proofs.YtefgjicegbhcaaaGreat
