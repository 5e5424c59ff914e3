/- The document's reader: a class. The document's reader: a group. -/
import Derived.Test.YtefgjicegbhcaaaGreatDrW
import Derived.Deep.CutBlock
import Derived.Deep.DeepCutAuto
import Derived.Deep.RegionHeld3
import Derived.StillTailTactics
import Derived.Test.YtefgjicegbhcaaaGreatReA
namespace Go.Proofs.YtefgjicegbhcaaaGreat
open Go.RowKit ReM

/-- what a reading of the document's leaves -/
def OutD (res : Rg) (B : Nat) (w : World) (r : Nat) (a : Option Addr) (c : Nat) (p : List Int) (i d k1 k2 : Nat) (e' : Ending) (w' : World) : Prop := match res with
  | .ok l s' g' => ∃ a2 c2 L j, e' = .returned (.slice a2 L.length c2) ∧ rns L = l ∧ RO w' w.heap.size a2 c2 L ∧ Sets w.heap.size w' L ∧ i ≤ j ∧ j ≤ p.length ∧ Sml (4 * (j - i) + k1 - 2) (4 * (p.length - i) + k2 - 2) L ∧ s' = p.drop j ∧ g' ≤ 9 ∧ Rdr B w' r a c p j g' d 0 0 ∧ KR r w w'
  | .bad e f => ∃ a2 c2 L j y, e' = .returned (.slice a2 L.length c2) ∧ RO w' w.heap.size a2 c2 L ∧ Sml (4 * (p.length - i) + k1 - 2) (4 * (p.length - i) + k2 - 2) L ∧ e ≠ 0 ∧ j + d ≤ p.length + 20 ∧ Rdr B w' r a c p j y d e f ∧ KR r w w'
theorem Kpt.thn' {F : Nat → Prop} {w w2 w3 : World} (h : Kpt F w w2) (b : Below w.heap.size w2 w3) : Kpt F w w3 :=
  ⟨b.os.trans h.os, b.tape.trans h.tape, b.output.trans h.output, Nat.le_trans h.size b.size, fun k hk hn => (b.block k hk).trans (h.block k hk hn)⟩
def clsR (neg : Bool) (g : Nat) : Rc → Rg
  | .bad f => .bad 5 f
  | .ok l s => .ok [nSet neg l] s g
theorem clsI_eq (p : List Int) (neg : Bool) (i g : Nat) : clsI p neg i g = clsR neg g (clsF CC p.length [] (p.drop i)) := by
  unfold clsI clsR; rfl
theorem set_dk (k : Nat) (n : Bool) (a : Option Addr) (c : Nat) (l : List Int) (w : World) (hk : k = w.heap.size) :
    Calls Tryz.prog 145 #[.bool n, .slice a l.length c] w fun e' w' => e' = .returned (.slice (some ⟨k, 0, none⟩) 1 1) ∧ RO w' w.heap.size (some ⟨k, 0, none⟩) 1 [⟨2, 0, 0, 0, false, n, a, l, c⟩] ∧ Below w.heap.size w w' := by
  subst hk; exact set_d n a c l w
theorem memI_at {p : List Int} (hT : Txt1 p) {i j : Nat} {l : List Int} {o : Bool} (h : memI p i = .ok l o j) : i < j ∧ j ≤ p.length ∧ l.length ≤ 8 ∧ o = one l := by
  have hm := mem_ix hT i
  rw [h] at hm
  have h1 := member_lt hm
  have h2 := member_one hm
  refine ⟨?_, ?_, h1, h2⟩
  · unfold memI at h
    split at h
    · split at h
      · cases h; omega
      · cases h
    · split at h
      · cases h
      · cases h; omega
  · unfold memI at h
    split at h
    · split at h
      · rename_i hq
        rcases Nat.lt_or_ge (i + 1) p.length with h3 | h3
        · cases h; omega
        · rw [nx_end h3, mean_end] at hq; cases hq
      · cases h
    · split at h
      · cases h
      · rename_i hn
        rcases Nat.lt_or_ge i p.length with h3 | h3
        · cases h; omega
        · rw [nx_end h3] at hn; omega
theorem single_ok {p : List Int} (hT : Txt1 p) {i : Nat} (h : single CC (p.drop i) = true) : ∃ l j, memI p i = .ok l true j := by
  have hi : i < p.length := by
    rcases Nat.lt_or_ge i p.length with h1 | h1
    · exact h1
    · rw [drop_end h1] at h; cases h
  have h93 : nx p i ≠ 93 := by
    intro e
    rw [drop_nx hi, e] at h
    cases h
  have hm := mem_ix hT i
  rw [drop_nx hi] at h hm
  rw [single_member (i := i) h93, hm] at h
  cases hx : memI p i with
  | ok l o j => rw [hx] at h; exact ⟨l, j, by rw [show o = true from h]⟩
  | bad f => rw [hx] at h; cases h
/-- a class's round: the member's fault -/
theorem cls_bad {p : List Int} (hT : Txt1 p) {L : List Int} {j : Nat} (hj : j ≤ p.length) {f : Int} (h : memI p j = .bad f) : clsF CC p.length L (p.drop j) = .bad f := by
  rw [cls_round, at_drop p j hj, mem_ix hT, h]; rfl
theorem cls_one {p : List Int} (hT : Txt1 p) {L m : List Int} {o : Bool} {j j1 : Nat} (hj : j ≤ p.length) (h : memI p j = .ok m o j1) (hd : o = true → nx p j1 = 45 → single CC (p.drop (j1 + 1)) = false) :
    clsF CC p.length L (p.drop j) = clsS CC p.length (L ++ m) (p.drop j1) := by
  rw [cls_round, at_drop p j hj, mem_ix hT, h]
  show (match dash CC o (p.drop j1) with | none => _ | some s2 => _) = _
  have : dash CC o (p.drop j1) = none := by
    cases o with
    | false => exact dash_false _ _
    | true =>
      rcases Nat.lt_or_ge j1 p.length with h1 | h1
      · rw [drop_nx h1]
        by_cases h45 : nx p j1 = 45
        · rw [h45, dash_some, hd rfl h45]; rfl
        · exact dash_ne (fun t e => by injection e with e _; exact h45 e) _
      · rw [drop_end h1]; rfl
  rw [this]
theorem cls_two {p : List Int} (hT : Txt1 p) {L m m2 : List Int} {o2 : Bool} {j j1 j2 : Nat} (hj : j ≤ p.length) (h : memI p j = .ok m true j1) (h45 : nx p j1 = 45) (h2 : memI p (j1 + 1) = .ok m2 o2 j2) (hs : single CC (p.drop (j1 + 1)) = true) :
    clsF CC p.length L (p.drop j) = if fst m2 < fst m then .bad (j : Int) else clsS CC p.length (L ++ [fst m, fst m2]) (p.drop j2) := by
  have hj1 : j1 < p.length := by
    rcases Nat.lt_or_ge j1 p.length with h1 | h1
    · exact h1
    · rw [nx_end h1] at h45; omega
  rw [cls_round, at_drop p j hj, mem_ix hT, h]
  show (match dash CC true (p.drop j1) with | none => _ | some s2 => _) = _
  have : dash CC true (p.drop j1) = some (p.drop (j1 + 1)) := by
    rw [drop_nx hj1, h45, dash_some, hs]; rfl
  rw [this]
  dsimp only
  rw [at_drop p (j1 + 1) (by omega), mem_ix hT, h2]
  rfl
/-- a class's loop -/
def ClsIn (X : Rc) (B : Nat) (w : World) (r : Nat) (a : Option Addr) (c : Nat) (p : List Int) (x y i0 : Nat) (g : Nat) (lv fv : Value) (wr : World) : Prop :=
  (∃ (fl : Bool) (j : Nat) (aL : Option Addr) (cL : Nat) (L : List Int), g = p.length - j + 1 ∧ fv = .bool fl ∧ lv = .slice aL L.length cL ∧ i0 ≤ j ∧ j ≤ p.length ∧ L.length ≤ 8 * (j - i0) ∧ Hid (X = if fl = true then clsF CC p.length L (p.drop j) else clsS CC p.length L (p.drop j)) ∧ Hid (Own wr w.heap.size aL cL L) ∧ Hid (Rdr B wr r a c p j x y 0 0) ∧ Hid (KR r w wr)) ∨
  (∃ (j : Nat) (aL : Option Addr) (cL : Nat) (L : List Int) (f : Int), g = 0 ∧ fv = .bool false ∧ lv = .slice aL L.length cL ∧ j ≤ p.length ∧ Hid (X = .bad f) ∧ Hid (Own wr w.heap.size aL cL L) ∧ Hid (Rdr B wr r a c p j x y 5 f) ∧ Hid (KR r w wr))
set_option maxRecDepth 20000 in
set_option maxHeartbeats 32000000 in
theorem dclass_c (B : Nat) (w : World) (r : Nat) (a : Option Addr) (c : Nat) (p : List Int) (i g d : Nat) (h : Rdr B w r a c p i g d 0 0) (hT : Txt1 p) (hi : i < p.length) (hd : d ≤ 12) (hg : g ≤ 9) :
    Calls Tryz.prog 147 #[.pointer (some ⟨r, 0, none⟩)] w (OutD (if nx p (i + 1) = 94 then clsI p true (i + 2) g else clsI p false (i + 1) g) B w r a c p i d 1 1) := by
  have hl := hT.1
  have HT := hid hT
  have hB := h.Bw
  have hrw : r < w.heap.size := h.lt
  have W0 : IntKind.i64.wrap ((i : Int) + 1) = ((i + 1 : Nat) : Int) := by rw [IntKind.wrap_i64]; omega
  obtain ⟨X, hX⟩ : ∃ X, X = (if nx p (i + 1) = 94 then clsI p true (i + 2) g else clsI p false (i + 1) g) := ⟨_, rfl⟩
  rw [← hX]
  (have c0 := h.c0; have c1 := h.c1; have c2 := h.c2; have c3 := h.c3; have c4 := h.c4; have c5 := h.c5; have f1 := h.fz 1; have f2 := h.fz 2; have f3 := h.fz 3; have f4 := h.fz 4; have f5 := h.fz 5; have rl := h.lt; have Hh := hid h; clear h)
  have H1 := hid (Hh.out.set1 (i + 1))
  have K1 := hid ((KR.refl r w).set (o := 1) (.int .i64 ((i + 1 : Nat) : Int)))
  clear Hh
  have hX2 : (∃ i0 : Nat, i0 = i + 2 ∧ nx p (i + 1) = 94 ∧ i + 1 < p.length ∧ X = clsI p true i0 g) ∨ (∃ i0 : Nat, i0 = i + 1 ∧ nx p (i + 1) ≠ 94 ∧ X = clsI p false i0 g) := by
    by_cases h94 : nx p (i + 1) = 94
    · refine .inl ⟨_, rfl, h94, ?_, by rw [hX, if_pos h94]⟩
      rcases Nat.lt_or_ge (i + 1) p.length with h1 | h1
      · exact h1
      · rw [nx_end h1] at h94; omega
    · exact .inr ⟨_, rfl, h94, by rw [hX, if_neg h94]⟩
  clear hX
  go_enter Tryz.func147, Tryz.ntmps147
  go_wp2_with fail; refine (dnext_c B _ r a c p (i + 1) g d 0 0 H1.out).mono ?_; rintro _ w2 ⟨rfl, h2, k2⟩; have H2 := hid h2; have K2 := hid k2; clear h2 k2
  rcases hX2 with ⟨i0, hi0, h94, hlt, hX⟩ | ⟨i0, hi0, h94, hX⟩
  · have W1 : IntKind.i64.wrap (((i + 1 : Nat) : Int) + 1) = ((i + 2 : Nat) : Int) := by rw [IntKind.wrap_i64]; omega
    push_cast at W1
    rw [h94]
    have h2 := H2.out
    have HX := hid hX
    have h3 := h2.set1 (i + 2)
    rw [← hi0] at h3
    have HR0 := hid h3
    have HK0 := hid ((K1.out.tr K2.out).set (o := 1) (.int .i64 ((i + 2 : Nat) : Int)))
    rw [← hi0] at HK0
    have hb0 : i + 1 ≤ i0 ∧ i0 ≤ p.length := by omega
    have e0 : ((i + 2 : Nat) : Int) = (i0 : Int) := by omega
    (have c0 := h2.c0; have c1 := h2.c1; have c2 := h2.c2; have c3 := h2.c3; have c4 := h2.c4; have c5 := h2.c5; have f1 := h2.fz 1; have f2 := h2.fz 2; have f3 := h2.fz 3; have f4 := h2.fz 4; have f5 := h2.fz 5; have rl := h2.lt; have Hh2 := hid h2; clear h2)
    clear hX h94 hlt h3 Hh2
    go_wp2_with fail
    clear c0 c1 c2 c3 c4 c5 f1 f2 f3 f4 f5 rl W1
    rw [show (i : Int) + 1 + 1 = (i0 : Int) by omega]
    clear hi0 e0
    generalize w2.setCell ⟨r, 1, none⟩ (.int .i64 (i0 : Int)) = V at HR0 HK0 ⊢
    obtain ⟨Y, hY⟩ : ∃ Y, Y = clsF CC p.length [] (p.drop i0) := ⟨_, rfl⟩
    have HY : Hid (X = clsR true g Y) := by
      rw [Hid, HX.out, clsI_eq, hY]
    have HY0 := hid hY
    have hVw := HK0.out.size
    clear HX hY
    go_loopg [4, 5] (p.length - i0 + 1) (fun gg lv fv wr => ClsIn Y B w r a c p g d i0 gg lv fv wr)
    case atStart => exact .inl ⟨true, i0, none, 0, [], rfl, rfl, rfl, Nat.le_refl _, hb0.2, by simp, by rw [Hid, if_pos rfl]; exact HY0.out, hid (Own.nil _ _), HR0, HK0⟩
    case round =>
      rcases hrel with ⟨fl, j, aL, cL, L, rfl, rfl, rfl, hj0, hj1, hLl, HYj, HO, HR, HK⟩ | ⟨j, aL, cL, L, f, rfl, rfl, rfl, hj1, HYf, HO, HR, HK⟩
      · by_cases hex : fl = false ∧ nx p j = 93
        · obtain ⟨rfl, h93⟩ := hex
          have hjl : j < p.length := by
            rcases Nat.lt_or_ge j p.length with h1 | h1
            · exact h1
            · rw [nx_end h1] at h93; omega
          have HYe : Hid (X = .ok [nSet true L] (p.drop (j + 1)) g) := by
            have h1 := HYj.out
            rw [if_neg (by decide), drop_nx hjl, h93] at h1
            have h2 : Y = .ok L (p.drop (j + 1)) := h1
            rw [Hid, HY.out, h2]; rfl
          have W3 : IntKind.i64.wrap ((j : Int) + 1) = ((j + 1 : Nat) : Int) := by rw [IntKind.wrap_i64]; omega
          as_aux_lemma =>
          go_wp2_with fail; refine (dok_c B _ r a c p j g d 0 0 HR.out).mono ?_; rintro _ w5 ⟨rfl, h5, k5⟩; have H5 := hid h5; have K5 := hid k5; clear h5 k5
          go_wp2_with fail; refine (dnext_c B _ r a c p j g d 0 0 H5.out).mono ?_; rintro _ w6 ⟨rfl, h6, k6⟩; have H6 := hid h6; have K6 := hid k6; clear h6 k6
          rw [h93]
          have h6 := H6.out
          (have c0 := h6.c0; have c1 := h6.c1; have c2 := h6.c2; have c3 := h6.c3; have c4 := h6.c4; have c5 := h6.c5; have f1 := h6.fz 1; have f2 := h6.fz 2; have f3 := h6.fz 3; have f4 := h6.fz 4; have f5 := h6.fz 5; have rl := h6.lt; have Hh6 := hid h6; clear h6)
          have H7 := hid (Hh6.out.set1 (j + 1))
          have K7 := hid (((HK.out.tr K5.out).tr K6.out).set (o := 1) (.int .i64 ((j + 1 : Nat) : Int)))
          have O7 := hid ((((HO.out.kr K5.out hrw).kr K6.out hrw).kr ((KR.refl r _).set (o := 1) (.int .i64 ((j + 1 : Nat) : Int))) hrw))
          clear Hh6
          go_wp2_with fail
          refine (set_dk w6.heap.size true aL cL L _ (by simp)).mono ?_
          rintro _ w8 ⟨rfl, o8, b8⟩
          have O8 := hid o8
          have B8 := hid b8
          have z8 := K7.out.size
          clear o8 b8
          go_wp2_with fail
          go_ret
          rw [HYe.out]
          refine ⟨_, _, _, j + 1, rfl, rfl, O8.out.base_le z8, ?_, by omega, by omega, ?_, rfl, hg, H7.out.bel B8.out, K7.out.thn B8.out⟩
          · exact Sets.one (m := ⟨2, 0, 0, 0, false, true, aL, L, cL⟩) (O7.out.grow B8.out)
          · exact (Sml.one _ rfl).mono (by omega) (Nat.le_refl _)
        · have HYc : Hid (Y = clsF CC p.length L (p.drop j)) := by
            have h1 := HYj.out
            cases fl with
            | true => exact h1
            | false =>
              rw [if_neg (by decide)] at h1
              rw [Hid, h1]
              refine clsS_other fun t e => hex ⟨rfl, ?_⟩
              exact (nx_drop e).2.1
          obtain ⟨M, hM⟩ : ∃ M, M = memI p j := ⟨_, rfl⟩
          have HM := hid hM
          have hfl : fl = true ∨ nx p j ≠ 93 := by
            cases fl with
            | true => exact .inl rfl
            | false => exact .inr fun h => hex ⟨rfl, h⟩
          clear hex HYj
          cases fl
          case' true => go_wp2_with fail; refine (dok_c B _ r a c p j g d 0 0 HR.out).mono ?_; rintro _ w6 ⟨rfl, h6, k6⟩; have H6 := hid h6; have K6 := hid k6; clear h6 k6
          case' true => have HK6 := hid (HK.out.tr K6.out)
          case' true => have HO6 := hid (HO.out.kr K6.out hrw)
          case' false =>
            have b93 : (nx p j != 93) = true := by
              rcases hfl with h | h
              · cases h
              · simpa using h
            go_wp2_with fail; refine (dok_c B _ r a c p j g d 0 0 HR.out).mono ?_; rintro _ w5 ⟨rfl, h5, k5⟩; have H5 := hid h5; have K5 := hid k5; clear h5 k5
            go_wp2_with fail; refine (dnext_c B _ r a c p j g d 0 0 H5.out).mono ?_; rintro _ w6 ⟨rfl, h6, k6⟩; have H6 := hid h6; have K6 := hid k6; clear h6 k6
            have HK6 := hid ((HK.out.tr K5.out).tr K6.out)
            have HO6 := hid ((HO.out.kr K5.out hrw).kr K6.out hrw)
          all_goals
            have MC := hid (dmember_c B w6 r a c p j g d H6.out HT.out hj1)
            rw [← hM] at MC
            have h6 := H6.out
            (have c0 := h6.c0; have c1 := h6.c1; have c2 := h6.c2; have c3 := h6.c3; have c4 := h6.c4; have c5 := h6.c5; have f1 := h6.fz 1; have f2 := h6.fz 2; have f3 := h6.fz 3; have f4 := h6.fz 4; have f5 := h6.fz 5; have rl := h6.lt; have Hh6 := hid h6; clear h6)
            clear hM
            go_wp2_with fail
            refine MC.out.mono ?_
            clear MC c0 c1 c2 c3 c4 c5 f1 f2 f3 f4 f5 rl
            rintro _ w7 hm
            cases M with
            | bad f =>
              obtain ⟨j1, hj1', rfl, h7, k7⟩ := hm
              have H7 := hid h7
              have K7 := hid k7
              have HXf : Hid (X = .bad 5 f) := by rw [Hid, HY.out, HYc.out, cls_bad HT.out hj1 HM.out.symm]; rfl
              clear h7 k7
              as_aux_lemma =>
              go_wp2_with fail; refine (dok_c B _ r a c p j1 g d 5 f H7.out).mono ?_; rintro _ w8 ⟨rfl, h8, k8⟩; have H8 := hid h8; have K8 := hid k8; clear h8 k8
              go_wp2_with fail
              go_ret
              rw [HXf.out]
              exact ⟨none, 0, [], j1, g, rfl, ROwn.nil _ _, Sml.nil _ _, by decide, by omega, H8.out, (HK6.out.tr K7.out).tr K8.out⟩
            | ok m o j1 =>
              obtain ⟨am, cm, rfl, ho, h7, k7⟩ := hm
              have hat := memI_at HT.out HM.out.symm
              obtain ⟨g1, g2, g3, g4⟩ := hat
              have H7 := hid h7
              have K7 := hid k7
              have HOm := hid ho
              have HK7 := hid (HK6.out.tr K7.out)
              have HO7 := hid (HO6.out.kr K7.out hrw)
              have hz6 := HK6.out.size
              have hz7 := HK7.out.size
              have HG4 := hid g4
              clear h7 k7 ho g4
              have hBw : B ≤ w.heap.size := hB
              by_cases hd : o = true → nx p j1 = 45 → single CC (p.drop (j1 + 1)) = false
              · have HYn : Hid (Y = clsS CC p.length (L ++ m) (p.drop j1)) := by rw [Hid, HYc.out, cls_one HT.out hj1 HM.out.symm hd]
                have HD := hid hd
                clear hd
                cases o with
                | false =>
                  as_aux_lemma =>
                  go_wp2_with fail; refine (dok_c B _ r a c p j1 g d 0 0 H7.out).mono ?_; rintro _ w8 ⟨rfl, h8, k8⟩; have H8 := hid h8; have K8 := hid k8; clear h8 k8
                  have HOf := hid (HO7.out.kr K8.out hrw)
                  have HSf := hid ((HOm.out.kr K8.out (by omega)).sl)
                  have HRf := H8
                  have HKf := hid (HK7.out.tr K8.out)
                  have hzf := HKf.out.size
                  go_wp2_with ((at_builtin; (refine wpL_appn rfl (.tmp 95) (.tmp 96) rfl w.heap.size aL am L.length m.length cL cm L m rfl (by first | rfl | simp | omega) HOf.out rfl (by first | rfl | simp | omega) HSf.out (by omega) hzf ?_); intro a9 c9 w9 L9 Hl9 ho9 hb9 hk9 hA9; have HA9 := hid hA9; clear hA9; have Ho9 := hid ho9; clear ho9; have Hk9 := hid hk9; clear hk9; have hz9 := hb9.size))
                  go_roundg (p.length - j1 + 1)
                  case measure => omega
                  case rel => exact .inl ⟨false, j1, a9, c9, L9, rfl, rfl, rfl, by omega, g2, by rw [Hl9.out, List.length_append]; omega, by rw [Hid, if_neg (by decide), Hl9.out]; exact HYn.out, Ho9, hid (HRf.out.below hb9 hBw), hid (HKf.out.thn' hb9)⟩
                | true =>
                  by_cases h45 : nx p j1 = 45
                  · have hs := HD.out rfl h45
                    have j1l : j1 < p.length := by
                      rcases Nat.lt_or_ge j1 p.length with h1 | h1
                      · exact h1
                      · rw [nx_end h1] at h45; omega
                    have W5 : IntKind.i64.wrap ((j1 : Int) + 1) = ((j1 + 1 : Nat) : Int) := by rw [IntKind.wrap_i64]; omega
                    have SC := hid (fun w' (h : Rdr B w' r a c p j1 g d 0 0) => dsingle_c B w' r a c p (j1 + 1) j1 g d 0 0 h HT.out (by omega))
                    simp only [hs] at SC
                    clear hs
                    as_aux_lemma =>
                    go_wp2_with fail; refine (dok_c B _ r a c p j1 g d 0 0 H7.out).mono ?_; rintro _ w8 ⟨rfl, h8, k8⟩; have H8 := hid h8; have K8 := hid k8; clear h8 k8
                    go_wp2_with fail; refine (dnext_c B _ r a c p j1 g d 0 0 H8.out).mono ?_; rintro _ w9 ⟨rfl, h9, k9⟩; have H9 := hid h9; have K9 := hid k9; clear h9 k9
                    rw [h45]
                    have h9 := H9.out
                    (have c0 := h9.c0; have c1 := h9.c1; have c2 := h9.c2; have c3 := h9.c3; have c4 := h9.c4; have c5 := h9.c5; have f1 := h9.fz 1; have f2 := h9.fz 2; have f3 := h9.fz 3; have f4 := h9.fz 4; have f5 := h9.fz 5; have rl := h9.lt; have Hh9 := hid h9; clear h9)
                    go_wp2_with fail
                    refine (SC.out _ Hh9.out).mono ?_
                    rintro _ w10 ⟨rfl, h10, k10⟩
                    have HRf := hid h10
                    have HKf := hid (((HK7.out.tr K8.out).tr K9.out).tr k10)
                    have HOf := hid (((HO7.out.kr K8.out hrw).kr K9.out hrw).kr k10 hrw)
                    have HSf := hid ((((HOm.out.kr K8.out (by omega)).kr K9.out (by omega)).kr k10 (by omega)).sl)
                    have hzf := HKf.out.size
                    clear h10 k10 Hh9
                    clear rl c0 c1 c2 c3 c4 c5 f1 f2 f3 f4 f5
                    go_wp2_with ((at_builtin; (refine wpL_appn rfl (.tmp 95) (.tmp 96) rfl w.heap.size aL am L.length m.length cL cm L m rfl (by first | rfl | simp | omega) HOf.out rfl (by first | rfl | simp | omega) HSf.out (by omega) hzf ?_); intro a9 c9 w9 L9 Hl9 ho9 hb9 hk9 hA9; have HA9 := hid hA9; clear hA9; have Ho9 := hid ho9; clear ho9; have Hk9 := hid hk9; clear hk9; have hz9 := hb9.size))
                    go_roundg (p.length - j1 + 1)
                    case measure => omega
                    case rel => exact .inl ⟨false, j1, a9, c9, L9, rfl, rfl, rfl, by omega, g2, by rw [Hl9.out, List.length_append]; omega, by rw [Hid, if_neg (by decide), Hl9.out]; exact HYn.out, Ho9, hid (HRf.out.below hb9 hBw), hid (HKf.out.thn' hb9)⟩
                  · have b45 : (nx p j1 == 45) = false := by simpa using h45
                    as_aux_lemma =>
                    go_wp2_with fail; refine (dok_c B _ r a c p j1 g d 0 0 H7.out).mono ?_; rintro _ w8 ⟨rfl, h8, k8⟩; have H8 := hid h8; have K8 := hid k8; clear h8 k8
                    go_wp2_with fail; refine (dnext_c B _ r a c p j1 g d 0 0 H8.out).mono ?_; rintro _ w9 ⟨rfl, h9, k9⟩; have H9 := hid h9; have K9 := hid k9; clear h9 k9
                    have HRf := H9
                    have HKf := hid ((HK7.out.tr K8.out).tr K9.out)
                    have HOf := hid ((HO7.out.kr K8.out hrw).kr K9.out hrw)
                    have HSf := hid (((HOm.out.kr K8.out (by omega)).kr K9.out (by omega)).sl)
                    have hzf := HKf.out.size
                    go_wp2_with ((at_builtin; (refine wpL_appn rfl (.tmp 95) (.tmp 96) rfl w.heap.size aL am L.length m.length cL cm L m rfl (by first | rfl | simp | omega) HOf.out rfl (by first | rfl | simp | omega) HSf.out (by omega) hzf ?_); intro a9 c9 w9 L9 Hl9 ho9 hb9 hk9 hA9; have HA9 := hid hA9; clear hA9; have Ho9 := hid ho9; clear ho9; have Hk9 := hid hk9; clear hk9; have hz9 := hb9.size))
                    go_roundg (p.length - j1 + 1)
                    case measure => omega
                    case rel => exact .inl ⟨false, j1, a9, c9, L9, rfl, rfl, rfl, by omega, g2, by rw [Hl9.out, List.length_append]; omega, by rw [Hid, if_neg (by decide), Hl9.out]; exact HYn.out, Ho9, hid (HRf.out.below hb9 hBw), hid (HKf.out.thn' hb9)⟩
              · have hd2 : o = true ∧ nx p j1 = 45 ∧ single CC (p.drop (j1 + 1)) = true := by
                  cases o with
                  | false => exact absurd (fun h => by cases h) hd
                  | true =>
                    refine ⟨rfl, ?_⟩
                    by_cases h45 : nx p j1 = 45
                    · refine ⟨h45, ?_⟩
                      cases hs : single CC (p.drop (j1 + 1)) with
                      | true => rfl
                      | false => exact absurd (fun _ _ => hs) hd
                    · exact absurd (fun _ h => absurd h h45) hd
                obtain ⟨rfl, h45, hs⟩ := hd2
                clear hd
                obtain ⟨m2, j2, hM2⟩ := single_ok HT.out hs
                obtain ⟨e1, e2, -, e4⟩ := memI_at HT.out hM2
                obtain ⟨xx, rfl⟩ := one_is HG4.out.symm
                obtain ⟨yy, rfl⟩ := one_is e4.symm
                have hYr := HYc.out
                rw [cls_two HT.out hj1 HM.out.symm h45 hM2 hs, fst_pair, fst_pair] at hYr
                have HYr := hid hYr
                have j1l : j1 < p.length := by omega
                have W5 : IntKind.i64.wrap ((j1 : Int) + 1) = ((j1 + 1 : Nat) : Int) := by rw [IntKind.wrap_i64]; omega
                have SC := hid (fun w' (h : Rdr B w' r a c p j1 g d 0 0) => dsingle_c B w' r a c p (j1 + 1) j1 g d 0 0 h HT.out (by omega))
                simp only [hs] at SC
                have MC := hid (fun w' (h : Rdr B w' r a c p (j1 + 1) g d 0 0) => dmember_c B w' r a c p (j1 + 1) g d h HT.out (by omega))
                simp only [hM2] at MC
                have hrx := HOm.out.2.1 xx (by simp)
                clear hs hYr hM2 e4
                as_aux_lemma =>
                go_wp2_with fail; refine (dok_c B _ r a c p j1 g d 0 0 H7.out).mono ?_; rintro _ w8 ⟨rfl, h8, k8⟩; have H8 := hid h8; have K8 := hid k8; clear h8 k8
                go_wp2_with fail; refine (dnext_c B _ r a c p j1 g d 0 0 H8.out).mono ?_; rintro _ w9 ⟨rfl, h9, k9⟩; have H9 := hid h9; have K9 := hid k9; clear h9 k9
                rw [h45]
                have h9 := H9.out
                (have c0 := h9.c0; have c1 := h9.c1; have c2 := h9.c2; have c3 := h9.c3; have c4 := h9.c4; have c5 := h9.c5; have f1 := h9.fz 1; have f2 := h9.fz 2; have f3 := h9.fz 3; have f4 := h9.fz 4; have f5 := h9.fz 5; have rl := h9.lt; have Hh9 := hid h9; clear h9)
                go_wp2_with fail
                refine (SC.out _ Hh9.out).mono ?_
                rintro _ w10 ⟨rfl, h10, k10⟩
                clear rl c0 c1 c2 c3 c4 c5 f1 f2 f3 f4 f5
                have HK10 := hid (((HK7.out.tr K8.out).tr K9.out).tr k10)
                have HO10 := hid (((HO7.out.kr K8.out hrw).kr K9.out hrw).kr k10 hrw)
                have HM10 := hid (((HOm.out.kr K8.out (by omega)).kr K9.out (by omega)).kr k10 (by omega))
                have hz10 := HK10.out.size
                clear Hh9 k10
                (have c0 := h10.c0; have c1 := h10.c1; have c2 := h10.c2; have c3 := h10.c3; have c4 := h10.c4; have c5 := h10.c5; have f1 := h10.fz 1; have f2 := h10.fz 2; have f3 := h10.fz 3; have f4 := h10.fz 4; have f5 := h10.fz 5; have rl := h10.lt; have Hh10 := hid h10; clear h10)
                have H11 := hid (Hh10.out.set1 (j1 + 1))
                have S11 := hid ((KR.refl r w10).set (o := 1) (.int .i64 ((j1 + 1 : Nat) : Int)))
                clear Hh10
                go_wp2_with fail
                refine (MC.out _ H11.out).mono ?_
                clear rl c0 c1 c2 c3 c4 c5 f1 f2 f3 f4 f5
                rintro _ w11 ⟨an, cn, rfl, hon, h11, k11⟩
                have hz11 := k11.size
                have hz10' : w10.heap.size ≤ w11.heap.size := by simpa using hz11
                have HRf := hid h11
                have HKf := hid ((HK10.out.tr S11.out).tr k11)
                have HOf := hid ((HO10.out.kr S11.out hrw).kr k11 hrw)
                have hom := ((HM10.out.kr S11.out (by omega)).kr k11 (by omega)).sl
                have hry := hon.2.1 yy (by simp)
                obtain ⟨mb, mo, rfl, hmc⟩ := hom.at (i := 0) (by simp)
                obtain ⟨nb, no, rfl, hnc⟩ := hon.sl.at (i := 0) (by simp)
                have cm0 : w11.cell? ⟨mb, mo, none⟩ = some (.int .i32 xx) := hmc 0 (by simp)
                have cn0 : w11.cell? ⟨nb, no, none⟩ = some (.int .i32 yy) := hnc 0 (by simp)
                have CMN : Hid (∀ w', KR r w11 w' → mb ≠ r → nb ≠ r → w'.cell? ⟨mb, mo, none⟩ = some (.int .i32 xx) ∧ w'.cell? ⟨nb, no, none⟩ = some (.int .i32 yy)) := fun w' k h1 h2 => ⟨k.cell cm0 h1, k.cell cn0 h2⟩
                have hmr : mb ≠ r := by
                  have q0 := (HM10.out.1.lt mb rfl).1
                  omega
                have hnr : nb ≠ r := by
                  have q0 := (hon.1.lt nb rfl).1
                  simp at q0
                  omega
                clear hom hon h11 k11 hmc hnc HM10 H11 S11 HK10 HO10 hz11
                by_cases hyx : yy < xx
                · have bg : decide (yy < xx) = true := decide_eq_true hyx
                  have HYb : Hid (Y = .bad (j : Int)) := by rw [Hid, HYr.out, if_pos hyx]
                  clear hyx HYr
                  go_wp2_with fail
                  go_quiet (fail)
                  go_wp2_with fail
                  refine (dbad_one 5 j B _ r a c p j2 g d 0 (HRf.out.drewN _)).mono ?_
                  rintro _ w12 ⟨rfl, h12, k12⟩
                  have H12 := hid h12
                  have K12 := hid (((HKf.out.drewN _).tr k12))
                  have O12 := hid (((HOf.out.drewN _).kr k12 hrw))
                  obtain ⟨cm1, cn1⟩ := CMN.out w12 (((KR.refl r w11).drewN _).tr k12) hmr hnr
                  clear h12 k12 cm0 cn0
                  go_wp2_with fail
                  go_still_tail 6, (by kernel_rfl)
                  have z12 := K12.out.size
                  go_wp2_with ((at_builtin; (refine wpL_appn rfl (.tmp 95) (.tmp 96) rfl w.heap.size aL (some ⟨w12.heap.size, 0, none⟩) L.length 2 cL 2 L [xx, yy] rfl (by first | rfl | simp | omega) (O12.out.grow (by (repeat' (first | exact Below.refl _ _ | assumption | refine bdrewN ?_ _ | refine Below.drew ?_ | refine Below.setCell ?_ (Nat.le_refl _) _ | refine bal ?_ _ | refine bthen ?_ (by assumption))))) rfl (by first | rfl | simp | omega) (Sl.drew (Sl.lit' _ [xx, yy] _ _ (by simp) (by simp) (rng_cons hrx (rng_one hry)) _ rfl)) (by simp; omega) (by simp; omega) ?_); intro a9 c9 w9 L9 Hl9 ho9 hb9 hk9 hA9; have HA9 := hid hA9; clear hA9; have Ho9 := hid ho9; clear ho9; have Hk9 := hid hk9; clear hk9; have hz9 := hb9.size))
                  have bz : Below w12.heap.size w12 (w12.alloc (.cells #[.int .i32 xx, .int .i32 yy] 21)).drew := by (repeat' (first | exact Below.refl _ _ | assumption | refine bdrewN ?_ _ | refine Below.drew ?_ | refine Below.setCell ?_ (Nat.le_refl _) _ | refine bal ?_ _ | refine bthen ?_ (by assumption)))
                  go_roundg 0
                  case measure => omega
                  case rel => exact .inr ⟨j2, a9, c9, L9, (j : Int), rfl, rfl, rfl, e2, HYb, Ho9, hid ((H12.out.bel bz).below hb9 hBw), hid ((K12.out.thn bz).thn' hb9)⟩
                · have bg : decide (yy < xx) = false := decide_eq_false hyx
                  have HYn : Hid (Y = clsS CC p.length (L ++ [xx, yy]) (p.drop j2)) := by rw [Hid, HYr.out, if_neg hyx]
                  clear hyx HYr
                  go_wp2_with fail
                  go_quiet (fail)
                  go_wp2_with fail
                  obtain ⟨w12, hw12⟩ : ∃ w12, w12 = w11.drewN nq := ⟨_, rfl⟩
                  have H12 := hid (show Rdr B w12 r a c p j2 g d 0 0 from hw12 ▸ HRf.out.drewN nq)
                  have K12 := hid (show KR r w w12 from hw12 ▸ HKf.out.drewN nq)
                  have O12 := hid (show Own w12 w.heap.size aL cL L from hw12 ▸ HOf.out.drewN nq)
                  obtain ⟨cm1, cn1⟩ := CMN.out w12 (hw12 ▸ (KR.refl r w11).drewN nq) hmr hnr
                  rw [← hw12]
                  clear hw12 cm0 cn0
                  have z12 := K12.out.size
                  go_still_tail 6, (by kernel_rfl)
                  go_wp2_with ((at_builtin; (refine wpL_appn rfl (.tmp 95) (.tmp 96) rfl w.heap.size aL (some ⟨w12.heap.size, 0, none⟩) L.length 2 cL 2 L [xx, yy] rfl (by first | rfl | simp | omega) (O12.out.grow (by (repeat' (first | exact Below.refl _ _ | assumption | refine bdrewN ?_ _ | refine Below.drew ?_ | refine Below.setCell ?_ (Nat.le_refl _) _ | refine bal ?_ _ | refine bthen ?_ (by assumption))))) rfl (by first | rfl | simp | omega) (Sl.drew (Sl.lit' _ [xx, yy] _ _ (by simp) (by simp) (rng_cons hrx (rng_one hry)) _ rfl)) (by simp; omega) (by simp; omega) ?_); intro a9 c9 w9 L9 Hl9 ho9 hb9 hk9 hA9; have HA9 := hid hA9; clear hA9; have Ho9 := hid ho9; clear ho9; have Hk9 := hid hk9; clear hk9; have hz9 := hb9.size))
                  have bz : Below w12.heap.size w12 (w12.alloc (.cells #[.int .i32 xx, .int .i32 yy] 21)).drew := by (repeat' (first | exact Below.refl _ _ | assumption | refine bdrewN ?_ _ | refine Below.drew ?_ | refine Below.setCell ?_ (Nat.le_refl _) _ | refine bal ?_ _ | refine bthen ?_ (by assumption)))
                  go_roundg (p.length - j2 + 1)
                  case measure => omega
                  case rel => exact .inl ⟨false, j2, a9, c9, L9, rfl, rfl, rfl, by omega, e2, by rw [Hl9.out, List.length_append]; simp; omega, by rw [Hid, if_neg (by decide), Hl9.out]; exact HYn.out, Ho9, hid ((H12.out.bel bz).below hb9 hBw), hid ((K12.out.thn bz).thn' hb9)⟩
      · have HXf : Hid (X = .bad 5 f) := by rw [Hid, HY.out, HYf.out]; rfl
        have W3 : IntKind.i64.wrap ((j : Int) + 1) = ((j + 1 : Nat) : Int) := by rw [IntKind.wrap_i64]; omega
        as_aux_lemma =>
        go_wp2_with fail; refine (dok_c B _ r a c p j g d 5 f HR.out).mono ?_; rintro _ w5 ⟨rfl, h5, k5⟩; have H5 := hid h5; have K5 := hid k5; clear h5 k5
        have h5 := H5.out
        (have c0 := h5.c0; have c1 := h5.c1; have c2 := h5.c2; have c3 := h5.c3; have c4 := h5.c4; have c5 := h5.c5; have f1 := h5.fz 1; have f2 := h5.fz 2; have f3 := h5.fz 3; have f4 := h5.fz 4; have f5 := h5.fz 5; have rl := h5.lt; have Hh5 := hid h5; clear h5)
        have H7 := hid (Hh5.out.set1 (j + 1))
        have K7 := hid ((HK.out.tr K5.out).set (o := 1) (.int .i64 ((j + 1 : Nat) : Int)))
        clear Hh5
        go_wp2_with fail
        refine (set_dk w5.heap.size true aL cL L _ (by simp)).mono ?_
        rintro _ w8 ⟨rfl, o8, b8⟩
        have O8 := hid o8
        have B8 := hid b8
        have z8 := K7.out.size
        clear o8 b8
        go_wp2_with fail
        go_ret
        rw [HXf.out]
        exact ⟨_, _, _, j + 1, g, rfl, O8.out.base_le z8, (Sml.one _ rfl).mono (by omega) (Nat.le_refl _), by decide, by omega, H7.out.bel B8.out, K7.out.thn B8.out⟩
  · have b94 : (nx p (i + 1) == 94) = false := by simpa using h94
    have HX := hid hX
    have HR0 := hid H2.out
    have HK0 := hid (K1.out.tr K2.out)
    rw [← hi0] at HR0
    have hb0 : i + 1 ≤ i0 ∧ i0 ≤ p.length := by omega
    go_wp2_with fail
    clear b94 hX h94
    clear hi0
    rename World => V
    obtain ⟨Y, hY⟩ : ∃ Y, Y = clsF CC p.length [] (p.drop i0) := ⟨_, rfl⟩
    have HY : Hid (X = clsR false g Y) := by
      rw [Hid, HX.out, clsI_eq, hY]
    have HY0 := hid hY
    have hVw := HK0.out.size
    clear HX hY
    go_loopg [4, 5] (p.length - i0 + 1) (fun gg lv fv wr => ClsIn Y B w r a c p g d i0 gg lv fv wr)
    case atStart => exact .inl ⟨true, i0, none, 0, [], rfl, rfl, rfl, Nat.le_refl _, hb0.2, by simp, by rw [Hid, if_pos rfl]; exact HY0.out, hid (Own.nil _ _), HR0, HK0⟩
    case round =>
      rcases hrel with ⟨fl, j, aL, cL, L, rfl, rfl, rfl, hj0, hj1, hLl, HYj, HO, HR, HK⟩ | ⟨j, aL, cL, L, f, rfl, rfl, rfl, hj1, HYf, HO, HR, HK⟩
      · by_cases hex : fl = false ∧ nx p j = 93
        · obtain ⟨rfl, h93⟩ := hex
          have hjl : j < p.length := by
            rcases Nat.lt_or_ge j p.length with h1 | h1
            · exact h1
            · rw [nx_end h1] at h93; omega
          have HYe : Hid (X = .ok [nSet false L] (p.drop (j + 1)) g) := by
            have h1 := HYj.out
            rw [if_neg (by decide), drop_nx hjl, h93] at h1
            have h2 : Y = .ok L (p.drop (j + 1)) := h1
            rw [Hid, HY.out, h2]; rfl
          have W3 : IntKind.i64.wrap ((j : Int) + 1) = ((j + 1 : Nat) : Int) := by rw [IntKind.wrap_i64]; omega
          as_aux_lemma =>
          go_wp2_with fail; refine (dok_c B _ r a c p j g d 0 0 HR.out).mono ?_; rintro _ w5 ⟨rfl, h5, k5⟩; have H5 := hid h5; have K5 := hid k5; clear h5 k5
          go_wp2_with fail; refine (dnext_c B _ r a c p j g d 0 0 H5.out).mono ?_; rintro _ w6 ⟨rfl, h6, k6⟩; have H6 := hid h6; have K6 := hid k6; clear h6 k6
          rw [h93]
          have h6 := H6.out
          (have c0 := h6.c0; have c1 := h6.c1; have c2 := h6.c2; have c3 := h6.c3; have c4 := h6.c4; have c5 := h6.c5; have f1 := h6.fz 1; have f2 := h6.fz 2; have f3 := h6.fz 3; have f4 := h6.fz 4; have f5 := h6.fz 5; have rl := h6.lt; have Hh6 := hid h6; clear h6)
          have H7 := hid (Hh6.out.set1 (j + 1))
          have K7 := hid (((HK.out.tr K5.out).tr K6.out).set (o := 1) (.int .i64 ((j + 1 : Nat) : Int)))
          have O7 := hid ((((HO.out.kr K5.out hrw).kr K6.out hrw).kr ((KR.refl r _).set (o := 1) (.int .i64 ((j + 1 : Nat) : Int))) hrw))
          clear Hh6
          go_wp2_with fail
          refine (set_dk w6.heap.size false aL cL L _ (by simp)).mono ?_
          rintro _ w8 ⟨rfl, o8, b8⟩
          have O8 := hid o8
          have B8 := hid b8
          have z8 := K7.out.size
          clear o8 b8
          go_wp2_with fail
          go_ret
          rw [HYe.out]
          refine ⟨_, _, _, j + 1, rfl, rfl, O8.out.base_le z8, ?_, by omega, by omega, ?_, rfl, hg, H7.out.bel B8.out, K7.out.thn B8.out⟩
          · exact Sets.one (m := ⟨2, 0, 0, 0, false, false, aL, L, cL⟩) (O7.out.grow B8.out)
          · exact (Sml.one _ rfl).mono (by omega) (Nat.le_refl _)
        · have HYc : Hid (Y = clsF CC p.length L (p.drop j)) := by
            have h1 := HYj.out
            cases fl with
            | true => exact h1
            | false =>
              rw [if_neg (by decide)] at h1
              rw [Hid, h1]
              refine clsS_other fun t e => hex ⟨rfl, ?_⟩
              exact (nx_drop e).2.1
          obtain ⟨M, hM⟩ : ∃ M, M = memI p j := ⟨_, rfl⟩
          have HM := hid hM
          have hfl : fl = true ∨ nx p j ≠ 93 := by
            cases fl with
            | true => exact .inl rfl
            | false => exact .inr fun h => hex ⟨rfl, h⟩
          clear hex HYj
          cases fl
          case' true => go_wp2_with fail; refine (dok_c B _ r a c p j g d 0 0 HR.out).mono ?_; rintro _ w6 ⟨rfl, h6, k6⟩; have H6 := hid h6; have K6 := hid k6; clear h6 k6
          case' true => have HK6 := hid (HK.out.tr K6.out)
          case' true => have HO6 := hid (HO.out.kr K6.out hrw)
          case' false =>
            have b93 : (nx p j != 93) = true := by
              rcases hfl with h | h
              · cases h
              · simpa using h
            go_wp2_with fail; refine (dok_c B _ r a c p j g d 0 0 HR.out).mono ?_; rintro _ w5 ⟨rfl, h5, k5⟩; have H5 := hid h5; have K5 := hid k5; clear h5 k5
            go_wp2_with fail; refine (dnext_c B _ r a c p j g d 0 0 H5.out).mono ?_; rintro _ w6 ⟨rfl, h6, k6⟩; have H6 := hid h6; have K6 := hid k6; clear h6 k6
            have HK6 := hid ((HK.out.tr K5.out).tr K6.out)
            have HO6 := hid ((HO.out.kr K5.out hrw).kr K6.out hrw)
          all_goals
            have MC := hid (dmember_c B w6 r a c p j g d H6.out HT.out hj1)
            rw [← hM] at MC
            have h6 := H6.out
            (have c0 := h6.c0; have c1 := h6.c1; have c2 := h6.c2; have c3 := h6.c3; have c4 := h6.c4; have c5 := h6.c5; have f1 := h6.fz 1; have f2 := h6.fz 2; have f3 := h6.fz 3; have f4 := h6.fz 4; have f5 := h6.fz 5; have rl := h6.lt; have Hh6 := hid h6; clear h6)
            clear hM
            go_wp2_with fail
            refine MC.out.mono ?_
            clear MC c0 c1 c2 c3 c4 c5 f1 f2 f3 f4 f5 rl
            rintro _ w7 hm
            cases M with
            | bad f =>
              obtain ⟨j1, hj1', rfl, h7, k7⟩ := hm
              have H7 := hid h7
              have K7 := hid k7
              have HXf : Hid (X = .bad 5 f) := by rw [Hid, HY.out, HYc.out, cls_bad HT.out hj1 HM.out.symm]; rfl
              clear h7 k7
              as_aux_lemma =>
              go_wp2_with fail; refine (dok_c B _ r a c p j1 g d 5 f H7.out).mono ?_; rintro _ w8 ⟨rfl, h8, k8⟩; have H8 := hid h8; have K8 := hid k8; clear h8 k8
              go_wp2_with fail
              go_ret
              rw [HXf.out]
              exact ⟨none, 0, [], j1, g, rfl, ROwn.nil _ _, Sml.nil _ _, by decide, by omega, H8.out, (HK6.out.tr K7.out).tr K8.out⟩
            | ok m o j1 =>
              obtain ⟨am, cm, rfl, ho, h7, k7⟩ := hm
              have hat := memI_at HT.out HM.out.symm
              obtain ⟨g1, g2, g3, g4⟩ := hat
              have H7 := hid h7
              have K7 := hid k7
              have HOm := hid ho
              have HK7 := hid (HK6.out.tr K7.out)
              have HO7 := hid (HO6.out.kr K7.out hrw)
              have hz6 := HK6.out.size
              have hz7 := HK7.out.size
              have HG4 := hid g4
              clear h7 k7 ho g4
              have hBw : B ≤ w.heap.size := hB
              by_cases hd : o = true → nx p j1 = 45 → single CC (p.drop (j1 + 1)) = false
              · have HYn : Hid (Y = clsS CC p.length (L ++ m) (p.drop j1)) := by rw [Hid, HYc.out, cls_one HT.out hj1 HM.out.symm hd]
                have HD := hid hd
                clear hd
                cases o with
                | false =>
                  as_aux_lemma =>
                  go_wp2_with fail; refine (dok_c B _ r a c p j1 g d 0 0 H7.out).mono ?_; rintro _ w8 ⟨rfl, h8, k8⟩; have H8 := hid h8; have K8 := hid k8; clear h8 k8
                  have HOf := hid (HO7.out.kr K8.out hrw)
                  have HSf := hid ((HOm.out.kr K8.out (by omega)).sl)
                  have HRf := H8
                  have HKf := hid (HK7.out.tr K8.out)
                  have hzf := HKf.out.size
                  go_wp2_with ((at_builtin; (refine wpL_appn rfl (.tmp 95) (.tmp 96) rfl w.heap.size aL am L.length m.length cL cm L m rfl (by first | rfl | simp | omega) HOf.out rfl (by first | rfl | simp | omega) HSf.out (by omega) hzf ?_); intro a9 c9 w9 L9 Hl9 ho9 hb9 hk9 hA9; have HA9 := hid hA9; clear hA9; have Ho9 := hid ho9; clear ho9; have Hk9 := hid hk9; clear hk9; have hz9 := hb9.size))
                  go_roundg (p.length - j1 + 1)
                  case measure => omega
                  case rel => exact .inl ⟨false, j1, a9, c9, L9, rfl, rfl, rfl, by omega, g2, by rw [Hl9.out, List.length_append]; omega, by rw [Hid, if_neg (by decide), Hl9.out]; exact HYn.out, Ho9, hid (HRf.out.below hb9 hBw), hid (HKf.out.thn' hb9)⟩
                | true =>
                  by_cases h45 : nx p j1 = 45
                  · have hs := HD.out rfl h45
                    have j1l : j1 < p.length := by
                      rcases Nat.lt_or_ge j1 p.length with h1 | h1
                      · exact h1
                      · rw [nx_end h1] at h45; omega
                    have W5 : IntKind.i64.wrap ((j1 : Int) + 1) = ((j1 + 1 : Nat) : Int) := by rw [IntKind.wrap_i64]; omega
                    have SC := hid (fun w' (h : Rdr B w' r a c p j1 g d 0 0) => dsingle_c B w' r a c p (j1 + 1) j1 g d 0 0 h HT.out (by omega))
                    simp only [hs] at SC
                    clear hs
                    as_aux_lemma =>
                    go_wp2_with fail; refine (dok_c B _ r a c p j1 g d 0 0 H7.out).mono ?_; rintro _ w8 ⟨rfl, h8, k8⟩; have H8 := hid h8; have K8 := hid k8; clear h8 k8
                    go_wp2_with fail; refine (dnext_c B _ r a c p j1 g d 0 0 H8.out).mono ?_; rintro _ w9 ⟨rfl, h9, k9⟩; have H9 := hid h9; have K9 := hid k9; clear h9 k9
                    rw [h45]
                    have h9 := H9.out
                    (have c0 := h9.c0; have c1 := h9.c1; have c2 := h9.c2; have c3 := h9.c3; have c4 := h9.c4; have c5 := h9.c5; have f1 := h9.fz 1; have f2 := h9.fz 2; have f3 := h9.fz 3; have f4 := h9.fz 4; have f5 := h9.fz 5; have rl := h9.lt; have Hh9 := hid h9; clear h9)
                    go_wp2_with fail
                    refine (SC.out _ Hh9.out).mono ?_
                    rintro _ w10 ⟨rfl, h10, k10⟩
                    have HRf := hid h10
                    have HKf := hid (((HK7.out.tr K8.out).tr K9.out).tr k10)
                    have HOf := hid (((HO7.out.kr K8.out hrw).kr K9.out hrw).kr k10 hrw)
                    have HSf := hid ((((HOm.out.kr K8.out (by omega)).kr K9.out (by omega)).kr k10 (by omega)).sl)
                    have hzf := HKf.out.size
                    clear h10 k10 Hh9
                    clear rl c0 c1 c2 c3 c4 c5 f1 f2 f3 f4 f5
                    go_wp2_with ((at_builtin; (refine wpL_appn rfl (.tmp 95) (.tmp 96) rfl w.heap.size aL am L.length m.length cL cm L m rfl (by first | rfl | simp | omega) HOf.out rfl (by first | rfl | simp | omega) HSf.out (by omega) hzf ?_); intro a9 c9 w9 L9 Hl9 ho9 hb9 hk9 hA9; have HA9 := hid hA9; clear hA9; have Ho9 := hid ho9; clear ho9; have Hk9 := hid hk9; clear hk9; have hz9 := hb9.size))
                    go_roundg (p.length - j1 + 1)
                    case measure => omega
                    case rel => exact .inl ⟨false, j1, a9, c9, L9, rfl, rfl, rfl, by omega, g2, by rw [Hl9.out, List.length_append]; omega, by rw [Hid, if_neg (by decide), Hl9.out]; exact HYn.out, Ho9, hid (HRf.out.below hb9 hBw), hid (HKf.out.thn' hb9)⟩
                  · have b45 : (nx p j1 == 45) = false := by simpa using h45
                    as_aux_lemma =>
                    go_wp2_with fail; refine (dok_c B _ r a c p j1 g d 0 0 H7.out).mono ?_; rintro _ w8 ⟨rfl, h8, k8⟩; have H8 := hid h8; have K8 := hid k8; clear h8 k8
                    go_wp2_with fail; refine (dnext_c B _ r a c p j1 g d 0 0 H8.out).mono ?_; rintro _ w9 ⟨rfl, h9, k9⟩; have H9 := hid h9; have K9 := hid k9; clear h9 k9
                    have HRf := H9
                    have HKf := hid ((HK7.out.tr K8.out).tr K9.out)
                    have HOf := hid ((HO7.out.kr K8.out hrw).kr K9.out hrw)
                    have HSf := hid (((HOm.out.kr K8.out (by omega)).kr K9.out (by omega)).sl)
                    have hzf := HKf.out.size
                    go_wp2_with ((at_builtin; (refine wpL_appn rfl (.tmp 95) (.tmp 96) rfl w.heap.size aL am L.length m.length cL cm L m rfl (by first | rfl | simp | omega) HOf.out rfl (by first | rfl | simp | omega) HSf.out (by omega) hzf ?_); intro a9 c9 w9 L9 Hl9 ho9 hb9 hk9 hA9; have HA9 := hid hA9; clear hA9; have Ho9 := hid ho9; clear ho9; have Hk9 := hid hk9; clear hk9; have hz9 := hb9.size))
                    go_roundg (p.length - j1 + 1)
                    case measure => omega
                    case rel => exact .inl ⟨false, j1, a9, c9, L9, rfl, rfl, rfl, by omega, g2, by rw [Hl9.out, List.length_append]; omega, by rw [Hid, if_neg (by decide), Hl9.out]; exact HYn.out, Ho9, hid (HRf.out.below hb9 hBw), hid (HKf.out.thn' hb9)⟩
              · have hd2 : o = true ∧ nx p j1 = 45 ∧ single CC (p.drop (j1 + 1)) = true := by
                  cases o with
                  | false => exact absurd (fun h => by cases h) hd
                  | true =>
                    refine ⟨rfl, ?_⟩
                    by_cases h45 : nx p j1 = 45
                    · refine ⟨h45, ?_⟩
                      cases hs : single CC (p.drop (j1 + 1)) with
                      | true => rfl
                      | false => exact absurd (fun _ _ => hs) hd
                    · exact absurd (fun _ h => absurd h h45) hd
                obtain ⟨rfl, h45, hs⟩ := hd2
                clear hd
                obtain ⟨m2, j2, hM2⟩ := single_ok HT.out hs
                obtain ⟨e1, e2, -, e4⟩ := memI_at HT.out hM2
                obtain ⟨xx, rfl⟩ := one_is HG4.out.symm
                obtain ⟨yy, rfl⟩ := one_is e4.symm
                have hYr := HYc.out
                rw [cls_two HT.out hj1 HM.out.symm h45 hM2 hs, fst_pair, fst_pair] at hYr
                have HYr := hid hYr
                have j1l : j1 < p.length := by omega
                have W5 : IntKind.i64.wrap ((j1 : Int) + 1) = ((j1 + 1 : Nat) : Int) := by rw [IntKind.wrap_i64]; omega
                have SC := hid (fun w' (h : Rdr B w' r a c p j1 g d 0 0) => dsingle_c B w' r a c p (j1 + 1) j1 g d 0 0 h HT.out (by omega))
                simp only [hs] at SC
                have MC := hid (fun w' (h : Rdr B w' r a c p (j1 + 1) g d 0 0) => dmember_c B w' r a c p (j1 + 1) g d h HT.out (by omega))
                simp only [hM2] at MC
                have hrx := HOm.out.2.1 xx (by simp)
                clear hs hYr hM2 e4
                as_aux_lemma =>
                go_wp2_with fail; refine (dok_c B _ r a c p j1 g d 0 0 H7.out).mono ?_; rintro _ w8 ⟨rfl, h8, k8⟩; have H8 := hid h8; have K8 := hid k8; clear h8 k8
                go_wp2_with fail; refine (dnext_c B _ r a c p j1 g d 0 0 H8.out).mono ?_; rintro _ w9 ⟨rfl, h9, k9⟩; have H9 := hid h9; have K9 := hid k9; clear h9 k9
                rw [h45]
                have h9 := H9.out
                (have c0 := h9.c0; have c1 := h9.c1; have c2 := h9.c2; have c3 := h9.c3; have c4 := h9.c4; have c5 := h9.c5; have f1 := h9.fz 1; have f2 := h9.fz 2; have f3 := h9.fz 3; have f4 := h9.fz 4; have f5 := h9.fz 5; have rl := h9.lt; have Hh9 := hid h9; clear h9)
                go_wp2_with fail
                refine (SC.out _ Hh9.out).mono ?_
                rintro _ w10 ⟨rfl, h10, k10⟩
                clear rl c0 c1 c2 c3 c4 c5 f1 f2 f3 f4 f5
                have HK10 := hid (((HK7.out.tr K8.out).tr K9.out).tr k10)
                have HO10 := hid (((HO7.out.kr K8.out hrw).kr K9.out hrw).kr k10 hrw)
                have HM10 := hid (((HOm.out.kr K8.out (by omega)).kr K9.out (by omega)).kr k10 (by omega))
                have hz10 := HK10.out.size
                clear Hh9 k10
                (have c0 := h10.c0; have c1 := h10.c1; have c2 := h10.c2; have c3 := h10.c3; have c4 := h10.c4; have c5 := h10.c5; have f1 := h10.fz 1; have f2 := h10.fz 2; have f3 := h10.fz 3; have f4 := h10.fz 4; have f5 := h10.fz 5; have rl := h10.lt; have Hh10 := hid h10; clear h10)
                have H11 := hid (Hh10.out.set1 (j1 + 1))
                have S11 := hid ((KR.refl r w10).set (o := 1) (.int .i64 ((j1 + 1 : Nat) : Int)))
                clear Hh10
                go_wp2_with fail
                refine (MC.out _ H11.out).mono ?_
                clear rl c0 c1 c2 c3 c4 c5 f1 f2 f3 f4 f5
                rintro _ w11 ⟨an, cn, rfl, hon, h11, k11⟩
                have hz11 := k11.size
                have hz10' : w10.heap.size ≤ w11.heap.size := by simpa using hz11
                have HRf := hid h11
                have HKf := hid ((HK10.out.tr S11.out).tr k11)
                have HOf := hid ((HO10.out.kr S11.out hrw).kr k11 hrw)
                have hom := ((HM10.out.kr S11.out (by omega)).kr k11 (by omega)).sl
                have hry := hon.2.1 yy (by simp)
                obtain ⟨mb, mo, rfl, hmc⟩ := hom.at (i := 0) (by simp)
                obtain ⟨nb, no, rfl, hnc⟩ := hon.sl.at (i := 0) (by simp)
                have cm0 : w11.cell? ⟨mb, mo, none⟩ = some (.int .i32 xx) := hmc 0 (by simp)
                have cn0 : w11.cell? ⟨nb, no, none⟩ = some (.int .i32 yy) := hnc 0 (by simp)
                have CMN : Hid (∀ w', KR r w11 w' → mb ≠ r → nb ≠ r → w'.cell? ⟨mb, mo, none⟩ = some (.int .i32 xx) ∧ w'.cell? ⟨nb, no, none⟩ = some (.int .i32 yy)) := fun w' k h1 h2 => ⟨k.cell cm0 h1, k.cell cn0 h2⟩
                have hmr : mb ≠ r := by
                  have q0 := (HM10.out.1.lt mb rfl).1
                  omega
                have hnr : nb ≠ r := by
                  have q0 := (hon.1.lt nb rfl).1
                  simp at q0
                  omega
                clear hom hon h11 k11 hmc hnc HM10 H11 S11 HK10 HO10 hz11
                by_cases hyx : yy < xx
                · have bg : decide (yy < xx) = true := decide_eq_true hyx
                  have HYb : Hid (Y = .bad (j : Int)) := by rw [Hid, HYr.out, if_pos hyx]
                  clear hyx HYr
                  go_wp2_with fail
                  go_quiet (fail)
                  go_wp2_with fail
                  refine (dbad_one 5 j B _ r a c p j2 g d 0 (HRf.out.drewN _)).mono ?_
                  rintro _ w12 ⟨rfl, h12, k12⟩
                  have H12 := hid h12
                  have K12 := hid (((HKf.out.drewN _).tr k12))
                  have O12 := hid (((HOf.out.drewN _).kr k12 hrw))
                  obtain ⟨cm1, cn1⟩ := CMN.out w12 (((KR.refl r w11).drewN _).tr k12) hmr hnr
                  clear h12 k12 cm0 cn0
                  go_wp2_with fail
                  go_still_tail 6, (by kernel_rfl)
                  have z12 := K12.out.size
                  go_wp2_with ((at_builtin; (refine wpL_appn rfl (.tmp 95) (.tmp 96) rfl w.heap.size aL (some ⟨w12.heap.size, 0, none⟩) L.length 2 cL 2 L [xx, yy] rfl (by first | rfl | simp | omega) (O12.out.grow (by (repeat' (first | exact Below.refl _ _ | assumption | refine bdrewN ?_ _ | refine Below.drew ?_ | refine Below.setCell ?_ (Nat.le_refl _) _ | refine bal ?_ _ | refine bthen ?_ (by assumption))))) rfl (by first | rfl | simp | omega) (Sl.drew (Sl.lit' _ [xx, yy] _ _ (by simp) (by simp) (rng_cons hrx (rng_one hry)) _ rfl)) (by simp; omega) (by simp; omega) ?_); intro a9 c9 w9 L9 Hl9 ho9 hb9 hk9 hA9; have HA9 := hid hA9; clear hA9; have Ho9 := hid ho9; clear ho9; have Hk9 := hid hk9; clear hk9; have hz9 := hb9.size))
                  have bz : Below w12.heap.size w12 (w12.alloc (.cells #[.int .i32 xx, .int .i32 yy] 21)).drew := by (repeat' (first | exact Below.refl _ _ | assumption | refine bdrewN ?_ _ | refine Below.drew ?_ | refine Below.setCell ?_ (Nat.le_refl _) _ | refine bal ?_ _ | refine bthen ?_ (by assumption)))
                  go_roundg 0
                  case measure => omega
                  case rel => exact .inr ⟨j2, a9, c9, L9, (j : Int), rfl, rfl, rfl, e2, HYb, Ho9, hid ((H12.out.bel bz).below hb9 hBw), hid ((K12.out.thn bz).thn' hb9)⟩
                · have bg : decide (yy < xx) = false := decide_eq_false hyx
                  have HYn : Hid (Y = clsS CC p.length (L ++ [xx, yy]) (p.drop j2)) := by rw [Hid, HYr.out, if_neg hyx]
                  clear hyx HYr
                  go_wp2_with fail
                  go_quiet (fail)
                  go_wp2_with fail
                  obtain ⟨w12, hw12⟩ : ∃ w12, w12 = w11.drewN nq := ⟨_, rfl⟩
                  have H12 := hid (show Rdr B w12 r a c p j2 g d 0 0 from hw12 ▸ HRf.out.drewN nq)
                  have K12 := hid (show KR r w w12 from hw12 ▸ HKf.out.drewN nq)
                  have O12 := hid (show Own w12 w.heap.size aL cL L from hw12 ▸ HOf.out.drewN nq)
                  obtain ⟨cm1, cn1⟩ := CMN.out w12 (hw12 ▸ (KR.refl r w11).drewN nq) hmr hnr
                  rw [← hw12]
                  clear hw12 cm0 cn0
                  have z12 := K12.out.size
                  go_still_tail 6, (by kernel_rfl)
                  go_wp2_with ((at_builtin; (refine wpL_appn rfl (.tmp 95) (.tmp 96) rfl w.heap.size aL (some ⟨w12.heap.size, 0, none⟩) L.length 2 cL 2 L [xx, yy] rfl (by first | rfl | simp | omega) (O12.out.grow (by (repeat' (first | exact Below.refl _ _ | assumption | refine bdrewN ?_ _ | refine Below.drew ?_ | refine Below.setCell ?_ (Nat.le_refl _) _ | refine bal ?_ _ | refine bthen ?_ (by assumption))))) rfl (by first | rfl | simp | omega) (Sl.drew (Sl.lit' _ [xx, yy] _ _ (by simp) (by simp) (rng_cons hrx (rng_one hry)) _ rfl)) (by simp; omega) (by simp; omega) ?_); intro a9 c9 w9 L9 Hl9 ho9 hb9 hk9 hA9; have HA9 := hid hA9; clear hA9; have Ho9 := hid ho9; clear ho9; have Hk9 := hid hk9; clear hk9; have hz9 := hb9.size))
                  have bz : Below w12.heap.size w12 (w12.alloc (.cells #[.int .i32 xx, .int .i32 yy] 21)).drew := by (repeat' (first | exact Below.refl _ _ | assumption | refine bdrewN ?_ _ | refine Below.drew ?_ | refine Below.setCell ?_ (Nat.le_refl _) _ | refine bal ?_ _ | refine bthen ?_ (by assumption)))
                  go_roundg (p.length - j2 + 1)
                  case measure => omega
                  case rel => exact .inl ⟨false, j2, a9, c9, L9, rfl, rfl, rfl, by omega, e2, by rw [Hl9.out, List.length_append]; simp; omega, by rw [Hid, if_neg (by decide), Hl9.out]; exact HYn.out, Ho9, hid ((H12.out.bel bz).below hb9 hBw), hid ((K12.out.thn bz).thn' hb9)⟩
      · have HXf : Hid (X = .bad 5 f) := by rw [Hid, HY.out, HYf.out]; rfl
        have W3 : IntKind.i64.wrap ((j : Int) + 1) = ((j + 1 : Nat) : Int) := by rw [IntKind.wrap_i64]; omega
        as_aux_lemma =>
        go_wp2_with fail; refine (dok_c B _ r a c p j g d 5 f HR.out).mono ?_; rintro _ w5 ⟨rfl, h5, k5⟩; have H5 := hid h5; have K5 := hid k5; clear h5 k5
        have h5 := H5.out
        (have c0 := h5.c0; have c1 := h5.c1; have c2 := h5.c2; have c3 := h5.c3; have c4 := h5.c4; have c5 := h5.c5; have f1 := h5.fz 1; have f2 := h5.fz 2; have f3 := h5.fz 3; have f4 := h5.fz 4; have f5 := h5.fz 5; have rl := h5.lt; have Hh5 := hid h5; clear h5)
        have H7 := hid (Hh5.out.set1 (j + 1))
        have K7 := hid ((HK.out.tr K5.out).set (o := 1) (.int .i64 ((j + 1 : Nat) : Int)))
        clear Hh5
        go_wp2_with fail
        refine (set_dk w5.heap.size false aL cL L _ (by simp)).mono ?_
        rintro _ w8 ⟨rfl, o8, b8⟩
        have O8 := hid o8
        have B8 := hid b8
        have z8 := K7.out.size
        clear o8 b8
        go_wp2_with fail
        go_ret
        rw [HXf.out]
        exact ⟨_, _, _, j + 1, g, rfl, O8.out.base_le z8, (Sml.one _ rfl).mono (by omega) (Nat.le_refl _), by decide, by omega, H7.out.bel B8.out, K7.out.thn B8.out⟩
end Go.Proofs.YtefgjicegbhcaaaGreat
namespace Go.Proofs.YtefgjicegbhcaaaGreat
open Go.RowKit ReM

/-- what the document's patterns leave, with rounds k -/
def PatD (B r : Nat) (a : Option Addr) (c : Nat) (p : List Int) (k : Nat) : Prop := ∀ (w : World) (i g d : Nat), Rdr B w r a c p i g d 0 0 → i ≤ p.length → d ≤ 12 → g ≤ 9 → 4 * (p.length - i) + 2 ≤ k →
  Calls Tryz.prog 83 #[.pointer (some ⟨r, 0, none⟩)] w (OutD (altP CC p.length k (p.drop i) g d) B w r a c p i d 4 4)
set_option maxRecDepth 20000 in
set_option maxHeartbeats 32000000 in
theorem dgroup_c (B : Nat) (w : World) (r : Nat) (a : Option Addr) (c : Nat) (p : List Int) (k i g d : Nat) (h : Rdr B w r a c p i g d 0 0) (hi : i < p.length) (hT : Txt1 p) (hd : d ≤ 12) (hg : g ≤ 9) (hk : 4 * (p.length - i) ≤ k + 2)
    (h40 : nx p i = 40) (IH : PatD B r a c p k) :
    Calls Tryz.prog 146 #[.pointer (some ⟨r, 0, none⟩)] w (OutD (atomI p k i g d) B w r a c p i d 1 1) := by
  have hl := hT.1
  have hB := h.Bw
  have hrw : r < w.heap.size := h.lt
  have W0 : IntKind.i64.wrap ((i : Int) + 1) = ((i + 1 : Nat) : Int) := by rw [IntKind.wrap_i64]; omega
  obtain ⟨X, hX⟩ : ∃ X, X = atomI p k i g d := ⟨_, rfl⟩
  rw [← hX]
  unfold atomI at hX
  rw [if_neg (by omega), if_pos h40] at hX
  obtain ⟨V, hV⟩ : ∃ V, V = (w.setCell ⟨r, 1, none⟩ (.int .i64 ((i : Int) + 1))).alloc (.cells #[.int .i64 5, .int .i64 0, .int .i64 0, .int .i64 0, .bool false, .bool false, .slice none 0 0] 128) := ⟨_, rfl⟩
  have nV : NdC V w.heap.size 5 0 0 0 false false (.slice none 0 0) := by rw [hV]; exact NdC.new _ _ _ _ _ _ _ _ _ _ (by simp)
  have rV : Rdr B V r a c p (i + 1) g d 0 0 := by
    rw [hV]
    have := h.set1 (i + 1)
    rw [show ((i + 1 : Nat) : Int) = (i : Int) + 1 by omega] at this
    exact this.alloc _
  have kV : KR r w V := by rw [hV]; exact ((KR.refl r w).set _).alloc _
  (have c0 := h.c0; have c1 := h.c1; have c2 := h.c2; have c3 := h.c3; have c4 := h.c4; have c5 := h.c5; have f1 := h.fz 1; have f2 := h.fz 2; have f3 := h.fz 3; have f4 := h.fz 4; have f5 := h.fz 5; have rl := h.lt; have Hh := hid h; clear h)
  have HNV := hid nV
  have HRV := hid rV
  have HKV := hid kV
  have hnx : ∀ q, nx p q ≠ -1 → q < p.length := fun q hq => by
    rcases Nat.lt_or_ge q p.length with h1 | h1
    · exact h1
    · exact absurd (nx_end h1) hq
  have n63 := hnx (i + 1)
  have n58 := hnx (i + 2)
  clear Hh hnx nV rV kV
  by_cases hd12 : 12 ≤ d
  · rw [if_pos hd12] at hX
    have bd : decide ((12 : Int) ≤ (d : Int)) = true := decide_eq_true (by omega)
    have HX := hid hX
    clear hX n63 n58
    skip
    go_enter Tryz.func146, Tryz.ntmps146
    go_upto_region 4 with fail
    rw [← hV]; clear hV
    clear rl c0 c1 c2 c3 c4 c5 f1 f2 f3 f4 f5
    have hh := HRV.out
    (have c0 := hh.c0; have c1 := hh.c1; have c2 := hh.c2; have c3 := hh.c3; have c4 := hh.c4; have c5 := hh.c5; have f1 := hh.fz 1; have f2 := hh.fz 2; have f3 := hh.fz 3; have f4 := hh.fz 4; have f5 := hh.fz 5; have rl := hh.lt; have Hhh := hid hh; clear hh)
    go_wp2_with fail
    refine (dbad_one 6 i B _ r a c p (i + 1) g d 0 Hhh.out).mono ?_
    rintro _ w3 ⟨rfl, h3, k3⟩
    have H3 := hid h3
    have K3 := hid (HKV.out.tr k3)
    clear h3 k3
    go_wp2_with fail
    go_ret
    rw [HX.out]
    exact ⟨none, 0, [], i + 1, g, rfl, ROwn.nil _ _, Sml.nil _ _, by decide, by omega, H3.out, K3.out⟩
  rw [if_neg hd12] at hX
  have bd : decide ((12 : Int) ≤ (d : Int)) = false := decide_eq_false (by omega)
  by_cases h63 : nx p (i + 1) = 63
  · have l63 := n63 (by omega)
    rw [if_pos h63] at hX
    have W2 : IntKind.i64.wrap ((i : Int) + 1 + 1) = ((i + 2 : Nat) : Int) := by rw [IntKind.wrap_i64]; omega
    have W3 : IntKind.i64.wrap ((i : Int) + 2 + 1) = ((i + 3 : Nat) : Int) := by rw [IntKind.wrap_i64]; omega
    by_cases h58 : nx p (i + 2) = 58
    · have l58 := n58 (by omega)
      rw [if_pos h58] at hX
      have HXg := hid hX
      clear hX n63 n58
      skip
      go_enter Tryz.func146, Tryz.ntmps146
      go_upto_region 4 with fail
      rw [← hV]; clear hV
      clear rl c0 c1 c2 c3 c4 c5 f1 f2 f3 f4 f5
      have hh := HRV.out
      (have c0 := hh.c0; have c1 := hh.c1; have c2 := hh.c2; have c3 := hh.c3; have c4 := hh.c4; have c5 := hh.c5; have f1 := hh.fz 1; have f2 := hh.fz 2; have f3 := hh.fz 3; have f4 := hh.fz 4; have f5 := hh.fz 5; have rl := hh.lt; have Hhh := hid hh; clear hh)
      go_wp2_with fail
      refine (dnext_c B _ r a c p (i + 1) g d 0 0 Hhh.out).mono ?_
      clear rl c0 c1 c2 c3 c4 c5 f1 f2 f3 f4 f5
      rw [h63]
      rintro _ w3 ⟨rfl, h3, k3⟩
      have HN3 := hid (HNV.out.kpt k3 (by omega))
      have HK3 := hid (HKV.out.tr k3)
      clear k3 Hhh
      (have c0 := h3.c0; have c1 := h3.c1; have c2 := h3.c2; have c3 := h3.c3; have c4 := h3.c4; have c5 := h3.c5; have f1 := h3.fz 1; have f2 := h3.fz 2; have f3 := h3.fz 3; have f4 := h3.fz 4; have f5 := h3.fz 5; have rl := h3.lt; have Hh3 := hid h3; clear h3)
      have H4 := hid (Hh3.out.set1 (i + 2))
      have S4 := hid ((KR.refl r w3).set (o := 1) (.int .i64 ((i + 2 : Nat) : Int)))
      clear Hh3
      go_wp2_with fail
      refine (dnext_c B _ r a c p (i + 2) g d 0 0 H4.out).mono ?_
      clear rl c0 c1 c2 c3 c4 c5 f1 f2 f3 f4 f5
      rw [h58]
      rintro _ w5 ⟨rfl, h5, k5⟩
      have HN5 := hid ((HN3.out.kpt S4.out (by omega)).kpt k5 (by omega))
      have HK5 := hid ((HK3.out.tr S4.out).tr k5)
      clear k5 H4 S4 HN3 HK3
      (have c0 := h5.c0; have c1 := h5.c1; have c2 := h5.c2; have c3 := h5.c3; have c4 := h5.c4; have c5 := h5.c5; have f1 := h5.fz 1; have f2 := h5.fz 2; have f3 := h5.fz 3; have f4 := h5.fz 4; have f5 := h5.fz 5; have rl := h5.lt; have Hh5 := hid h5; clear h5)
      have HRz := hid (Hh5.out.set1 (i + 3))
      have HKz := hid (HK5.out.set (o := 1) (.int .i64 ((i + 3 : Nat) : Int)))
      have HNz := hid (HN5.out.kpt ((KR.refl r _).set (o := 1) (.int .i64 ((i + 3 : Nat) : Int))) (by omega))
      clear Hh5
      go_upto_region 18 with fail
      clear rl c0 c1 c2 c3 c4 c5 f1 f2 f3 f4 f5
      rw [show ((i + 3 : Nat) : Int) = (i : Int) + 3 by omega] at HRz HKz HNz
      generalize hW : w5.setCell ⟨r, 1, none⟩ (.int .i64 ((i : Int) + 3)) = Wz at HRz HKz HNz ⊢
      clear hW
      have h0 := HRz.out
      (have c0 := h0.c0; have c1 := h0.c1; have c2 := h0.c2; have c3 := h0.c3; have c4 := h0.c4; have c5 := h0.c5; have f1 := h0.fz 1; have f2 := h0.fz 2; have f3 := h0.fz 3; have f4 := h0.fz 4; have f5 := h0.fz 5; have rl := h0.lt; have Hh0 := hid h0; clear h0)
      have Wd : IntKind.i64.wrap ((d : Int) + 1) = ((d + 1 : Nat) : Int) := by rw [IntKind.wrap_i64]; omega
      have Wm : IntKind.i64.wrap (((d + 1 : Nat) : Int) - 1) = (d : Int) := by rw [IntKind.wrap_i64]; omega
      have Wm' : IntKind.i64.wrap ((d : Int) + 1 - 1) = (d : Int) := by rw [IntKind.wrap_i64]; omega
      have HR1 := hid (Hh0.out.set3 (d + 1))
      have HK1 := hid (HKz.out.set (o := 3) (.int .i64 ((d + 1 : Nat) : Int)))
      have HN1 := hid (HNz.out.kpt ((KR.refl r _).set (o := 3) (.int .i64 ((d + 1 : Nat) : Int))) (by omega))
      have PC := hid (IH _ (i + 3) (g) (d + 1) HR1.out (by omega) (by omega) (by omega) (by omega))
      clear Hh0
      go_wp2_with fail
      clear rl c0 c1 c2 c3 c4 c5 f1 f2 f3 f4 f5
      refine PC.out.mono ?_
      clear PC
      rintro e5 w5 ho
      cases hA : altP CC p.length k (p.drop (i + 3)) (g) (d + 1) with
      | bad e f =>
        rw [hA] at ho
        obtain ⟨a2, c2, L, j, y, rfl, o2, s2, he, hj, h5, k5⟩ := ho
        have be : (e == 0) = false := by simpa using he
        have HXf : Hid (X = .bad e f) := by rw [Hid, HXg.out]; unfold grpI; rw [hA]
        have HK5 := hid (HK1.out.tr k5)
        have HN5 := hid (HN1.out.kpt k5 (by omega))
        have HO5 := hid o2
        have HS5 := hid s2
        have zk := HK1.out.size
        have z5 := HK5.out.size
        have hl2 := s2.len
        (have c0 := h5.c0; have c1 := h5.c1; have c2 := h5.c2; have c3 := h5.c3; have c4 := h5.c4; have c5 := h5.c5; have f1 := h5.fz 1; have f2 := h5.fz 2; have f3 := h5.fz 3; have f4 := h5.fz 4; have f5 := h5.fz 5; have rl := h5.lt; have Hh5 := hid h5; clear h5)
        have HR6 := hid (Hh5.out.set3 d)
        have HK6 := hid (HK5.out.set (o := 3) (.int .i64 (d : Int)))
        have HN6 := hid (HN5.out.kpt ((KR.refl r _).set (o := 3) (.int .i64 (d : Int))) (by omega))
        have HO6 := hid (HO5.out.kr ((KR.refl r _).set (o := 3) (.int .i64 (d : Int))) (by omega))
        have He := hid he
        clear hA o2 s2 k5 Hh5 he
        skip
        go_wp2_with fail
        clear rl c0 c1 c2 c3 c4 c5 f1 f2 f3 f4 f5
        refine (dok_c B _ r a c p j y d e f HR6.out).mono ?_
        rintro _ w7 ⟨rfl, h7, k7⟩
        have HK7 := hid (HK6.out.tr k7)
        have HN7 := hid (HN6.out.kpt k7 (by omega))
        have HO7 := hid (HO6.out.kr k7 (by omega))
        have Wj : IntKind.i64.wrap ((j : Int) + 1) = ((j + 1 : Nat) : Int) := by rw [IntKind.wrap_i64]; omega
        clear k7
        (have c0 := h7.c0; have c1 := h7.c1; have c2 := h7.c2; have c3 := h7.c3; have c4 := h7.c4; have c5 := h7.c5; have f1 := h7.fz 1; have f2 := h7.fz 2; have f3 := h7.fz 3; have f4 := h7.fz 4; have f5 := h7.fz 5; have rl := h7.lt; have Hh7 := hid h7; clear h7)
        have HR8 := hid (Hh7.out.set1 (j + 1))
        have HK8 := hid (HK7.out.set (o := 1) (.int .i64 ((j + 1 : Nat) : Int)))
        have HN8 := hid (HN7.out.kpt ((KR.refl r _).set (o := 1) (.int .i64 ((j + 1 : Nat) : Int))) (by omega))
        have HO8 := hid (HO7.out.kr ((KR.refl r _).set (o := 1) (.int .i64 ((j + 1 : Nat) : Int))) (by omega))
        clear Hh7
        go_upto_region 24 with fail
        clear rl c0 c1 c2 c3 c4 c5 f1 f2 f3 f4 f5
        rw [show ((j + 1 : Nat) : Int) = (j : Int) + 1 by omega] at HR8 HK8 HN8 HO8
        generalize hW : w7.setCell ⟨r, 1, none⟩ (.int .i64 ((j : Int) + 1)) = W8 at HR8 HK8 HN8 HO8 ⊢
        clear hW
        obtain ⟨m, hm⟩ : ∃ m : Rm, m = ⟨5, 0, (0), 0, false, false, none, [], 0⟩ := ⟨_, rfl⟩
        have Hm := hid hm
        have n8 : NdC W8 w.heap.size m.kind m.deep m.lo m.hi m.lazy m.not (.slice m.sa m.set.length m.sc) := by rw [hm]; exact HN8.out
        clear hm
        (have n0 := n8.c0; have n1 := n8.c1; have n2 := n8.c2; have n3 := n8.c3; have n4 := n8.c4; have n5 := n8.c5; have n6 := n8.c6; have nf0 := n8.fz 0; have nf1 := n8.fz 1; have nf2 := n8.fz 2; have nf3 := n8.fz 3; have nf4 := n8.fz 4; have nf5 := n8.fz 5; have nf6 := n8.fz 6; have nz := n8.lt; clear n8)
        have zW := HK8.out.size
        have LC := hid (lower_d w.heap.size (some ⟨W8.heap.size, 0, none⟩) a2 1 c2 [m] L (W8.alloc (.cells #[.int .i64 m.kind, .int .i64 m.deep, .int .i64 m.lo, .int .i64 m.hi, .bool m.lazy, .bool m.not, .slice m.sa m.set.length m.sc] 128)) (ROwn.one Tryz.tyRe m _ _ rfl zW _ rfl) (HO8.out.sl.alloc _) (fun ad had hb => by
          obtain ⟨ae, hae, hbb⟩ := hb
          cases hae
          have := (HO8.out.lt ⟨ad, had, rfl⟩).2
          have hbb' : W8.heap.size = ad.block := hbb
          omega) (by simp; omega) (HS5.out.mono (by omega) (by omega)) (by simp))
        go_wp2_with (go_at_call 114; refine LC.out.mono ?_)
        rintro _ w9 ⟨a9, c9, L9, rfl, hL9, o9, k9, -⟩
        have b9 : Below W8.heap.size W8 w9 := ((Below.refl _ _).alloc (Nat.le_refl _) _).trans (k9.below (fun q hq => by obtain ⟨ae, hae, hbb⟩ := hq; cases hae; exact Nat.le_of_eq hbb) (by simp))
        have H9 := hid o9
        have HL9 := hid hL9
        have B9 := hid b9
        clear o9 k9 b9 hL9 LC
        go_wp2_with fail
        go_ret
        rw [HXf.out]
        refine ⟨a9, c9, L9, j + 1, y, rfl, H9.out, ?_, He.out, by omega, HR8.out.bel B9.out, HK8.out.thn B9.out⟩
        rw [HL9.out.out]
        exact ((Sml.one (4 * (p.length - i) + 1 - 2) (by rw [Hm.out])).app ((HS5.out.low).mono (Nat.le_refl _) (by omega))).mono (by omega) (Nat.le_refl _)
      | ok l s1 g1 =>
        rw [hA] at ho
        obtain ⟨a2, c2, L, j, rfl, hr2, o2, t2, hj0, hj1, s2, hs1, hg1, h5, k5⟩ := ho
        have HA := hid hA
        subst hs1
        have HK5 := hid (HK1.out.tr k5)
        have HN5 := hid (HN1.out.kpt k5 (by omega))
        have HO5 := hid o2
        have HS5 := hid s2
        have HT5 := hid t2
        have HRn := hid hr2
        have zk := HK1.out.size
        have z5 := HK5.out.size
        have hl2 := s2.len
        (have c0 := h5.c0; have c1 := h5.c1; have c2 := h5.c2; have c3 := h5.c3; have c4 := h5.c4; have c5 := h5.c5; have f1 := h5.fz 1; have f2 := h5.fz 2; have f3 := h5.fz 3; have f4 := h5.fz 4; have f5 := h5.fz 5; have rl := h5.lt; have Hh5 := hid h5; clear h5)
        have HR6 := hid (Hh5.out.set3 d)
        have HK6 := hid (HK5.out.set (o := 3) (.int .i64 (d : Int)))
        have HN6 := hid (HN5.out.kpt ((KR.refl r _).set (o := 3) (.int .i64 (d : Int))) (by omega))
        have HO6 := hid (HO5.out.kr ((KR.refl r _).set (o := 3) (.int .i64 (d : Int))) (by omega))
        have HT6 := hid (HT5.out.kr ((KR.refl r _).set (o := 3) (.int .i64 (d : Int))) (by omega))
        have Wj : IntKind.i64.wrap ((j : Int) + 1) = ((j + 1 : Nat) : Int) := by rw [IntKind.wrap_i64]; omega
        clear hA o2 s2 t2 k5 Hh5 hr2
        go_wp2_with fail
        clear rl c0 c1 c2 c3 c4 c5 f1 f2 f3 f4 f5
        refine (dok_c B _ r a c p j g1 d 0 0 HR6.out).mono ?_
        rintro _ w6 ⟨rfl, h6, k6⟩
        have H6 := hid h6
        have K6 := hid k6
        clear h6 k6
        go_wp2_with fail
        refine (dnext_c B _ r a c p j g1 d 0 0 H6.out).mono ?_
        rintro _ w7 ⟨rfl, h7, k7⟩
        have HK7 := hid ((HK6.out.tr K6.out).tr k7)
        have HN7 := hid ((HN6.out.kpt K6.out (by omega)).kpt k7 (by omega))
        have HO7 := hid ((HO6.out.kr K6.out (by omega)).kr k7 (by omega))
        have HT7 := hid ((HT6.out.kr K6.out (by omega)).kr k7 (by omega))
        clear k7
        by_cases h41 : nx p j = 41
        · have jl : j < p.length := by
            rcases Nat.lt_or_ge j p.length with h1 | h1
            · exact h1
            · rw [nx_end h1] at h41; omega
          have HXo : Hid (X = .ok (nGroup (0) :: lower l) (p.drop (j + 1)) g1) := by
            rw [Hid, HXg.out]; unfold grpI; rw [HA.out]; dsimp only; rw [drop_nx jl, h41]; rfl
          rw [h41]
          (have c0 := h7.c0; have c1 := h7.c1; have c2 := h7.c2; have c3 := h7.c3; have c4 := h7.c4; have c5 := h7.c5; have f1 := h7.fz 1; have f2 := h7.fz 2; have f3 := h7.fz 3; have f4 := h7.fz 4; have f5 := h7.fz 5; have rl := h7.lt; have Hh7 := hid h7; clear h7)
          have HR8 := hid (Hh7.out.set1 (j + 1))
          have HK8 := hid (HK7.out.set (o := 1) (.int .i64 ((j + 1 : Nat) : Int)))
          have HN8 := hid (HN7.out.kpt ((KR.refl r _).set (o := 1) (.int .i64 ((j + 1 : Nat) : Int))) (by omega))
          have HO8 := hid (HO7.out.kr ((KR.refl r _).set (o := 1) (.int .i64 ((j + 1 : Nat) : Int))) (by omega))
          have HT8 := hid (HT7.out.kr ((KR.refl r _).set (o := 1) (.int .i64 ((j + 1 : Nat) : Int))) (by omega))
          clear Hh7 h41
          rw [show ((j + 1 : Nat) : Int) = (j : Int) + 1 by omega] at HT8
          go_upto_region 24 with fail
          clear rl c0 c1 c2 c3 c4 c5 f1 f2 f3 f4 f5
          rw [show ((j + 1 : Nat) : Int) = (j : Int) + 1 by omega] at HR8 HK8 HN8 HO8
          generalize hW : w7.setCell ⟨r, 1, none⟩ (.int .i64 ((j : Int) + 1)) = W8 at HR8 HK8 HN8 HO8 HT8 ⊢
          clear hW
          obtain ⟨m, hm⟩ : ∃ m : Rm, m = ⟨5, 0, (0), 0, false, false, none, [], 0⟩ := ⟨_, rfl⟩
          have Hm := hid hm
          have n8 : NdC W8 w.heap.size m.kind m.deep m.lo m.hi m.lazy m.not (.slice m.sa m.set.length m.sc) := by rw [hm]; exact HN8.out
          clear hm
          (have n0 := n8.c0; have n1 := n8.c1; have n2 := n8.c2; have n3 := n8.c3; have n4 := n8.c4; have n5 := n8.c5; have n6 := n8.c6; have nf0 := n8.fz 0; have nf1 := n8.fz 1; have nf2 := n8.fz 2; have nf3 := n8.fz 3; have nf4 := n8.fz 4; have nf5 := n8.fz 5; have nf6 := n8.fz 6; have nz := n8.lt; clear n8)
          have zW := HK8.out.size
          have LC := hid (lower_d w.heap.size (some ⟨W8.heap.size, 0, none⟩) a2 1 c2 [m] L (W8.alloc (.cells #[.int .i64 m.kind, .int .i64 m.deep, .int .i64 m.lo, .int .i64 m.hi, .bool m.lazy, .bool m.not, .slice m.sa m.set.length m.sc] 128)) (ROwn.one Tryz.tyRe m _ _ rfl zW _ rfl) (HO8.out.sl.alloc _) (fun ad had hb => by
            obtain ⟨ae, hae, hbb⟩ := hb
            cases hae
            have := (HO8.out.lt ⟨ad, had, rfl⟩).2
            have hbb' : W8.heap.size = ad.block := hbb
            omega) (by simp; omega) (HS5.out.mono (by omega) (by omega)) (by simp))
          go_wp2_with (go_at_call 114; refine LC.out.mono ?_)
          rintro _ w9 ⟨a9, c9, L9, rfl, hL9, o9, k9, -⟩
          have b9 : Below W8.heap.size W8 w9 := ((Below.refl _ _).alloc (Nat.le_refl _) _).trans (k9.below (fun q hq => by obtain ⟨ae, hae, hbb⟩ := hq; cases hae; exact Nat.le_of_eq hbb) (by simp))
          have H9 := hid o9
          have HL9 := hid hL9
          have B9 := hid b9
          clear o9 k9 b9 hL9 LC
          go_wp2_with fail
          go_ret
          rw [HXo.out]
          refine ⟨a9, c9, L9, j + 1, rfl, ?_, H9.out, ?_, by omega, by omega, ?_, rfl, hg1, HR8.out.bel B9.out, HK8.out.thn B9.out⟩
          · rw [HL9.out.out, rns_app, rns_low, HRn.out, Hm.out]; rfl
          · rw [HL9.out.out]
            exact (((HT8.out.bel B9.out).base_le (by have := HKz.out.size; simp; omega)).low).cons0 (m := m) (by rw [Hm.out]) (by rw [Hm.out]) (by rw [Hm.out])
          · rw [HL9.out.out]
            exact ((Sml.one (4 * (p.length - i) + 1 - 2) (by rw [Hm.out])).app ((HS5.out.low).mono (Nat.le_refl _) (by omega))).mono (by omega) (Nat.le_refl _)
        · have b41 : (nx p j != 41) = true := by simpa using h41
          have HXf : Hid (X = .bad 5 (j : Int)) := by
            rw [Hid, HXg.out]; unfold grpI; rw [HA.out]; dsimp only
            rw [at_drop p j hj1]
            split
            · rename_i hq
              exact absurd (nx_drop hq).2.1 h41
            · rfl
          have H7 := hid h7
          (have c0 := h7.c0; have c1 := h7.c1; have c2 := h7.c2; have c3 := h7.c3; have c4 := h7.c4; have c5 := h7.c5; have f1 := h7.fz 1; have f2 := h7.fz 2; have f3 := h7.fz 3; have f4 := h7.fz 4; have f5 := h7.fz 5; have rl := h7.lt; have Hh7 := hid h7; clear h7)
          go_wp2_with fail
          refine (dbad_one 5 j B _ r a c p j g1 d 0 H7.out).mono ?_
          clear rl c0 c1 c2 c3 c4 c5 f1 f2 f3 f4 f5
          clear Hh7 h41
          rintro _ wb ⟨rfl, hb, kb⟩
          have HKb := hid (HK7.out.tr kb)
          have HNb := hid (HN7.out.kpt kb (by omega))
          have HOb := hid (HO7.out.kr kb (by omega))
          clear kb
          (have c0 := hb.c0; have c1 := hb.c1; have c2 := hb.c2; have c3 := hb.c3; have c4 := hb.c4; have c5 := hb.c5; have f1 := hb.fz 1; have f2 := hb.fz 2; have f3 := hb.fz 3; have f4 := hb.fz 4; have f5 := hb.fz 5; have rl := hb.lt; have Hhb := hid hb; clear hb)
          have HR8 := hid (Hhb.out.set1 (j + 1))
          have HK8 := hid (HKb.out.set (o := 1) (.int .i64 ((j + 1 : Nat) : Int)))
          have HN8 := hid (HNb.out.kpt ((KR.refl r _).set (o := 1) (.int .i64 ((j + 1 : Nat) : Int))) (by omega))
          have HO8 := hid (HOb.out.kr ((KR.refl r _).set (o := 1) (.int .i64 ((j + 1 : Nat) : Int))) (by omega))
          clear Hhb
          go_upto_region 24 with fail
          clear rl c0 c1 c2 c3 c4 c5 f1 f2 f3 f4 f5
          rw [show ((j + 1 : Nat) : Int) = (j : Int) + 1 by omega] at HR8 HK8 HN8 HO8
          generalize hW : wb.setCell ⟨r, 1, none⟩ (.int .i64 ((j : Int) + 1)) = W8 at HR8 HK8 HN8 HO8 ⊢
          clear hW
          obtain ⟨m, hm⟩ : ∃ m : Rm, m = ⟨5, 0, (0), 0, false, false, none, [], 0⟩ := ⟨_, rfl⟩
          have Hm := hid hm
          have n8 : NdC W8 w.heap.size m.kind m.deep m.lo m.hi m.lazy m.not (.slice m.sa m.set.length m.sc) := by rw [hm]; exact HN8.out
          clear hm
          (have n0 := n8.c0; have n1 := n8.c1; have n2 := n8.c2; have n3 := n8.c3; have n4 := n8.c4; have n5 := n8.c5; have n6 := n8.c6; have nf0 := n8.fz 0; have nf1 := n8.fz 1; have nf2 := n8.fz 2; have nf3 := n8.fz 3; have nf4 := n8.fz 4; have nf5 := n8.fz 5; have nf6 := n8.fz 6; have nz := n8.lt; clear n8)
          have zW := HK8.out.size
          have LC := hid (lower_d w.heap.size (some ⟨W8.heap.size, 0, none⟩) a2 1 c2 [m] L (W8.alloc (.cells #[.int .i64 m.kind, .int .i64 m.deep, .int .i64 m.lo, .int .i64 m.hi, .bool m.lazy, .bool m.not, .slice m.sa m.set.length m.sc] 128)) (ROwn.one Tryz.tyRe m _ _ rfl zW _ rfl) (HO8.out.sl.alloc _) (fun ad had hb => by
            obtain ⟨ae, hae, hbb⟩ := hb
            cases hae
            have := (HO8.out.lt ⟨ad, had, rfl⟩).2
            have hbb' : W8.heap.size = ad.block := hbb
            omega) (by simp; omega) (HS5.out.mono (by omega) (by omega)) (by simp))
          go_wp2_with (go_at_call 114; refine LC.out.mono ?_)
          rintro _ w9 ⟨a9, c9, L9, rfl, hL9, o9, k9, -⟩
          have b9 : Below W8.heap.size W8 w9 := ((Below.refl _ _).alloc (Nat.le_refl _) _).trans (k9.below (fun q hq => by obtain ⟨ae, hae, hbb⟩ := hq; cases hae; exact Nat.le_of_eq hbb) (by simp))
          have H9 := hid o9
          have HL9 := hid hL9
          have B9 := hid b9
          clear o9 k9 b9 hL9 LC
          go_wp2_with fail
          go_ret
          rw [HXf.out]
          refine ⟨a9, c9, L9, j + 1, g1, rfl, H9.out, ?_, by decide, by omega, HR8.out.bel B9.out, HK8.out.thn B9.out⟩
          rw [HL9.out.out]
          exact ((Sml.one (4 * (p.length - i) + 1 - 2) (by rw [Hm.out])).app ((HS5.out.low).mono (Nat.le_refl _) (by omega))).mono (by omega) (Nat.le_refl _)
    · rw [if_neg h58] at hX
      have HXb := hid hX
      have b58 : (nx p (i + 2) != 58) = true := by simpa using h58
      clear hX n63 n58
      go_enter Tryz.func146, Tryz.ntmps146
      go_upto_region 4 with fail
      rw [← hV]; clear hV
      clear rl c0 c1 c2 c3 c4 c5 f1 f2 f3 f4 f5
      have hh := HRV.out
      (have c0 := hh.c0; have c1 := hh.c1; have c2 := hh.c2; have c3 := hh.c3; have c4 := hh.c4; have c5 := hh.c5; have f1 := hh.fz 1; have f2 := hh.fz 2; have f3 := hh.fz 3; have f4 := hh.fz 4; have f5 := hh.fz 5; have rl := hh.lt; have Hhh := hid hh; clear hh)
      go_wp2_with fail
      refine (dnext_c B _ r a c p (i + 1) g d 0 0 Hhh.out).mono ?_
      clear rl c0 c1 c2 c3 c4 c5 f1 f2 f3 f4 f5
      rw [h63]
      rintro _ w3 ⟨rfl, h3, k3⟩
      have HK3 := hid (HKV.out.tr k3)
      clear k3 Hhh
      (have c0 := h3.c0; have c1 := h3.c1; have c2 := h3.c2; have c3 := h3.c3; have c4 := h3.c4; have c5 := h3.c5; have f1 := h3.fz 1; have f2 := h3.fz 2; have f3 := h3.fz 3; have f4 := h3.fz 4; have f5 := h3.fz 5; have rl := h3.lt; have Hh3 := hid h3; clear h3)
      have H4 := hid (Hh3.out.set1 (i + 2))
      have S4 := hid ((KR.refl r w3).set (o := 1) (.int .i64 ((i + 2 : Nat) : Int)))
      clear Hh3
      go_wp2_with fail
      refine (dnext_c B _ r a c p (i + 2) g d 0 0 H4.out).mono ?_
      clear rl c0 c1 c2 c3 c4 c5 f1 f2 f3 f4 f5
      rintro _ w5 ⟨rfl, h5, k5⟩
      have HK5 := hid ((HK3.out.tr S4.out).tr k5)
      have H5 := hid h5
      clear k5 H4 S4 HK3
      (have c0 := h5.c0; have c1 := h5.c1; have c2 := h5.c2; have c3 := h5.c3; have c4 := h5.c4; have c5 := h5.c5; have f1 := h5.fz 1; have f2 := h5.fz 2; have f3 := h5.fz 3; have f4 := h5.fz 4; have f5 := h5.fz 5; have rl := h5.lt; have Hh5 := hid h5; clear h5)
      go_wp2_with fail
      rw [show (i : Int) + 2 = ((i + 2 : Nat) : Int) from rfl]
      refine (dbad_one 5 ((i + 2 : Nat) : Int) B _ r a c p (i + 2) g d 0 Hh5.out).mono ?_
      rintro _ w6 ⟨rfl, h6, k6⟩
      have H6 := hid h6
      have K6 := hid (HK5.out.tr k6)
      clear h6 k6
      go_wp2_with fail
      go_ret
      rw [HXb.out]
      exact ⟨none, 0, [], i + 2, g, rfl, ROwn.nil _ _, Sml.nil _ _, by decide, by omega, H6.out, K6.out⟩
  · rw [if_neg h63] at hX
    have b63 : (nx p (i + 1) == 63) = false := by simpa using h63
    by_cases h9 : 9 ≤ g
    · rw [if_pos h9] at hX
      have b9 : decide ((9 : Int) ≤ (g : Int)) = true := decide_eq_true (by omega)
      have HXb := hid hX
      clear hX n63 n58
      go_enter Tryz.func146, Tryz.ntmps146
      go_upto_region 4 with fail
      rw [← hV]; clear hV
      clear rl c0 c1 c2 c3 c4 c5 f1 f2 f3 f4 f5
      have hh := HRV.out
      (have c0 := hh.c0; have c1 := hh.c1; have c2 := hh.c2; have c3 := hh.c3; have c4 := hh.c4; have c5 := hh.c5; have f1 := hh.fz 1; have f2 := hh.fz 2; have f3 := hh.fz 3; have f4 := hh.fz 4; have f5 := hh.fz 5; have rl := hh.lt; have Hhh := hid hh; clear hh)
      go_wp2_with fail
      refine (dnext_c B _ r a c p (i + 1) g d 0 0 Hhh.out).mono ?_
      clear rl c0 c1 c2 c3 c4 c5 f1 f2 f3 f4 f5
      rintro _ w3 ⟨rfl, h3, k3⟩
      have HK3 := hid (HKV.out.tr k3)
      clear k3 Hhh
      (have c0 := h3.c0; have c1 := h3.c1; have c2 := h3.c2; have c3 := h3.c3; have c4 := h3.c4; have c5 := h3.c5; have f1 := h3.fz 1; have f2 := h3.fz 2; have f3 := h3.fz 3; have f4 := h3.fz 4; have f5 := h3.fz 5; have rl := h3.lt; have Hh3 := hid h3; clear h3)
      go_wp2_with fail
      refine (dbad_one 3 i B _ r a c p (i + 1) g d 0 Hh3.out).mono ?_
      rintro _ w6 ⟨rfl, h6, k6⟩
      have H6 := hid h6
      have K6 := hid (HK3.out.tr k6)
      clear h6 k6
      go_wp2_with fail
      go_ret
      rw [HXb.out]
      exact ⟨none, 0, [], i + 1, g, rfl, ROwn.nil _ _, Sml.nil _ _, by decide, by omega, H6.out, K6.out⟩
    · rw [if_neg h9] at hX
      have b9 : decide ((9 : Int) ≤ (g : Int)) = false := decide_eq_false (by omega)
      have Wg : IntKind.i64.wrap ((g : Int) + 1) = ((g + 1 : Nat) : Int) := by rw [IntKind.wrap_i64]; omega
      have HXg := hid hX
      have hi1 : i + 1 ≤ p.length := by omega
      clear hX n63 n58
      go_enter Tryz.func146, Tryz.ntmps146
      go_upto_region 4 with fail
      rw [← hV]; clear hV
      clear rl c0 c1 c2 c3 c4 c5 f1 f2 f3 f4 f5
      have hh := HRV.out
      (have c0 := hh.c0; have c1 := hh.c1; have c2 := hh.c2; have c3 := hh.c3; have c4 := hh.c4; have c5 := hh.c5; have f1 := hh.fz 1; have f2 := hh.fz 2; have f3 := hh.fz 3; have f4 := hh.fz 4; have f5 := hh.fz 5; have rl := hh.lt; have Hhh := hid hh; clear hh)
      go_wp2_with fail
      refine (dnext_c B _ r a c p (i + 1) g d 0 0 Hhh.out).mono ?_
      clear rl c0 c1 c2 c3 c4 c5 f1 f2 f3 f4 f5
      rintro _ w3 ⟨rfl, h3, k3⟩
      have HN3 := hid (HNV.out.kpt k3 (by omega))
      have HK3 := hid (HKV.out.tr k3)
      have z3 := HK3.out.size
      have zN := HN3.out.lt
      clear k3 Hhh
      (have c0 := h3.c0; have c1 := h3.c1; have c2 := h3.c2; have c3 := h3.c3; have c4 := h3.c4; have c5 := h3.c5; have f1 := h3.fz 1; have f2 := h3.fz 2; have f3 := h3.fz 3; have f4 := h3.fz 4; have f5 := h3.fz 5; have rl := h3.lt; have Hh3 := hid h3; clear h3)
      have HR4 := Hh3.out.set2 (g + 1)
      have HN4 := HN3.out.kpt ((KR.refl r _).set (o := 2) (.int .i64 ((g + 1 : Nat) : Int))) (by omega)
      rw [show ((g + 1 : Nat) : Int) = (g : Int) + 1 by omega] at HR4 HN4
      have HRz := hid (HR4.setOff w.heap.size 2 hB (.int .i64 ((g : Int) + 1)))
      have HNz := hid (HN4.set2 ((g : Int) + 1))
      have HKz : Hid (KR r w ((w3.setCell ⟨r, 2, none⟩ (.int .i64 ((g : Int) + 1))).setCell ⟨w.heap.size, 2, none⟩ (.int .i64 ((g : Int) + 1)))) := by
        have q := HK3.out.set (o := 2) (.int .i64 ((g : Int) + 1))
        exact hid ⟨q.os, q.tape, q.output, by simpa using q.size, fun kk hkk hn => (Below.heap_setCell _ _ _ _ (by simp; omega)).trans (q.block kk hkk hn)⟩
      have hn3 := HN3.out
      (have n0 := hn3.c0; have n1 := hn3.c1; have n2 := hn3.c2; have n3 := hn3.c3; have n4 := hn3.c4; have n5 := hn3.c5; have n6 := hn3.c6; have nf0 := hn3.fz 0; have nf1 := hn3.fz 1; have nf2 := hn3.fz 2; have nf3 := hn3.fz 3; have nf4 := hn3.fz 4; have nf5 := hn3.fz 5; have nf6 := hn3.fz 6; have nz := hn3.lt; clear hn3)
      go_upto_region 18 with fail
      clear rl c0 c1 c2 c3 c4 c5 f1 f2 f3 f4 f5
      clear Hh3 HR4 HN4
      clear n0 n1 n2 n3 n4 n5 n6 nf0 nf1 nf2 nf3 nf4 nf5 nf6 nz
      generalize hW : (w3.setCell ⟨r, 2, none⟩ (.int .i64 ((g : Int) + 1))).setCell ⟨w.heap.size, 2, none⟩ (.int .i64 ((g : Int) + 1)) = Wz at HRz HKz HNz ⊢
      clear hW
      have h0 := HRz.out
      (have c0 := h0.c0; have c1 := h0.c1; have c2 := h0.c2; have c3 := h0.c3; have c4 := h0.c4; have c5 := h0.c5; have f1 := h0.fz 1; have f2 := h0.fz 2; have f3 := h0.fz 3; have f4 := h0.fz 4; have f5 := h0.fz 5; have rl := h0.lt; have Hh0 := hid h0; clear h0)
      have Wd : IntKind.i64.wrap ((d : Int) + 1) = ((d + 1 : Nat) : Int) := by rw [IntKind.wrap_i64]; omega
      have Wm : IntKind.i64.wrap (((d + 1 : Nat) : Int) - 1) = (d : Int) := by rw [IntKind.wrap_i64]; omega
      have Wm' : IntKind.i64.wrap ((d : Int) + 1 - 1) = (d : Int) := by rw [IntKind.wrap_i64]; omega
      have HR1 := hid (Hh0.out.set3 (d + 1))
      have HK1 := hid (HKz.out.set (o := 3) (.int .i64 ((d + 1 : Nat) : Int)))
      have HN1 := hid (HNz.out.kpt ((KR.refl r _).set (o := 3) (.int .i64 ((d + 1 : Nat) : Int))) (by omega))
      have PC := hid (IH _ (i + 1) (g + 1) (d + 1) HR1.out (by omega) (by omega) (by omega) (by omega))
      clear Hh0
      go_wp2_with fail
      clear rl c0 c1 c2 c3 c4 c5 f1 f2 f3 f4 f5
      refine PC.out.mono ?_
      clear PC
      rintro e5 w5 ho
      cases hA : altP CC p.length k (p.drop (i + 1)) (g + 1) (d + 1) with
      | bad e f =>
        rw [hA] at ho
        obtain ⟨a2, c2, L, j, y, rfl, o2, s2, he, hj, h5, k5⟩ := ho
        have be : (e == 0) = false := by simpa using he
        have HXf : Hid (X = .bad e f) := by rw [Hid, HXg.out]; unfold grpI; rw [hA]
        have HK5 := hid (HK1.out.tr k5)
        have HN5 := hid (HN1.out.kpt k5 (by omega))
        have HO5 := hid o2
        have HS5 := hid s2
        have zk := HK1.out.size
        have z5 := HK5.out.size
        have hl2 := s2.len
        (have c0 := h5.c0; have c1 := h5.c1; have c2 := h5.c2; have c3 := h5.c3; have c4 := h5.c4; have c5 := h5.c5; have f1 := h5.fz 1; have f2 := h5.fz 2; have f3 := h5.fz 3; have f4 := h5.fz 4; have f5 := h5.fz 5; have rl := h5.lt; have Hh5 := hid h5; clear h5)
        have HR6 := hid (Hh5.out.set3 d)
        have HK6 := hid (HK5.out.set (o := 3) (.int .i64 (d : Int)))
        have HN6 := hid (HN5.out.kpt ((KR.refl r _).set (o := 3) (.int .i64 (d : Int))) (by omega))
        have HO6 := hid (HO5.out.kr ((KR.refl r _).set (o := 3) (.int .i64 (d : Int))) (by omega))
        have He := hid he
        clear hA o2 s2 k5 Hh5 he
        skip
        go_wp2_with fail
        clear rl c0 c1 c2 c3 c4 c5 f1 f2 f3 f4 f5
        refine (dok_c B _ r a c p j y d e f HR6.out).mono ?_
        rintro _ w7 ⟨rfl, h7, k7⟩
        have HK7 := hid (HK6.out.tr k7)
        have HN7 := hid (HN6.out.kpt k7 (by omega))
        have HO7 := hid (HO6.out.kr k7 (by omega))
        have Wj : IntKind.i64.wrap ((j : Int) + 1) = ((j + 1 : Nat) : Int) := by rw [IntKind.wrap_i64]; omega
        clear k7
        (have c0 := h7.c0; have c1 := h7.c1; have c2 := h7.c2; have c3 := h7.c3; have c4 := h7.c4; have c5 := h7.c5; have f1 := h7.fz 1; have f2 := h7.fz 2; have f3 := h7.fz 3; have f4 := h7.fz 4; have f5 := h7.fz 5; have rl := h7.lt; have Hh7 := hid h7; clear h7)
        have HR8 := hid (Hh7.out.set1 (j + 1))
        have HK8 := hid (HK7.out.set (o := 1) (.int .i64 ((j + 1 : Nat) : Int)))
        have HN8 := hid (HN7.out.kpt ((KR.refl r _).set (o := 1) (.int .i64 ((j + 1 : Nat) : Int))) (by omega))
        have HO8 := hid (HO7.out.kr ((KR.refl r _).set (o := 1) (.int .i64 ((j + 1 : Nat) : Int))) (by omega))
        clear Hh7
        go_upto_region 24 with fail
        clear rl c0 c1 c2 c3 c4 c5 f1 f2 f3 f4 f5
        rw [show ((j + 1 : Nat) : Int) = (j : Int) + 1 by omega] at HR8 HK8 HN8 HO8
        generalize hW : w7.setCell ⟨r, 1, none⟩ (.int .i64 ((j : Int) + 1)) = W8 at HR8 HK8 HN8 HO8 ⊢
        clear hW
        obtain ⟨m, hm⟩ : ∃ m : Rm, m = ⟨5, 0, ((g : Int) + 1), 0, false, false, none, [], 0⟩ := ⟨_, rfl⟩
        have Hm := hid hm
        have n8 : NdC W8 w.heap.size m.kind m.deep m.lo m.hi m.lazy m.not (.slice m.sa m.set.length m.sc) := by rw [hm]; exact HN8.out
        clear hm
        (have n0 := n8.c0; have n1 := n8.c1; have n2 := n8.c2; have n3 := n8.c3; have n4 := n8.c4; have n5 := n8.c5; have n6 := n8.c6; have nf0 := n8.fz 0; have nf1 := n8.fz 1; have nf2 := n8.fz 2; have nf3 := n8.fz 3; have nf4 := n8.fz 4; have nf5 := n8.fz 5; have nf6 := n8.fz 6; have nz := n8.lt; clear n8)
        have zW := HK8.out.size
        have LC := hid (lower_d w.heap.size (some ⟨W8.heap.size, 0, none⟩) a2 1 c2 [m] L (W8.alloc (.cells #[.int .i64 m.kind, .int .i64 m.deep, .int .i64 m.lo, .int .i64 m.hi, .bool m.lazy, .bool m.not, .slice m.sa m.set.length m.sc] 128)) (ROwn.one Tryz.tyRe m _ _ rfl zW _ rfl) (HO8.out.sl.alloc _) (fun ad had hb => by
          obtain ⟨ae, hae, hbb⟩ := hb
          cases hae
          have := (HO8.out.lt ⟨ad, had, rfl⟩).2
          have hbb' : W8.heap.size = ad.block := hbb
          omega) (by simp; omega) (HS5.out.mono (by omega) (by omega)) (by simp))
        go_wp2_with (go_at_call 114; refine LC.out.mono ?_)
        rintro _ w9 ⟨a9, c9, L9, rfl, hL9, o9, k9, -⟩
        have b9 : Below W8.heap.size W8 w9 := ((Below.refl _ _).alloc (Nat.le_refl _) _).trans (k9.below (fun q hq => by obtain ⟨ae, hae, hbb⟩ := hq; cases hae; exact Nat.le_of_eq hbb) (by simp))
        have H9 := hid o9
        have HL9 := hid hL9
        have B9 := hid b9
        clear o9 k9 b9 hL9 LC
        go_wp2_with fail
        go_ret
        rw [HXf.out]
        refine ⟨a9, c9, L9, j + 1, y, rfl, H9.out, ?_, He.out, by omega, HR8.out.bel B9.out, HK8.out.thn B9.out⟩
        rw [HL9.out.out]
        exact ((Sml.one (4 * (p.length - i) + 1 - 2) (by rw [Hm.out])).app ((HS5.out.low).mono (Nat.le_refl _) (by omega))).mono (by omega) (Nat.le_refl _)
      | ok l s1 g1 =>
        rw [hA] at ho
        obtain ⟨a2, c2, L, j, rfl, hr2, o2, t2, hj0, hj1, s2, hs1, hg1, h5, k5⟩ := ho
        have HA := hid hA
        subst hs1
        have HK5 := hid (HK1.out.tr k5)
        have HN5 := hid (HN1.out.kpt k5 (by omega))
        have HO5 := hid o2
        have HS5 := hid s2
        have HT5 := hid t2
        have HRn := hid hr2
        have zk := HK1.out.size
        have z5 := HK5.out.size
        have hl2 := s2.len
        (have c0 := h5.c0; have c1 := h5.c1; have c2 := h5.c2; have c3 := h5.c3; have c4 := h5.c4; have c5 := h5.c5; have f1 := h5.fz 1; have f2 := h5.fz 2; have f3 := h5.fz 3; have f4 := h5.fz 4; have f5 := h5.fz 5; have rl := h5.lt; have Hh5 := hid h5; clear h5)
        have HR6 := hid (Hh5.out.set3 d)
        have HK6 := hid (HK5.out.set (o := 3) (.int .i64 (d : Int)))
        have HN6 := hid (HN5.out.kpt ((KR.refl r _).set (o := 3) (.int .i64 (d : Int))) (by omega))
        have HO6 := hid (HO5.out.kr ((KR.refl r _).set (o := 3) (.int .i64 (d : Int))) (by omega))
        have HT6 := hid (HT5.out.kr ((KR.refl r _).set (o := 3) (.int .i64 (d : Int))) (by omega))
        have Wj : IntKind.i64.wrap ((j : Int) + 1) = ((j + 1 : Nat) : Int) := by rw [IntKind.wrap_i64]; omega
        clear hA o2 s2 t2 k5 Hh5 hr2
        go_wp2_with fail
        clear rl c0 c1 c2 c3 c4 c5 f1 f2 f3 f4 f5
        refine (dok_c B _ r a c p j g1 d 0 0 HR6.out).mono ?_
        rintro _ w6 ⟨rfl, h6, k6⟩
        have H6 := hid h6
        have K6 := hid k6
        clear h6 k6
        go_wp2_with fail
        refine (dnext_c B _ r a c p j g1 d 0 0 H6.out).mono ?_
        rintro _ w7 ⟨rfl, h7, k7⟩
        have HK7 := hid ((HK6.out.tr K6.out).tr k7)
        have HN7 := hid ((HN6.out.kpt K6.out (by omega)).kpt k7 (by omega))
        have HO7 := hid ((HO6.out.kr K6.out (by omega)).kr k7 (by omega))
        have HT7 := hid ((HT6.out.kr K6.out (by omega)).kr k7 (by omega))
        clear k7
        by_cases h41 : nx p j = 41
        · have jl : j < p.length := by
            rcases Nat.lt_or_ge j p.length with h1 | h1
            · exact h1
            · rw [nx_end h1] at h41; omega
          have HXo : Hid (X = .ok (nGroup ((g : Int) + 1) :: lower l) (p.drop (j + 1)) g1) := by
            rw [Hid, HXg.out]; unfold grpI; rw [HA.out]; dsimp only; rw [drop_nx jl, h41]; rfl
          rw [h41]
          (have c0 := h7.c0; have c1 := h7.c1; have c2 := h7.c2; have c3 := h7.c3; have c4 := h7.c4; have c5 := h7.c5; have f1 := h7.fz 1; have f2 := h7.fz 2; have f3 := h7.fz 3; have f4 := h7.fz 4; have f5 := h7.fz 5; have rl := h7.lt; have Hh7 := hid h7; clear h7)
          have HR8 := hid (Hh7.out.set1 (j + 1))
          have HK8 := hid (HK7.out.set (o := 1) (.int .i64 ((j + 1 : Nat) : Int)))
          have HN8 := hid (HN7.out.kpt ((KR.refl r _).set (o := 1) (.int .i64 ((j + 1 : Nat) : Int))) (by omega))
          have HO8 := hid (HO7.out.kr ((KR.refl r _).set (o := 1) (.int .i64 ((j + 1 : Nat) : Int))) (by omega))
          have HT8 := hid (HT7.out.kr ((KR.refl r _).set (o := 1) (.int .i64 ((j + 1 : Nat) : Int))) (by omega))
          clear Hh7 h41
          rw [show ((j + 1 : Nat) : Int) = (j : Int) + 1 by omega] at HT8
          go_upto_region 24 with fail
          clear rl c0 c1 c2 c3 c4 c5 f1 f2 f3 f4 f5
          rw [show ((j + 1 : Nat) : Int) = (j : Int) + 1 by omega] at HR8 HK8 HN8 HO8
          generalize hW : w7.setCell ⟨r, 1, none⟩ (.int .i64 ((j : Int) + 1)) = W8 at HR8 HK8 HN8 HO8 HT8 ⊢
          clear hW
          obtain ⟨m, hm⟩ : ∃ m : Rm, m = ⟨5, 0, ((g : Int) + 1), 0, false, false, none, [], 0⟩ := ⟨_, rfl⟩
          have Hm := hid hm
          have n8 : NdC W8 w.heap.size m.kind m.deep m.lo m.hi m.lazy m.not (.slice m.sa m.set.length m.sc) := by rw [hm]; exact HN8.out
          clear hm
          (have n0 := n8.c0; have n1 := n8.c1; have n2 := n8.c2; have n3 := n8.c3; have n4 := n8.c4; have n5 := n8.c5; have n6 := n8.c6; have nf0 := n8.fz 0; have nf1 := n8.fz 1; have nf2 := n8.fz 2; have nf3 := n8.fz 3; have nf4 := n8.fz 4; have nf5 := n8.fz 5; have nf6 := n8.fz 6; have nz := n8.lt; clear n8)
          have zW := HK8.out.size
          have LC := hid (lower_d w.heap.size (some ⟨W8.heap.size, 0, none⟩) a2 1 c2 [m] L (W8.alloc (.cells #[.int .i64 m.kind, .int .i64 m.deep, .int .i64 m.lo, .int .i64 m.hi, .bool m.lazy, .bool m.not, .slice m.sa m.set.length m.sc] 128)) (ROwn.one Tryz.tyRe m _ _ rfl zW _ rfl) (HO8.out.sl.alloc _) (fun ad had hb => by
            obtain ⟨ae, hae, hbb⟩ := hb
            cases hae
            have := (HO8.out.lt ⟨ad, had, rfl⟩).2
            have hbb' : W8.heap.size = ad.block := hbb
            omega) (by simp; omega) (HS5.out.mono (by omega) (by omega)) (by simp))
          go_wp2_with (go_at_call 114; refine LC.out.mono ?_)
          rintro _ w9 ⟨a9, c9, L9, rfl, hL9, o9, k9, -⟩
          have b9 : Below W8.heap.size W8 w9 := ((Below.refl _ _).alloc (Nat.le_refl _) _).trans (k9.below (fun q hq => by obtain ⟨ae, hae, hbb⟩ := hq; cases hae; exact Nat.le_of_eq hbb) (by simp))
          have H9 := hid o9
          have HL9 := hid hL9
          have B9 := hid b9
          clear o9 k9 b9 hL9 LC
          go_wp2_with fail
          go_ret
          rw [HXo.out]
          refine ⟨a9, c9, L9, j + 1, rfl, ?_, H9.out, ?_, by omega, by omega, ?_, rfl, hg1, HR8.out.bel B9.out, HK8.out.thn B9.out⟩
          · rw [HL9.out.out, rns_app, rns_low, HRn.out, Hm.out]; rfl
          · rw [HL9.out.out]
            exact (((HT8.out.bel B9.out).base_le (by have := HKz.out.size; simp; omega)).low).cons0 (m := m) (by rw [Hm.out]) (by rw [Hm.out]) (by rw [Hm.out])
          · rw [HL9.out.out]
            exact ((Sml.one (4 * (p.length - i) + 1 - 2) (by rw [Hm.out])).app ((HS5.out.low).mono (Nat.le_refl _) (by omega))).mono (by omega) (Nat.le_refl _)
        · have b41 : (nx p j != 41) = true := by simpa using h41
          have HXf : Hid (X = .bad 5 (j : Int)) := by
            rw [Hid, HXg.out]; unfold grpI; rw [HA.out]; dsimp only
            rw [at_drop p j hj1]
            split
            · rename_i hq
              exact absurd (nx_drop hq).2.1 h41
            · rfl
          have H7 := hid h7
          (have c0 := h7.c0; have c1 := h7.c1; have c2 := h7.c2; have c3 := h7.c3; have c4 := h7.c4; have c5 := h7.c5; have f1 := h7.fz 1; have f2 := h7.fz 2; have f3 := h7.fz 3; have f4 := h7.fz 4; have f5 := h7.fz 5; have rl := h7.lt; have Hh7 := hid h7; clear h7)
          go_wp2_with fail
          refine (dbad_one 5 j B _ r a c p j g1 d 0 H7.out).mono ?_
          clear rl c0 c1 c2 c3 c4 c5 f1 f2 f3 f4 f5
          clear Hh7 h41
          rintro _ wb ⟨rfl, hb, kb⟩
          have HKb := hid (HK7.out.tr kb)
          have HNb := hid (HN7.out.kpt kb (by omega))
          have HOb := hid (HO7.out.kr kb (by omega))
          clear kb
          (have c0 := hb.c0; have c1 := hb.c1; have c2 := hb.c2; have c3 := hb.c3; have c4 := hb.c4; have c5 := hb.c5; have f1 := hb.fz 1; have f2 := hb.fz 2; have f3 := hb.fz 3; have f4 := hb.fz 4; have f5 := hb.fz 5; have rl := hb.lt; have Hhb := hid hb; clear hb)
          have HR8 := hid (Hhb.out.set1 (j + 1))
          have HK8 := hid (HKb.out.set (o := 1) (.int .i64 ((j + 1 : Nat) : Int)))
          have HN8 := hid (HNb.out.kpt ((KR.refl r _).set (o := 1) (.int .i64 ((j + 1 : Nat) : Int))) (by omega))
          have HO8 := hid (HOb.out.kr ((KR.refl r _).set (o := 1) (.int .i64 ((j + 1 : Nat) : Int))) (by omega))
          clear Hhb
          go_upto_region 24 with fail
          clear rl c0 c1 c2 c3 c4 c5 f1 f2 f3 f4 f5
          rw [show ((j + 1 : Nat) : Int) = (j : Int) + 1 by omega] at HR8 HK8 HN8 HO8
          generalize hW : wb.setCell ⟨r, 1, none⟩ (.int .i64 ((j : Int) + 1)) = W8 at HR8 HK8 HN8 HO8 ⊢
          clear hW
          obtain ⟨m, hm⟩ : ∃ m : Rm, m = ⟨5, 0, ((g : Int) + 1), 0, false, false, none, [], 0⟩ := ⟨_, rfl⟩
          have Hm := hid hm
          have n8 : NdC W8 w.heap.size m.kind m.deep m.lo m.hi m.lazy m.not (.slice m.sa m.set.length m.sc) := by rw [hm]; exact HN8.out
          clear hm
          (have n0 := n8.c0; have n1 := n8.c1; have n2 := n8.c2; have n3 := n8.c3; have n4 := n8.c4; have n5 := n8.c5; have n6 := n8.c6; have nf0 := n8.fz 0; have nf1 := n8.fz 1; have nf2 := n8.fz 2; have nf3 := n8.fz 3; have nf4 := n8.fz 4; have nf5 := n8.fz 5; have nf6 := n8.fz 6; have nz := n8.lt; clear n8)
          have zW := HK8.out.size
          have LC := hid (lower_d w.heap.size (some ⟨W8.heap.size, 0, none⟩) a2 1 c2 [m] L (W8.alloc (.cells #[.int .i64 m.kind, .int .i64 m.deep, .int .i64 m.lo, .int .i64 m.hi, .bool m.lazy, .bool m.not, .slice m.sa m.set.length m.sc] 128)) (ROwn.one Tryz.tyRe m _ _ rfl zW _ rfl) (HO8.out.sl.alloc _) (fun ad had hb => by
            obtain ⟨ae, hae, hbb⟩ := hb
            cases hae
            have := (HO8.out.lt ⟨ad, had, rfl⟩).2
            have hbb' : W8.heap.size = ad.block := hbb
            omega) (by simp; omega) (HS5.out.mono (by omega) (by omega)) (by simp))
          go_wp2_with (go_at_call 114; refine LC.out.mono ?_)
          rintro _ w9 ⟨a9, c9, L9, rfl, hL9, o9, k9, -⟩
          have b9 : Below W8.heap.size W8 w9 := ((Below.refl _ _).alloc (Nat.le_refl _) _).trans (k9.below (fun q hq => by obtain ⟨ae, hae, hbb⟩ := hq; cases hae; exact Nat.le_of_eq hbb) (by simp))
          have H9 := hid o9
          have HL9 := hid hL9
          have B9 := hid b9
          clear o9 k9 b9 hL9 LC
          go_wp2_with fail
          go_ret
          rw [HXf.out]
          refine ⟨a9, c9, L9, j + 1, g1, rfl, H9.out, ?_, by decide, by omega, HR8.out.bel B9.out, HK8.out.thn B9.out⟩
          rw [HL9.out.out]
          exact ((Sml.one (4 * (p.length - i) + 1 - 2) (by rw [Hm.out])).app ((HS5.out.low).mono (Nat.le_refl _) (by omega))).mono (by omega) (Nat.le_refl _)
end Go.Proofs.YtefgjicegbhcaaaGreat
