/- The document's reader: a row. -/
import Derived.Test.YtniilphbbcbpcaaDrk
import Derived.Test.YtniilphbbcbpcaaRxl
namespace Go.Proofs.Ytniilphbbcbpcaa
open Go.RowKit ReM

theorem dnext_q (q : Int) (B : Nat) (w : World) (r : Nat) (a : Option Addr) (c : Nat) (p : List Int) (i x y : Nat) (e f : Int) (hq : nx p i = q) (h : Rdr B w r a c p i x y e f) :
    Calls Try.prog 48 #[.pointer (some ⟨r, 0, none⟩)] w fun e' w' => e' = .returned (.int .i32 q) ∧ Rdr B w' r a c p i x y e f ∧ KR r w w' := by
  subst hq; exact dnext_c B w r a c p i x y e f h
theorem dok_no (B : Nat) (w : World) (r : Nat) (a : Option Addr) (c : Nat) (p : List Int) (i x y : Nat) (e f : Int) (he : e ≠ 0) (h : Rdr B w r a c p i x y e f) :
    Calls Try.prog 33 #[.pointer (some ⟨r, 0, none⟩)] w fun e' w' => e' = .returned (.bool false) ∧ Rdr B w' r a c p i x y e f ∧ KR r w w' := by
  have be : (e == 0) = false := by simpa using he
  rw [← be]; exact dok_c B w r a c p i x y e f h
theorem dok_yes (B : Nat) (w : World) (r : Nat) (a : Option Addr) (c : Nat) (p : List Int) (i x y : Nat) (f : Int) (h : Rdr B w r a c p i x y 0 f) :
    Calls Try.prog 33 #[.pointer (some ⟨r, 0, none⟩)] w fun e' w' => e' = .returned (.bool true) ∧ Rdr B w' r a c p i x y 0 f ∧ KR r w w' :=
  dok_c B w r a c p i x y 0 f h
theorem itemD_lt {p : List Int} {k j g d : Nat} {l : List Rn} {s : List Int} {g' : Nat} (h : itemD p k j g d = .ok l s g') (hj : j < p.length) : s.length < p.length - j := by
  unfold itemD at h
  split at h
  · cases h; simp only [List.length_drop]; omega
  · split at h
    · cases h; simp only [List.length_drop]; omega
    · unfold thenR at h
      cases hA : atomI p k j g d with
      | bad c f => rw [hA] at h; cases h
      | ok l1 s1 g1 =>
        rw [hA] at h
        have h1 := atom_lt hA hj
        have h2 := reps_len h
        omega
/-- what holds among a row's items -/
def RowD (X : Rg) (B : Nat) (w : World) (r : Nat) (a : Option Addr) (c : Nat) (p : List Int) (K i d : Nat) (gk : Nat) (v : Value) (wr : World) : Prop :=
  (∃ K' j gj M aM cM acc, gk = p.length - j + 1 ∧ v = .slice aM M.length cM ∧ i ≤ j ∧ j ≤ p.length ∧ gj ≤ 9 ∧ 4 * (p.length - j) + 1 ≤ K' ∧ K' ≤ K ∧ rns M = nRow :: acc ∧ Hid (X = rowR (rowP CC p.length K' acc (p.drop j) gj d)) ∧
    Hid (RO wr w.heap.size aM cM M) ∧ Hid (Sets w.heap.size wr M) ∧ Hid (Sml (4 * (j - i) + 1) (4 * (p.length - i) + 1) M) ∧ Hid (Rdr B wr r a c p j gj d 0 0) ∧ Hid (KR r w wr)) ∨
  (∃ M aM cM e f j y, gk = 0 ∧ v = .slice aM M.length cM ∧ Hid (X = .bad e f) ∧ e ≠ 0 ∧ Hid (RO wr w.heap.size aM cM M) ∧ Hid (Sml (4 * (p.length - i) + 1) (4 * (p.length - i) + 1) M) ∧ j + d ≤ p.length + 20 ∧ Hid (Rdr B wr r a c p j y d e f) ∧ Hid (KR r w wr))
theorem row_end {X : Rg} {B : Nat} {w wr w' : World} {r : Nat} {a : Option Addr} {c : Nat} {p : List Int} {i j gj d : Nat} {M : List Rm} {aM : Option Addr} {cM : Nat} {acc : List Rn} (hrw : r < w.heap.size) (hij : i ≤ j) (hj : j ≤ p.length) (hg : gj ≤ 9) (hM : rns M = nRow :: acc) (hX : X = .ok (nRow :: acc) (p.drop j) gj)
    (ho : RO wr w.heap.size aM cM M) (hS : Sets w.heap.size wr M) (hs : Sml (4 * (j - i) + 1) (4 * (p.length - i) + 1) M) (hk : KR r w wr) (k : KR r wr w') (hr : Rdr B w' r a c p j gj d 0 0) :
    OutD X B w r a c p i d 3 3 (.returned (.slice aM M.length cM)) w' := by
  rw [hX]
  exact ⟨aM, cM, M, j, rfl, hM, ho.kr k hrw, hS.kr k hrw, hij, hj, hs.mono (by omega) (by omega), rfl, hg, hr, hk.tr k⟩
/-- an item's list behind the row's -/
theorem row_add {B : Nat} {w wr w1 w2 w3 : World} {r : Nat} {a : Option Addr} {c : Nat} {p : List Int} {j2 d gj : Nat} {M : List Rm} {aM : Option Addr} {cM : Nat} {e f : Int} (hB : B ≤ w.heap.size) (hk : KR r w wr) (k1 : KR r wr w1) (k2 : KR r w1 w2) (k3 : Kpt (Blk aM) w2 w3)
    (ho : RO wr w.heap.size aM cM M) (hr : Rdr B w2 r a c p j2 gj d e f) :
    Rdr B w3 r a c p j2 gj d e f ∧ KR r w w3 :=
  ⟨hr.kpt k3 (fun q hq => by have := (ho.lt hq).1; omega), Kpt.step ((hk.tr k1).tr k2) k3 (fun q hq => .inr (ho.lt hq).1)⟩
set_option maxRecDepth 20000 in
set_option maxHeartbeats 16000000 in
theorem drow_c (B : Nat) (w : World) (r : Nat) (a : Option Addr) (c : Nat) (p : List Int) (K i g d : Nat) (h : Rdr B w r a c p i g d 0 0) (hi : i ≤ p.length) (hT : Txt1 p) (hd : d ≤ 12) (hg : g ≤ 9) (hK : 4 * (p.length - i) + 1 ≤ K)
    (IH : ∀ k, k < K → PatD B r a c p k) :
    Calls Try.prog 47 #[.pointer (some ⟨r, 0, none⟩)] w (OutD (rowR (rowP CC p.length K [] (p.drop i) g d)) B w r a c p i d 3 3) := by
  have hl := hT.1
  have hB := h.Bw
  have hrw : r < w.heap.size := h.lt
  obtain ⟨X, hX⟩ : ∃ X, X = rowR (rowP CC p.length K [] (p.drop i) g d) := ⟨_, rfl⟩
  rw [← hX]
  have HI := hid IH
  have R0 := hid (show RowD X B w r a c p K i d (p.length - i + 1) (.slice (some ⟨w.heap.size, 0, none⟩) 1 1) (w.alloc (.cells #[.int .i64 0, .int .i64 0, .int .i64 0, .int .i64 0, .bool false, .bool false, .slice none 0 0] 50)) from
    .inl ⟨K, i, g, [⟨0, 0, 0, 0, false, false, none, [], 0⟩], _, _, [], rfl, rfl, Nat.le_refl _, hi, hg, hK, Nat.le_refl _, rfl, hid hX, hid (ROwn.one Try.tyRe _ _ _ rfl (Nat.le_refl _) _ rfl), hid ((Sets.nil _ _).cons0 rfl rfl rfl), hid ((Sml.one _ rfl).mono (by omega) (Nat.le_refl _)), hid (h.alloc _), hid ((KR.refl _ _).alloc _)⟩)
  clear IH hX h
  go_enter Try.func47, Try.ntmps47
  go_wp2_with fail
  go_loopg [3] (p.length - i + 1) (fun gk v wr => RowD X B w r a c p K i d gk v wr)
  case atStart => exact R0.out
  case round =>
    clear R0
    rcases hrel with ⟨K', j, gj, M, aM, cM, acc, rfl, rfl, hij, hj, hgj, hK1, hK2, hacc, HX, HO, HS, Hs, HR, HK⟩ | ⟨M, aM, cM, e, f, j, y, rfl, rfl, HX, he, HO, Hs, hjd, HR, HK⟩
    · obtain ⟨k2, rfl⟩ : ∃ k2, K' = k2 + 1 := ⟨K' - 1, by omega⟩
      have hz := HK.out.size
      by_cases hstop : nx p j = 124 ∨ nx p j = 41 ∨ p.length ≤ j
      · have HX2 := hid (HX.out.trans (by rw [row_stop p k2 acc j gj d hstop]; rfl : _ = Rg.ok (nRow :: acc) (p.drop j) gj))
        have hq : nx p j = 124 ∨ nx p j = 41 ∨ nx p j = -1 := by
          rcases hstop with h | h | h
          · exact .inl h
          · exact .inr (.inl h)
          · exact .inr (.inr (nx_end h))
        clear hstop HI HX
        rcases hq with hq | hq | hq
        · have HQ := hid hq
          clear hq
          go_wp2_with fail; refine (dok_yes B _ r a c p j gj d 0 HR.out).mono ?_; rintro _ w1 ⟨rfl, h1, k1⟩; have H1 := hid h1; have K1 := hid k1; clear h1 k1
          go_wp2_with fail; refine (dnext_q 124 B _ r a c p j gj d 0 0 HQ.out H1.out).mono ?_; rintro _ w2 ⟨rfl, h2, k2⟩; have H2 := hid h2; have K2 := hid k2; clear h2 k2
          go_wp2_with fail; refine (dnext_q 124 B _ r a c p j gj d 0 0 HQ.out H2.out).mono ?_; rintro _ w3 ⟨rfl, h3, k3⟩; have H3 := hid h3; have K3 := hid k3; clear h3 k3
          go_wp2_with fail
          go_ret
          exact row_end hrw hij hj hgj hacc HX2.out HO.out HS.out Hs.out HK.out ((K1.out.tr K2.out).tr K3.out) H3.out
        · have HQ := hid hq
          clear hq
          go_wp2_with fail; refine (dok_yes B _ r a c p j gj d 0 HR.out).mono ?_; rintro _ w1 ⟨rfl, h1, k1⟩; have H1 := hid h1; have K1 := hid k1; clear h1 k1
          go_wp2_with fail; refine (dnext_q 41 B _ r a c p j gj d 0 0 HQ.out H1.out).mono ?_; rintro _ w2 ⟨rfl, h2, k2⟩; have H2 := hid h2; have K2 := hid k2; clear h2 k2
          go_wp2_with fail; refine (dnext_q 41 B _ r a c p j gj d 0 0 HQ.out H2.out).mono ?_; rintro _ w3 ⟨rfl, h3, k3⟩; have H3 := hid h3; have K3 := hid k3; clear h3 k3
          go_wp2_with fail; refine (dnext_q 41 B _ r a c p j gj d 0 0 HQ.out H3.out).mono ?_; rintro _ w4 ⟨rfl, h4, k4⟩; have H4 := hid h4; have K4 := hid k4; clear h4 k4
          go_wp2_with fail
          go_ret
          exact row_end hrw hij hj hgj hacc HX2.out HO.out HS.out Hs.out HK.out (((K1.out.tr K2.out).tr K3.out).tr K4.out) H4.out
        · have HQ := hid hq
          clear hq
          go_wp2_with fail; refine (dok_yes B _ r a c p j gj d 0 HR.out).mono ?_; rintro _ w1 ⟨rfl, h1, k1⟩; have H1 := hid h1; have K1 := hid k1; clear h1 k1
          go_wp2_with fail; refine (dnext_q (-1) B _ r a c p j gj d 0 0 HQ.out H1.out).mono ?_; rintro _ w2 ⟨rfl, h2, k2⟩; have H2 := hid h2; have K2 := hid k2; clear h2 k2
          go_wp2_with fail
          go_ret
          exact row_end hrw hij hj hgj hacc HX2.out HO.out HS.out Hs.out HK.out (K1.out.tr K2.out) H2.out
      · have hjl : j < p.length := by omega
        obtain ⟨k3, rfl⟩ : ∃ k3, k2 = k3 + 2 := ⟨k2 - 2, by omega⟩
        have hX2 := HX.out
        rw [row_item p (k3 + 2) acc j gj d hjl (by omega) (by omega), item_ixD p k3 j gj d hjl (by omega)] at hX2
        have HX2 := hid hX2
        obtain ⟨q, hq⟩ : ∃ q, q = nx p j := ⟨_, rfl⟩
        have b1 : (q != 124) = true := by simp; omega
        have b2 : (q != 41) = true := by simp; omega
        have hge := hT.nxp hjl
        have b3 : decide ((0 : Int) ≤ q) = true := decide_eq_true (by omega)
        have HQ := hid hq.symm
        have CI := hid (fun w' h' => ditem_c B w' r a c p k3 j gj d h' hjl hT hd hgj (by omega) (HI.out k3 (by omega)))
        clear hq hge hstop HI HX hX2
        go_wp2_with fail; refine (dok_yes B _ r a c p j gj d 0 HR.out).mono ?_; rintro _ w1 ⟨rfl, h1, k1⟩; have H1 := hid h1; have K1 := hid k1; clear h1 k1
        go_wp2_with fail; refine (dnext_q q B _ r a c p j gj d 0 0 HQ.out H1.out).mono ?_; rintro _ w2 ⟨rfl, h2, k2⟩; have H2 := hid h2; have K2 := hid k2; clear h2 k2
        go_wp2_with fail; refine (dnext_q q B _ r a c p j gj d 0 0 HQ.out H2.out).mono ?_; rintro _ w3 ⟨rfl, h3, k3⟩; have H3 := hid h3; have K3 := hid k3; clear h3 k3
        go_wp2_with fail; refine (dnext_q q B _ r a c p j gj d 0 0 HQ.out H3.out).mono ?_; rintro _ w4 ⟨rfl, h4, k4⟩; have H4 := hid h4; have K4 := hid k4; clear h4 k4
        have K14 := hid (((K1.out.tr K2.out).tr K3.out).tr K4.out)
        clear K1 K2 K3 K4 H1 H2 H3
        go_wp2_with fail
        refine (CI.out _ H4.out).mono ?_
        rintro e5 w5 hx
        clear CI b1 b2 b3
        cases hA : itemD p k3 j gj d with
        | bad e f =>
          rw [hA] at hx
          obtain ⟨a5, c5, L5, j5, y5, rfl, o5, s5, he, hj5, h5, k5⟩ := hx
          have HX3 := hid (show X = .bad e f by rw [HX2.out, hA]; rfl)
          have H5 := hid h5
          have K5 := hid k5
          have S5 := hid s5
          have z4 := K14.out.size
          have z5 := k5.size
          have hls := Hs.out.len
          have LC := hid (lower_d w.heap.size aM a5 cM c5 M L5 w5 ((HO.out.kr K14.out (by omega)).kr k5 (by omega)) o5.sl (fun ad had hb => by
            have h1 := (HO.out.lt hb).2
            have h2 := (o5.lt ⟨ad, had, rfl⟩).1
            omega) (by omega) (S5.out.mono (by omega) (by omega)) (by omega))
          clear o5 s5 h5 k5 hA
          go_wp2_with (go_at_call 49; refine LC.out.mono ?_)
          rintro _ w6 ⟨a6, c6, L6, rfl, hL6, o6, k6, -⟩
          have H6 := hid o6
          have R6 := hid (row_add (gj := y5) hB HK.out K14.out K5.out k6 HO.out H5.out)
          have hL6' := hid hL6.out
          clear o6 k6 LC hL6
          go_wp2_with fail
          go_roundg 0
          case measure => omega
          case rel => exact .inr ⟨L6, a6, c6, e, f, j5, y5, rfl, rfl, HX3, he, H6, hid (by rw [hL6'.out]; exact (Hs.out.app (S5.out.low.mono (Nat.le_refl _) (by omega))).mono (by omega) (Nat.le_refl _)), hj5, hid R6.out.1, hid R6.out.2⟩
        | ok l s1 g1 =>
          rw [hA] at hx
          obtain ⟨a5, c5, L5, j5, rfl, hr5, o5, t5, hij5, hj5, s5, rfl, hg5, h5, k5⟩ := hx
          have hlt := itemD_lt hA hjl
          rw [List.length_drop] at hlt
          have HX3 := hid (show X = rowR (rowP CC p.length (k3 + 2) (acc ++ lower l) (p.drop j5) g1 d) by rw [HX2.out, hA])
          have H5 := hid h5
          have K5 := hid k5
          have S5 := hid s5
          have T5 := hid t5
          have z4 := K14.out.size
          have z5 := k5.size
          have hls := Hs.out.len
          have OM := hid ((HO.out.kr K14.out (by omega)).kr k5 (by omega))
          have SM := hid ((HS.out.kr K14.out (by omega)).kr k5 (by omega))
          have hlm := hid (HS.out.lt)
          have hr6 := hid hr5
          have LC := hid (lower_d w.heap.size aM a5 cM c5 M L5 w5 OM.out o5.sl (fun ad had hb => by
            have h1 := (HO.out.lt hb).2
            have h2 := (o5.lt ⟨ad, had, rfl⟩).1
            omega) (by omega) (S5.out.mono (by omega) (by omega)) (by omega))
          clear o5 s5 h5 k5 t5 hA hr5
          go_wp2_with (go_at_call 49; refine LC.out.mono ?_)
          rintro _ w6 ⟨a6, c6, L6, rfl, hL6, o6, k6, -⟩
          have H6 := hid o6
          have R6 := hid (row_add (gj := g1) hB HK.out K14.out K5.out k6 HO.out H5.out)
          have hL6' := hid hL6.out
          have S6 : Hid (Sets w.heap.size w6 L6) := by
            rw [Hid, hL6.out]
            exact (SM.out.list OM.out k6).app ((T5.out.list OM.out k6).low) (by omega) (fun m hm q hq => Nat.lt_of_lt_of_le (hlm.out m hm q hq) z4)
          clear o6 k6 LC hL6
          go_wp2_with fail
          go_roundg (p.length - j5 + 1)
          case measure => omega
          case rel =>
            refine .inl ⟨k3 + 2, j5, g1, L6, a6, c6, acc ++ lower l, rfl, rfl, by omega, hj5, hg5, by omega, by omega, ?_, HX3, H6, S6, hid ?_, hid R6.out.1, hid R6.out.2⟩
            · rw [hL6'.out, rns_app, hacc, rns_low, hr6.out]; rfl
            · rw [hL6'.out]; exact (Hs.out.app (S5.out.low.mono (Nat.le_refl _) (by omega))).mono (by omega) (Nat.le_refl _)
    · have He := hid he
      clear HI he
      go_wp2_with fail; refine (dok_no B _ r a c p j y d e f He.out HR.out).mono ?_; rintro _ w1 ⟨rfl, h1, k1⟩; have H1 := hid h1; have K1 := hid k1; clear h1 k1
      go_wp2_with fail
      go_ret
      rw [HX.out]
      exact ⟨aM, cM, M, j, y, rfl, HO.out.kr K1.out hrw, Hs.out.mono (by omega) (by omega), He.out, hjd, H1.out, HK.out.tr K1.out⟩
end Go.Proofs.Ytniilphbbcbpcaa
