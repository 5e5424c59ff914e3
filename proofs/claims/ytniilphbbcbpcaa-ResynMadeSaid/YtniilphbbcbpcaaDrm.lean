/- The document's reader: alternatives, by rounds (dpat_all). -/
import Derived.Test.YtniilphbbcbpcaaDrl
import Derived.Test.YtniilphbbcbpcaaRxm
namespace Go.Proofs.Ytniilphbbcbpcaa
open Go.RowKit ReM

def AltD (X : Rg) (B : Nat) (w : World) (r : Nat) (a : Option Addr) (c : Nat) (p : List Int) (K i d : Nat) (gk : Nat) (v : Value) (wr : World) : Prop :=
  (∃ K' j gj M aM cM, gk = p.length - j + 1 ∧ v = .slice aM M.length cM ∧ i ≤ j ∧ j ≤ p.length ∧ gj ≤ 9 ∧ 4 * (p.length - j) + 1 ≤ K' ∧ K' < K ∧ Hid (X = altsR p.length K' (rns M) (p.drop j) gj d) ∧
    Hid (RO wr w.heap.size aM cM M) ∧ Hid (Sets w.heap.size wr M) ∧ Hid (Sml (4 * (j - i) + 2) (4 * (p.length - i) + 2) M) ∧ Hid (Rdr B wr r a c p j gj d 0 0) ∧ Hid (KR r w wr)) ∨
  (∃ M aM cM e f j y, gk = 0 ∧ v = .slice aM M.length cM ∧ Hid (X = .bad e f) ∧ e ≠ 0 ∧ Hid (RO wr w.heap.size aM cM M) ∧ Hid (Sml (4 * (p.length - i) + 2) (4 * (p.length - i) + 2) M) ∧ j + d ≤ p.length + 20 ∧ Hid (Rdr B wr r a c p j y d e f) ∧ Hid (KR r w wr))
set_option maxRecDepth 20000 in
set_option maxHeartbeats 16000000 in
theorem dpat_step (B r : Nat) (a : Option Addr) (c : Nat) (p : List Int) (hT : Txt1 p) (K : Nat) (IH : ∀ k, k < K → PatD B r a c p k) : PatD B r a c p K := by
  intro w i g d h hi hd hg hK
  have hl := hT.1
  have hB := h.Bw
  have hrw : r < w.heap.size := h.lt
  obtain ⟨k, rfl⟩ : ∃ k, K = k + 1 := ⟨K - 1, by omega⟩
  obtain ⟨X, hX⟩ : ∃ X, X = altP CC p.length (k + 1) (p.drop i) g d := ⟨_, rfl⟩
  rw [← hX]
  have HX := hid (hX.trans (alt_is p k i g d))
  have RC := hid (drow_c B w r a c p k i g d h hi hT hd hg (by omega) (fun k' hk' => IH k' (by omega)))
  have HI := hid IH
  clear hX IH h
  go_enter Try.func32, Try.ntmps32
  go_wp2_with fail
  refine RC.out.mono ?_
  rintro e1 w1 hx
  clear RC
  cases hR : rowR (rowP CC p.length k [] (p.drop i) g d) with
  | bad e f =>
    rw [hR] at hx
    obtain ⟨a2, d2, M2, j, y, rfl, ho2, hs2, he, hj, h4, k4⟩ := hx
    have HX2 := hid (show X = .bad e f by rw [HX.out, hR])
    have O1 := hid ho2
    have Q1 := hid hs2
    have K1 := hid k4
    have He := hid he
    have zk := k4.size
    have HH4 := hid h4
    clear ho2 hs2 k4 he hR HX h4 HI
    obtain ⟨q, hq⟩ : ∃ q, nx p j = q := ⟨_, rfl⟩
    have HQ := hid hq
    clear hq
    by_cases h124 : q = 124
    · subst h124
      go_wp2_with fail; refine (dnext_q 124 B _ r a c p j y d e f HQ.out HH4.out).mono ?_; rintro _ w2 ⟨rfl, h2, k2⟩; have H2 := hid h2; have K2 := hid k2; clear h2 k2
      have LC := hid (lower_d w.heap.size (some ⟨w2.heap.size, 0, none⟩) a2 1 d2 [⟨1, 0, 0, 0, false, false, none, [], 0⟩] M2 (w2.alloc (.cells #[.int .i64 1, .int .i64 0, .int .i64 0, .int .i64 0, .bool false, .bool false, .slice none 0 0] 50)) (ROwn.one Try.tyRe ⟨1, 0, 0, 0, false, false, none, [], 0⟩ _ _ rfl (by have := K2.out.size; omega) _ rfl) ((O1.out.kr K2.out hrw).sl.alloc _) (fun ad had hb => by
        obtain ⟨ae, hae, hbb⟩ := hb
        cases hae
        have := ((O1.out.kr K2.out hrw).lt ⟨ad, had, rfl⟩).2
        have hbb' : w2.heap.size = ad.block := hbb
        omega) (by have := K2.out.size; simp; omega) (Q1.out.mono (by omega) (by omega)) (by simp))
      go_wp2_with (go_at_call 49; refine LC.out.mono ?_)
      rintro _ w3 ⟨a3, c3, L3, rfl, hL3, o3, k3, -⟩
      have b3 : Below w2.heap.size w2 w3 := ((Below.refl _ _).alloc (Nat.le_refl _) _).trans (k3.below (fun q hq => by obtain ⟨ae, hae, hbb⟩ := hq; cases hae; exact Nat.le_of_eq hbb) (by simp))
      have H3 := hid (H2.out.bel b3)
      have O3 := hid o3
      have hL3' := hid hL3.out
      have K3 := hid ((K1.out.tr K2.out).thn b3)
      clear o3 k3 b3 LC hL3
      go_wp2_with fail
      go_loopg [4] 0 (fun _ v wr => v = .slice a3 L3.length c3 ∧ Hid (RO wr w.heap.size a3 c3 L3) ∧ Hid (Rdr B wr r a c p j y d e f) ∧ Hid (KR r w wr))
      case atStart => exact ⟨rfl, O3, H3, K3⟩
      case round =>
        clear O3 H3 K3
        obtain ⟨rfl, O3, H3, K3⟩ := hrel
        go_wp2_with fail; refine (dok_no B _ r a c p j y d e f He.out H3.out).mono ?_; rintro _ w4 ⟨rfl, h4, k4⟩; have H4 := hid h4; have K4 := hid k4; clear h4 k4
        go_wp2_with fail
        go_ret
        rw [HX2.out]
        refine ⟨a3, c3, L3, j, y, rfl, O3.out.kr K4.out hrw, ?_, He.out, hj, H4.out, K3.out.tr K4.out⟩
        rw [hL3'.out]
        exact ((Sml.one (4 * (p.length - i) + 2) rfl).app (Q1.out.low.mono (Nat.le_refl _) (by omega))).mono (by omega) (Nat.le_refl _)
    · have b1 : (q != 124) = true := by simpa using h124
      go_wp2_with fail; refine (dnext_q q B _ r a c p j y d e f HQ.out HH4.out).mono ?_; rintro _ w2 ⟨rfl, h2, k2⟩; have H2 := hid h2; have K2 := hid k2; clear h2 k2
      go_wp2_with fail
      go_ret
      rw [HX2.out]
      exact ⟨a2, d2, M2, j, y, rfl, O1.out.kr K2.out hrw, Q1.out.mono (by omega) (by omega), He.out, hj, H2.out, K1.out.tr K2.out⟩
  | ok l s1 g1 =>
    rw [hR] at hx
    obtain ⟨a2, d2, M2, j, rfl, hrn, ho2, hS2, hij, hjn, hs2, hs1, hg1, h4, k4⟩ := hx
    have O1 := hid ho2
    have S1 := hid hS2
    have Q1 := hid hs2
    have K1 := hid k4
    have HH4 := hid h4
    have Hrn := hid hrn
    have zk := k4.size
    obtain ⟨q, hq⟩ : ∃ q, nx p j = q := ⟨_, rfl⟩
    have HQ := hid hq
    by_cases h124 : q = 124
    · subst h124
      have HX2 := hid (show X = altsR p.length k (nAlt :: lower (rns M2)) (p.drop j) g1 d by
        rw [HX.out, hR, hs1, ← hrn]
        unfold altsR
        rw [drop_nx (nx_is hq (by decide)), hq]
        rfl)
      clear ho2 hS2 hs2 hs1 k4 h4 hR HX hq hrn
      go_wp2_with fail; refine (dnext_q 124 B _ r a c p j g1 d 0 0 HQ.out HH4.out).mono ?_; rintro _ w2 ⟨rfl, h2, k2⟩; have H2 := hid h2; have K2 := hid k2; clear h2 k2
      have LC := hid (lower_d w.heap.size (some ⟨w2.heap.size, 0, none⟩) a2 1 d2 [⟨1, 0, 0, 0, false, false, none, [], 0⟩] M2 (w2.alloc (.cells #[.int .i64 1, .int .i64 0, .int .i64 0, .int .i64 0, .bool false, .bool false, .slice none 0 0] 50)) (ROwn.one Try.tyRe ⟨1, 0, 0, 0, false, false, none, [], 0⟩ _ _ rfl (by have := K2.out.size; omega) _ rfl) ((O1.out.kr K2.out hrw).sl.alloc _) (fun ad had hb => by
        obtain ⟨ae, hae, hbb⟩ := hb
        cases hae
        have := ((O1.out.kr K2.out hrw).lt ⟨ad, had, rfl⟩).2
        have hbb' : w2.heap.size = ad.block := hbb
        omega) (by have := K2.out.size; simp; omega) (Q1.out.mono (by omega) (by omega)) (by simp))
      go_wp2_with (go_at_call 49; refine LC.out.mono ?_)
      rintro _ w3 ⟨a3, c3, L3, rfl, hL3, o3, k3, -⟩
      have b3 : Below w2.heap.size w2 w3 := ((Below.refl _ _).alloc (Nat.le_refl _) _).trans (k3.below (fun q hq => by obtain ⟨ae, hae, hbb⟩ := hq; cases hae; exact Nat.le_of_eq hbb) (by simp))
      have P0 := hid (show AltD X B w r a c p (k + 1) i d (p.length - j + 1) (.slice a3 L3.length c3) w3 from by
        refine .inl ⟨k, j, g1, L3, a3, c3, rfl, rfl, hij, hjn, hg1, by omega, by omega, hid ?_, hid o3, hid ?_, hid ?_, hid (H2.out.bel b3), hid ((K1.out.tr K2.out).thn b3)⟩
        · rw [HX2.out, hL3.out, rns_app, rns_low]; rfl
        · rw [hL3.out]; exact (((S1.out.kr K2.out hrw).bel b3).low).cons0 (m := ⟨1, 0, 0, 0, false, false, none, [], 0⟩) rfl rfl rfl
        · rw [hL3.out]; exact ((Sml.one (4 * (p.length - i) + 2) rfl).app (Q1.out.low.mono (Nat.le_refl _) (by omega))).mono (by omega) (Nat.le_refl _))
      clear o3 k3 b3 LC hL3 H2 K2 K1 S1 O1 Q1 HX2 Hrn HH4 HQ
      go_wp2_with fail
      go_loopg [4] (p.length - j + 1) (fun gk v wr => AltD X B w r a c p (k + 1) i d gk v wr)
      case atStart => exact P0.out
      case round =>
        clear P0
        rcases hrel with ⟨K', j, gj, M, aM, cM, rfl, rfl, hij, hj, hgj, hK1, hK2, HX, HO, HS, Hs, HR, HK⟩ | ⟨M, aM, cM, e, f, j, y, rfl, rfl, HX, he, HO, Hs, hjd, HR, HK⟩
        · have hz := HK.out.size
          obtain ⟨q, hq⟩ : ∃ q, nx p j = q := ⟨_, rfl⟩
          have HQ := hid hq
          by_cases h124 : q = 124
          · subst h124
            have hjl := nx_is hq (by decide)
            obtain ⟨k2, rfl⟩ : ∃ k2, K' = k2 + 1 := ⟨K' - 1, by omega⟩
            have HX2 := hid (HX.out.trans (altsR_go p k2 _ j gj d hjl hq))
            have RC := hid (fun w' h' => drow_c B w' r a c p k2 (j + 1) gj d h' (by omega) hT hd hgj (by omega) (fun k' hk' => HI.out k' (by omega)))
            have W1 : IntKind.i64.wrap ((j : Int) + 1) = ((j + 1 : Nat) : Int) := by rw [IntKind.wrap_i64]; omega
            clear hq HX
            go_wp2_with fail; refine (dok_yes B _ r a c p j gj d 0 HR.out).mono ?_; rintro _ w1 ⟨rfl, h1, k1⟩; have H1 := hid h1; have K1 := hid k1; clear h1 k1
            go_wp2_with fail; refine (dnext_q 124 B _ r a c p j gj d 0 0 HQ.out H1.out).mono ?_; rintro _ w2 ⟨rfl, h2, k2⟩; have H2 := hid h2; have K2 := hid k2; clear h2 k2
            have h2 := H2.out
            have K12 := hid ((K1.out.tr K2.out).set (o := 1) (.int .i64 ((j + 1 : Nat) : Int)))
            (have c0 := h2.c0; have c1 := h2.c1; have c2 := h2.c2; have c3 := h2.c3; have c4 := h2.c4; have c5 := h2.c5; have f1 := h2.fz 1; have f2 := h2.fz 2; have f3 := h2.fz 3; have f4 := h2.fz 4; have f5 := h2.fz 5; have rl := h2.lt; have Hh2 := hid h2; clear h2)
            have RC1 := hid (RC.out _ (Hh2.out.set1 (j + 1)))
            clear RC Hh2
            go_wp2_with fail
            clear rl c0 c1 c2 c3 c4 c5 f1 f2 f3 f4 f5
            refine RC1.out.mono ?_
            rintro e5 w5 hx
            clear RC1
            cases hA : rowR (rowP CC p.length k2 [] (p.drop (j + 1)) gj d) with
            | bad e f =>
              rw [hA] at hx
              obtain ⟨a5, c5, L5, j5, y5, rfl, o5, s5, he, hj5, h5, k5⟩ := hx
              have HX3 := hid (show X = .bad e f by rw [HX2.out, hA])
              have H5 := hid h5
              have K5 := hid k5
              have S5 := hid s5
              have z4 := K12.out.size
              have z5 := k5.size
              have hls := Hs.out.len
              have LC := hid (lower_d w.heap.size aM a5 cM c5 M L5 w5 ((HO.out.kr K12.out (by omega)).kr k5 (by omega)) o5.sl (fun ad had hb => by
                have h1 := (HO.out.lt hb).2
                have h2 := (o5.lt ⟨ad, had, rfl⟩).1
                omega) (by omega) (S5.out.mono (by omega) (by omega)) (by omega))
              clear o5 s5 h5 k5 hA
              go_wp2_with (go_at_call 49; refine LC.out.mono ?_)
              rintro _ w6 ⟨a6, c6, L6, rfl, hL6, o6, k6, -⟩
              have H6 := hid o6
              have R6 := hid (row_add (gj := y5) hB HK.out K12.out K5.out k6 HO.out H5.out)
              have hL6' := hid hL6.out
              clear o6 k6 LC hL6
              go_wp2_with fail
              go_roundg 0
              case measure => omega
              case rel => exact .inr ⟨L6, a6, c6, e, f, j5, y5, rfl, rfl, HX3, he, H6, hid (by rw [hL6'.out]; exact (Hs.out.app (S5.out.low.mono (Nat.le_refl _) (by omega))).mono (by omega) (Nat.le_refl _)), hj5, hid R6.out.1, hid R6.out.2⟩
            | ok l s1 g1 =>
              rw [hA] at hx
              obtain ⟨a5, c5, L5, j5, rfl, hr5, o5, t5, hij5, hj5, s5, rfl, hg5, h5, k5⟩ := hx
              have HX3 := hid (show X = altsR p.length k2 (rns M ++ lower l) (p.drop j5) g1 d by rw [HX2.out, hA])
              have H5 := hid h5
              have K5 := hid k5
              have S5 := hid s5
              have T5 := hid t5
              have z4 := K12.out.size
              have z5 := k5.size
              have hls := Hs.out.len
              have OM := hid ((HO.out.kr K12.out (by omega)).kr k5 (by omega))
              have SM := hid ((HS.out.kr K12.out (by omega)).kr k5 (by omega))
              have hlm := hid (HS.out.lt)
              have hr6 := hid hr5
              have LC := hid (lower_d w.heap.size aM a5 cM c5 M L5 w5 OM.out o5.sl (fun ad had hb => by
                have h1 := (HO.out.lt hb).2
                have h2 := (o5.lt ⟨ad, had, rfl⟩).1
                omega) (by omega) (S5.out.mono (by omega) (by omega)) (by omega))
              clear o5 s5 h5 k5 t5 hA hr5
              go_wp2_with (go_at_call 49; refine LC.out.mono ?_)
              rintro _ w6 ⟨a6, c6, L6, rfl, hL6, o6, k6, -⟩
              have H6 := hid o6
              have R6 := hid (row_add (gj := g1) hB HK.out K12.out K5.out k6 HO.out H5.out)
              have hL6' := hid hL6.out
              have S6 : Hid (Sets w.heap.size w6 L6) := by
                rw [Hid, hL6.out]
                exact (SM.out.list OM.out k6).app ((T5.out.list OM.out k6).low) (by omega) (fun m hm q hq => Nat.lt_of_lt_of_le (hlm.out m hm q hq) z4)
              clear o6 k6 LC hL6
              go_wp2_with fail
              go_roundg (p.length - j5 + 1)
              case measure => omega
              case rel =>
                refine .inl ⟨k2, j5, g1, L6, a6, c6, rfl, rfl, by omega, hj5, hg5, by omega, by omega, ?_, H6, S6, hid ?_, hid R6.out.1, hid R6.out.2⟩
                · rw [hL6'.out, rns_app, rns_low, hr6.out]; exact HX3
                · rw [hL6'.out]; exact (Hs.out.app (S5.out.low.mono (Nat.le_refl _) (by omega))).mono (by omega) (Nat.le_refl _)
          · have HX2 := hid (HX.out.trans (altsR_stop p K' _ j gj d (by rw [hq]; exact h124)))
            have b1 : (q == 124) = false := by simpa using h124
            clear hq HX HI h124
            go_wp2_with fail; refine (dok_yes B _ r a c p j gj d 0 HR.out).mono ?_; rintro _ w1 ⟨rfl, h1, k1⟩; have H1 := hid h1; have K1 := hid k1; clear h1 k1
            go_wp2_with fail; refine (dnext_q q B _ r a c p j gj d 0 0 HQ.out H1.out).mono ?_; rintro _ w2 ⟨rfl, h2, k2⟩; have H2 := hid h2; have K2 := hid k2; clear h2 k2
            go_wp2_with fail
            go_ret
            rw [HX2.out]
            exact ⟨aM, cM, M, j, rfl, rfl, (HO.out.kr K1.out hrw).kr K2.out hrw, (HS.out.kr K1.out hrw).kr K2.out hrw, hij, hj, Hs.out.mono (by omega) (by omega), rfl, hgj, H2.out, (HK.out.tr K1.out).tr K2.out⟩
        · have He := hid he
          clear HI he
          go_wp2_with fail; refine (dok_no B _ r a c p j y d e f He.out HR.out).mono ?_; rintro _ w1 ⟨rfl, h1, k1⟩; have H1 := hid h1; have K1 := hid k1; clear h1 k1
          go_wp2_with fail
          go_ret
          rw [HX.out]
          exact ⟨aM, cM, M, j, y, rfl, HO.out.kr K1.out hrw, Hs.out.mono (by omega) (by omega), He.out, hjd, H1.out, HK.out.tr K1.out⟩
    · have HX2 := hid (show X = .ok (rns M2) (p.drop j) g1 by
        rw [HX.out, hR, hs1, ← hrn]
        dsimp only
        split
        · rename_i hh
          rcases Nat.lt_or_ge j p.length with h | h
          · rw [drop_nx h] at hh; exact absurd (hq.symm.trans (List.cons.inj hh).1) h124
          · rw [drop_end h] at hh; cases hh
        · rfl)
      have b1 : (q != 124) = true := by simpa using h124
      clear ho2 hs2 hS2 h4 k4 hR HX h124 hrn hs1 HI hq
      go_wp2_with fail; refine (dnext_q q B _ r a c p j g1 d 0 0 HQ.out HH4.out).mono ?_; rintro _ w2 ⟨rfl, h2, k2⟩; have H2 := hid h2; have K2 := hid k2; clear h2 k2
      go_wp2_with fail
      go_ret
      rw [HX2.out]
      exact ⟨a2, d2, M2, j, rfl, rfl, O1.out.kr K2.out hrw, S1.out.kr K2.out hrw, hij, hjn, Q1.out.mono (by omega) (by omega), rfl, hg1, H2.out, K1.out.tr K2.out⟩
theorem dpat_all (B r : Nat) (a : Option Addr) (c : Nat) (p : List Int) (hT : Txt1 p) (K : Nat) : PatD B r a c p K := by
  induction K using Nat.strongRecOn with
  | _ K ih => exact dpat_step B r a c p hT K ih
end Go.Proofs.Ytniilphbbcbpcaa
