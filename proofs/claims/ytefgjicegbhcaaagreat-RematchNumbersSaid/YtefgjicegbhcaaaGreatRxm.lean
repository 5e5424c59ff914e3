/- The code's reader: patterns, by rounds (pat_all). -/
import Derived.Test.YtefgjicegbhcaaaGreatRxl
import Derived.Test.YtefgjicegbhcaaaGreatReV
namespace Go.Proofs.YtefgjicegbhcaaaGreat
open Go.RowKit ReM

/-- what is told at a place behind a row -/
def altsR (n K : Nat) (acc : List Rn) (s : List Int) (g d : Nat) : Rg := match s with
  | 124 :: s2 => altsP CC n K acc s2 g d
  | _ => .ok acc s g
theorem altsR_stop (p : List Int) (K : Nat) (acc : List Rn) (j g d : Nat) (h : nx p j ≠ 124) : altsR p.length K acc (p.drop j) g d = .ok acc (p.drop j) g := by
  unfold altsR
  rcases Nat.lt_or_ge j p.length with hj | hj
  · rw [drop_nx hj]
    split
    · rename_i hh; exact absurd (List.cons.inj hh).1 h
    · rfl
  · rw [drop_end hj]
theorem altsR_go (p : List Int) (k : Nat) (acc : List Rn) (j g d : Nat) (hj : j < p.length) (h : nx p j = 124) : altsR p.length (k + 1) acc (p.drop j) g d = (match rowR (rowP CC p.length k [] (p.drop (j + 1)) g d) with
    | .bad c i => .bad c i
    | .ok l s1 g1 => altsR p.length k (acc ++ lower l) s1 g1 d) := by
  unfold altsR
  rw [drop_nx hj, h]
  show altsP CC p.length (k + 1) acc (p.drop (j + 1)) g d = _
  rw [alts_def]
  unfold rowR
  cases rowP CC p.length k [] (p.drop (j + 1)) g d with
  | bad c i => rfl
  | ok l s g1 => rfl
theorem alt_is (p : List Int) (k i g d : Nat) : altP CC p.length (k + 1) (p.drop i) g d = (match rowR (rowP CC p.length k [] (p.drop i) g d) with
    | .bad c i => .bad c i
    | .ok l s1 g1 => match s1 with
      | 124 :: s2 => altsP CC p.length k (nAlt :: lower l) s2 g1 d
      | _ => .ok l s1 g1) := by
  rw [alt_def]
  unfold rowR
  cases rowP CC p.length k [] (p.drop i) g d with
  | bad c i => rfl
  | ok l s g1 => rfl
def PatIn (X : Rg) (B : Nat) (w : World) (r : Nat) (a : Option Addr) (c : Nat) (p : List Int) (K i d : Nat) (gk : Nat) (v : Value) (wr : World) : Prop :=
  (∃ K' j gj M aM cM, gk = p.length - j + 1 ∧ v = .slice aM M.length cM ∧ i ≤ j ∧ j ≤ p.length ∧ gj ≤ 9 ∧ 4 * (p.length - j) + 1 ≤ K' ∧ K' < K ∧ X = altsR p.length K' (nAlt :: lower (rns M)) (p.drop j) gj d ∧
    RO wr w.heap.size aM cM M ∧ Sets w.heap.size wr M ∧ Sml (4 * (j - i) + 1) (4 * (p.length - i) + 1) M ∧ Rdr B wr r a c p j d gj 0 0 ∧ KR r w wr) ∨
  (∃ M aM cM e f y, v = .slice aM M.length cM ∧ X = .bad e f ∧ e ≠ 0 ∧ RO wr w.heap.size aM cM M ∧ Sml (4 * (p.length - i) + 1) (4 * (p.length - i) + 1) M ∧ Rdr B wr r a c p p.length d y e f ∧ KR r w wr)
set_option maxHeartbeats 16000000 in
theorem pat_step (B r : Nat) (a : Option Addr) (c : Nat) (p : List Int) (hT : Txt1 p) (K : Nat) (IH : ∀ k, k < K → PatC B r a c p k) : PatC B r a c p K := by
  intro w i g d h hi hd hg hK
  have hl := hT.1
  have hB := h.Bw
  have hrw : r < w.heap.size := h.lt
  obtain ⟨k, rfl⟩ : ∃ k, K = k + 1 := ⟨K - 1, by omega⟩
  obtain ⟨X, hX⟩ : ∃ X, X = altP CC p.length (k + 1) (p.drop i) g d := ⟨_, rfl⟩
  rw [← hX]
  have HX := hid (hX.trans (alt_is p k i g d))
  have RC := hid (row_c B w r a c p k i g d h hi hT hd hg (by omega) (fun k' hk' => IH k' (by omega)))
  have HI := hid IH
  clear hX IH h
  go_enter Tryz.func71, Tryz.ntmps71
  go_wp2_with fail
  refine RC.out.mono ?_
  rintro e1 w1 hx
  clear RC
  cases hR : rowR (rowP CC p.length k [] (p.drop i) g d) with
  | bad e f =>
    rw [hR] at hx
    obtain ⟨a2, d2, M2, y, rfl, ho2, hs2, he, h4, k4⟩ := hx
    have HX2 := hid (show X = .bad e f by rw [HX.out, hR])
    have C := hid (next_o B w1 r a c p p.length d y e f h4 (Nat.le_refl _))
    rw [nx_end (Nat.le_refl _)] at C
    have O1 := hid ho2
    have Q1 := hid hs2
    have K1 := hid k4
    have He := hid he
    clear ho2 hs2 h4 k4 he hR HI HX
    go_wp2_with fail
    refine C.out.mono ?_
    rintro _ w2 ⟨rfl, h2, k2⟩
    have H2 := hid h2
    have K2 := hid (K1.out.tr k2)
    have O2 := hid (O1.out.kr k2 hrw)
    clear h2 k2 C O1
    go_wp2_with fail
    go_ret
    rw [HX2.out]
    exact ⟨a2, d2, M2, y, rfl, O2.out, Q1.out.mono (by omega) (by omega), He.out, H2.out, K2.out⟩
  | ok l s1 g1 =>
    rw [hR] at hx
    obtain ⟨a2, d2, M2, j, rfl, hrn, ho2, hS2, hij, hjn, hs2, hs1, hg1, h4, k4⟩ := hx
    have C := hid (next_o B w1 r a c p j d g1 0 0 h4 hjn)
    have O1 := hid ho2
    have S1 := hid hS2
    have Q1 := hid hs2
    have K1 := hid k4
    by_cases h124 : nx p j = 124
    · have HX2 := hid (show X = altsR p.length k (nAlt :: lower (rns M2)) (p.drop j) g1 d by
        rw [HX.out, hR, hs1, ← hrn]
        unfold altsR
        rw [drop_nx (nx_is h124 (by decide)), h124]
        rfl)
      rw [h124] at C
      clear ho2 hs2 hS2 h4 k4 hR HX h124 hrn hs1
      go_wp2_with fail
      refine C.out.mono ?_
      rintro _ w2 ⟨rfl, h2, k2⟩
      have P0 := hid (show PatIn X B w r a c p (k + 1) i d (p.length - j + 1) (.slice a2 M2.length d2) w2 from
        .inl ⟨k, j, g1, M2, a2, d2, rfl, rfl, hij, hjn, hg1, by omega, by omega, HX2.out, O1.out.kr k2 hrw, S1.out.kr k2 hrw, Q1.out.mono (by omega) (by omega), h2, K1.out.tr k2⟩)
      clear h2 k2 C O1 S1 Q1 K1 HX2
      go_wp2_with fail
      go_loopg [3] (p.length - j + 1) (fun gk v wr => PatIn X B w r a c p (k + 1) i d gk v wr)
      case atStart => exact P0.out
      case round =>
        clear P0
        rcases hrel with ⟨K', j, gj, M, aM, cM, rfl, rfl, hij, hj, hgj, hK1, hK2, hX, ho, hS, hs, hr, hk⟩ | ⟨M, aM, cM, e, f, y, rfl, hX, he, ho, hs, hr, hk⟩
        · by_cases h124 : nx p j = 124
          · have hjl := nx_is h124 (by decide)
            obtain ⟨k2, rfl⟩ : ∃ k2, K' = k2 + 1 := ⟨K' - 1, by omega⟩
            have HX := hid (hX.trans (altsR_go p k2 _ j gj d hjl h124))
            have Tk := hid (takes_yes 124 B wr r a c p j d gj 0 0 hr hjl hl h124)
            have RC := hid (fun w' h' => row_c B w' r a c p k2 (j + 1) gj d h' (by omega) hT hd hgj (by omega) (fun k' hk' => HI.out k' (by omega)))
            have Ho := hid ho
            have HS := hid hS
            have Hs := hid hs
            have Hk := hid hk
            clear ho hS hs hk hX hr h124
            go_wp2_with fail
            refine Tk.out.mono ?_
            rintro _ w1 ⟨rfl, h1, k1⟩
            have K1 := hid (Hk.out.tr k1)
            have O1 := hid (Ho.out.kr k1 hrw)
            have S1 := hid (HS.out.kr k1 hrw)
            have RC1 := hid (RC.out w1 h1)
            clear h1 k1 Tk RC
            go_wp2_with fail
            refine RC1.out.mono ?_
            rintro e2 w2 hx
            clear RC1
            cases hR : rowR (rowP CC p.length k2 [] (p.drop (j + 1)) gj d) with
            | bad e f =>
              rw [hR] at hx
              obtain ⟨a3, d3, M3, y, rfl, ho3, hs3, he, h3, k3⟩ := hx
              have HX2 := hid (show X = .bad e f by rw [HX.out, hR])
              have K3 := hid (K1.out.tr k3)
              have O3 := hid (O1.out.kr k3 hrw)
              have P3 := hid ho3.sl
              have Q3 := hid hs3
              have H3 := hid h3
              have He := hid he
              have zk1 := K1.out.size
              have zk3 := k3.size
              have hML := Hs.out.len
              have hML3 := Q3.out.len
              clear h3 k3 ho3 hs3 he hR O1 S1 HX
              go_wp2_with ((at_builtin; (refine wpL_rapp Tryz.tyRe rfl (.tmp 12) (.tmp 14) rfl w.heap.size aM a3 M.length M3.length cM d3 M M3 rfl (by first | rfl | simp | omega) O3.out rfl (by first | rfl | simp | omega) P3.out (by show M.length + M3.length ≤ 2199023255552; omega) (by omega) ?_); intro a5 c5 w5 L5 Hl5 ho5 hb5 hk5 hA5; have HA5 := hid hA5; clear hA5; have Ho5 := hid ho5; clear ho5; have Hk5 := hid hk5; clear hk5; have hz5 := hb5.size))
              go_roundg 0
              case measure => omega
              case rel => exact .inr ⟨L5, a5, c5, e, f, y, rfl, HX2.out, He.out, Ho5.out, by rw [Hl5.out]; exact (Sml.app (Hs.out.mono (Nat.le_refl _) (Nat.le_refl _)) (Q3.out.mono (Nat.le_refl _) (by omega))).mono (by omega) (Nat.le_refl _), H3.out.below hb5 hB, K3.out.bel hb5 (Nat.le_refl _)⟩
            | ok it s3 g3 =>
              rw [hR] at hx
              obtain ⟨a3, d3, M3, j3, rfl, hrn3, ho3, hS3, hij3, hjn3, hs3, hss3, hg39, h3, k3⟩ := hx
              have HX2 := hid (show X = altsR p.length k2 (nAlt :: lower (rns (M ++ M3))) (p.drop j3) g3 d by rw [HX.out, hR, hss3, ← hrn3, rns_app, lower_app]; rfl)
              have K3 := hid (K1.out.tr k3)
              have O3 := hid (O1.out.kr k3 hrw)
              have S3 := hid (S1.out.kr k3 hrw)
              have Slt := hid S1.out.lt
              have P3 := hid ho3.sl
              have T3 := hid hS3
              have Q3 := hid hs3
              have H3 := hid h3
              have zk1 := K1.out.size
              have zk3 := k3.size
              have hML := Hs.out.len
              have hML3 := Q3.out.len
              clear h3 k3 ho3 hs3 hS3 hR O1 S1 HX hrn3 hss3
              go_wp2_with ((at_builtin; (refine wpL_rapp Tryz.tyRe rfl (.tmp 12) (.tmp 14) rfl w.heap.size aM a3 M.length M3.length cM d3 M M3 rfl (by first | rfl | simp | omega) O3.out rfl (by first | rfl | simp | omega) P3.out (by show M.length + M3.length ≤ 2199023255552; omega) (by omega) ?_); intro a5 c5 w5 L5 Hl5 ho5 hb5 hk5 hA5; have HA5 := hid hA5; clear hA5; have Ho5 := hid ho5; clear ho5; have Hk5 := hid hk5; clear hk5; have hz5 := hb5.size))
              go_roundg (p.length - j3 + 1)
              case measure => omega
              case rel =>
                refine .inl ⟨k2, j3, g3, L5, a5, c5, rfl, rfl, by omega, hjn3, hg39, by omega, by omega, by rw [Hl5.out]; exact HX2.out, Ho5.out, ?_, ?_, H3.out.below hb5 hB, K3.out.bel hb5 (Nat.le_refl _)⟩
                · rw [Hl5.out]
                  exact (S3.out.list O3.out Hk5.out).app (T3.out.list O3.out Hk5.out) zk1 Slt.out
                · rw [Hl5.out]
                  exact (Sml.app (Hs.out.mono (Nat.le_refl _) (Nat.le_refl _)) (Q3.out.mono (Nat.le_refl _) (by omega))).mono (by omega) (Nat.le_refl _)
          · have HX := hid (hX.trans (altsR_stop p K' _ j gj d h124))
            have Tk := hid (takes_no 124 B wr r a c p j d gj 0 0 hr hj h124)
            have Ho := hid ho
            have HS := hid hS
            have Hs := hid hs
            have Hk := hid hk
            clear ho hS hs hk hX hr h124 HI
            go_wp2_with fail
            refine Tk.out.mono ?_
            rintro _ w1 ⟨rfl, h1, k1⟩
            have H1 := hid h1
            have K1 := hid (Hk.out.tr k1)
            have O1 := hid (Ho.out.kr k1 hrw)
            have S1 := hid (HS.out.kr k1 hrw)
            clear h1 k1 Tk
            go_wp2_with fail
            refine (holding_c w.heap.size ⟨1, 0, 0, 0, false, false, none, [], 0⟩ aM cM M w1 O1.out (Hs.out.mono (by omega) (by omega))).mono ?_
            rintro _ w2 ⟨a7, c7, L7, rfl, hL7, ho7, k7⟩
            have O7 := hid (ho7.base_le (base' := w.heap.size) K1.out.size)
            have K7 := hid (Kpt.step K1.out k7 (fun q hq => .inr (O1.out.lt hq).1))
            have R7 := hid (H1.out.kpt k7 (fun q hq => by have := (O1.out.lt hq).1; omega))
            have S7 := hid ((S1.out.list O1.out k7).low.cons0 (m := ⟨1, 0, 0, 0, false, false, none, [], 0⟩) rfl rfl rfl)
            clear ho7 k7
            go_wp2_with fail
            go_ret
            rw [HX.out]
            exact ⟨a7, c7, L7, j, rfl, by rw [hL7.out, rns_cons, rns_low]; rfl, O7.out, by rw [hL7.out]; exact S7.out, hij, hj, by rw [hL7.out]; exact (Hs.out.low.cons rfl).mono (by omega) (by omega), rfl, hgj, R7.out, K7.out⟩
        · have Tk := hid (takes_no 124 B wr r a c p p.length d y e f hr (Nat.le_refl _) (by rw [nx_end (Nat.le_refl _)]; decide))
          have Ho := hid ho
          have Hs := hid hs
          have Hk := hid hk
          have HX := hid hX
          have He := hid he
          clear ho hs hk hX hr he HI
          go_wp2_with fail
          refine Tk.out.mono ?_
          rintro _ w1 ⟨rfl, h1, k1⟩
          have H1 := hid h1
          have K1 := hid (Hk.out.tr k1)
          have O1 := hid (Ho.out.kr k1 hrw)
          clear h1 k1 Tk
          go_wp2_with fail
          refine (holding_c w.heap.size ⟨1, 0, 0, 0, false, false, none, [], 0⟩ aM cM M w1 O1.out (Hs.out.mono (by omega) (by omega))).mono ?_
          rintro _ w2 ⟨a7, c7, L7, rfl, hL7, ho7, k7⟩
          have O7 := hid (ho7.base_le (base' := w.heap.size) K1.out.size)
          have K7 := hid (Kpt.step K1.out k7 (fun q hq => .inr (O1.out.lt hq).1))
          have R7 := hid (H1.out.kpt k7 (fun q hq => by have := (O1.out.lt hq).1; omega))
          clear ho7 k7
          go_wp2_with fail
          go_ret
          rw [HX.out]
          exact ⟨a7, c7, L7, y, rfl, O7.out, by rw [hL7.out]; exact (Hs.out.low.cons rfl).mono (by omega) (by omega), He.out, R7.out, K7.out⟩
    · have HX2 := hid (show X = .ok (rns M2) (p.drop j) g1 by
        rw [HX.out, hR, hs1, ← hrn]
        dsimp only
        split
        · rename_i hh
          rcases Nat.lt_or_ge j p.length with h | h
          · rw [drop_nx h] at hh; exact absurd (List.cons.inj hh).1 h124
          · rw [drop_end h] at hh; cases hh
        · rfl)
      have b1 : (nx p j != 124) = true := by simpa using h124
      generalize nx p j = q at *
      clear ho2 hs2 hS2 h4 k4 hR HX h124 hrn hs1 HI
      go_wp2_with fail
      refine C.out.mono ?_
      rintro _ w2 ⟨rfl, h2, k2⟩
      have H2 := hid h2
      have K2 := hid (K1.out.tr k2)
      have O2 := hid (O1.out.kr k2 hrw)
      have S2 := hid (S1.out.kr k2 hrw)
      clear h2 k2 C O1 S1
      go_wp2_with fail
      go_ret
      rw [HX2.out]
      exact ⟨a2, d2, M2, j, rfl, rfl, O2.out, S2.out, hij, hjn, Q1.out.mono (by omega) (by omega), rfl, hg1, H2.out, K2.out⟩
theorem pat_all (B r : Nat) (a : Option Addr) (c : Nat) (p : List Int) (hT : Txt1 p) (K : Nat) : PatC B r a c p K := by
  induction K using Nat.strongRecOn with
  | _ K ih => exact pat_step B r a c p hT K ih
end Go.Proofs.YtefgjicegbhcaaaGreat
