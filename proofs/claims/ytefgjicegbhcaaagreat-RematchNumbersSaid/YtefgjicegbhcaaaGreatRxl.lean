/- The code's reader: a row, by what patterns of fewer rounds do. -/
import Derived.Test.YtefgjicegbhcaaaGreatRxk
namespace Go.Proofs.YtefgjicegbhcaaaGreat
open Go.RowKit ReM

def rowR (x : Rg) : Rg := match x with | .bad c f => .bad c f | .ok l s g => .ok (nRow :: l) s g
theorem row_def (n k : Nat) (acc : List Rn) (s : List Int) (g d : Nat) : rowP CC n (k + 1) acc s g d = (match s with
    | [] => .ok acc s g
    | r :: _ => if r = 124 ∨ r = 41 then .ok acc s g else match itemP CC n k s g d with
      | .bad c i => .bad c i
      | .ok it s1 g1 => rowP CC n k (acc ++ lower it) s1 g1 d) := by
  cases s with
  | nil => simp only [rowP]
  | cons q t =>
    simp only [rowP]
    split
    · rfl
    · cases itemP CC n k (q :: t) g d <;> rfl
theorem row_stop (p : List Int) (k : Nat) (acc : List Rn) (j g d : Nat) (h : nx p j = 124 ∨ nx p j = 41 ∨ p.length ≤ j) : rowP CC p.length (k + 1) acc (p.drop j) g d = .ok acc (p.drop j) g := by
  rw [row_def]
  rcases Nat.lt_or_ge j p.length with hj | hj
  · rw [drop_nx hj]
    dsimp only
    rw [if_pos (by omega)]
  · rw [drop_end hj]
theorem row_item (p : List Int) (k : Nat) (acc : List Rn) (j g d : Nat) (hj : j < p.length) (h1 : nx p j ≠ 124) (h2 : nx p j ≠ 41) : rowP CC p.length (k + 1) acc (p.drop j) g d = (match itemP CC p.length k (p.drop j) g d with
    | .bad c i => .bad c i
    | .ok it s1 g1 => rowP CC p.length k (acc ++ lower it) s1 g1 d) := by
  rw [row_def, drop_nx hj]
  dsimp only
  rw [if_neg (by omega)]
/-- what holds among a row's items -/
def RowIn (X : Rg) (B : Nat) (w : World) (r : Nat) (a : Option Addr) (c : Nat) (p : List Int) (K i d : Nat) (gk : Nat) (v : Value) (wr : World) : Prop :=
  (∃ K' j gj M aM cM, gk = p.length - j + 1 ∧ v = .slice aM M.length cM ∧ i ≤ j ∧ j ≤ p.length ∧ gj ≤ 9 ∧ 4 * (p.length - j) + 1 ≤ K' ∧ K' ≤ K ∧ X = rowP CC p.length K' (lower (rns M)) (p.drop j) gj d ∧
    RO wr w.heap.size aM cM M ∧ Sets w.heap.size wr M ∧ Sml (4 * (j - i)) (4 * (p.length - i)) M ∧ Rdr B wr r a c p j d gj 0 0 ∧ KR r w wr) ∨
  (∃ M aM cM e f y, v = .slice aM M.length cM ∧ X = .bad e f ∧ e ≠ 0 ∧ RO wr w.heap.size aM cM M ∧ Sml (4 * (p.length - i)) (4 * (p.length - i)) M ∧ Rdr B wr r a c p p.length d y e f ∧ KR r w wr)
theorem lower_app (a b : List Rn) : lower (a ++ b) = lower a ++ lower b := by simp [lower]
/-- a plain node appended -/
theorem row_more {X : Rg} {B : Nat} {w : World} {r : Nat} {a : Option Addr} {c : Nat} {p : List Int} {K i d K' j gj : Nat} {M : List Rm} {aM : Option Addr} {cM : Nat} {wr w5 : World} {m : Rm} {a5 : Option Addr} {c5 : Nat} {L5 : List Rm}
    (hij : i ≤ j) (hj : j < p.length) (hg : gj ≤ 9) (hK : 4 * (p.length - j) + 1 ≤ K') (hKK : K' ≤ K) (ho : RO wr w.heap.size aM cM M) (hS : Sets w.heap.size wr M) (hs : Sml (4 * (j - i)) (4 * (p.length - i)) M)
    (hm : m.deep = 0 ∧ m.sa = none ∧ m.sc = 0 ∧ m.set = []) (hX : X = rowP CC p.length (K' - 1) (lower (rns (M ++ [m]))) (p.drop (j + 1)) gj d)
    (h5 : L5 = M ++ [m]) (ho5 : RO w5 w.heap.size a5 c5 L5) (k5 : Kpt (Blk aM) wr w5) (hr : Rdr B w5 r a c p (j + 1) d gj 0 0) (hk : KR r w w5) : RowIn X B w r a c p K i d (p.length - (j + 1) + 1) (.slice a5 L5.length c5) w5 := by
  subst h5
  refine .inl ⟨K' - 1, j + 1, gj, _, a5, c5, rfl, rfl, by omega, by omega, hg, by omega, by omega, hX, ho5, ?_, ?_, hr, hk⟩
  · have h1 := hS.list ho k5
    have h2 := (Sets.nil w5.heap.size w5).cons0 hm.2.1 hm.2.2.1 hm.2.2.2
    exact h1.app h2 hk.size h1.lt
  · exact ((hs.mono (Nat.le_refl _) (Nat.le_refl _)).app (Sml.one _ hm.1)).mono (by omega) (Nat.le_refl _)
set_option maxHeartbeats 16000000 in
theorem row_c (B : Nat) (w : World) (r : Nat) (a : Option Addr) (c : Nat) (p : List Int) (K i g d : Nat) (h : Rdr B w r a c p i d g 0 0) (hi : i ≤ p.length) (hT : Txt1 p) (hd : d ≤ 12) (hg : g ≤ 9) (hK : 4 * (p.length - i) + 1 ≤ K)
    (IH : ∀ k, k < K → PatC B r a c p k) :
    Calls Tryz.prog 98 #[.pointer (some ⟨r, 0, none⟩)] w (OutP (rowR (rowP CC p.length K [] (p.drop i) g d)) B w.heap.size w r a c p i d 3 3 (fun k => k = r)) := by
  have hl := hT.1
  have hB := h.Bw
  have hrw : r < w.heap.size := h.lt
  obtain ⟨X, hX⟩ : ∃ X, X = rowP CC p.length K [] (p.drop i) g d := ⟨_, rfl⟩
  rw [← hX]
  have HI := hid IH
  have R0 := hid (show RowIn X B w r a c p K i d (p.length - i + 1) (.slice none 0 0) w from .inl ⟨K, i, g, [], none, 0, rfl, rfl, Nat.le_refl _, hi, hg, hK, Nat.le_refl _, hX, ROwn.nil _ _, Sets.nil _ _, Sml.nil _ _, h, KR.refl _ _⟩)
  clear IH hX h
  go_enter Tryz.func98, Tryz.ntmps98
  go_wp2_with fail
  go_loopg [3] (p.length - i + 1) (fun gk v wr => RowIn X B w r a c p K i d gk v wr)
  case atStart => exact R0.out
  case round =>
    rcases hrel with ⟨K', j, gj, M, aM, cM, rfl, rfl, hij, hj, hgj, hK1, hK2, hX, ho, hS, hs, hr, hk⟩ | ⟨M, aM, cM, e, f, y, rfl, hX, he, ho, hs, hr, hk⟩
    · obtain ⟨k2, rfl⟩ : ∃ k2, K' = k2 + 1 := ⟨K' - 1, by omega⟩
      by_cases hstop : nx p j = 124 ∨ nx p j = 41 ∨ p.length ≤ j
      · have HX := hid (hX.trans (row_stop p k2 _ j gj d hstop))
        have C := hid (next_o B wr r a c p j d gj 0 0 hr hj)
        have hq : nx p j = 124 ∨ nx p j = 41 ∨ nx p j = -1 := by
          rcases hstop with h | h | h
          · exact .inl h
          · exact .inr (.inl h)
          · exact .inr (.inr (nx_end h))
        have Ho := hid ho
        have Hs := hid hs
        have HS := hid hS
        have Hk := hid hk
        clear ho hs hS hk hX hr R0 HI hstop
        rcases hq with hq | hq | hq
        all_goals
          rw [hq] at C
          go_wp2_with fail
          refine C.out.mono ?_
          rintro _ w1 ⟨rfl, h1, k1⟩
          have H1 := hid h1
          have K1 := hid (Hk.out.tr k1)
          have O1 := hid (Ho.out.kr k1 hrw)
          have S1 := hid (HS.out.kr k1 hrw)
          clear h1 k1 C hq
          go_wp2_with fail
          refine (holding_c w.heap.size ⟨0, 0, 0, 0, false, false, none, [], 0⟩ aM cM M w1 O1.out (Hs.out.mono (by omega) (by omega))).mono ?_
          rintro _ w2 ⟨a7, c7, L7, rfl, hL7, ho7, k7⟩
          have O7 := hid (ho7.base_le (base' := w.heap.size) K1.out.size)
          have K7 := hid (Kpt.step K1.out k7 (fun q hq => .inr (O1.out.lt hq).1))
          have R7 := hid (H1.out.kpt k7 (fun q hq => by have := (O1.out.lt hq).1; omega))
          have S7 := hid ((S1.out.list O1.out k7).low.cons0 (m := ⟨0, 0, 0, 0, false, false, none, [], 0⟩) rfl rfl rfl)
          clear ho7 k7
          go_wp2_with fail
          go_ret
          rw [HX.out]
          exact ⟨a7, c7, L7, j, rfl, by rw [hL7.out, rns_cons, rns_low]; rfl, O7.out, by rw [hL7.out]; exact S7.out, hij, hj, by rw [hL7.out]; exact (Hs.out.low.cons rfl).mono (by omega) (by omega), rfl, hgj, R7.out, K7.out⟩
      · have hjl : j < p.length := by omega
        have hX2 := hX.trans (row_item p k2 (lower (rns M)) j gj d hjl (by omega) (by omega))
        obtain ⟨k3', rfl⟩ : ∃ k3, k2 = k3 + 2 := ⟨k2 - 2, by omega⟩
        have b1 : (nx p j == 124) = false := by simp; omega
        have b2 : (nx p j == 41) = false := by simp; omega
        have hge := hT.nxp hjl
        have b3 : (nx p j == -1) = false := by simp; omega
        have C := hid (next_o B wr r a c p j d gj 0 0 hr hj)
        have Ho := hid ho
        have Hs := hid hs
        have HS := hid hS
        have Hk := hid hk
        by_cases h94 : nx p j = 94
        · have HX := hid (show X = rowP CC p.length (k3' + 2) (lower (rns (M ++ [⟨3, 0, 0, 0, false, false, none, [], 0⟩]))) (p.drop (j + 1)) gj d by
            rw [hX2, drop_nx hjl, item_def, if_pos h94, rns_app, lower_app]; rfl)
          rw [h94] at C
          clear ho hs hS hk hX hX2 hr R0 HI hstop h94 b1 b2 b3 hge
          go_wp2_with fail
          refine C.out.mono ?_
          rintro _ w1 ⟨rfl, h1, k1⟩
          have K1 := hid (Hk.out.tr k1)
          have O1 := hid (Ho.out.kr k1 hrw)
          have S1 := hid (HS.out.kr k1 hrw)
          clear k1 C
          (have c0 := h1.c0; have c1 := h1.c1; have c2 := h1.c2; have c3 := h1.c3; have c4 := h1.c4; have c5 := h1.c5; have f1 := h1.fz 1; have f2 := h1.fz 2; have f3 := h1.fz 3; have f4 := h1.fz 4; have f5 := h1.fz 5; have rl := h1.lt; have Hh1 := hid h1; clear h1)
          have hz1 := K1.out.size
          have k2' : KR r w1 (w1.setCell ⟨r, 1, none⟩ (.int .i64 ((j : Int) + 1))) := (KR.refl r w1).set _
          have O2 := hid ((O1.out.kr k2' hrw).grow ((Below.refl _ _).alloc (Nat.le_refl _) (.cells #[.int .i64 3, .int .i64 0, .int .i64 0, .int .i64 0, .bool false, .bool false, .slice none 0 0] 128)))
          have S2 := hid ((S1.out.kr k2' hrw).bel ((Below.refl _ _).alloc (Nat.le_refl _) (.cells #[.int .i64 3, .int .i64 0, .int .i64 0, .int .i64 0, .bool false, .bool false, .slice none 0 0] 128)))
          have hML := Hs.out.len
          clear k2'
          go_wp2_with ((at_builtin; (refine wpL_rapp Tryz.tyRe rfl (.tmp 28) (.tmp 30) rfl w.heap.size aM (some ⟨w1.heap.size, 0, none⟩) M.length 1 cM 1 M [⟨3, 0, 0, 0, false, false, none, [], 0⟩] rfl (by first | rfl | simp | omega) O2.out rfl (by first | rfl | simp | omega) (RSl.lit _ _ _ _ (by simp) _ rfl (by decide)) (by show M.length + 1 ≤ 2199023255552; omega) (by simp; omega) ?_); intro a5 c5 w5 L5 Hl5 ho5 hb5 hk5 hA5; have HA5 := hid hA5; clear hA5; have Ho5 := hid ho5; clear ho5; have Hk5 := hid hk5; clear hk5; have hz5 := hb5.size))
          go_roundg (p.length - (j + 1) + 1)
          case measure => omega
          case rel => exact row_more hij hjl hgj hK1 hK2 O2.out S2.out Hs.out ⟨rfl, rfl, rfl, rfl⟩ HX.out Hl5.out Ho5.out Hk5.out (((Hh1.out.set1 (j + 1)).alloc _).below hb5 hB) (((K1.out.set _).alloc _).bel hb5 (Nat.le_refl _))
        · have b4 : (nx p j == 94) = false := by simpa using h94
          by_cases h36 : nx p j = 36
          · have HX := hid (show X = rowP CC p.length (k3' + 2) (lower (rns (M ++ [⟨4, 0, 0, 0, false, false, none, [], 0⟩]))) (p.drop (j + 1)) gj d by
              rw [hX2, drop_nx hjl, item_def, if_neg h94, if_pos h36, rns_app, lower_app]; rfl)
            rw [h36] at C
            clear ho hs hS hk hX hX2 hr R0 HI hstop h36 b1 b2 b3 hge h94 b4
            go_wp2_with fail
            refine C.out.mono ?_
            rintro _ w1 ⟨rfl, h1, k1⟩
            have K1 := hid (Hk.out.tr k1)
            have O1 := hid (Ho.out.kr k1 hrw)
            have S1 := hid (HS.out.kr k1 hrw)
            clear k1 C
            (have c0 := h1.c0; have c1 := h1.c1; have c2 := h1.c2; have c3 := h1.c3; have c4 := h1.c4; have c5 := h1.c5; have f1 := h1.fz 1; have f2 := h1.fz 2; have f3 := h1.fz 3; have f4 := h1.fz 4; have f5 := h1.fz 5; have rl := h1.lt; have Hh1 := hid h1; clear h1)
            have hz1 := K1.out.size
            have k2' : KR r w1 (w1.setCell ⟨r, 1, none⟩ (.int .i64 ((j : Int) + 1))) := (KR.refl r w1).set _
            have O2 := hid ((O1.out.kr k2' hrw).grow ((Below.refl _ _).alloc (Nat.le_refl _) (.cells #[.int .i64 4, .int .i64 0, .int .i64 0, .int .i64 0, .bool false, .bool false, .slice none 0 0] 128)))
            have S2 := hid ((S1.out.kr k2' hrw).bel ((Below.refl _ _).alloc (Nat.le_refl _) (.cells #[.int .i64 4, .int .i64 0, .int .i64 0, .int .i64 0, .bool false, .bool false, .slice none 0 0] 128)))
            have hML := Hs.out.len
            clear k2'
            go_wp2_with ((at_builtin; (refine wpL_rapp Tryz.tyRe rfl (.tmp 41) (.tmp 43) rfl w.heap.size aM (some ⟨w1.heap.size, 0, none⟩) M.length 1 cM 1 M [⟨4, 0, 0, 0, false, false, none, [], 0⟩] rfl (by first | rfl | simp | omega) O2.out rfl (by first | rfl | simp | omega) (RSl.lit _ _ _ _ (by simp) _ rfl (by decide)) (by show M.length + 1 ≤ 2199023255552; omega) (by simp; omega) ?_); intro a5 c5 w5 L5 Hl5 ho5 hb5 hk5 hA5; have HA5 := hid hA5; clear hA5; have Ho5 := hid ho5; clear ho5; have Hk5 := hid hk5; clear hk5; have hz5 := hb5.size))
            go_roundg (p.length - (j + 1) + 1)
            case measure => omega
            case rel => exact row_more hij hjl hgj hK1 hK2 O2.out S2.out Hs.out ⟨rfl, rfl, rfl, rfl⟩ HX.out Hl5.out Ho5.out Hk5.out (((Hh1.out.set1 (j + 1)).alloc _).below hb5 hB) (((K1.out.set _).alloc _).bel hb5 (Nat.le_refl _))
          · have b5 : (nx p j == 36) = false := by simpa using h36
            have hitem := item_ix p k3' j gj d hjl (by omega) h94 h36
            rw [hitem] at hX2
            have HX := hid hX2
            have CA := hid (fun w' h' => atom_c B w' r a c p k3' j gj d h' hjl hT hd hgj (by omega) (HI.out k3' (by omega)))
            generalize nx p j = q at *
            clear ho hs hS hk hX hX2 hr R0 HI hstop h94 h36 hge hitem
            go_wp2_with fail
            refine C.out.mono ?_
            rintro _ w1 ⟨rfl, h1, k1⟩
            have H1 := hid h1
            have K1 := hid (Hk.out.tr k1)
            have O1 := hid (Ho.out.kr k1 hrw)
            have S1 := hid (HS.out.kr k1 hrw)
            have CA1 := hid (CA.out w1 h1)
            clear h1 k1 C CA
            go_wp2_with fail
            refine CA1.out.mono ?_
            rintro e2 w2 hx
            clear CA1 b1 b2 b3 b4 b5
            cases hA : atomI p k3' j gj d with
            | bad e f =>
              rw [hA] at hx
              obtain ⟨a2, d2, M2, y, rfl, ho2, hs2, he, h4, k4⟩ := hx
              have HX2 := hid (show X = .bad e f by rw [HX.out, hA]; rfl)
              have K2 := hid (K1.out.tr k4)
              have O2 := hid (O1.out.kr k4 hrw)
              have P2 := hid ho2
              have Q2 := hid hs2
              have He := hid he
              have zk1 := K1.out.size
              have zk4 := k4.size
              have hn1 := nx_end (p := p) (Nat.le_refl _)
              have RB := hid (repeated_none B w2 r a c p p.length d y e f h4 (Nat.le_refl _) (by rw [hn1]; decide) (by rw [hn1]; decide) (by rw [hn1]; decide) (by rw [hn1]; decide) a2 d2 M2)
              clear ho2 hs2 h4 k4 hA he hn1 O1 S1 HS Ho
              go_wp2_with fail
              refine RB.out.mono ?_
              rintro _ w3 ⟨rfl, h3, k3⟩
              have K3 := hid (K2.out.tr k3)
              have O3 := hid (O2.out.kr k3 hrw)
              have P3 := hid ((P2.out.kr k3 (by omega)).sl)
              have H3 := hid h3
              have zk3 := k3.size
              have hML := Hs.out.len
              have hML2 := Q2.out.len
              clear h3 k3 RB O2 P2
              go_wp2_with ((at_builtin; (refine wpL_rapp Tryz.tyRe rfl (.tmp 6) (.tmp 10) rfl w.heap.size aM a2 M.length M2.length cM d2 M M2 rfl (by first | rfl | simp | omega) O3.out rfl (by first | rfl | simp | omega) P3.out (by show M.length + M2.length ≤ 2199023255552; omega) (by omega) ?_); intro a5 c5 w5 L5 Hl5 ho5 hb5 hk5 hA5; have HA5 := hid hA5; clear hA5; have Ho5 := hid ho5; clear ho5; have Hk5 := hid hk5; clear hk5; have hz5 := hb5.size))
              go_roundg 0
              case measure => omega
              case rel => exact .inr ⟨L5, a5, c5, e, f, y, rfl, HX2.out, He.out, Ho5.out, by rw [Hl5.out]; exact (Sml.app (Hs.out.mono (Nat.le_refl _) (Nat.le_refl _)) (Q2.out.mono (Nat.le_refl _) (by omega))).mono (by omega) (Nat.le_refl _), H3.out.below hb5 hB, K3.out.bel hb5 (Nat.le_refl _)⟩
            | ok l s1 g1 =>
              rw [hA] at hx
              obtain ⟨a2, d2, M2, j2, rfl, hrn, ho2, hS2, hij2, hjn2, hs2, hs1, hg1, h4, k4⟩ := hx
              have hjj : j < j2 := by
                have h5 := atom_lt hA hjl
                rw [hs1] at h5
                simp only [List.length_drop] at h5
                omega
              have HX2 := hid (show X = (match repsI p (rns M2) g1 j2 with | .bad c i => .bad c i | .ok it s1 g1 => rowP CC p.length (k3' + 2) (lower (rns M) ++ lower it) s1 g1 d) by
                rw [HX.out, hA, hs1, ← hrn]
                unfold thenR
                dsimp only
                rw [reps_ix])
              have K2 := hid (K1.out.tr k4)
              have zk1 := K1.out.size
              have zk4 := k4.size
              have hlt2 := hid (fun q (hq : Blk a2 q) => (ho2.lt hq).1)
              have Q2 := hid hs2
              have KK := hid k4
              have RP := hid (repeated_c B w1.heap.size w2 r a c p j2 d g1 h4 hjn2 hl a2 d2 M2 ho2 hS2 _ _ hs2 (by constructor <;> omega) (by omega) zk4)
              clear ho2 hs2 hS2 h4 k4 hA hrn hs1 HS Ho
              go_wp2_with fail
              refine RP.out.mono ?_
              rintro e3 w3 hx
              clear RP
              cases hR : repsI p (rns M2) g1 j2 with
              | bad e f =>
                rw [hR] at hx
                obtain ⟨a3, d3, M3, y, rfl, ho3, hs3, he, h3, k3⟩ := hx
                have HX3 := hid (show X = .bad e f by rw [HX2.out, hR])
                have k13 : KR r w1 w3 := Kpt.step KK.out k3 (fun q hq => by rcases hq with h | h; exact .inl h; exact .inr (hlt2.out q h))
                have K3 := hid (K1.out.tr k13)
                have O3 := hid (O1.out.kr k13 hrw)
                have P3 := hid ho3.sl
                have Q3 := hid hs3
                have H3 := hid h3
                have He := hid he
                have zk3 := k13.size
                have hML := Hs.out.len
                have hML3 := Q3.out.len
                clear h3 k3 ho3 hs3 he hR k13 O1 S1 HX2
                go_wp2_with ((at_builtin; (refine wpL_rapp Tryz.tyRe rfl (.tmp 6) (.tmp 10) rfl w.heap.size aM a3 M.length M3.length cM d3 M M3 rfl (by first | rfl | simp | omega) O3.out rfl (by first | rfl | simp | omega) P3.out (by show M.length + M3.length ≤ 2199023255552; omega) (by omega) ?_); intro a5 c5 w5 L5 Hl5 ho5 hb5 hk5 hA5; have HA5 := hid hA5; clear hA5; have Ho5 := hid ho5; clear ho5; have Hk5 := hid hk5; clear hk5; have hz5 := hb5.size))
                go_roundg 0
                case measure => omega
                case rel => exact .inr ⟨L5, a5, c5, e, f, y, rfl, HX3.out, He.out, Ho5.out, by rw [Hl5.out]; exact (Sml.app (Hs.out.mono (Nat.le_refl _) (Nat.le_refl _)) (Q3.out.mono (Nat.le_refl _) (by omega))).mono (by omega) (Nat.le_refl _), H3.out.below hb5 hB, K3.out.bel hb5 (Nat.le_refl _)⟩
              | ok it s3 g3 =>
                rw [hR] at hx
                have hg3 := reps_g hR
                obtain ⟨a3, d3, M3, j3, rfl, hrn3, ho3, hS3, hij3, hjn3, hs3, hss3, h3, k3⟩ := hx
                have HX3 := hid (show X = rowP CC p.length (k3' + 2) (lower (rns (M ++ M3))) (p.drop j3) g3 d by rw [HX2.out, hR, hss3, ← hrn3, rns_app, lower_app])
                have k13 : KR r w1 w3 := Kpt.step KK.out k3 (fun q hq => by rcases hq with h | h; exact .inl h; exact .inr (hlt2.out q h))
                have K3 := hid (K1.out.tr k13)
                have O3 := hid (O1.out.kr k13 hrw)
                have P3 := hid ho3.sl
                have Q3 := hid hs3
                have H3 := hid h3
                have T3 := hid hS3
                have S3 := hid (S1.out.kr k13 hrw)
                have Slt := hid S1.out.lt
                have zk3 := k13.size
                have hML := Hs.out.len
                have hML3 := Q3.out.len
                have hg39 : g3 ≤ 9 := by omega
                clear h3 k3 ho3 hs3 hS3 hR k13 O1 S1 HX2 hrn3 hss3 hg3
                go_wp2_with ((at_builtin; (refine wpL_rapp Tryz.tyRe rfl (.tmp 6) (.tmp 10) rfl w.heap.size aM a3 M.length M3.length cM d3 M M3 rfl (by first | rfl | simp | omega) O3.out rfl (by first | rfl | simp | omega) P3.out (by show M.length + M3.length ≤ 2199023255552; omega) (by omega) ?_); intro a5 c5 w5 L5 Hl5 ho5 hb5 hk5 hA5; have HA5 := hid hA5; clear hA5; have Ho5 := hid ho5; clear ho5; have Hk5 := hid hk5; clear hk5; have hz5 := hb5.size))
                go_roundg (p.length - j3 + 1)
                case measure => omega
                case rel =>
                  refine .inl ⟨k3' + 2, j3, g3, L5, a5, c5, rfl, rfl, by omega, hjn3, hg39, by omega, by omega, by rw [Hl5.out]; exact HX3.out, Ho5.out, ?_, ?_, H3.out.below hb5 hB, K3.out.bel hb5 (Nat.le_refl _)⟩
                  · rw [Hl5.out]
                    exact (S3.out.list O3.out Hk5.out).app (T3.out.list O3.out Hk5.out) zk1 Slt.out
                  · rw [Hl5.out]
                    exact (Sml.app (Hs.out.mono (Nat.le_refl _) (Nat.le_refl _)) (Q3.out.mono (Nat.le_refl _) (by omega))).mono (by omega) (Nat.le_refl _)
    · have C := hid (next_o B wr r a c p p.length d y e f hr (Nat.le_refl _))
      rw [nx_end (Nat.le_refl _)] at C
      have Ho := hid ho
      have Hs := hid hs
      have Hk := hid hk
      have HX := hid hX
      have He := hid he
      clear ho hs hk hX he hr R0 HI
      go_wp2_with fail
      refine C.out.mono ?_
      rintro _ w1 ⟨rfl, h1, k1⟩
      have H1 := hid h1
      have K1 := hid (Hk.out.tr k1)
      have O1 := hid (Ho.out.kr k1 hrw)
      clear h1 k1 C
      go_wp2_with fail
      refine (holding_c w.heap.size ⟨0, 0, 0, 0, false, false, none, [], 0⟩ aM cM M w1 O1.out (Hs.out.mono (by omega) (by omega))).mono ?_
      rintro _ w2 ⟨a7, c7, L7, rfl, hL7, ho7, k7⟩
      have O7 := hid (ho7.base_le (base' := w.heap.size) K1.out.size)
      have K7 := hid (Kpt.step K1.out k7 (fun q hq => .inr (O1.out.lt hq).1))
      have R7 := hid (H1.out.kpt k7 (fun q hq => by have := (O1.out.lt hq).1; omega))
      clear ho7 k7
      go_wp2_with fail
      go_ret
      rw [HX.out]
      exact ⟨a7, c7, L7, y, rfl, O7.out, by rw [hL7.out]; exact (Hs.out.low.cons rfl).mono (by omega) (by omega), He.out, R7.out, K7.out⟩
end Go.Proofs.YtefgjicegbhcaaaGreat
