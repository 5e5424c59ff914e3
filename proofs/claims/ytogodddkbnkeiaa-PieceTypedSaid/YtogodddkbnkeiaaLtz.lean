/- Layer 3's law: PieceTyped, the walk. -/
import Derived.Test.YtogodddkbnkeiaaLty
namespace Go.Proofs.Ytogodddkbnkeiaa
open Go.RowKit

/-- the table behind k signs of the word -/
def tst (s : List Int) (a : Nat) (v : List Int) : St := if v = [] then st0 s else typ s a v
theorem tst_step {s : List Int} (hs : s.length ≤ 1000) {a : Nat} (ha : a ≤ s.length) (v : List Int) (x : Int) : spl (tst s a v) (a + v.length) 0 [x] = tst s a (v ++ [x]) := by
  have hne : ¬ (v ++ [x] = []) := by simp
  unfold tst
  rw [if_neg hne]
  split
  · rename_i h; subst h; exact typ_first x
  · rename_i h; exact typ_next hs ha h x
theorem tst_tot {s : List Int} (hs : s.length ≤ 1000) {a : Nat} (ha : a ≤ s.length) (v : List Int) : tot (tst s a v).p = s.length + v.length := by
  unfold tst; split
  · rename_i h; subst h; rw [st0_tot]; rfl
  · exact typ_tot hs ha v
theorem tst_a {s : List Int} {a : Nat} {v : List Int} : (tst s a v).a = v := by
  unfold tst; split
  · rename_i h; subst h; rfl
  · rfl
theorem tst_cm (s : List Int) (a : Nat) {v : List Int} : cm (tst s a v).p = if v = [] then (0, 0) else (1, v.length) := by
  unfold tst; split
  · exact cm_st0 s
  · exact cm_typ s a v
/-- behind the cut -/
def cst (s : List Int) (a : Nat) (v : List Int) : St := splS (tst s a v) a v.length []
theorem cst_ok {s : List Int} (hs : s.length ≤ 300) {a : Nat} (ha : a ≤ s.length) {v : List Int} (hv : v.length ≤ 100) : splE (tst s a v) a v.length [] = 0 ∧ (cst s a v).p.length ≤ 2 ∧ (cst s a v).t = s := by
  have h1 : splE (tst s a v) a v.length [] = 0 := splE_ok (by rw [tst_tot (by omega) ha]; simp [wth]; omega) rfl (by rw [ovr, tst_tot (by omega) ha, tst_a]; simp; omega)
  refine ⟨h1, ?_⟩
  by_cases h : v = []
  · subst h
    have : cst s a [] = st0 s := by simp [cst, splS, tst]
    rw [this]
    exact ⟨by have := st0_len s; omega, st0_txt s⟩
  · have hl : v.length ≠ 0 := by simpa using h
    have e : cst s a v = ⟨s, v, prt (st0 s).p 0 a ++ prt (st0 s).p a s.length⟩ := by
      have h2 : splS (tst s a v) a v.length [] = spl (tst s a v) a v.length [] := by
        simp only [splS, h1, true_and]
        rw [if_pos (fun hc => hl (by omega))]; simp
      rw [cst, h2]
      simp only [tst, if_neg h]
      exact typ_cut (by omega) ha v h
    have hW := st0_wf (l := s) (by omega)
    rw [e]
    constructor
    · have := prt_len (st0 s).p 0 a
      have := prt_len (st0 s).p a s.length
      have := st0_len s
      simp; omega
    · simp only [St.t]
      have hl2 : Lies s v (st0 s).p := by
        have := hW.lies.grow v
        exact this
      have hx : txt s v (st0 s).p = s := by
        have := txt_grow hW.lies v
        have h3 := st0_txt s
        unfold St.t at h3
        rw [h3] at this
        exact this
      rw [txt_app, prt_txt hl2, prt_txt hl2, hx, List.drop_zero, List.take_of_length_le (i := s.length) (Nat.le_refl _), List.take_append_drop]

set_option maxRecDepth 100000 in
set_option maxHeartbeats 8000000 in
theorem typed_walk (a0 b0 : Option Addr) (c0 d0 : Nat) (l m : List Int) (k : Int) (W : World) (hl : Sl W a0 l) (hm : Sl W b0 m) (hc : l.length ≤ c0) (hd : m.length ≤ d0) :
    Calls Try.prog 7 #[.slice a0 l.length c0, .slice b0 m.length d0, .int .i64 k] W fun e w' => e = .returned (.bool true) ∧ Below W.heap.size W w' := by
  have Hm := hid hm
  go_enter Try.func7, Try.ntmps7
  go_wp2_with fail
  refine (cut_c a0 c0 l 300 W hl hc (by omega)).mono ?_
  rintro e w' ⟨a1, c1, L1, rfl, HL1, s1, hc1, rfl⟩
  have hL1 : L1.length ≤ 300 := by rw [HL1.out, List.length_take]; omega
  go_wp2_with fail
  refine (clean_c a1 c1 L1 _ s1).mono ?_
  rintro e w1 ⟨a2, c2, rfl, ho2, hb1⟩
  have hS := cln_may L1
  have hSl := cln_len L1
  generalize cln L1 = S at ho2 hS hSl ⊢
  have HoS := hid ho2
  have hSl3 : S.length ≤ 300 := by omega
  have HmS := hid hS
  clear ho2 s1 hl HL1 hL1 hSl hc1 hS
  go_wp2_with fail
  refine (cut_c b0 d0 m 100 w1 (Hm.out.bel hb1) hd (by omega)).mono ?_
  rintro e w' ⟨b1, d1, M1, rfl, HM1, t1, hd1, rfl⟩
  have hM1 : M1.length ≤ 100 := by rw [HM1.out, List.length_take]; omega
  go_wp2_with fail
  refine (clean_c b1 d1 M1 _ t1).mono ?_
  rintro e w2 ⟨b2, d2, rfl, hp2, hb2⟩
  have hV := cln_may M1
  have hVl := cln_len M1
  generalize cln M1 = V at hp2 hV hVl ⊢
  have HoV := hid hp2
  have hVl3 : V.length ≤ 100 := by omega
  have HmV := hid hV
  have HoS2 := hid (HoS.out.grow hb2)
  have B2 := hid (bthen hb1 hb2)
  clear hp2 t1 HM1 hM1 hVl hd1 hV HoS hb1 hb2
  go_wp2_with fail
  refine (new_t a2 c2 S w2 HoS2.out.sl HmS.out (by omega)).mono ?_
  rintro e w3 ⟨pt, rfl, ht, hb3⟩
  have L3 := hid (Lv.new B2.out ht hb3)
  have K3 : Hid (Below w2.heap.size w2 w3) := hb3
  clear ht hb3
  go_wp2_with fail
  have i1 := index_c k (S.length + 1) w3 (by omega) (by omega)
  rw [show ((S.length + 1 : Nat) : Int) = (S.length : Int) + 1 by omega] at i1
  refine i1.mono ?_
  rintro e w' ⟨⟨at_, hat, rfl⟩, rfl⟩
  clear i1
  have hat2 : at_ ≤ S.length := by omega
  have Vlt : Hid (∀ ad, b2 = some ad → ad.block < w2.heap.size) := by
    intro ad ha
    rcases HoV.out.shape with ⟨h0, _⟩ | ⟨g, h0, _, h2, _⟩
    · rw [h0] at ha; cases ha
    · rw [h0] at ha; simp only [Option.some.injEq] at ha; subst ha; exact h2
  have hVc : V.length ≤ d2 := by
    rcases HoV.out.shape with ⟨_, _, h0⟩ | ⟨_, _, _, _, h0⟩
    · simp [h0]
    · exact h0
  go_wp2
  go_loopw [9, 38] (fun _ i wr => ∃ n : Nat, n ≤ V.length ∧ i = .int .i64 n ∧ Hid (Lv W w2.heap.size wr pt (tst S at_ (V.take n))) ∧ Hid (Below w2.heap.size w2 wr)) (fun _ i _ => V.length - (intOf i).toNat)
  case atStart => exact ⟨0, Nat.zero_le _, rfl, by simp [tst]; exact L3, K3⟩
  case round =>
    obtain ⟨n, hn, rfl, LL, KK⟩ := hrel
    by_cases hlt : n < V.length
    · obtain ⟨a', c', D, HD, sD, hDc, hblk, hrun⟩ := slice_mid_at (HoV.out.sl.below KK.out (Nat.le_refl _)) n (n + 1) d2 (by omega) (by omega) hVc
      have hD : D = [gt V n] := by rw [HD.out, take_succ hlt, List.drop_append_of_le_length (by simp; omega), List.drop_eq_nil_of_le (by simp; omega)]; rfl
      subst hD
      have hst := tst_step (s := S) (by omega) hat2 (V.take n) (gt V n)
      have hlen : (V.take n).length = n := by rw [List.length_take]; omega
      rw [hlen, ← take_succ hlt] at hst
      have hmx : may [gt V n] = true := by
        have := HmV.out
        simp only [may, List.all_eq_true] at this ⊢
        intro x hx; simp at hx; subst hx; exact this _ (gt_mem hlt)
      have hf : fits (tst S at_ (V.take n)) (at_ + n) 0 [gt V n] := ⟨by rw [tst_tot (by omega) hat2, hlen]; omega, by rw [tst_tot (by omega) hat2, hlen]; simp; omega, by rw [tst_a, hlen]; simp; omega⟩
      have p1 := spl_ok hf hmx (by simp)
      rw [hst] at p1
      have p1a := p1.1
      have p1b := p1.2
      simp only [Int.natCast_add, Int.natCast_zero] at p1a p1b
      simp only [Int.natCast_add, Int.natCast_one, List.length_cons, List.length_nil, Nat.zero_add] at hrun
      have HR := hid hrun
      have hsp := LL.out.splice (w := wr) (Below.refl _ _) ((at_ : Int) + n) 0 a' c' [gt V n] sD (by
        intro ad ha
        obtain ⟨ae, hae, he⟩ := hblk ad ha
        left; rw [← he]; exact Vlt.out ae hae) (by omega) p1a p1b
      simp only [List.length_cons, List.length_nil, Nat.zero_add] at hsp
      have HS := hid hsp
      clear hsp HD hblk p1 p1a p1b hst hf hmx sD hDc
      go_wp2_with fail
      refine HS.out.mono ?_
      rintro e w4 ⟨rfl, hL4, hb4⟩
      have L4 := hid hL4
      have K4 : Hid (Below w2.heap.size w2 w4) := KK.out.trans hb4
      clear hL4 hb4
      go_wp2
      go_round
      case rel => exact ⟨n + 1, by omega, by go_num, L4, K4⟩
      case measure => simp [intOf]; omega
    · rw [List.take_of_length_le (by omega)] at LL
      have hcm := tst_cm S at_ (v := V)
      have hcs := cst_ok (by omega) hat2 (v := V) (by omega)
      have hwf := LL.out.wf
      have HCS := hid hcs
      have hcst : Hid (splS (tst S at_ V) at_ V.length [] = cst S at_ V) := rfl
      generalize tst S at_ V = T at hcm LL hwf HCS hcst
      generalize cst S at_ V = T2 at HCS hcst
      have Hwf := hid hwf
      have HCM := hid hcm
      clear hcs hwf hcm
      go_wp2_with fail
      refine LL.out.pieces.mono ?_
      rintro e w5 ⟨a5, c5, rfl, ho5, hb5⟩
      have L5 := hid (LL.out.on hb5)
      have K5 := hid (bthen KK.out hb5)
      have hsl := ho5.sl
      have hTl := Hwf.out.len
      clear ho5 hb5
      go_wp2
      go_loopw [10, 11, 56] (fun u v i wr => ∃ j : Nat, j ≤ T.p.length ∧ i = .int .i64 j ∧ u = .int .i64 (cm (T.p.take j)).1 ∧ v = .int .i64 (cm (T.p.take j)).2 ∧ Below w5.heap.size w5 wr) (fun _ _ i _ => T.p.length - (intOf i).toNat)
      case atStart => exact ⟨0, Nat.zero_le _, rfl, rfl, rfl, Below.refl _ _⟩
      case round =>
        obtain ⟨j, hj, rfl, rfl, rfl, hb⟩ := hrel
        by_cases hlt : j < T.p.length
        · obtain ⟨b, off, rfl, hcc⟩ := (hsl.bel hb).at hlt
          obtain ⟨x0, x1, x2⟩ := hcc j hlt
          have hpt := Hwf.out.fr (pg_mem hlt)
          have hcj : (cm (T.p.take j)).1 ≤ 1000 := by
            have : ∀ q : List Pc, (cm q).1 ≤ q.length := by
              intro q
              refine snocInd (P := fun q => (cm q).1 ≤ q.length) (by simp [cm]) (fun q p ih => ?_) q
              cases hp : p.add with
              | true => rw [cm_snoc_yes q p hp]; simp; omega
              | false => rw [cm_snoc_no q p hp]; simp; omega
            have := this (T.p.take j)
            rw [List.length_take] at this; omega
          have htk := hid (pg_take hlt)
          clear hcc
          cases hadd : (pg T.p j).add with
          | true =>
            rw [hadd] at x0
            have Hc := hid (cm_snoc_yes (T.p.take j) _ hadd)
            clear hadd
            go_wp2
            go_round
            case rel => exact ⟨j + 1, by omega, by go_num, by rw [htk.out, Hc.out]; go_num, by rw [htk.out, Hc.out], hb.alloc hb.size _⟩
            case measure => simp [intOf]; omega
          | false =>
            rw [hadd] at x0
            have Hc := hid (cm_snoc_no (T.p.take j) _ hadd)
            clear hadd
            go_wp2
            go_round
            case rel => exact ⟨j + 1, by omega, by go_num, by rw [htk.out, Hc.out], by rw [htk.out, Hc.out], hb.alloc hb.size _⟩
            case measure => simp [intOf]; omega
        · rw [List.take_of_length_le (by omega)]
          have L6 := hid (L5.out.on hb)
          have K6 := hid (bthen K5.out hb)
          clear hb
          by_cases hv : V = []
          · have h1 : (cm T.p).1 = 0 := by rw [HCM.out, if_pos hv]
            have h2 : V.length = 0 := by rw [hv]; rfl
            rw [h1]
            go_wp2_with fail
            have hsp := L6.out.splice (w := wr) (Below.refl _ _) at_ V.length none 0 [] (Sl.nil _ _) (by intro ad ha; cases ha) (by omega) HCS.out.1 hcst.out
            rw [h2] at hsp
            refine hsp.mono ?_
            rintro e w7 ⟨rfl, hL7, hb7⟩
            have L7 := hid hL7
            have K7 : Hid (Below w2.heap.size w2 w7) := K6.out.trans hb7
            have hT2 := HCS.out.2.1
            clear hsp hL7 hb7
            go_wp2_with fail
            refine L7.out.pieces.mono ?_
            rintro e w8 ⟨a8, c8, rfl, -, hb8⟩
            have L8 := hid (L7.out.on hb8)
            have K8 : Hid (Below w2.heap.size w2 w8) := bthen K7.out hb8
            clear hb8
            go_wp2_with fail
            refine L8.out.text.mono ?_
            rintro e w9 ⟨a9, c9, rfl, ho9, hb9⟩
            rw [HCS.out.2.2] at ho9 ⊢
            have HO9 := hid ho9
            have K9 : Hid (Below w2.heap.size w2 w9) := bthen K8.out hb9
            have L9 := hid (L8.out.on hb9)
            clear ho9 hb9
            go_wp2_with fail
            refine (same_b a9 a2 c9 c2 S w9 HO9.out.sl (HoS2.out.sl.below K9.out (Nat.le_refl _))).mono ?_
            rintro e w10 ⟨rfl, hb10⟩
            have L10 := hid (L9.out.on hb10)
            clear hb10
            go_wp2_with fail
            refine (known_c w10).mono ?_
            rintro e w11 ⟨rfl, hb11⟩
            go_wp2
            go_ret
            exact ⟨rfl, bthen L10.out.bel hb11⟩
          · have h1 : (cm T.p).1 = 1 := by rw [HCM.out, if_neg hv]
            have h2 : (cm T.p).2 = V.length := by rw [HCM.out, if_neg hv]
            have h3 : 0 < V.length := by rcases V with _ | ⟨x, r⟩; exact absurd rfl hv; simp
            have Hv := hid hv
            clear hv
            rw [h1, h2]
            go_wp2_with fail
            have hsp := L6.out.splice (w := wr) (Below.refl _ _) at_ V.length none 0 [] (Sl.nil _ _) (by intro ad ha; cases ha) (by omega) HCS.out.1 hcst.out
            refine hsp.mono ?_
            rintro e w7 ⟨rfl, hL7, hb7⟩
            have L7 := hid hL7
            have K7 : Hid (Below w2.heap.size w2 w7) := K6.out.trans hb7
            have hT2 := HCS.out.2.1
            clear hsp hL7 hb7
            go_wp2_with fail
            refine L7.out.pieces.mono ?_
            rintro e w8 ⟨a8, c8, rfl, -, hb8⟩
            have L8 := hid (L7.out.on hb8)
            have K8 : Hid (Below w2.heap.size w2 w8) := bthen K7.out hb8
            clear hb8
            go_wp2_with fail
            refine L8.out.text.mono ?_
            rintro e w9 ⟨a9, c9, rfl, ho9, hb9⟩
            rw [HCS.out.2.2] at ho9 ⊢
            have HO9 := hid ho9
            have K9 : Hid (Below w2.heap.size w2 w9) := bthen K8.out hb9
            have L9 := hid (L8.out.on hb9)
            clear ho9 hb9
            go_wp2_with fail
            refine (same_b a9 a2 c9 c2 S w9 HO9.out.sl (HoS2.out.sl.below K9.out (Nat.le_refl _))).mono ?_
            rintro e w10 ⟨rfl, hb10⟩
            have L10 := hid (L9.out.on hb10)
            clear hb10
            go_wp2_with fail
            refine (known_c w10).mono ?_
            rintro e w11 ⟨rfl, hb11⟩
            go_wp2
            go_ret
            exact ⟨rfl, bthen L10.out.bel hb11⟩
end Go.Proofs.Ytogodddkbnkeiaa
