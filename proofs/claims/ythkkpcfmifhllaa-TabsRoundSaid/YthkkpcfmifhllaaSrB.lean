/- Package slices: insertionSortCmpFunc at int, by the order that tabs.Order hands in. -/
import Derived.Test.YthkkpcfmifhllaaSrA
import Derived.Deep.QuietTactic
namespace Go.Proofs.Ythkkpcfmifhllaa
open Go.RowKit Go.ChangeShapes

theorem ins_done {K : Int → Int} {a j i : Nat} {L M : List Int} (ha : a ≤ j) (hj : j ≤ i) (hS : Srt K a i L) (hL : Lss a i i (i + 1) L) (hv : Via (roI j i (i + 1)) L M)
    (hd : ∀ q, j ≤ q → q < i → Ahd K (gt L i) (gt L q)) (hu : ∀ p, a ≤ p → p < j → Ahd K (gt L p) (gt L i)) : Seg a (i + 1) L M ∧ Srt K a (i + 1) M := by
  have hc : Cut K a j i (i + 1) (i + 1) L := ⟨⟨hS, fun p q h1 h2 h3 => by omega, hL⟩, ha, hj, by omega, Nat.le_refl _, fun p q h1 h2 h3 h4 => by omega, fun p q h1 h2 h3 h4 => by
    obtain rfl : p = i := by omega
    exact hd q h3 h4⟩
  have e : j + (i + 1 - i) = j + 1 := by omega
  have hl := hc.low hv
  have hh := hc.high hv
  have := hc.done hv (M2 := M) (M3 := M)
  rw [e] at hl hh this
  refine this (Seg.refl _ _ _) (fun p q h1 h2 h3 => ?_) (Seg.refl _ _ _) (fun p q h1 h2 h3 => hh.one p q h1 h2 h3)
  by_cases hq : q < j
  · exact hl.one p q h1 h2 hq
  · obtain rfl : q = j := by omega
    rw [hv.2, hv.2, roI_1 h2, roI_2 (Nat.le_refl _) (by omega), show q + (i - q) = i by omega]
    exact hu p h1 h2
theorem inl_done {K : Int → Int} {a e b : Nat} {L M : List Int} (ha : a + 1 ≤ e) (he : e ≤ b) (hS : Srt K (a + 1) b L) (hL : Lss a (a + 1) (a + 1) b L) (hv : Via (roI a (a + 1) e) L M)
    (hd : ∀ p, a + 1 ≤ p → p < e → Ahd K (gt L p) (gt L a)) (hu : ∀ q, e ≤ q → q < b → Ahd K (gt L a) (gt L q)) : Seg a b L M ∧ Srt K a b M := by
  have hc : Cut K a a (a + 1) e b L := ⟨⟨fun p q h1 h2 h3 => by omega, hS, hL⟩, Nat.le_refl _, by omega, ha, he, fun p q h1 h2 h3 h4 => by omega, fun p q h1 h2 h3 h4 => by
    obtain rfl : q = a := by omega
    exact hd p h1 h2⟩
  have hl := hc.low hv
  have hh := hc.high hv
  refine hc.done hv (M2 := M) (M3 := M) (Seg.refl _ _ _) (fun p q h1 h2 h3 => hl.two p q h1 h2 h3) (Seg.refl _ _ _) (fun p q h1 h2 h3 => ?_)
  by_cases hp : e ≤ p
  · exact hh.two p q hp h2 h3
  · obtain rfl : p = a + (e - (a + 1)) := by omega
    rw [hv.2, hv.2, roI_3 (Nat.le_refl _) (by omega), roI_4 (by omega) (by omega) ha, show a + (e - (a + 1)) - (e - (a + 1)) = a by omega]
    exact hu q (by omega) h3
/-- what cmp.Compare tells of two keys -/
def cfv (K : Int → Int) (x y : Int) : Int := if K x < K y then -1 else if K y < K x then 1 else 0
theorem cfv_lt {K : Int → Int} {x y : Int} (h : K x < K y) : cfv K x y = -1 := by unfold cfv; rw [if_pos h]
theorem cfv_ge {K : Int → Int} {x y : Int} (h : ¬ K x < K y) : 0 ≤ cfv K x y ∧ cfv K x y ≤ 1 := by unfold cfv; rw [if_neg h]; split <;> omega
/-- the order that is handed in: in every world that has w's blocks but N's it tells of two numbers from 0 to n how their keys lie -/
def Cmp (w : World) (N : Nat → Prop) (cs : Array Value) (n : Int) (K : Int → Int) : Prop :=
  ∀ w', Kpt N w w' → ∀ x y : Int, 0 ≤ x → x < n → 0 ≤ y → y < n → Calls Try.prog 18 (#[.int .i64 x, .int .i64 y] ++ cs) w' fun e w2 => e = .returned (.int .i64 (cfv K x y)) ∧ ∃ k, w2 = w'.drewN k
theorem Cmp.kpt {w w' : World} {N : Nat → Prop} {cs : Array Value} {n : Int} {K : Int → Int} (h : Cmp w N cs n K) (k : Kpt N w w') : Cmp w' N cs n K := fun w2 k2 => h w2 (k.tr k2)
/-- the numbers are of this range -/
def Rgn (n : Int) (L : List Int) : Prop := ∀ p, p < L.length → 0 ≤ gt L p ∧ gt L p < n
theorem Rgn.seg {n : Int} {a b : Nat} {L M : List Int} (h : Rgn n L) (s : Seg a b L M) (hb : b ≤ L.length) : Rgn n M := fun p hp => by
  rw [s.len] at hp
  by_cases hc : a ≤ p ∧ p < b
  · obtain ⟨q, _, q2, q3⟩ := s.fwd p hc.1 hc.2; rw [q3]; exact h q (by omega)
  · rw [s.out p (by omega)]; exact h p hp
theorem Rgn.via {n : Int} {f : Nat → Nat} {L M : List Int} (h : Rgn n L) (v : Via f L M) (hf : ∀ p, p < L.length → f p < L.length) : Rgn n M := fun p hp => by
  rw [v.1] at hp; rw [v.2]; exact h _ (hf p hp)
theorem roI_lt {a m b n p : Nat} (h1 : a ≤ m) (h2 : m ≤ b) (hb : b ≤ n) (hp : p < n) : roI a m b p < n := by
  unfold roI
  by_cases c1 : a ≤ p ∧ p < a + (b - m)
  · rw [if_pos c1]; omega
  · rw [if_neg c1]
    by_cases c2 : a + (b - m) ≤ p ∧ p < b
    · rw [if_pos c2]; omega
    · rw [if_neg c2]; exact hp

set_option maxRecDepth 20000 in
set_option maxHeartbeats 4000000 in
theorem insort_c (w : World) (base g c a b : Nat) (n : Int) (L : List Int) (cs : Array Value) (K : Int → Int) (hO : I.Own w base (some ⟨g, 0, none⟩) c L) (hC : Cmp w (Blk (some ⟨g, 0, none⟩)) cs n K) (hI : Rgn n L) (hab : a < b) (hb : b ≤ L.length)
    (hA : ∀ p q, a ≤ p → p < q → q < b → gt L p < gt L q) :
    Calls Try.prog 26 #[.slice (some ⟨g, 0, none⟩) L.length c, .int .i64 a, .int .i64 b, .func (.func 18) #[] cs] w (Moves w base (some ⟨g, 0, none⟩) c L (fun M => Seg a b L M ∧ Srt K a b M)) := by
  have hlen := hO.2.2
  have HO := hid hO
  have HC := hid hC
  have HI := hid hI
  have HA := hid hA
  go_enter Try.func26, Try.ntmps26
  clear hO hC hI hA
  go_wp2
  go_loopw [8] (fun i wr => ∃ (k : Nat) (M : List Int), a < k ∧ k ≤ b ∧ i = .int .i64 k ∧ Hid (I.Own wr base (some ⟨g, 0, none⟩) c M) ∧ Hid (Kpt (Blk (some ⟨g, 0, none⟩)) w wr) ∧ Hid (M.length = L.length) ∧ Hid (Seg a k L M) ∧ Hid (Srt K a k M)) (fun i _ => b - (intOf i).toNat)
  case atStart => exact ⟨a + 1, L, by omega, by omega, by go_num, HO, hid (Kpt.refl _ _), hid rfl, hid (Seg.refl _ _ _), hid fun p q h1 h2 h3 => by omega⟩
  case round =>
    obtain ⟨i, M, hai, hib, rfl, HM, HK, HL, HS, HT⟩ := hrel
    by_cases hlt : i < b
    · have hltz : (i : Int) < (b : Int) := by omega
      have HIM : Hid (Rgn n M) := HI.out.seg HS.out (by omega)
      have HLs : Hid (Lss a i i (i + 1) M) := fun p q h1 h2 h3 h4 => by
        obtain rfl : q = i := by omega
        obtain ⟨p0, g1, g2, g3⟩ := HS.out.fwd p h1 h2
        rw [g3, HS.out.out q (by omega)]
        exact HA.out p0 q g1 g2 hlt
      go_wp2
      go_loopw [9] (fun vj wr2 => ∃ (j : Nat) (N : List Int), a ≤ j ∧ j ≤ i ∧ vj = .int .i64 j ∧ Hid (I.Own wr2 base (some ⟨g, 0, none⟩) c N) ∧ Hid (Kpt (Blk (some ⟨g, 0, none⟩)) w wr2) ∧ Hid (Via (roI j i (i + 1)) M N) ∧ Hid (∀ q, j ≤ q → q < i → Ahd K (gt M i) (gt M q))) (fun vj _ => (intOf vj).toNat)
      case atStart => exact ⟨i, M, by omega, Nat.le_refl _, rfl, HM, HK, hid (Via.refl M fun p => roI_none' ..), hid fun q h1 h2 => by omega⟩
      case round =>
        obtain ⟨j, N, haj, hji, rfl, HN, HK2, HV, HD⟩ := hrel
        have HIN : Hid (Rgn n N) := HIM.out.via HV.out fun p hp => roI_lt hji (by omega) (by have := HL.out; omega) hp
        have hNl : Hid (N.length = L.length) := HV.out.1.trans HL.out
        have hNj : Hid (gt N j = gt M i) := by
          show _ = _
          rw [HV.out.2, roI_2 (Nat.le_refl _) (by omega)]; congr 1; omega
        by_cases hja : a < j
        · obtain ⟨jp, rfl⟩ : ∃ jp, j = jp + 1 := ⟨j - 1, by omega⟩
          have hNp : Hid (gt N jp = gt M jp) := by
            show _ = _
            rw [HV.out.2, roI_1 (by omega)]
          have jz : (a : Int) < (jp : Int) + 1 := by omega
          have jb : (jp : Int) + 1 < (L.length : Int) := by omega
          have jb1 : (jp : Int) < (L.length : Int) := by omega
          have cj := HN.out.cell (i := jp + 1) (by have := hNl.out; omega)
          have cp := HN.out.cell (i := jp) (by have := hNl.out; omega)
          have fj := HN.out.frz (jp + 1)
          have fp := HN.out.frz jp
          have rj := HIN.out (jp + 1) (by have := hNl.out; omega)
          have rp := HIN.out jp (by have := hNl.out; omega)
          obtain ⟨X, hX⟩ : ∃ X, X = gt N (jp + 1) := ⟨_, rfl⟩
          obtain ⟨Y, hY⟩ : ∃ Y, Y = gt N jp := ⟨_, rfl⟩
          rw [← hX] at cj rj
          rw [← hY] at cp rp
          have HX := hid hX; have HY := hid hY; clear hX hY
          have hc : ∀ m, Calls Try.prog 18 (#[.int .i64 X, .int .i64 Y] ++ cs) (wr.drewN m) fun e w2 => e = .returned (.int .i64 (cfv K X Y)) ∧ ∃ k, w2 = (wr.drewN m).drewN k := fun m =>
            HC.out _ (HK2.out.tr (Kpt.of (bdrewN (Below.refl _ _) m))) X Y rj.1 rj.2 rp.1 rp.2
          have HCC := hid hc
          clear hc rj rp
          by_cases hlv : K X < K Y
          · obtain ⟨V, hV⟩ : ∃ V, V = cfv K X Y := ⟨_, rfl⟩
            have hV0 : V < 0 := by rw [hV, cfv_lt hlv]; omega
            rw [← hV] at HCC
            have HV' := hid hV; clear hV
            go_wp2_with fail
            go_quiet (first | (go_at_call 18; exact Calls.quiet_of (HCC.out _)))
            have HN2 : Hid (I.Own (wr.drewN nq) base (some ⟨g, 0, none⟩) c N) := HN.out.drewN nq
            have HK3 : Hid (Kpt (Blk (some ⟨g, 0, none⟩)) w (wr.drewN nq)) := HK2.out.tr (Kpt.of (bdrewN (Below.refl _ _) nq))
            clear cj cp fj fp HCC HN HK2 HK HM
            generalize wr.drewN nq = w2 at HN2 HK3 ⊢
            have cj := HN2.out.cell (i := jp + 1) (by have := hNl.out; omega)
            have cp := HN2.out.cell (i := jp) (by have := hNl.out; omega)
            have fj := HN2.out.frz (jp + 1)
            have fp := HN2.out.frz jp
            go_wp2_with fail
            go_big_region
            obtain ⟨W2, hW2⟩ : ∃ W2, W2 = ((w2.setCell ⟨g, jp + 1, none⟩ (.int .i64 (gt N jp))).setCell ⟨g, jp, none⟩ (.int .i64 (gt N (jp + 1)))).drew := ⟨_, rfl⟩
            rw [← hW2]
            have HM2 : Hid (I.Own W2 base (some ⟨g, 0, none⟩) c (swL N (jp + 1) jp)) := by
              rw [hW2]; exact (HN2.out.swap (by have := hNl.out; omega) (by have := hNl.out; omega)).drewN 1
            have HK4 : Hid (Kpt (Blk (some ⟨g, 0, none⟩)) w W2) := by
              rw [hW2]; exact hid (((HK3.out.setCell (p := ⟨g, jp + 1, none⟩) ⟨⟨g, 0, none⟩, rfl, rfl⟩ _).setCell (p := ⟨g, jp, none⟩) ⟨⟨g, 0, none⟩, rfl, rfl⟩ _).drew)
            have HV2 : Hid (Via (roI jp i (i + 1)) M (swL N (jp + 1) jp)) :=
              HV.out.comp (swL_via (by have := hNl.out; omega) (by have := hNl.out; omega)) (roI_down (by omega))
            have HD2 : Hid (∀ q, jp ≤ q → q < i → Ahd K (gt M i) (gt M q)) := fun q h1 h2 => by
              by_cases hq : jp + 1 ≤ q
              · exact HD.out q hq h2
              · obtain rfl : q = jp := by omega
                rw [← hNj.out, ← hNp.out, ← HX.out, ← HY.out]; exact .inl hlv
            clear hW2 HN2 HK3 HV HD cj cp fj fp
            go_wp2
            go_round
            case rel => exact ⟨jp, _, by omega, by omega, by go_num, HM2, HK4, HV2, HD2⟩
            case measure => simp [intOf]
          · obtain ⟨V, hV⟩ : ∃ V, V = cfv K X Y := ⟨_, rfl⟩
            have hV0 : ¬ V < 0 := by rw [hV]; have := cfv_ge hlv; omega
            rw [← hV] at HCC
            have HV' := hid hV; clear hV
            go_wp2_with fail
            go_quiet (first | (go_at_call 18; exact Calls.quiet_of (HCC.out _)))
            have HN2 : Hid (I.Own (wr.drewN nq) base (some ⟨g, 0, none⟩) c N) := HN.out.drewN nq
            have HK3 : Hid (Kpt (Blk (some ⟨g, 0, none⟩)) w (wr.drewN nq)) := HK2.out.tr (Kpt.of (bdrewN (Below.refl _ _) nq))
            clear cj cp fj fp HCC HN HK2 HK HM
            generalize wr.drewN nq = w2 at HN2 HK3 ⊢
            have HE : Hid (Seg a (i + 1) M N ∧ Srt K a (i + 1) N) := ins_done haj hji HT.out HLs.out HV.out HD.out fun p h1 h2 => by
              have hl : gt M jp < gt M i := HLs.out jp i (by omega) (by omega) (Nat.le_refl _) (by omega)
              have h3 : Ahd K (gt M jp) (gt M i) := by
                rw [ahd_le hl]; rw [← hNj.out, ← hNp.out, ← HX.out, ← HY.out]; omega
              by_cases hp : p = jp
              · rw [hp]; exact h3
              · exact (HT.out p jp h1 (by omega) (by omega)).trans h3
            have HS2 : Hid (Seg a (i + 1) L N) := (HS.out.widen (Nat.le_refl _) (by omega)).trans HE.out.1
            have HT2 : Hid (Srt K a (i + 1) N) := HE.out.2
            clear HV HD HE HS HT
            go_wp2
            go_round
            case rel => exact ⟨i + 1, N, by omega, by omega, by go_num, HN2, HK3, hNl, HS2, HT2⟩
            case measure => simp [intOf]; omega
        · obtain rfl : j = a := by omega
          have hjaz : decide ((j : Int) > (j : Int)) = false := decide_eq_false (by omega)
          have hjaz' : ¬ (j : Int) < (j : Int) := by omega
          have HE : Hid (Seg j (i + 1) M N ∧ Srt K j (i + 1) N) := ins_done haj hji HT.out HLs.out HV.out HD.out fun p h1 h2 => by omega
          have HS2 : Hid (Seg j (i + 1) L N) := (HS.out.widen (Nat.le_refl _) (by omega)).trans HE.out.1
          have HT2 : Hid (Srt K j (i + 1) N) := HE.out.2
          have HN2 := hid (HN.out.drewN 1)
          have HK3 : Hid (Kpt (Blk (some ⟨g, 0, none⟩)) w wr.drew) := hid HK2.out.drew
          clear HV HD HE HS HT HN HK2 HK HM
          go_wp2_with fail
          go_big_region
          go_wp2
          go_round
          case rel => exact ⟨i + 1, N, by omega, by omega, by go_num, HN2, HK3, hNl, HS2, HT2⟩
          case measure => simp [intOf]; omega
    · obtain rfl : i = b := by omega
      go_wp2
      go_end0
      exact ⟨rfl, M, HM.out, HK.out, HL.out, HS.out, HT.out⟩
end Go.Proofs.Ythkkpcfmifhllaa
