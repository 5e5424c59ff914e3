/- Splice of a short text and any put; the walk of GravitySigns. -/
import Derived.Test.YthciodfkhgpegaaGba
import Derived.Deep.RegionHeld3
namespace Go.Proofs.Ythciodfkhgpegaa
open Go.RowKit

/-- a slice that was made: the list under a name, the length told -/
def MakesL (w : World) (l : List Int) (e : Ending) (w' : World) : Prop :=
  ∃ a c L, e = .returned (.slice a (L : List Int).length c) ∧ Hid (L = l) ∧ L.length = l.length ∧ Sl w' a L ∧ Below w.heap.size w w'
set_option maxHeartbeats 4000000 in
theorem lsplice_b (a ax : Option Addr) (c cx : Nat) (l put : List Int) (at_ cut : Nat) (w : World) (h : Sl w a l) (hp : Sl w ax put) (hc : l.length ≤ c) (hl : l.length ≤ 300) (hpl : put.length ≤ 35184372088000) (hw : at_ + cut ≤ l.length) :
    Calls Try.prog 17 #[.slice a l.length c, .int .i64 at_, .int .i64 cut, .slice ax put.length cx] w (MakesL w (l.take at_ ++ put ++ l.drop (at_ + cut))) := by
  obtain ⟨a1, c1, D1, HD1, s1, hD1, r1⟩ := slice_to h at_ c (by omega) hc
  obtain ⟨a2, c2, D2, HD2, s2, hD2, r2⟩ := slice_from h (at_ + cut) c (by omega) hc
  simp only [Int.natCast_add] at r2
  have hl1 : D1.length ≤ 300 := by rw [HD1.out]; simp; omega
  have hl2 : D2.length ≤ 300 := by rw [HD2.out]; simp; omega
  have hwr : IntKind.i64.wrap ((at_ : Int) + (cut : Int)) = (at_ : Int) + (cut : Int) := by rw [IntKind.wrap_i64]; omega
  have S2 : Hid (∀ w', Below w.heap.size w w' → Sl w' a2 D2) := fun w' hb => s2.bel hb
  have hb0 : Below w.heap.size w w := Below.refl _ _
  go_enter Try.func17, Try.ntmps17
  go_wp2
  have hx0 : Below w.heap.size w w.drew := hb0.drew
  have hJ := hid (join_c a1 ax c1 cx D1 put w.drew s1.drew hp.drew (by omega))
  go_region_held3 (fun w' => Below w.heap.size w w') (first | assumption | go_keep)
    (first | (go_at_call 21; refine hJ.out.mono ?_; rintro e w3 ⟨a3, c3, rfl, ho3, hb3⟩; have Ho3 := hid ho3; have hx3 : Below w.heap.size w w3 := bthen (by assumption) hb3; have hj3 : (D1 ++ put).length ≤ 35184372088300 := (by simp; omega))
               | (((refine step_appn rfl (.tmp 13) (.tmp 18) rfl w.heap.size a3 a2 _ D2.length c3 c2 (D1 ++ put) D2 rfl (by first | rfl | simp | omega) (Ho3.out.base_le (by simp)) rfl (by first | rfl | simp | omega) (S2.out _ (by assumption)) (by omega) (by have := hx3.size; assumption) ?_); intro a4 c4 w4 L4 Hl4 ho4 hb4 hk4 hA4; have HA4 := hid hA4; clear hA4; have Ho4 := hid ho4; clear ho4; have Hk4 := hid hk4; clear hk4; have hz4 := hb4.size); have hx4 : Below w.heap.size w w4 := Below.trans (by assumption) hb4))
  go_wp2
  go_ret
  have e4 : L4 = l.take at_ ++ put ++ l.drop (at_ + cut) := by rw [Hl4.out, HD1.out, HD2.out]
  exact ⟨a4, c4, L4, rfl, e4, by rw [e4], Ho4.out.sl, hx4⟩
set_option maxRecDepth 20000 in
set_option maxHeartbeats 40000000 in
theorem signs_w (a0 ap : Option Addr) (c0 cp : Nat) (S P : List Int) (x1 x2 : Int) (W : World) (h : Sl W a0 S) (hp : Sl W ap P) (hc : S.length ≤ c0) (hm : P.length ≤ 35184372088000) :
    Calls Try.prog 7 #[.slice a0 S.length c0, .int .i64 x1, .int .i64 x2, .slice ap P.length cp] W fun e w' => e = .returned (.bool true) ∧ Below W.heap.size W w' := by
  go_enter Try.func7, Try.ntmps7
  go_wp2_with fail
  refine (cut_c a0 c0 S 200 W h hc (by omega)).mono ?_
  rintro e w' ⟨a3, c3, L, rfl, hL, s3, hc3, rfl⟩
  have hl : L.length ≤ 200 := by rw [hL.out]; simp; omega
  clear hL h hc
  go_wp2_with fail
  refine (index_z x1 ((L.length : Int) + 1) (L.length + 1) W (by omega) (by omega) (by omega)).mono ?_
  rintro e w' ⟨⟨i, hi, rfl⟩, rfl⟩
  go_wp2_with fail
  refine (index_z x2 ((L.length : Int) - i + 1) (L.length - i + 1) W (by omega) (by omega) (by omega)).mono ?_
  rintro e w' ⟨⟨n, hn, rfl⟩, rfl⟩
  have hin : i + n ≤ L.length := by omega
  obtain ⟨a4, c4, D4, HD4, s4, -, r4⟩ := slice_mid s3 i (i + n) c3 (by omega) hin hc3
  simp only [Int.natCast_add] at r4
  have hd4 : D4.length = n := by rw [HD4.out]; simp; omega
  rw [hd4] at r4
  clear HD4 s4 hd4
  obtain ⟨V, hV⟩ : ∃ V, V = W.alloc (.cells #[.int .i64 (i : Int), .slice a4 n c4, .slice ap P.length cp] 24) := ⟨_, rfl⟩
  have hx : Below W.heap.size W V := by subst hV; (repeat' (first | exact Below.refl _ _ | assumption | refine bdrewN ?_ _ | refine Below.drew ?_ | refine bal ?_ _ | refine bthen ?_ (by assumption)))
  have hk := box_kept rfl hV
  have K := hid hk
  clear hk
  go_upto_region 5 with fail
  rw [← hV]; clear hV
  go_wp2_with fail
  refine (lsplice_b a3 ap c3 cp L P i n V (s3.bel hx) (hp.bel hx) hc3 (by omega) hm hin).mono ?_
  rintro e R ⟨a5, c5, T, rfl, hT, hTl, s5, hb5⟩
  have hTn : T.length + n = L.length + P.length := by rw [hTl]; simp; omega
  have hwR : Below W.heap.size W R := bthen hx hb5
  have SL := hid (s3.bel hwR)
  have S5 := hid s5
  have KR : Hid (∀ w', Below R.heap.size R w' → w'.cell? ⟨W.heap.size, 0, none⟩ = some (.int .i64 i) ∧ w'.cell? ⟨W.heap.size, 1, none⟩ = some (.slice a4 n c4) ∧ w'.cell? ⟨W.heap.size, 2, none⟩ = some (.slice ap P.length cp)) := fun w' hb => K.out _ (bthen hb5 hb)
  have HG : Hid (∀ k : Nat, k < L.length → (k < i ∨ i + n ≤ k) → ∃ q : Nat, mvG k i n P.length true = q ∧ q < T.length ∧ gt T q = gt L k) := by
    intro k hkl ho
    have hg := gt_splice (s := L) (put := P) (a := i) (n := n) (i := k) hin hkl ho
    refine ⟨if k < i then k else k + P.length - n, ?_, ?_, ?_⟩
    · rw [mvG_keep (by omega) (by omega) (by omega) (by omega)]
      split
      · rw [if_pos (by omega)]
      · rw [if_neg (by omega)]; omega
    · rw [hTl]; exact hg.2
    · rw [hT.out]; exact hg.1
  have hr : Below R.heap.size R R := Below.refl _ _
  clear K hT hTl s5 s3 hp hb5 hx
  go_wp2_with fail
  go_loopw [13, 14, 46] (fun _ _ iv wr => ∃ k : Nat, k ≤ L.length ∧ iv = .int .i64 k ∧ Below R.heap.size R wr) (fun _ _ iv _ => L.length - (intOf iv).toNat)
  case atStart => exact ⟨0, by omega, rfl, hr⟩
  case round =>
    obtain ⟨k, hk3, rfl, hb⟩ := hrel
    by_cases hlt : k < L.length
    · by_cases ho : k < i ∨ i + n ≤ k
      · obtain ⟨q, hq, hqT, hqe⟩ := HG.out k hlt ho
        have kk := KR.out _ hb
        obtain ⟨y0, y1, y2⟩ := kk
        have HQ := hid hq
        have hqE := hid hqe
        clear hq hqe
        rcases ho with ho | ho
        all_goals
          go_wp2_with fail
          refine (place_v wr (by omega) (by omega) HQ.out).mono ?_
          rintro e w1 ⟨rfl, hb1⟩
          have hb2 := bthen hb hb1
          obtain ⟨b5, o5, he5, hcT⟩ := (S5.out.bel hb2).at hqT
          obtain ⟨b3, o3, he3, hcL⟩ := (SL.out.bel (bthen hb hb1)).at hlt
          subst he5 he3
          have t5 := hcT q hqT
          have t3 := hcL k hlt
          rw [hqE.out] at t5
          generalize gt L k = z at t5 t3
          have u1 : decide ((q : Int) < 0) = false := by simp
          have u2 : decide ((T.length : Int) ≤ (q : Int)) = false := by simp; omega
          have u3 : decide (T.length ≤ q) = false := by simp; omega
          have u4 : (0 : Int) ≤ q := by omega
          have u5 : (q : Int) < T.length := by omega
          have u6 : (0 : Int) ≤ k := by omega
          have u7 : (k : Int) < L.length := by omega
          clear hcT hcL y0 y1 y2 hb1 hqE HQ
          go_wp2_with fail
          go_quiet (fail)
          go_wp2_with fail
          go_roundw
          case rel => exact ⟨k + 1, by omega, by go_num, bdrewN hb2 _⟩
          case measure => simp [intOf]; omega
      · have o1 : i ≤ k ∧ k < i + n := by omega
        clear ho
        go_wp2_with fail
        go_roundw
        case rel => exact ⟨k + 1, by omega, by go_num, hb⟩
        case measure => simp [intOf]; omega
    · obtain rfl : k = L.length := by omega
      clear hlt hk3
      have kk := KR.out _ hb
      obtain ⟨y0, y1, y2⟩ := kk
      have e1 : spF (i : Int) ((i : Int) + n) i n P.length 0 = i ∧ spT (i : Int) ((i : Int) + n) i n P.length 0 = (i : Int) + P.length := by
        obtain ⟨q1, q2⟩ := spF_how (f := (i : Int)) (t := (i : Int) + n) (a := i) (n := n) (m := P.length) (how := 0) (farG_no (by omega) (by omega)) (farG_no (by omega) (by omega)) (by omega)
        obtain ⟨q3, q4⟩ := spG_grows (a := (i : Int)) (n := n) (m := P.length) (by omega) (by omega)
        exact ⟨q1.trans q3, q2.trans q4⟩
      have e2 : spF (0 : Int) (L.length : Int) i n P.length 0 = 0 ∧ spT (0 : Int) (L.length : Int) i n P.length 0 = (T.length : Int) := by
        obtain ⟨q1, q2⟩ := spF_how (f := 0) (t := (L.length : Int)) (a := i) (n := n) (m := P.length) (how := 0) (farG_no (by omega) (by omega)) (farG_no (by omega) (by omega)) (by omega)
        obtain ⟨q3, q4⟩ := spG_all (a := (i : Int)) (n := n) (m := P.length) (l := L.length) (by omega) (by omega) (by omega)
        exact ⟨q1.trans q3, (q2.trans q4).trans (by omega)⟩
      have E1 := hid e1
      have E2 := hid e2
      clear e1 e2 HG S5 SL
      go_wp2_with fail
      refine (span_v _ _ _ _ _ _ _ _ _ _ _ (by omega) (by omega) E1.out).mono ?_
      rintro e w1 ⟨rfl, hb1⟩
      have hb2 : Below R.heap.size R (w1.alloc (.cells #[.int .i64 (i : Int), .int .i64 ((i : Int) + P.length)] 26)) := bal (bthen hb hb1) _
      have kk := KR.out _ hb2
      clear y0 y1 y2
      obtain ⟨y0, y1, y2⟩ := kk
      go_wp2_with fail
      refine (span_v _ _ _ _ _ _ _ _ _ _ _ (by omega) (by omega) E2.out).mono ?_
      rintro e w2 ⟨rfl, hb3⟩
      go_wp2_with fail
      refine (known_c w2).mono ?_
      rintro e w3 ⟨rfl, hb4⟩
      go_wp2_with fail
      go_ret
      exact ⟨rfl, bthen hwR (bthen hb2 (bthen hb3 hb4))⟩
end Go.Proofs.Ythciodfkhgpegaa
