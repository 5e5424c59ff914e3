/- Walks of the laws of layer 1: SignsRuns. -/
import Derived.Test.YtfjcojkmlbaifaaSignsP
import Derived.Test.YtfjcojkmlbaifaaSignsT
namespace Go.Proofs.Ytfjcojkmlbaifaa
open Go.RowKit

theorem Own.cell {w : World} {base g c : Nat} {l : List Int} (h : Own w base (some ⟨g, 0, none⟩) c l) {i : Nat} (hi : i < l.length) : w.cell? ⟨g, i, none⟩ = some (.int .i32 (gt l i)) := by
  obtain ⟨b, o, he, hc⟩ := h.sl.at hi
  simp only [Option.some.injEq, Addr.mk.injEq, and_true] at he
  obtain ⟨rfl, rfl⟩ := he
  simpa using hc i hi
theorem Own.some_of {w : World} {base c : Nat} {a : Option Addr} {l : List Int} (h : Own w base a c l) {i : Nat} (hi : i < l.length) : ∃ g, a = some ⟨g, 0, none⟩ := by
  rcases h.shape with ⟨_, _, h0⟩ | ⟨g, h0, _⟩
  · subst h0; simp at hi
  · exact ⟨g, h0⟩
theorem both_len (l : List Int) : (pas up l).length = (pas lo l).length := by
  rw [pas, pas, pst_count, pst_count]
theorem both_zero {l : List Int} (h : 0 < (pas up l).length) : up (gt (pas lo l) 0) = gt (pas up l) 0 ∧ lo (gt (pas up l) 0) = gt (pas lo l) 0 := by
  rcases (pst_both l).2.1 with ⟨e, _⟩ | ⟨a, r, e1, e2⟩
  · rw [pas, e] at h; simp at h
  · rw [pas, pas, e1, e2]; simp [gt, up_lo, lo_up]
theorem both_more {l : List Int} {k : Nat} (h : 0 < k) : gt (pas lo l) k = gt (pas up l) k := by
  rcases (pst_both l).2.1 with ⟨e1, e2⟩ | ⟨a, r, e1, e2⟩
  · rw [pas, pas, e1, e2]
  · rw [pas, pas, e1, e2]
    cases k with
    | zero => omega
    | succ k => simp [gt]
theorem count_yes {l : List Int} {k : Nat} (hk : k < l.length) (h : runs (gt l k) = true) : (l.take (k + 1)).countP (runs · = true) = (l.take k).countP (runs · = true) + 1 := by
  rw [take_succ hk]; simp [h]
theorem count_no {l : List Int} {k : Nat} (hk : k < l.length) (h : runs (gt l k) = false) : (l.take (k + 1)).countP (runs · = true) = (l.take k).countP (runs · = true) := by
  rw [take_succ hk]; simp [h]

set_option maxHeartbeats 4000000 in
theorem runs_w (a1 : Option Addr) (c1 : Nat) (l1 : List Int) (x : Int) (w : World) (h1 : Sl w a1 l1) (hx : -2147483648 ≤ x ∧ x ≤ 2147483647) (hb : l1.length ≤ 1048576) :
    Calls Try.prog 7 #[.slice a1 l1.length c1, .int .i32 x] w (Holds w) := by
  have hPC := both_len l1
  have hPn : (pas up l1).length = l1.countP (runs · = true) := pst_count up l1
  have hPl : (pas up l1).length ≤ l1.length := pas_len up l1
  have hidem := pas_idem l1
  obtain ⟨P, hP⟩ : ∃ P, P = pas up l1 := ⟨_, rfl⟩
  obtain ⟨C, hC⟩ : ∃ C, C = pas lo l1 := ⟨_, rfl⟩
  rw [← hP] at hPC hPn hPl hidem
  rw [← hC] at hPC
  have HP := hid hP; have HC := hid hC; have HPC := hid hPC; have HPn := hid hPn; have Hidem := hid hidem
  clear hP hC hPC hPn hidem
  go_enter Try.func7, Try.ntmps7
  go_wp2
  go_loop [5, 15] (fun n i => ∃ k m : Nat, k ≤ l1.length ∧ m ≤ k ∧ i = .int .i64 k ∧ n = .int .i64 m ∧ Hid (m = (l1.take k).countP (runs · = true))) (fun _ i => l1.length - (intOf i).toNat)
  case atStart => exact ⟨0, 0, by omega, by omega, rfl, rfl, by simp [Hid]⟩
  case round =>
    obtain ⟨k, m, hk, hm, rfl, rfl, Hm⟩ := hrel
    by_cases hlt : k < l1.length
    · obtain ⟨b0, o0, rfl, hc⟩ := h1.at hlt
      have ck := hc k hlt
      clear hc
      have yes : runs (gt l1 k) = true → Hid (m + 1 = (l1.take (k + 1)).countP (runs · = true)) := fun h => by unfold Hid; rw [count_yes hlt h, Hm.out]
      have no : runs (gt l1 k) = false → Hid (m = (l1.take (k + 1)).countP (runs · = true)) := fun h => by unfold Hid; rw [count_no hlt h, Hm.out]
      rw [runs_of] at yes no
      cases h3 : (cls (gt l1 k) == 3) with
      | false =>
        have Hm2 := no (by rw [h3]; rfl)
        clear yes no
        go_wp2_with (go_at_call 24; (with_reducible refine (class_c _ _).mono ?_); rintro e w' ⟨rfl, rfl⟩)
        go_round
        case rel => exact ⟨k + 1, m, by omega, by omega, by go_num, rfl, Hm2⟩
        case measure => simp [intOf]; omega
      | true =>
        cases h95 : (gt l1 k != 95) with
        | false =>
          have Hm2 := no (by rw [h3, h95]; rfl)
          clear yes no
          go_wp2_with (go_at_call 24; (with_reducible refine (class_c _ _).mono ?_); rintro e w' ⟨rfl, rfl⟩)
          go_round
          case rel => exact ⟨k + 1, m, by omega, by omega, by go_num, rfl, Hm2⟩
          case measure => simp [intOf]; omega
        | true =>
          have Hm2 := yes (by rw [h3, h95]; rfl)
          clear yes no
          go_wp2_with (go_at_call 24; (with_reducible refine (class_c _ _).mono ?_); rintro e w' ⟨rfl, rfl⟩)
          go_round
          case rel => exact ⟨k + 1, m + 1, by omega, by omega, by go_num, by go_num, Hm2⟩
          case measure => simp [intOf]; omega
    · have hmP : m = P.length := by rw [Hm.out, HPn.out, List.take_of_length_le (by omega)]
      subst hmP
      go_wp2_with fail
      have e4 : cas l1 4 = P := HP.out.symm
      refine (case_c _ _ _ _ _ h1).mono ?_
      rintro e w2 ⟨a2, c2, rfl, hown2, hbel2⟩
      rw [e4] at hown2 ⊢
      have Ho2 := hid hown2; clear hown2
      go_wp2_with fail
      have e5 : cas l1 5 = C := HC.out.symm
      refine (case_c _ _ _ _ _ (h1.bel hbel2)).mono ?_
      rintro e w3 ⟨a3, c3, rfl, hown3, hbel3⟩
      rw [e5] at hown3 ⊢
      have Ho3 := hid hown3; clear hown3 e4 e5
      have q1 : ((C.length : Int) != (P.length : Int)) = false := by rw [HPC.out]; simp
      have s2 := Ho2.out.sl.bel hbel3
      go_wp2_with fail
      refine (case_c _ _ _ _ _ s2).mono ?_
      rintro e w4 ⟨a4, c4, rfl, hown4, hbel4⟩
      have e6 : cas P 4 = P := Hidem.out
      rw [e6] at hown4 ⊢
      have Ho4 := hid hown4; clear hown4 e6
      have e7 := eqM_self P
      go_wp2_with fail
      refine (same_c _ _ _ _ _ _ _ Ho4.out.sl (s2.bel hbel4)).mono ?_
      rintro e w' ⟨rfl, n4, rfl⟩
      rw [e7]
      clear q1 s2
      have oP : Own (w4.drewN n4) w.heap.size a2 c2 P := ((Ho2.out.grow hbel3).grow hbel4).drewN n4
      have oC : Own (w4.drewN n4) w.heap.size a3 c3 C := ((Ho3.out.base_le hbel2.size).grow hbel4).drewN n4
      have bV : Below w.heap.size w (w4.drewN n4) := bdrewN (bthen (bthen hbel2 hbel3) hbel4) n4
      generalize w4.drewN n4 = V at *
      have OP := hid oP; have OC := hid oC
      clear oP oC
      go_wp2
      go_loopw [52] (fun i wr => ∃ k : Nat, k ≤ P.length ∧ i = .int .i64 k ∧ Below V.heap.size V wr) (fun i _ => P.length - (intOf i).toNat)
      case atStart => exact ⟨0, by omega, rfl, Below.refl _ _⟩
      case round =>
        obtain ⟨k, hk, rfl, hbr⟩ := hrel
        by_cases hlt2 : k < P.length
        · obtain ⟨gp, rfl⟩ := OP.out.some_of hlt2
          obtain ⟨gc, rfl⟩ := OC.out.some_of (i := k) (by have := HPC.out; omega)
          have hltC : k < C.length := by have := HPC.out; omega
          have p0 : 0 < P.length := by omega
          have c0 : 0 < C.length := by omega
          by_cases hk0 : k = 0
          · have f1 : ((k : Int) == 0) = true := by simpa using hk0
            have f2 : decide (0 < k) = false := by simp [hk0]
            have f3 : (up (gt C 0) != gt P 0) = false := by rw [HC.out, HP.out, (both_zero (by rw [← HP.out]; exact p0)).1]; simp
            have f4 : (lo (gt P 0) != gt C 0) = false := by rw [HC.out, HP.out, (both_zero (by rw [← HP.out]; exact p0)).2]; simp
            have d1 := (OP.out.grow hbr).cell p0
            have d2 := (OC.out.grow hbr).cell c0
            have rp := rng_gt OP.out.2.1 p0
            have rc := rng_gt OC.out.2.1 c0
            clear hk0
            go_wp2
            go_quiet ((first | (go_at_call 22; exact Calls.quiet_of_same ((upper_c _ _ rc).mono fun e w' h => ⟨h.1, h.2.symm⟩)) | (go_at_call 23; exact Calls.quiet_of_same ((lower_c _ _ rp).mono fun e w' h => ⟨h.1, h.2.symm⟩))))
            go_wp2
            go_roundw
            case rel => exact ⟨k + 1, by omega, by go_num, bdrewN hbr _⟩
            case measure => simp [intOf]; omega
          · have f1 : ((k : Int) == 0) = false := by simpa using hk0
            have f2 : decide (0 < k) = true := by simp; omega
            have f3 : (gt C k != gt P k) = false := by rw [HC.out, HP.out, both_more (by omega)]; simp
            have d1 := (OP.out.grow hbr).cell hlt2
            have d2 := (OC.out.grow hbr).cell hltC
            clear hk0
            go_wp2
            go_quiet (fail)
            go_wp2
            go_roundw
            case rel => exact ⟨k + 1, by omega, by go_num, bdrewN hbr _⟩
            case measure => simp [intOf]; omega
        · have b5 : Below w.heap.size w wr := bthen bV hbr
          have sP : Sl wr a2 P := OP.out.sl.bel hbr
          clear bV
          have t1 := h1.bel b5
          have hx1 : rng [45, x, 45] := rng_cons (by omega) (rng_cons hx (rng_one (by omega)))
          by_cases hx3 : cls x = 3
          · have hx3' : (cls x != 3) = false := by simpa using hx3
            clear hx3
            go_wp2_with (first | (at_builtin; (refine wpL_appn rfl (.const (.slice none 0 0)) (.tmp 93) rfl wr.heap.size none a1 0 l1.length 0 c1 [] l1 rfl (by first | rfl | simp) (Own.nil _ _) rfl (by first | rfl | simp) t1 (by simp; omega) (Nat.le_refl _) ?_); intro a5 c5 w5 L5 Hl5 ho5 hb5; have Ho5 := hid ho5; clear ho5; have hz5 := hb5.size) | (at_builtin; (refine wpL_appn rfl (.tmp 94) (.tmp 96) rfl wr.heap.size a5 (some ⟨w5.heap.size, 0, none⟩) L5.length 3 c5 3 L5 [45, x, 45] rfl (by first | rfl | simp) (Ho5.out.alloc _) rfl (by first | rfl | simp) (Sl.lit' w5 [45, x, 45] _ _ rfl (by simp) hx1 _ rfl) (by rw [Hl5.out]; simp; omega) (by simp; omega) ?_); intro a6 c6 w6 L6 Hl6 ho6 hb6; have Ho6 := hid ho6; clear ho6; have hz6 := hb6.size) | (at_builtin; (refine wpL_appn rfl (.tmp 97) (.tmp 98) rfl wr.heap.size a6 a1 L6.length l1.length c6 c1 L6 l1 rfl (by first | rfl | simp) Ho6.out rfl (by first | rfl | simp) (t1.bel ((bal hb5 _).trans hb6)) (by rw [Hl6.out, Hl5.out]; simp; omega) (by simp at hz6; omega) ?_); intro a7 c7 w7 L7 Hl7 ho7 hb7; have Ho7 := hid ho7; clear ho7; have hz7 := hb7.size) | (go_at_call 24; (with_reducible refine (class_c _ _).mono ?_); rintro e w' ⟨rfl, rfl⟩))
            refine (known_c _).mono ?_
            rintro e w12 ⟨rfl, hb12⟩
            go_wp2
            go_ret
            exact ⟨rfl, bthen (bthen b5 (((bal hb5 _).trans hb6).trans hb7)) hb12⟩
          · have hx3' : (cls x != 3) = true := by simpa using hx3
            have Hx3 := hid hx3
            clear hx3
            go_wp2_with (first | (at_builtin; (refine wpL_appn rfl (.const (.slice none 0 0)) (.tmp 93) rfl wr.heap.size none a1 0 l1.length 0 c1 [] l1 rfl (by first | rfl | simp) (Own.nil _ _) rfl (by first | rfl | simp) t1 (by simp; omega) (Nat.le_refl _) ?_); intro a5 c5 w5 L5 Hl5 ho5 hb5; have Ho5 := hid ho5; clear ho5; have hz5 := hb5.size) | (at_builtin; (refine wpL_appn rfl (.tmp 94) (.tmp 96) rfl wr.heap.size a5 (some ⟨w5.heap.size, 0, none⟩) L5.length 3 c5 3 L5 [45, x, 45] rfl (by first | rfl | simp) (Ho5.out.alloc _) rfl (by first | rfl | simp) (Sl.lit' w5 [45, x, 45] _ _ rfl (by simp) hx1 _ rfl) (by rw [Hl5.out]; simp; omega) (by simp; omega) ?_); intro a6 c6 w6 L6 Hl6 ho6 hb6; have Ho6 := hid ho6; clear ho6; have hz6 := hb6.size) | (at_builtin; (refine wpL_appn rfl (.tmp 97) (.tmp 98) rfl wr.heap.size a6 a1 L6.length l1.length c6 c1 L6 l1 rfl (by first | rfl | simp) Ho6.out rfl (by first | rfl | simp) (t1.bel ((bal hb5 _).trans hb6)) (by rw [Hl6.out, Hl5.out]; simp; omega) (by simp at hz6; omega) ?_); intro a7 c7 w7 L7 Hl7 ho7 hb7; have Ho7 := hid ho7; clear ho7; have hz7 := hb7.size) | (go_at_call 24; (with_reducible refine (class_c _ _).mono ?_); rintro e w' ⟨rfl, rfl⟩) | (at_builtin; (refine wpL_appn rfl (.const (.slice none 0 0)) (.tmp 103) rfl w7.heap.size none a2 0 P.length 0 c2 [] P rfl (by first | rfl | simp) (Own.nil _ _) rfl (by first | rfl | simp) (sP.bel (((bal hb5 _).trans hb6).trans hb7)) (by simp; omega) (Nat.le_refl _) ?_); intro a8 c8 w8 L8 Hl8 ho8 hb8; have Ho8 := hid ho8; clear ho8; have hz8 := hb8.size) | (at_builtin; (refine wpL_appn rfl (.tmp 104) (.tmp 105) rfl w7.heap.size a8 a2 L8.length P.length c8 c2 L8 P rfl (by first | rfl | simp) Ho8.out rfl (by first | rfl | simp) (sP.bel ((((bal hb5 _).trans hb6).trans hb7).trans (hb8.mono (by simp at hz6; omega)))) (by rw [Hl8.out]; simp; omega) hz8 ?_); intro a9 c9 w9 L9 Hl9 ho9 hb9; have Ho9 := hid ho9; clear ho9; have hz9 := hb9.size))
            have b7 : Below wr.heap.size wr w7 := ((bal hb5 _).trans hb6).trans hb7
            have b9 : Below wr.heap.size wr w9 := b7.trans ((hb8.trans hb9).mono b7.size)
            have e7 : L7 = (l1 ++ [45, x, 45]) ++ l1 := by rw [Hl7.out, Hl6.out, Hl5.out]; rfl
            have e9 : L9 = P ++ P := by rw [Hl9.out, Hl8.out]; rfl
            have E7 := hid e7; have E9 := hid e9
            clear e7 e9
            refine (case_c _ _ _ _ _ (Ho7.out.sl.bel (hb8.trans hb9))).mono ?_
            rintro e w10 ⟨a10, c10, rfl, hown10, hbel10⟩
            have Ho10 := hid hown10; clear hown10
            go_wp2_with fail
            refine (same_c _ _ _ _ _ _ _ Ho10.out.sl (Ho9.out.sl.bel hbel10)).mono ?_
            rintro e w' ⟨rfl, n11, rfl⟩
            have he : eqM (cas L7 4) L9 = true := by rw [E9.out, E7.out, HP.out]; show eqM (pas up _) _ = true; rw [pas_twice l1 x Hx3.out]; exact eqM_self _
            rw [he]
            go_wp2_with fail
            refine (known_c _).mono ?_
            rintro e w12 ⟨rfl, hb12⟩
            go_wp2
            go_ret
            exact ⟨rfl, bthen (bthen b5 (bdrewN (bthen b9 hbel10) n11)) hb12⟩
end Go.Proofs.Ytfjcojkmlbaifaa
