/- The document's Parse (dparse_c). -/
import Derived.Test.YtniilphbbcbpcaaDrm
import Derived.Test.YtniilphbbcbpcaaRxn
namespace Go.Proofs.Ytniilphbbcbpcaa
open Go.RowKit ReM

theorem pw_ok {p : List Int} (h60 : ¬ 60 < p.length) (hf : p.length ≤ fbad p) : parseW p = parse CC p := by
  unfold parseW; rw [if_neg h60, if_neg (by omega)]
set_option maxRecDepth 20000 in
set_option maxHeartbeats 16000000 in
theorem dparse_c (a : Option Addr) (c : Nat) (p : List Int) (w : World) (h : Sl w a p) (hc : p.length ≤ c) :
    Calls Try.prog 18 #[.slice a p.length c] w (ParseP w (parseW p)) := by
  have hlen := h.len
  obtain ⟨X, hX⟩ : ∃ X, X = parseW p := ⟨_, rfl⟩
  rw [← hX]
  have HX := hid hX
  obtain ⟨V, hV⟩ : ∃ V, V = w.alloc (.cells #[.int .i64 0, .int .i64 0] 42) := ⟨_, rfl⟩
  have bV : Hid (Below w.heap.size w V) := by subst hV; exact ((Below.refl _ _).alloc (Nat.le_refl _) _)
  have F0 : Hid (FtC V w.heap.size 0 0) := by subst hV; exact FtC.new _ _ _ _ _ rfl
  have zV : V.heap.size = w.heap.size + 1 := by subst hV; simp
  have HS := hid (h.bel bV.out)
  clear hX h
  by_cases h60 : 60 < p.length
  · have HX := hid (HX.out.trans (show parseW p = ([], 3, 60) by unfold parseW; rw [if_pos h60]))
    have b1 : decide ((60 : Int) < (p.length : Int)) = true := decide_eq_true (by omega)
    have g := F0.out
    have g0 := g.c0
    have g1 := g.c1
    have g2 := g.fz 0
    have g3 := g.fz 1
    clear g h60 hc hlen
    go_enter Try.func18, Try.ntmps18
    go_upto_region 1 with fail
    rw [← hV]; clear hV
    go_wp2_with fail
    refine ret_tf Try.results18 rfl rfl rfl (F0.out.put 3 60) ?_
    rw [HX.out]
    exact ⟨none, 0, [], rfl, rfl, ROwn.nil _ _, Sets.nil _ _, Sml.nil _ _, (bV.out.setCell (by exact Nat.le_refl _) _).setCell (by exact Nat.le_refl _) _⟩
  · have b1 : decide ((60 : Int) < (p.length : Int)) = false := decide_eq_false (by omega)
    have hfl := fbad_le p
    obtain ⟨K, hK⟩ : ∃ K, K = fbad p := ⟨_, rfl⟩
    have HK := hid hK
    rw [← hK] at hfl
    clear hK
    go_enter Try.func18, Try.ntmps18
    go_upto_region 1 with fail
    rw [← hV]; clear hV
    go_wp2_with fail
    go_loopw [4] (fun iv wr => ∃ k : Nat, k ≤ K ∧ iv = .int .i64 k ∧ V = wr) (fun iv _ => p.length - (intOf iv).toNat)
    case atStart => exact ⟨0, by omega, rfl, rfl⟩
    case round =>
      obtain ⟨k, hk, rfl, rfl⟩ := hrel
      by_cases hlt : k < p.length
      · obtain ⟨b, off, rfl, hcs⟩ := HS.out.at hlt
        have ck := hcs k hlt
        clear hcs
        by_cases hkK : k = K
        · have hs : sgn (gt p k) = false := by rw [hkK, HK.out]; exact fbad_at (by have := HK.out; omega)
          have E := hid (HX.out.trans (show parseW p = ([], 1, (k : Int)) by unfold parseW; rw [if_neg h60, if_pos (by rw [← HK.out]; omega), ← HK.out, hkK]))
          have g := F0.out
          have g0 := g.c0
          have g1 := g.c1
          have g2 := g.fz 0
          have g3 := g.fz 1
          clear hkK hk g h60
          go_wp2_with (go_at_call 31; refine (rsign_c _ _).mono ?_; rintro _ w9 ⟨rfl, rfl⟩; rw [hs])
          refine ret_tf Try.results18 rfl rfl rfl (F0.out.put 1 k) ?_
          rw [E.out]
          exact ⟨none, 0, [], rfl, rfl, ROwn.nil _ _, Sets.nil _ _, Sml.nil _ _, (bV.out.setCell (by exact Nat.le_refl _) _).setCell (by exact Nat.le_refl _) _⟩
        · have hs : sgn (gt p k) = true := fbad_lt (by rw [← HK.out]; omega)
          have Hk1 := hid (show k + 1 ≤ K by omega)
          clear hkK hk h60
          go_wp2_with (go_at_call 31; refine (rsign_c _ _).mono ?_; rintro _ w9 ⟨rfl, rfl⟩; rw [hs])
          go_roundw
          case rel => exact ⟨k + 1, Hk1.out, by go_num, by first | rfl | trivial⟩
          case measure => simp [intOf]; omega
      · have hfb : p.length ≤ fbad p := by rw [← HK.out]; omega
        have HX := hid (HX.out.trans (pw_ok h60 hfb))
        have HT : Hid (Txt1 p) := ⟨by omega, sgn_txt (fbad_all hfb)⟩
        obtain ⟨r, hr⟩ : ∃ r, r = V.heap.size := ⟨_, rfl⟩
        obtain ⟨V2, hV2⟩ : ∃ V2, V2 = V.alloc (.cells #[.slice a p.length c, .int .i64 0, .int .i64 0, .int .i64 0, .int .i64 0, .int .i64 0] 66) := ⟨_, rfl⟩
        have R0 : Rdr (r + 1) V2 r a c p 0 0 0 0 0 := by rw [hV2]; exact Rdr.new _ a c p HS.out hc _ _ hr
        have F2 : Hid (FtC V2 w.heap.size 0 0) := by rw [hV2]; exact F0.out.bel ((Below.refl _ _).alloc (Nat.le_refl _) _)
        have K0 : Hid (Below w.heap.size w V2) := by rw [hV2]; exact bV.out.alloc (by omega) _
        have z2 : V2.heap.size = r + 1 := by rw [hV2, hr]; simp
        have hrw : w.heap.size < r := by omega
        have PC := hid (dpat_all (r + 1) r a c p HT.out (4 * p.length + 8) V2 0 0 0 R0 (by omega) (by omega) (by omega) (by omega))
        have hkn : k = p.length := by omega
        subst hkn
        clear hfb HK F0 bV R0 hlt hfl
        go_upto_region 9 with fail
        rw [← hV2, show w.heap.size + 1 = r by omega]
        clear hV2 hr HS hk
        go_wp2_with fail
        refine PC.out.mono ?_
        rintro e2 w2 hx
        clear PC
        cases hA : altP CC p.length (4 * p.length + 8) (p.drop 0) 0 0 with
        | bad e f =>
          rw [hA] at hx
          obtain ⟨a2, d2, L, j, y, rfl, ho, hs, he, hj, h4, k4⟩ := hx
          have E := hid (HX.out.trans (parse_bad hA))
          have K2 := hid (k4.below (B := w.heap.size) (fun q hq => by omega) (by omega))
          have F3 := hid (F2.out.kpt k4 (by omega))
          have zk := k4.size
          have H4 := hid h4
          have He := hid he
          clear ho hs h4 k4 hA he HX F2
          go_wp2_with fail; refine (dok_no (r + 1) _ r a c p j y 0 e f He.out H4.out).mono ?_; rintro _ w5 ⟨rfl, h5, k5⟩; have H5 := hid h5; have K5 := hid k5; clear h5 k5
          go_wp2_with fail; refine (dok_no (r + 1) _ r a c p j y 0 e f He.out H5.out).mono ?_; rintro _ w6 ⟨rfl, h6, k6⟩; have H6 := hid h6; have K6 := hid k6; clear h6 k6
          have k56 := K5.out.tr K6.out
          have K3 := hid (k56.below (B := w.heap.size) (fun q hq => by omega) (by have := k56.size; omega))
          have F4 := F3.out.kpt k56 (by omega)
          have F5 := hid F4
          have m0 := F4.c0
          have m1 := F4.c1
          have m2 := F4.fz 0
          have m3 := F4.fz 1
          have m4 := F4.lt
          have h6 := H6.out
          clear F4 F3 k56 K5 K6
          (have c0 := h6.c0; have c1 := h6.c1; have c2 := h6.c2; have c3 := h6.c3; have c4 := h6.c4; have c5 := h6.c5; have f1 := h6.fz 1; have f2 := h6.fz 2; have f3 := h6.fz 3; have f4 := h6.fz 4; have f5 := h6.fz 5; have rl := h6.lt; have Hh6 := hid h6; clear h6)
          go_upto_region 13 with fail
          go_region
          all_goals
            go_wp2_with fail
            refine ret_tf Try.results18 rfl rfl rfl (FtC.put (e := 0) (f := 0) (w := w6.drew) ?_ e f) ?_
            · exact F5.out.same rfl
            · rw [E.out]
              exact ⟨none, 0, [], rfl, rfl, ROwn.nil _ _, Sets.nil _ _, Sml.nil _ _, (((K0.out.trans K2.out).trans K3.out).drew.setCell (by exact Nat.le_refl _) _).setCell (by exact Nat.le_refl _) _⟩
        | ok l s1 g1 =>
          rw [hA] at hx
          obtain ⟨a2, d2, L, j, rfl, hrn, ho, hS, hij, hjn, hs, hs1, hg1, h4, k4⟩ := hx
          rw [hs1] at hA
          have E := hid (HX.out.trans (parse_ok' hA))
          have zk := k4.size
          have K2 := hid (k4.below (B := w.heap.size) (fun q hq => by omega) (by omega))
          have F3 := hid (F2.out.kpt k4 (by omega))
          have Ho := hid ho
          have HSs := hid hS
          have Hs := hid hs
          have Hrn := hid hrn
          have H4 := hid h4
          clear ho hS hs h4 k4 hA HX F2 hs1 hrn
          go_wp2_with fail; refine (dok_yes (r + 1) _ r a c p j g1 0 0 H4.out).mono ?_; rintro _ w5 ⟨rfl, h5, k5⟩; have H5 := hid h5; have K5 := hid k5; clear h5 k5
          have h5 := H5.out
          by_cases hjl : p.length ≤ j
          · obtain rfl : j = p.length := by omega
            have E := hid (E.out.trans (if_pos (Nat.le_refl _)))
            have b2 : decide ((p.length : Int) < (p.length : Int)) = false := decide_eq_false (by omega)
            (have c0 := h5.c0; have c1 := h5.c1; have c2 := h5.c2; have c3 := h5.c3; have c4 := h5.c4; have c5 := h5.c5; have f1 := h5.fz 1; have f2 := h5.fz 2; have f3 := h5.fz 3; have f4 := h5.fz 4; have f5 := h5.fz 5; have rl := h5.lt; have Hh5 := hid h5; clear h5)
            go_wp2_with fail
            clear rl c0 c1 c2 c3 c4 c5 f1 f2 f3 f4 f5
            refine (dok_yes (r + 1) _ r a c p p.length g1 0 0 H5.out).mono ?_
            rintro _ w6 ⟨rfl, h6, k6⟩
            have k56 := K5.out.tr k6
            have K3 := hid (k56.below (B := w.heap.size) (fun q hq => by omega) (by have := k56.size; omega))
            have F4 := F3.out.kpt k56 (by omega)
            have F5 := hid F4
            have O5 := hid (Ho.out.kr k56 (by omega))
            have S5 := hid (HSs.out.kr k56 (by omega))
            have m0 := F4.c0
            have m1 := F4.c1
            have m2 := F4.fz 0
            have m3 := F4.fz 1
            have m4 := F4.lt
            clear F4 F3 k56 K5 k6 h6 Hh5
            go_wp2_with fail
            refine ret_tf Try.results18 rfl rfl rfl (F5.out.put 0 0) ?_
            rw [E.out]
            refine ⟨a2, d2, L, rfl, Hrn.out, ?_, ?_, Hs.out.mono (by omega) (by omega), (((K0.out.trans K2.out).trans K3.out).setCell (by exact Nat.le_refl _) _).setCell (by exact Nat.le_refl _) _⟩
            · refine (O5.out.stay fun q hq _ => ?_).base_le (by omega)
              exact (Below.heap_setCell _ _ _ _ (by show q ≠ w.heap.size; omega)).trans (Below.heap_setCell _ _ _ _ (by show q ≠ w.heap.size; omega))
            · refine (S5.out.stay fun q hq _ => ?_).base_le (by omega)
              exact (Below.heap_setCell _ _ _ _ (by show q ≠ w.heap.size; omega)).trans (Below.heap_setCell _ _ _ _ (by show q ≠ w.heap.size; omega))
          · have E := hid (E.out.trans (if_neg hjl))
            have b2 : decide ((j : Int) < (p.length : Int)) = true := decide_eq_true (by omega)
            (have c0 := h5.c0; have c1 := h5.c1; have c2 := h5.c2; have c3 := h5.c3; have c4 := h5.c4; have c5 := h5.c5; have f1 := h5.fz 1; have f2 := h5.fz 2; have f3 := h5.fz 3; have f4 := h5.fz 4; have f5 := h5.fz 5; have rl := h5.lt; have Hh5 := hid h5; clear h5)
            go_wp2_with fail
            clear rl c0 c1 c2 c3 c4 c5 f1 f2 f3 f4 f5
            refine (dbad_one 5 j (r + 1) _ r a c p j g1 0 0 H5.out).mono ?_
            rintro _ w6 ⟨rfl, h6, k6⟩
            have H6 := hid h6
            have K6 := hid k6
            clear h6 k6 Hh5
            go_wp2_with fail; refine (dok_no (r + 1) _ r a c p j g1 0 5 j (by decide) H6.out).mono ?_; rintro _ w7 ⟨rfl, h7, k7⟩; have H7 := hid h7; have K7 := hid k7; clear h7 k7
            have k57 := (K5.out.tr K6.out).tr K7.out
            have K3 := hid (k57.below (B := w.heap.size) (fun q hq => by omega) (by have := k57.size; omega))
            have F4 := F3.out.kpt k57 (by omega)
            have F5 := hid F4
            have m0 := F4.c0
            have m1 := F4.c1
            have m2 := F4.fz 0
            have m3 := F4.fz 1
            have m4 := F4.lt
            have h7 := H7.out
            clear F4 F3 k57 K5 K6 K7
            (have c0 := h7.c0; have c1 := h7.c1; have c2 := h7.c2; have c3 := h7.c3; have c4 := h7.c4; have c5 := h7.c5; have f1 := h7.fz 1; have f2 := h7.fz 2; have f3 := h7.fz 3; have f4 := h7.fz 4; have f5 := h7.fz 5; have rl := h7.lt; have Hh7 := hid h7; clear h7)
            go_upto_region 13 with fail
            go_region
            all_goals
              go_wp2_with fail
              refine ret_tf Try.results18 rfl rfl rfl (FtC.put (e := 0) (f := 0) (w := w7.drew) ?_ 5 j) ?_
              · exact F5.out.same rfl
              · rw [E.out]
                exact ⟨none, 0, [], rfl, rfl, ROwn.nil _ _, Sets.nil _ _, Sml.nil _ _, (((K0.out.trans K2.out).trans K3.out).drew.setCell (by exact Nat.le_refl _) _).setCell (by exact Nat.le_refl _) _⟩
end Go.Proofs.Ytniilphbbcbpcaa
