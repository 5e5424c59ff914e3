/- The code's reader: a class behind its bracket (class). -/
import Derived.Test.YtefgjicegbhcaaaGreatRxe
import Derived.Deep.CutBlock
import Derived.Deep.DeepCutAuto
namespace Go.Proofs.YtefgjicegbhcaaaGreat
open Go.RowKit ReM

/-- what holds among a class's members -/
structure ClsAt (B : Nat) (w : World) (r : Nat) (a : Option Addr) (c : Nat) (p : List Int) (x y R N : Nat) (neg : Bool) (j : Nat) (e f : Int) (L : List Int) (aN : Option Addr) (dN : Nat) (wr : World) : Prop where
  len : L.length ≤ 20020
  own : Own wr (N + 1) aN dN L
  nd : NdC wr N 2 0 0 0 false neg (.slice aN L.length dN)
  res : NdC wr R 0 0 0 0 false false (.slice none 0 0)
  rd : Rdr B wr r a c p j x y e f
  kr : KR r w wr
theorem ClsAt.kr' {B : Nat} {w : World} {r : Nat} {a : Option Addr} {c : Nat} {p : List Int} {x y R N : Nat} {neg : Bool} {j : Nat} {e f : Int} {L : List Int} {aN : Option Addr} {dN : Nat} {wr w' : World} (h : ClsAt B w r a c p x y R N neg j e f L aN dN wr)
    (hR : r < R) (hN : R < N) (k : KR r wr w') {j' : Nat} {e' f' : Int} (h' : Rdr B w' r a c p j' x y e' f') : ClsAt B w r a c p x y R N neg j' e' f' L aN dN w' :=
  ⟨h.len, h.own.kr k (by omega), h.nd.kpt k (by omega), h.res.kpt k (by omega), h', h.kr.tr k⟩
theorem ClsAt.done {B : Nat} {w : World} {r : Nat} {a : Option Addr} {c : Nat} {p : List Int} {x y R N : Nat} {neg : Bool} {j : Nat} {e f : Int} {L : List Int} {aN : Option Addr} {dN : Nat} {wr : World} (h : ClsAt B w r a c p x y R N neg j e f L aN dN wr)
    (hR : w.heap.size ≤ R) (hN : R < N) (hB : B ≤ w.heap.size) (k d lo hi z n s : Value) : SetK r w L aN dN L (putN wr R k d lo hi z n s) ∧ Rdr B (putN wr R k d lo hi z n s) r a c p j x y e f := by
  refine ⟨⟨rfl, ?_, h.kr.putN R hR _ _ _ _ _ _ _⟩, h.rd.putN R (by omega) _ _ _ _ _ _ _⟩
  exact (h.own.stay fun q hq _ => putN_heap _ _ _ _ _ _ _ _ _ (by omega)).base_le (by omega)
def ClsP (X : Rc) (B : Nat) (w : World) (r : Nat) (a : Option Addr) (c : Nat) (p : List Int) (i x y : Nat) (neg : Bool) (e' : Ending) (w' : World) : Prop := match X with
  | .ok l s' => ∃ a2 c2 L, e' = .returned (nodV neg a2 L.length c2) ∧ l.length ≤ 20020 ∧ SetK r w l a2 c2 L w' ∧ ∃ j, i < j ∧ j ≤ p.length ∧ s' = p.drop j ∧ Rdr B w' r a c p j x y 0 0
  | .bad k => ∃ l a2 c2 L, e' = .returned (nodV neg a2 L.length c2) ∧ l.length ≤ 20020 ∧ SetK r w l a2 c2 L w' ∧ Rdr B w' r a c p p.length x y 5 k
theorem NdC.set6 {w : World} {R : Nat} {k d lo hi : Int} {z n : Bool} {s : Value} (h : NdC w R k d lo hi z n s) (s' : Value) : NdC (w.setCell ⟨R, 6, none⟩ s') R k d lo hi z n s' :=
  ⟨cell_set1 h.c0 (by decide), cell_set1 h.c1 (by decide), cell_set1 h.c2 (by decide), cell_set1 h.c3 (by decide), cell_set1 h.c4 (by decide), cell_set1 h.c5 (by decide), by rw [World.cell?_setCell_same (h := h.c6)], fun o => by rw [World.frozen?_setCell]; exact h.fz o⟩
theorem Rdr.setOff {B : Nat} {w : World} {r : Nat} {a : Option Addr} {c : Nat} {p : List Int} {i x y : Nat} {e f : Int} (h : Rdr B w r a c p i x y e f) (b o : Nat) (hb : B ≤ b) (v : Value) : Rdr B (w.setCell ⟨b, o, none⟩ v) r a c p i x y e f :=
  h.below ((Below.refl B w).setCell (by exact hb) v) (Nat.le_refl _)
theorem ClsAt.more {B : Nat} {w : World} {r : Nat} {a : Option Addr} {c : Nat} {p : List Int} {x y R N : Nat} {neg : Bool} {j : Nat} {e f : Int} {L : List Int} {aN : Option Addr} {dN : Nat} {wr : World} (h : ClsAt B w r a c p x y R N neg j e f L aN dN wr)
    (hR : w.heap.size ≤ R) (hN : R < N) (hB : B ≤ w.heap.size) {w7 : World} {a7 : Option Addr} {c7 : Nat} {L7 : List Int} (hb : Below (N + 1) wr w7) (ho : Own w7 (N + 1) a7 c7 L7) (hl : L7.length ≤ 20020) :
    ClsAt B w r a c p x y R N neg j e f L7 a7 c7 (w7.setCell ⟨N, 6, none⟩ (.slice a7 L7.length c7)) := by
  refine ⟨hl, ho.stay fun q hq _ => Below.heap_setCell _ _ _ _ (by show q ≠ N; omega), (h.nd.same (hb.block _ (by omega))).set6 _, (h.res.same (hb.block _ (by omega))).setO (by omega) _ _, ?_, ?_⟩
  · exact (h.rd.below hb (by omega)).setOff _ _ (by omega) _
  · exact (h.kr.bel hb (by omega)).setN _ _ (by omega) _
/-- the loop, from any place on -/
def Round (X : Rc) (B : Nat) (w : World) (r : Nat) (a : Option Addr) (c : Nat) (p : List Int) (i x y R N : Nat) (neg : Bool) (g : Nat) (wr : World) : Prop :=
  (∃ j L aN dN, g = p.length - j + 1 ∧ j ≤ p.length ∧ i ≤ j ∧ (L = [] → ∀ t, p.drop j ≠ 93 :: t) ∧ clsS CC p.length L (p.drop j) = X ∧ L.length ≤ 20 * j ∧ ClsAt B w r a c p x y R N neg j 0 0 L aN dN wr) ∨
  (∃ k L aN dN, X = .bad k ∧ ClsAt B w r a c p x y R N neg p.length 5 k L aN dN wr)
set_option maxHeartbeats 16000000 in
theorem class_c' (neg : Bool) (X : Rc) (i0 i : Nat) (B : Nat) (w : World) (r : Nat) (a : Option Addr) (c : Nat) (p : List Int) (x y : Nat) (h : Rdr B w r a c p i0 x y 0 0) (hT : Txt1 p) (hi0 : i0 ≤ i) (hi : i ≤ p.length)
    (hX : X = clsF CC p.length [] (p.drop i)) (hs : (neg = true ∧ nx p i0 = 94 ∧ i = i0 + 1) ∨ (neg = false ∧ nx p i0 ≠ 94 ∧ i = i0)) :
    Calls Tryz.prog 136 #[.pointer (some ⟨r, 0, none⟩)] w (ClsP X B w r a c p i x y neg) := by
  have hB := h.Bw
  have hrB := h.rB
  have hrw : r < w.heap.size := by omega
  have hl1 := hT.1
  obtain ⟨V, hV, nr, bV, zV⟩ := one_var w
  have TK : Hid (Calls Tryz.prog 99 #[.pointer (some ⟨r, 0, none⟩), .int .i32 94] V fun e' w' => e' = .returned (.bool neg) ∧ Rdr B w' r a c p i x y 0 0 ∧ KR r V w') := by
    rcases hs with ⟨rfl, h1, rfl⟩ | ⟨rfl, h1, rfl⟩
    · exact takes_yes 94 B V r a c p i0 x y 0 0 (h.bel bV) (by omega) hl1 h1
    · exact takes_no 94 B V r a c p i x y 0 0 (h.bel bV) hi h1
  have HX := hid hX
  clear h hX hs
  go_enter Tryz.func136, Tryz.ntmps136
  go_wp2_with fail
  rw [← hV]; clear hV
  refine TK.out.mono ?_
  rintro _ w1 ⟨rfl, h1, k1⟩
  have nr1 := nr.kpt k1 (by omega)
  have hz1 := k1.size
  obtain ⟨V1, hV1⟩ : ∃ V1, V1 = w1.alloc (.cells #[.int .i64 2, .int .i64 0, .int .i64 0, .int .i64 0, .bool false, .bool neg, .slice none 0 0] 128) := ⟨_, rfl⟩
  have nn : NdC V1 w1.heap.size 2 0 0 0 false neg (.slice none 0 0) := by subst hV1; exact NdC.new _ _ _ _ _ _ _ _ _ _ rfl
  have nr2 : NdC V1 w.heap.size 0 0 0 0 false false (.slice none 0 0) := by subst hV1; exact nr1.alloc _
  have h2 : Rdr B V1 r a c p i x y 0 0 := by subst hV1; exact h1.alloc _
  have k2 : KR r w V1 := by subst hV1; exact ((Kpt.of bV).tr k1).alloc _
  have zV1 : V1.heap.size = w1.heap.size + 1 := by subst hV1; simp
  have A0 := hid (show ClsAt B w r a c p x y w.heap.size w1.heap.size neg i 0 0 [] none 0 V1 from ⟨by simp, Own.nil _ _, nn, nr2, h2, k2⟩)
  have NX := hid (next_o B V1 r a c p i x y 0 0 h2 hi)
  have hRN : w.heap.size < w1.heap.size := by omega
  clear nr nr1 nr2 nn h1 h2 k1 k2 TK
  go_wp2_with fail
  rw [← hV1]; clear hV1
  refine NX.out.mono ?_
  rintro _ w2 ⟨rfl, h2, k2⟩
  have A1 := hid (A0.out.kr' (by omega) hRN k2 h2)
  clear h2 k2 A0 NX
  have Rn : Hid (∀ w', Rdr B w' r a c p i x y 0 0 → KR r w2 w' → nx p i ≠ 93 → Round X B w r a c p i x y w.heap.size w1.heap.size neg (p.length - i + 1) w') := fun w' h k hn =>
    .inl ⟨i, [], none, 0, rfl, hi, Nat.le_refl _, fun _ t e => hn (nx_drop e).2.1, by rw [HX.out, clsS_other (fun t e => hn (nx_drop e).2.1)], by simp, A1.out.kr' (by omega) hRN k h⟩
  have Rb : Hid (∀ w', Rdr B w' r a c p p.length x y 5 i → KR r w2 w' → nx p i = 93 → Round X B w r a c p i x y w.heap.size w1.heap.size neg (p.length - i + 1) w') := fun w' h k hn =>
    .inr ⟨i, [], none, 0, by
      have hil : i < p.length := by
        rcases Nat.lt_or_ge i p.length with h | h
        · exact h
        · rw [nx_end h] at hn; cases hn
      rw [HX.out, cls_round, drop_nx hil, hn]
      have e := at_drop p i hi
      rw [drop_nx hil, hn] at e
      simp [member, e], A1.out.kr' (by omega) hRN k h⟩
  have AR := hid A1.out.rd
  go_upto_if 9 with fail
  go_cut [] (fun wx => Round X B w r a c p i x y w.heap.size w1.heap.size neg (p.length - i + 1) wx)
  case first =>
    by_cases h93 : nx p i = 93
    · have b1 : (nx p i == 93) = true := by simpa using h93
      have R2 := hid (fun w' h k => Rb.out w' h k h93)
      clear Rn Rb h93
      have h3 := AR.out
      (have c0 := h3.c0; have c1 := h3.c1; have c2 := h3.c2; have c3 := h3.c3; have c4 := h3.c4; have c5 := h3.c5; have f1 := h3.fz 1; have f2 := h3.fz 2; have f3 := h3.fz 3; have f4 := h3.fz 4; have f5 := h3.fz 5; have rl := h3.lt; have Hh3 := hid h3; clear h3)
      go_wp2_with fail
      refine (fail_one 5 i B w2 r a c p i x y 0 AR.out).mono ?_
      rintro _ w3 ⟨rfl, h3, k3⟩
      have H3 := hid (R2.out w3 h3 k3)
      clear h3 k3
      go_wp2_with fail
      go_meet
      exact H3.out
    · have b1 : (nx p i == 93) = false := by simpa using h93
      have R2 := hid (Rn.out w2 AR.out (KR.refl _ _) h93)
      clear Rn Rb h93
      go_wp2_with fail
      go_meet
      exact R2.out
  case rest =>
    rename World => w3
    have R3 := hid hcut
    clear hcut Rn Rb AR A1 HX
    go_wp2_with fail
    go_loopg [] (p.length - i + 1) (fun g wr => Round X B w r a c p i x y w.heap.size w1.heap.size neg g wr)
    case atStart => exact R3.out
    case round =>
      rcases hrel with ⟨j, L, aN, dN, hg, hj, hij, hL93, hX, hL, hA⟩ | ⟨k, L, aN, dN, hX, hA⟩
      · have hz := hA.kr.size
        have h5 := hA.rd
        rcases Nat.lt_or_ge j p.length with hjl | hjl
        · by_cases h93 : nx p j = 93
          · have NX := hid (next_o B wr r a c p j x y 0 0 h5 hj)
            rw [h93] at NX
            have eX : X = .ok L (p.drop (j + 1)) := by rw [← hX, drop_nx hjl, h93]; rfl
            have HX := hid eX
            have HL := hid hL
            have hij1 : i < j + 1 := by omega
            have A5 := hid hA
            clear hA h5 R3 hX hL93 hL eX
            go_wp2_with fail
            refine NX.out.mono ?_
            rintro _ w4 ⟨rfl, h4, k4⟩
            have A4 := hid (A5.out.kr' (by omega) hRN k4 h4)
            clear h4 k4 NX A5
            go_wp2_with fail
            refine (needs_yes 93 B w4 r a c p j x y 0 0 A4.out.rd hjl hl1 h93).mono ?_
            rintro _ w6 ⟨rfl, h4, k4⟩
            have hA := A4.out.kr' (by omega) hRN k4 h4
            have A6 := hid hA
            have nn := hA.nd
            have rr := hA.res
            clear h4 k4 A4 hA h93
            (have n0 := nn.c0; have n1 := nn.c1; have n2 := nn.c2; have n3 := nn.c3; have n4 := nn.c4; have n5 := nn.c5; have n6 := nn.c6; have nf0 := nn.fz 0; have nf1 := nn.fz 1; have nf2 := nn.fz 2; have nf3 := nn.fz 3; have nf4 := nn.fz 4; have nf5 := nn.fz 5; have nf6 := nn.fz 6; have nz := nn.lt; clear nn)
            (have r0 := rr.c0; have r1 := rr.c1; have r2 := rr.c2; have r3 := rr.c3; have r4 := rr.c4; have r5 := rr.c5; have r6 := rr.c6; have rf0 := rr.fz 0; have rf1 := rr.fz 1; have rf2 := rr.fz 2; have rf3 := rr.fz 3; have rf4 := rr.fz 4; have rf5 := rr.fz 5; have rf6 := rr.fz 6; have rz := rr.lt; clear rr)
            go_wp2_with fail
            refine ret_nd Tryz.results136 rfl rfl (A6.out.res.putN 2 0 0 0 false neg _) ?_
            obtain ⟨d1, d2⟩ := A6.out.done (Nat.le_refl _) hRN hB (.int .i64 2) (.int .i64 0) (.int .i64 0) (.int .i64 0) (.bool false) (.bool neg) (.slice aN L.length dN)
            rw [HX.out]
            exact ⟨aN, dN, L, rfl, A6.out.len, d1, j + 1, hij1, by omega, rfl, d2⟩
          · have hge := hT.nxp hjl
            have hq1 : (nx p j == 93) = false := by simpa using h93
            have hq2 : (nx p j == -1) = false := by simp; omega
            have hq3 : (nx p j != 93) = true := by simpa using h93
            have hq4 : (nx p j != -1) = true := by simp; omega
            have NX := hid (fun w' h => next_o B w' r a c p j x y 0 0 h hj)
            have M := hid (fun w' h => member_c B w' r a c p j x y h hjl hT h93)
            have eX : X = match memC CC p.length (p.drop j) with | .bad k => .bad k | .ok m s' => clsS CC p.length (L ++ m) s' := by
              rw [← hX, clsS_other (fun t e => h93 (nx_drop e).2.1), cls_mem]
              cases memC CC p.length (p.drop j) <;> rfl
            have HX := hid eX
            have HL := hid hL
            have A5 := hid hA
            clear hA h5 R3 hX hL93 hL eX h93 hge
            generalize nx p j = q at *
            go_wp2_with fail
            refine (NX.out _ A5.out.rd).mono ?_
            rintro _ w4 ⟨rfl, h4, k4⟩
            have A4 := hid (A5.out.kr' (by omega) hRN k4 h4)
            clear h4 k4 A5
            go_wp2_with fail
            refine (NX.out _ A4.out.rd).mono ?_
            rintro _ w5 ⟨rfl, h4, k4⟩
            have A5 := hid (A4.out.kr' (by omega) hRN k4 h4)
            have hz5 := A5.out.nd.lt
            clear h4 k4 NX A4
            have nn := A5.out.nd
            (have n0 := nn.c0; have n1 := nn.c1; have n2 := nn.c2; have n3 := nn.c3; have n4 := nn.c4; have n5 := nn.c5; have n6 := nn.c6; have nf0 := nn.fz 0; have nf1 := nn.fz 1; have nf2 := nn.fz 2; have nf3 := nn.fz 3; have nf4 := nn.fz 4; have nf5 := nn.fz 5; have nf6 := nn.fz 6; have nz := nn.lt; clear nn)
            go_upto_region 5 with fail
            clear hq1 hq2 hq3 hq4
            cases hm : memC CC p.length (p.drop j) with
            | bad k =>
              go_region_law
                (first
                  | (go_simp; go_at_call 143; refine (M.out _ A5.out.rd.drew).mono ?_; rintro e v1 hx; unfold MemP at hx; rw [hm] at hx; obtain ⟨l6, a6, d6, L6, rfl, h20, ⟨hL6, ho6, k6⟩, h6⟩ := hx; have y6 := k6.size; have A6 := hid ((A5.out.kr' (by omega) hRN (Kpt.drew (KR.refl r w5)) A5.out.rd.drew).kr' (by omega) hRN k6 h6); have P6 := hid ho6; have HL20 := hid h20; clear h6 ho6 k6 h20; have nn := A6.out.nd; (have m0 := nn.c0; have m1 := nn.c1; have m2 := nn.c2; have m3 := nn.c3; have m4 := nn.c4; have m5 := nn.c5; have m6 := nn.c6; have mf0 := nn.fz 0; have mf1 := nn.fz 1; have mf2 := nn.fz 2; have mf3 := nn.fz 3; have mf4 := nn.fz 4; have mf5 := nn.fz 5; have mf6 := nn.fz 6; have mz := nn.lt; clear nn))
                  | (((refine step_appn rfl (.tmp 25) (.tmp 27) rfl (w1.heap.size + 1) aN a6 L.length L6.length dN d6 L L6 rfl (by first | rfl | simp | omega) A6.out.own rfl (by first | rfl | simp | omega) P6.out.sl (by have := HL20.out; have := A6.out.len; rw [hL6.out]; omega) (by have := A6.out.nd.lt; omega) ?_); intro a7 c7 w7 L7 Hl7 ho7 hb7 hk7 hA7; have HA7 := hid hA7; clear hA7; have Ho7 := hid ho7; clear ho7; have Hk7 := hid hk7; clear hk7; have hz7 := hb7.size); have nn := A6.out.nd.same (hb7.block _ (by omega)); (have o0 := nn.c0; have o1 := nn.c1; have o2 := nn.c2; have o3 := nn.c3; have o4 := nn.c4; have o5 := nn.c5; have o6 := nn.c6; have of0 := nn.fz 0; have of1 := nn.fz 1; have of2 := nn.fz 2; have of3 := nn.fz 3; have of4 := nn.fz 4; have of5 := nn.fz 5; have of6 := nn.fz 6; have oz := nn.lt; clear nn)))
              all_goals
                clear n0 n1 n2 n3 n4 n5 n6 nf0 nf1 nf2 nf3 nf4 nf5 nf6 m0 m1 m2 m3 m4 m5 m6 mf0 mf1 mf2 mf3 mf4 mf5 mf6
                clear o0 o1 o2 o3 o4 o5 o6 of0 of1 of2 of3 of4 of5 of6
                have A7 := hid (A6.out.more (Nat.le_refl _) hRN hB hb7 Ho7.out (by have := HL20.out; have := HL.out; rw [Hl7.out, List.length_append, hL6.out]; omega))
                have HB := hid (by rw [HX.out, hm] : X = .bad k)
                clear HX M
                go_wp2_with fail
                go_roundg 0
                case measure => omega
                case rel => exact .inr ⟨k, L7, a7, c7, HB.out, A7.out⟩
            | ok m6 s6 =>
              go_region_law
                (first
                  | (go_simp; go_at_call 143; refine (M.out _ A5.out.rd.drew).mono ?_; rintro e v1 hx; unfold MemP at hx; rw [hm] at hx; obtain ⟨a6, d6, L6, rfl, h20, ⟨hL6, ho6, k6⟩, j6, hj6, hjp6, hs6, h6⟩ := hx; have HS6 := hid hs6; clear hs6; have y6 := k6.size; have A6 := hid ((A5.out.kr' (by omega) hRN (Kpt.drew (KR.refl r w5)) A5.out.rd.drew).kr' (by omega) hRN k6 h6); have P6 := hid ho6; have HL20 := hid h20; clear h6 ho6 k6 h20; have nn := A6.out.nd; (have m0 := nn.c0; have m1 := nn.c1; have m2 := nn.c2; have m3 := nn.c3; have m4 := nn.c4; have m5 := nn.c5; have m6 := nn.c6; have mf0 := nn.fz 0; have mf1 := nn.fz 1; have mf2 := nn.fz 2; have mf3 := nn.fz 3; have mf4 := nn.fz 4; have mf5 := nn.fz 5; have mf6 := nn.fz 6; have mz := nn.lt; clear nn))
                  | (((refine step_appn rfl (.tmp 25) (.tmp 27) rfl (w1.heap.size + 1) aN a6 L.length L6.length dN d6 L L6 rfl (by first | rfl | simp | omega) A6.out.own rfl (by first | rfl | simp | omega) P6.out.sl (by have := HL20.out; have := A6.out.len; rw [hL6.out]; omega) (by have := A6.out.nd.lt; omega) ?_); intro a7 c7 w7 L7 Hl7 ho7 hb7 hk7 hA7; have HA7 := hid hA7; clear hA7; have Ho7 := hid ho7; clear ho7; have Hk7 := hid hk7; clear hk7; have hz7 := hb7.size); have nn := A6.out.nd.same (hb7.block _ (by omega)); (have o0 := nn.c0; have o1 := nn.c1; have o2 := nn.c2; have o3 := nn.c3; have o4 := nn.c4; have o5 := nn.c5; have o6 := nn.c6; have of0 := nn.fz 0; have of1 := nn.fz 1; have of2 := nn.fz 2; have of3 := nn.fz 3; have of4 := nn.fz 4; have of5 := nn.fz 5; have of6 := nn.fz 6; have oz := nn.lt; clear nn)))
              all_goals
                clear n0 n1 n2 n3 n4 n5 n6 nf0 nf1 nf2 nf3 nf4 nf5 nf6 m0 m1 m2 m3 m4 m5 m6 mf0 mf1 mf2 mf3 mf4 mf5 mf6
                clear o0 o1 o2 o3 o4 o5 o6 of0 of1 of2 of3 of4 of5 of6
                have hl7 : L7.length ≤ 20 * j6 := by have := HL20.out; have := HL.out; rw [Hl7.out, List.length_append, hL6.out]; omega
                have A7 := hid (A6.out.more (Nat.le_refl _) hRN hB hb7 Ho7.out (by omega))
                have HB := hid (by rw [HX.out, hm, Hl7.out, hL6.out, ← HS6.out] : X = clsS CC p.length L7 (p.drop j6))
                have HL7 := hid hl7
                have hne := hid (memC_ne hm)
                clear HX M hl7
                go_wp2_with fail
                go_roundg (p.length - j6 + 1)
                case measure => omega
                case rel => exact .inl ⟨j6, L7, a7, c7, rfl, hjp6, by omega, fun e => absurd e (by rw [Hl7.out, hL6.out]; exact fun h => hne.out (List.append_eq_nil_iff.1 h).2), HB.out.symm, HL7.out, A7.out⟩
        · obtain rfl : j = p.length := by omega
          have NX := hid (next_o B wr r a c p p.length x y 0 0 h5 (Nat.le_refl _))
          rw [nx_end (Nat.le_refl _)] at NX
          have eX : X = .bad p.length := by
            rw [← hX, drop_end (Nat.le_refl _), clsS_other (by intro t e; cases e), cls_round]
            simp [member, at_]
          have HX := hid eX
          have A5 := hid hA
          clear hA h5 R3 hX hL93 hL eX
          go_wp2_with fail
          refine NX.out.mono ?_
          rintro _ w4 ⟨rfl, h4, k4⟩
          have A4 := hid (A5.out.kr' (by omega) hRN k4 h4)
          clear h4 k4 NX A5
          have NX := hid (next_o B w4 r a c p p.length x y 0 0 A4.out.rd (Nat.le_refl _))
          rw [nx_end (Nat.le_refl _)] at NX
          go_wp2_with fail
          refine NX.out.mono ?_
          rintro _ w5 ⟨rfl, h4, k4⟩
          have A5 := hid (A4.out.kr' (by omega) hRN k4 h4)
          clear h4 k4 NX A4
          go_wp2_with fail
          refine (needs_no 93 B w5 r a c p p.length x y 0 A5.out.rd (Nat.le_refl _) (by rw [nx_end (Nat.le_refl _)]; decide)).mono ?_
          rintro _ w6 ⟨rfl, h4, k4⟩
          have hA := A5.out.kr' (by omega) hRN k4 h4
          have A6 := hid hA
          have nn := hA.nd
          have rr := hA.res
          clear h4 k4 A5 hA
          (have n0 := nn.c0; have n1 := nn.c1; have n2 := nn.c2; have n3 := nn.c3; have n4 := nn.c4; have n5 := nn.c5; have n6 := nn.c6; have nf0 := nn.fz 0; have nf1 := nn.fz 1; have nf2 := nn.fz 2; have nf3 := nn.fz 3; have nf4 := nn.fz 4; have nf5 := nn.fz 5; have nf6 := nn.fz 6; have nz := nn.lt; clear nn)
          (have r0 := rr.c0; have r1 := rr.c1; have r2 := rr.c2; have r3 := rr.c3; have r4 := rr.c4; have r5 := rr.c5; have r6 := rr.c6; have rf0 := rr.fz 0; have rf1 := rr.fz 1; have rf2 := rr.fz 2; have rf3 := rr.fz 3; have rf4 := rr.fz 4; have rf5 := rr.fz 5; have rf6 := rr.fz 6; have rz := rr.lt; clear rr)
          go_wp2_with fail
          refine ret_nd Tryz.results136 rfl rfl (A6.out.res.putN 2 0 0 0 false neg _) ?_
          obtain ⟨d1, d2⟩ := A6.out.done (Nat.le_refl _) hRN hB (.int .i64 2) (.int .i64 0) (.int .i64 0) (.int .i64 0) (.bool false) (.bool neg) (.slice aN L.length dN)
          rw [HX.out]
          exact ⟨L, aN, dN, L, rfl, A6.out.len, d1, d2⟩
      · have hz := hA.kr.size
        have h5 := hA.rd
        have NX := hid (next_o B wr r a c p p.length x y 5 k h5 (Nat.le_refl _))
        rw [nx_end (Nat.le_refl _)] at NX
        subst hX
        have A5 := hid hA
        clear hA h5 R3
        go_wp2_with fail
        refine NX.out.mono ?_
        rintro _ w4 ⟨rfl, h4, k4⟩
        have A4 := hid (A5.out.kr' (by omega) hRN k4 h4)
        clear h4 k4 NX A5
        have NX := hid (next_o B w4 r a c p p.length x y 5 k A4.out.rd (Nat.le_refl _))
        rw [nx_end (Nat.le_refl _)] at NX
        go_wp2_with fail
        refine NX.out.mono ?_
        rintro _ w5 ⟨rfl, h4, k4⟩
        have A5 := hid (A4.out.kr' (by omega) hRN k4 h4)
        clear h4 k4 NX A4
        go_wp2_with fail
        refine (needs_bad 93 B w5 r a c p x y 5 k A5.out.rd (by decide) (by decide)).mono ?_
        rintro _ w6 ⟨rfl, h4, k4⟩
        have hA := A5.out.kr' (by omega) hRN k4 h4
        have A6 := hid hA
        have nn := hA.nd
        have rr := hA.res
        clear h4 k4 A5 hA
        (have n0 := nn.c0; have n1 := nn.c1; have n2 := nn.c2; have n3 := nn.c3; have n4 := nn.c4; have n5 := nn.c5; have n6 := nn.c6; have nf0 := nn.fz 0; have nf1 := nn.fz 1; have nf2 := nn.fz 2; have nf3 := nn.fz 3; have nf4 := nn.fz 4; have nf5 := nn.fz 5; have nf6 := nn.fz 6; have nz := nn.lt; clear nn)
        (have r0 := rr.c0; have r1 := rr.c1; have r2 := rr.c2; have r3 := rr.c3; have r4 := rr.c4; have r5 := rr.c5; have r6 := rr.c6; have rf0 := rr.fz 0; have rf1 := rr.fz 1; have rf2 := rr.fz 2; have rf3 := rr.fz 3; have rf4 := rr.fz 4; have rf5 := rr.fz 5; have rf6 := rr.fz 6; have rz := rr.lt; clear rr)
        go_wp2_with fail
        refine ret_nd Tryz.results136 rfl rfl (A6.out.res.putN 2 0 0 0 false neg _) ?_
        obtain ⟨d1, d2⟩ := A6.out.done (Nat.le_refl _) hRN hB (.int .i64 2) (.int .i64 0) (.int .i64 0) (.int .i64 0) (.bool false) (.bool neg) (.slice aN L.length dN)
        exact ⟨L, aN, dN, L, rfl, A6.out.len, d1, d2⟩
end Go.Proofs.YtefgjicegbhcaaaGreat
