/- The document's own answer for a variable: the UUID. -/
import Derived.Test.YtijhkpbnalnpbaaDoorRw
import Derived.Test.YtijhkpbnalnpbaaDoorVw
namespace Go.Proofs.YtijhkpbnalnpbaaDoor
open Go.RowKit

def sepU (i : Nat) : List Int := if i = 8 then [45] else if i = 18 then [45] else if i = 12 then [45, 52] else if i = 15 then [45, 56] else []
def uuidP (h : List Int) : Nat → List Int
  | 0 => []
  | i + 1 => uuidP h i ++ sepU i ++ [gt h i]
theorem uuidP_len (h : List Int) : ∀ i, (uuidP h i).length ≤ 3 * i
  | 0 => by simp [uuidP]
  | i + 1 => by
    have := uuidP_len h i
    have h2 : (sepU i).length ≤ 2 := by unfold sepU; repeat' split
                                        all_goals simp
    simp only [uuidP, List.length_append, List.length_cons, List.length_nil]; omega
theorem range_gt {h : List Int} {n : Nat} (hl : h.length = n) : h = (List.range n).map (gt h) := by
  apply List.ext_getElem
  · simp [hl]
  · intro i h1 h2; simp [gt_get h1]
theorem uuid_eq {h : List Int} (hl : h.length = 30) : uuidP h 30 = uuidL h := by
  have e := range_gt hl
  generalize gt h = g at e
  rw [e]
  simp [uuidP, uuidL, sepU, List.range_succ, gt]
set_option maxHeartbeats 8000000 in
set_option maxRecDepth 100000 in
theorem ruuid_c (m : En) (u : Nat) (w : World) (hm : Hid (EnOk w m)) (hd : Hid (drE m.dl = true)) (hu : u ≤ 4000) : Calls Tryd.prog 29 #[.agg (enC m), .int .i64 u] w (Makes w (uuidL (hexesL m u 5))) := by
  have HX0 := hid (BoxAt.new w m 26)
  have DR : Hid (∀ (v : Nat) w, Hid (EnOk w m) → v ≤ 5000 → Calls Tryd.prog 27 #[.agg #[.slice m.a0 m.t0.length m.c0, .slice m.a1 m.t1.length m.c1, .slice m.a2 m.t2.length m.c2, .slice m.a3 m.t3.length m.c3, .slice m.a4 m.t4.length m.c4, .slice m.a5 m.t5.length m.c5, .int .i64 m.ix, .int .i64 m.k0, .int .i64 m.k1, .int .i64 m.k2, .int .i64 m.k3, .int .i64 m.k4, .int .i64 m.k5, .int .i64 m.k6, .slice m.da m.dl.length m.dc], .int .i64 v] w fun e w' => e = .returned (.int .i64 (drw m v)) ∧ Below w.heap.size w w') := hid fun v w h1 h2 => rdraw_c m v w h1 hd h2
  simp only [enC] at HX0 ⊢
  go_enter Tryd.func29, Tryd.ntmps29
  go_wp2
  have hb00 : Hid (Below w.heap.size w (w.alloc (.cells #[.slice m.a0 m.t0.length m.c0, .slice m.a1 m.t1.length m.c1, .slice m.a2 m.t2.length m.c2, .slice m.a3 m.t3.length m.c3, .slice m.a4 m.t4.length m.c4, .slice m.a5 m.t5.length m.c5, .int .i64 m.ix, .int .i64 m.k0, .int .i64 m.k1, .int .i64 m.k2, .int .i64 m.k3, .int .i64 m.k4, .int .i64 m.k5, .int .i64 m.k6, .slice m.da m.dl.length m.dc] 26))) := hid (bal (Below.refl _ _) _)
  have hz00 : (w.alloc (.cells #[.slice m.a0 m.t0.length m.c0, .slice m.a1 m.t1.length m.c1, .slice m.a2 m.t2.length m.c2, .slice m.a3 m.t3.length m.c3, .slice m.a4 m.t4.length m.c4, .slice m.a5 m.t5.length m.c5, .int .i64 m.ix, .int .i64 m.k0, .int .i64 m.k1, .int .i64 m.k2, .int .i64 m.k3, .int .i64 m.k4, .int .i64 m.k5, .int .i64 m.k6, .slice m.da m.dl.length m.dc] 26)).heap.size = w.heap.size + 1 := by simp
  generalize w.alloc (.cells #[.slice m.a0 m.t0.length m.c0, .slice m.a1 m.t1.length m.c1, .slice m.a2 m.t2.length m.c2, .slice m.a3 m.t3.length m.c3, .slice m.a4 m.t4.length m.c4, .slice m.a5 m.t5.length m.c5, .int .i64 m.ix, .int .i64 m.k0, .int .i64 m.k1, .int .i64 m.k2, .int .i64 m.k3, .int .i64 m.k4, .int .i64 m.k5, .int .i64 m.k6, .slice m.da m.dl.length m.dc] 26) = W0 at HX0 hb00 hz00 ⊢
  go_loopw [5, 7] (fun hv kv wr => ∃ (k : Nat) (a : Option Addr) (c : Nat) (L : List Int), k ≤ 5 ∧ kv = .int .i64 k ∧ hv = .slice a L.length c ∧ Hid (L = hexesL m u k) ∧ L.length ≤ 30 ∧ Hid (Own wr W0.heap.size a c L) ∧ Hid (Below W0.heap.size W0 wr) ∧ W0.heap.size ≤ wr.heap.size) (fun _ kv _ => 5 - (intOf kv).toNat)
  case atStart => exact ⟨0, none, 0, [], by omega, rfl, rfl, rfl, by simp, hid (Own.nil _ _), hid (Below.refl _ _), Nat.le_refl _⟩
  case round =>
    obtain ⟨k, a, c, L, hk, rfl, rfl, hL, hLl, ho, hb, hz⟩ := hrel
    by_cases hlt : k < 5
    · have b1 : decide (k < 5) = true := by simpa using hlt
      have HX1 := hid (HX0.out.bel (by omega) hb.out)
      have d0 : wr.cell? ⟨w.heap.size, 0, none⟩ = some (.slice m.a0 m.t0.length m.c0) := (HX1.out).c 0 _ rfl
      have d1 : wr.cell? ⟨w.heap.size, 1, none⟩ = some (.slice m.a1 m.t1.length m.c1) := (HX1.out).c 1 _ rfl
      have d2 : wr.cell? ⟨w.heap.size, 2, none⟩ = some (.slice m.a2 m.t2.length m.c2) := (HX1.out).c 2 _ rfl
      have d3 : wr.cell? ⟨w.heap.size, 3, none⟩ = some (.slice m.a3 m.t3.length m.c3) := (HX1.out).c 3 _ rfl
      have d4 : wr.cell? ⟨w.heap.size, 4, none⟩ = some (.slice m.a4 m.t4.length m.c4) := (HX1.out).c 4 _ rfl
      have d5 : wr.cell? ⟨w.heap.size, 5, none⟩ = some (.slice m.a5 m.t5.length m.c5) := (HX1.out).c 5 _ rfl
      have d6 : wr.cell? ⟨w.heap.size, 6, none⟩ = some (.int .i64 m.ix) := (HX1.out).c 6 _ rfl
      have d7 : wr.cell? ⟨w.heap.size, 7, none⟩ = some (.int .i64 m.k0) := (HX1.out).c 7 _ rfl
      have d8 : wr.cell? ⟨w.heap.size, 8, none⟩ = some (.int .i64 m.k1) := (HX1.out).c 8 _ rfl
      have d9 : wr.cell? ⟨w.heap.size, 9, none⟩ = some (.int .i64 m.k2) := (HX1.out).c 9 _ rfl
      have d10 : wr.cell? ⟨w.heap.size, 10, none⟩ = some (.int .i64 m.k3) := (HX1.out).c 10 _ rfl
      have d11 : wr.cell? ⟨w.heap.size, 11, none⟩ = some (.int .i64 m.k4) := (HX1.out).c 11 _ rfl
      have d12 : wr.cell? ⟨w.heap.size, 12, none⟩ = some (.int .i64 m.k5) := (HX1.out).c 12 _ rfl
      have d13 : wr.cell? ⟨w.heap.size, 13, none⟩ = some (.int .i64 m.k6) := (HX1.out).c 13 _ rfl
      have d14 : wr.cell? ⟨w.heap.size, 14, none⟩ = some (.slice m.da m.dl.length m.dc) := (HX1.out).c 14 _ rfl
      have hbw := hid (hb00.out.trans (hb.out.mono hb00.out.size))
      have e1 : IntKind.i64.wrap ((u : Int) + (k : Int)) = ((u + k : Nat) : Int) := by rw [IntKind.wrap_i64]; omega
      go_wp2_with fail
      refine (DR.out (u + k) wr (hid (hm.out.bel hbw.out)) (by omega)).mono ?_
      rintro e w3 ⟨rfl, hb3⟩
      clear d0 d1 d2 d3 d4 d5 d6 d7 d8 d9 d10 d11 d12 d13 d14
      go_wp2_with fail
      refine (rhex_c (drw m (u + k)) w3 (drw_lt hd.out _)).mono ?_
      rintro e w4 ⟨a4, c4, rfl, ho4, hb4⟩
      have hz3 := hb3.size
      have hz4 := hb4.size
      have hb34 := hid (hb3.trans (hb4.mono hb3.size))
      have Ho := hid ((ho.out.grow hb34.out))
      have So4 := hid ho4.sl
      have hx6 : (digs 16 6 (drw m (u + k))).length = 6 := digs_len _ _ _
      have hN : Hid (hexesL m u k ++ digs 16 6 (drw m (u + k)) = hexesL m u (k + 1)) := rfl
      clear hb3 hb4 ho4
      generalize hX : digs 16 6 (drw m (u + k)) = X at So4 hx6 hN
      have HX6 := hid hx6
      clear hx6
      have hxl : X.length ≤ 6 := by have := HX6.out; omega
      go_wp2_with (at_builtin; (refine wpL_appn rfl (.tmp 13) (.tmp 19) rfl W0.heap.size a a4 L.length X.length c c4 L X rfl (by first | rfl | simp | omega) Ho.out rfl (by first | rfl | simp | omega) So4.out (by omega) (by omega) ?_); intro a5 c5 w5 L5 Hl5 ho5 hb5 hk5 hA5; have HA5 := hid hA5; clear hA5; have Ho5 := hid ho5; clear ho5; have Hk5 := hid hk5; clear hk5; have hz5 := hb5.size)
      have hL5 : Hid (L5 = hexesL m u (k + 1)) := hid (by rw [Hl5.out, hL.out]; exact hN.out)
      have hl5 : L5.length ≤ 30 := by rw [hL5.out, hexesL_len]; omega
      have hb6 : Hid (Below W0.heap.size W0 w5) := hid ((hb.out.trans (hb34.out.mono hz)).trans hb5)
      go_roundw
      case rel => exact ⟨k + 1, a5, c5, L5, by omega, by go_num, rfl, hL5, hl5, Ho5, hb6, hb6.out.size⟩
      case measure => simp [intOf]; omega
    · have Hk5 : Hid (k = 5) := hid (by omega)
      have b1 : decide ((k : Int) < 5) = false := by simp; omega
      rw [Hk5.out] at hL
      have hb2 := hid (hb00.out.trans (hb.out.mono hb00.out.size))
      have SH : Hid (Sl wr a L) := hid ho.out.sl
      have hl30 : Hid (L.length = 30) := hid (by rw [hL.out, hexesL_len])
      have hz2 : w.heap.size ≤ wr.heap.size := hb2.out.size
      clear hlt hk ho hb hz HX0 DR
      go_wp2
      rename World => V
      go_loopw [6, 8] (fun ov iv wr => ∃ (i : Nat) (a6 : Option Addr) (c6 : Nat) (L6 : List Int), i ≤ L.length ∧ iv = .int .i64 i ∧ ov = .slice a6 L6.length c6 ∧ Hid (L6 = uuidP L i) ∧ L6.length ≤ 90 ∧ Hid (Own wr V.heap.size a6 c6 L6) ∧ Hid (Below V.heap.size V wr) ∧ V.heap.size ≤ wr.heap.size) (fun _ iv _ => L.length - (intOf iv).toNat)
      case atStart => exact ⟨0, none, 0, [], by omega, rfl, rfl, rfl, by simp, hid (Own.nil _ _), hid (Below.refl _ _), Nat.le_refl _⟩
      case round =>
        obtain ⟨i, a6, c6, L6, hi, rfl, rfl, hL6, hLl6, Ho, hb6, hz6⟩ := hrel
        by_cases hlt : i < L.length
        · have hlb : decide (i < L.length) = true := by simpa using hlt
          have hl31 : L.length ≤ 30 := hLl
          have sw := SH.out.bel hb6.out
          have hrg := rng_gt sw.rng hlt
          obtain ⟨b, o, ha, hcell⟩ := sw.at hlt
          have ck := hcell i hlt
          subst ha
          have hPl := hid (uuidP_len L (i + 1))
          have HC : Hid (∀ W, Below V.heap.size V W → W.cell? ⟨b, o + i, none⟩ = some (.int .i32 (gt L i))) := hid fun W hW => by
            obtain ⟨b', o', ha', hcell'⟩ := (SH.out.bel hW).at hlt
            simp only [Option.some.injEq, Addr.mk.injEq, and_true] at ha'
            obtain ⟨rfl, rfl⟩ := ha'
            exact hcell' i hlt
          clear hcell sw
          by_cases h8 : i = 8 ∨ i = 18 ∨ i = 12 ∨ i = 15
          · rcases h8 with h8 | h8 | h8 | h8
            · have hS : Hid (sepU i = [45]) := hid (by unfold sepU; simp [h8])
              have b8 : ((i : Int) == 8) = true := by simp; omega
              clear h8
              go_wp2_with (first | ((at_builtin; (refine wpL_appn rfl (.tmp 31) (.tmp 32) rfl V.heap.size a6 (some ⟨wr.heap.size, 0, none⟩) L6.length 1 c6 1 L6 [45] rfl (by first | rfl | simp | omega) (Ho.out.grow (by (repeat' (first | exact Below.refl _ _ | assumption | refine bdrewN ?_ _ | refine Below.drew ?_ | refine bal ?_ _ | refine bthen ?_ (by assumption))))) rfl (by first | rfl | simp | omega) (Sl.lit' _ [45] _ _ (by simp) (by simp) (by simp [rng]) _ rfl) (by simp; omega) (by simp; omega) ?_); intro a7 c7 w7 L7 Hl7 ho7 hb7 hk7 hA7; have HA7 := hid hA7; clear hA7; have Ho7 := hid ho7; clear ho7; have Hk7 := hid hk7; clear hk7; have hz7 := hb7.size); have hl7 : L7.length ≤ 92 := (by rw [Hl7.out]; simp; omega); have hb67 := hid ((hb6.out.alloc hz6 (.cells #[.int .i32 45] 21)).trans hb7); have hz67 := hb67.out.size; have ck7 := HC.out _ hb67.out) | (at_builtin; (refine wpL_appn rfl (.tmp 44) (.tmp 49) rfl V.heap.size a7 (some ⟨w7.heap.size, 0, none⟩) L7.length 1 c7 1 L7 [gt L i] rfl (by first | rfl | simp | omega) (Ho7.out.grow (by (repeat' (first | exact Below.refl _ _ | assumption | refine bdrewN ?_ _ | refine Below.drew ?_ | refine bal ?_ _ | refine bthen ?_ (by assumption))))) rfl (by first | rfl | simp | omega) (Sl.lit' _ [gt L i] _ _ (by simp) (by simp) (rng_one hrg) _ rfl) (by simp; omega) (by simp; omega) ?_); intro a9 c9 w9 L9 Hl9 ho9 hb9 hk9 hA9; have HA9 := hid hA9; clear hA9; have Ho9 := hid ho9; clear ho9; have Hk9 := hid hk9; clear hk9; have hz9 := hb9.size))
              have hL9 : Hid (L9 = uuidP L (i + 1)) := hid (by rw [Hl9.out, Hl7.out, hL6.out, uuidP, hS.out])
              have hl9 : L9.length ≤ 90 := by rw [hL9.out]; have := hPl.out; omega
              have hbz : Hid (Below V.heap.size V w9) := hid ((hb67.out.alloc hz67 _).trans hb9)
              go_roundw
              case rel => exact ⟨i + 1, a9, c9, L9, by omega, by go_num, rfl, hL9, hl9, Ho9, hbz, hbz.out.size⟩
              case measure => simp [intOf]; omega
            · have hS : Hid (sepU i = [45]) := hid (by unfold sepU; simp [h8])
              have b8 : ((i : Int) == 8) = false := by simp; omega
              have b18 : ((i : Int) == 18) = true := by simp; omega
              clear h8
              go_wp2_with (first | ((at_builtin; (refine wpL_appn rfl (.tmp 31) (.tmp 32) rfl V.heap.size a6 (some ⟨wr.heap.size, 0, none⟩) L6.length 1 c6 1 L6 [45] rfl (by first | rfl | simp | omega) (Ho.out.grow (by (repeat' (first | exact Below.refl _ _ | assumption | refine bdrewN ?_ _ | refine Below.drew ?_ | refine bal ?_ _ | refine bthen ?_ (by assumption))))) rfl (by first | rfl | simp | omega) (Sl.lit' _ [45] _ _ (by simp) (by simp) (by simp [rng]) _ rfl) (by simp; omega) (by simp; omega) ?_); intro a7 c7 w7 L7 Hl7 ho7 hb7 hk7 hA7; have HA7 := hid hA7; clear hA7; have Ho7 := hid ho7; clear ho7; have Hk7 := hid hk7; clear hk7; have hz7 := hb7.size); have hl7 : L7.length ≤ 92 := (by rw [Hl7.out]; simp; omega); have hb67 := hid ((hb6.out.alloc hz6 (.cells #[.int .i32 45] 21)).trans hb7); have hz67 := hb67.out.size; have ck7 := HC.out _ hb67.out) | (at_builtin; (refine wpL_appn rfl (.tmp 44) (.tmp 49) rfl V.heap.size a7 (some ⟨w7.heap.size, 0, none⟩) L7.length 1 c7 1 L7 [gt L i] rfl (by first | rfl | simp | omega) (Ho7.out.grow (by (repeat' (first | exact Below.refl _ _ | assumption | refine bdrewN ?_ _ | refine Below.drew ?_ | refine bal ?_ _ | refine bthen ?_ (by assumption))))) rfl (by first | rfl | simp | omega) (Sl.lit' _ [gt L i] _ _ (by simp) (by simp) (rng_one hrg) _ rfl) (by simp; omega) (by simp; omega) ?_); intro a9 c9 w9 L9 Hl9 ho9 hb9 hk9 hA9; have HA9 := hid hA9; clear hA9; have Ho9 := hid ho9; clear ho9; have Hk9 := hid hk9; clear hk9; have hz9 := hb9.size))
              have hL9 : Hid (L9 = uuidP L (i + 1)) := hid (by rw [Hl9.out, Hl7.out, hL6.out, uuidP, hS.out])
              have hl9 : L9.length ≤ 90 := by rw [hL9.out]; have := hPl.out; omega
              have hbz : Hid (Below V.heap.size V w9) := hid ((hb67.out.alloc hz67 _).trans hb9)
              go_roundw
              case rel => exact ⟨i + 1, a9, c9, L9, by omega, by go_num, rfl, hL9, hl9, Ho9, hbz, hbz.out.size⟩
              case measure => simp [intOf]; omega
            · have hS : Hid (sepU i = [45, 52]) := hid (by unfold sepU; simp [h8])
              have b8 : ((i : Int) == 8) = false := by simp; omega
              have b18 : ((i : Int) == 18) = false := by simp; omega
              have b12 : ((i : Int) == 12) = true := by simp; omega
              clear h8
              go_wp2_with (first | ((at_builtin; (refine wpL_appn rfl (.tmp 36) (.tmp 37) rfl V.heap.size a6 (some ⟨wr.heap.size, 0, none⟩) L6.length 2 c6 2 L6 [45, 52] rfl (by first | rfl | simp | omega) (Ho.out.grow (by (repeat' (first | exact Below.refl _ _ | assumption | refine bdrewN ?_ _ | refine Below.drew ?_ | refine bal ?_ _ | refine bthen ?_ (by assumption))))) rfl (by first | rfl | simp | omega) (Sl.lit' _ [45, 52] _ _ (by simp) (by simp) (by simp [rng]) _ rfl) (by simp; omega) (by simp; omega) ?_); intro a7 c7 w7 L7 Hl7 ho7 hb7 hk7 hA7; have HA7 := hid hA7; clear hA7; have Ho7 := hid ho7; clear ho7; have Hk7 := hid hk7; clear hk7; have hz7 := hb7.size); have hl7 : L7.length ≤ 92 := (by rw [Hl7.out]; simp; omega); have hb67 := hid ((hb6.out.alloc hz6 (.cells #[.int .i32 45, .int .i32 52] 21)).trans hb7); have hz67 := hb67.out.size; have ck7 := HC.out _ hb67.out) | (at_builtin; (refine wpL_appn rfl (.tmp 44) (.tmp 49) rfl V.heap.size a7 (some ⟨w7.heap.size, 0, none⟩) L7.length 1 c7 1 L7 [gt L i] rfl (by first | rfl | simp | omega) (Ho7.out.grow (by (repeat' (first | exact Below.refl _ _ | assumption | refine bdrewN ?_ _ | refine Below.drew ?_ | refine bal ?_ _ | refine bthen ?_ (by assumption))))) rfl (by first | rfl | simp | omega) (Sl.lit' _ [gt L i] _ _ (by simp) (by simp) (rng_one hrg) _ rfl) (by simp; omega) (by simp; omega) ?_); intro a9 c9 w9 L9 Hl9 ho9 hb9 hk9 hA9; have HA9 := hid hA9; clear hA9; have Ho9 := hid ho9; clear ho9; have Hk9 := hid hk9; clear hk9; have hz9 := hb9.size))
              have hL9 : Hid (L9 = uuidP L (i + 1)) := hid (by rw [Hl9.out, Hl7.out, hL6.out, uuidP, hS.out])
              have hl9 : L9.length ≤ 90 := by rw [hL9.out]; have := hPl.out; omega
              have hbz : Hid (Below V.heap.size V w9) := hid ((hb67.out.alloc hz67 _).trans hb9)
              go_roundw
              case rel => exact ⟨i + 1, a9, c9, L9, by omega, by go_num, rfl, hL9, hl9, Ho9, hbz, hbz.out.size⟩
              case measure => simp [intOf]; omega
            · have hS : Hid (sepU i = [45, 56]) := hid (by unfold sepU; simp [h8])
              have b8 : ((i : Int) == 8) = false := by simp; omega
              have b18 : ((i : Int) == 18) = false := by simp; omega
              have b12 : ((i : Int) == 12) = false := by simp; omega
              have b15 : ((i : Int) == 15) = true := by simp; omega
              clear h8
              go_wp2_with (first | ((at_builtin; (refine wpL_appn rfl (.tmp 41) (.tmp 42) rfl V.heap.size a6 (some ⟨wr.heap.size, 0, none⟩) L6.length 2 c6 2 L6 [45, 56] rfl (by first | rfl | simp | omega) (Ho.out.grow (by (repeat' (first | exact Below.refl _ _ | assumption | refine bdrewN ?_ _ | refine Below.drew ?_ | refine bal ?_ _ | refine bthen ?_ (by assumption))))) rfl (by first | rfl | simp | omega) (Sl.lit' _ [45, 56] _ _ (by simp) (by simp) (by simp [rng]) _ rfl) (by simp; omega) (by simp; omega) ?_); intro a7 c7 w7 L7 Hl7 ho7 hb7 hk7 hA7; have HA7 := hid hA7; clear hA7; have Ho7 := hid ho7; clear ho7; have Hk7 := hid hk7; clear hk7; have hz7 := hb7.size); have hl7 : L7.length ≤ 92 := (by rw [Hl7.out]; simp; omega); have hb67 := hid ((hb6.out.alloc hz6 (.cells #[.int .i32 45, .int .i32 56] 21)).trans hb7); have hz67 := hb67.out.size; have ck7 := HC.out _ hb67.out) | (at_builtin; (refine wpL_appn rfl (.tmp 44) (.tmp 49) rfl V.heap.size a7 (some ⟨w7.heap.size, 0, none⟩) L7.length 1 c7 1 L7 [gt L i] rfl (by first | rfl | simp | omega) (Ho7.out.grow (by (repeat' (first | exact Below.refl _ _ | assumption | refine bdrewN ?_ _ | refine Below.drew ?_ | refine bal ?_ _ | refine bthen ?_ (by assumption))))) rfl (by first | rfl | simp | omega) (Sl.lit' _ [gt L i] _ _ (by simp) (by simp) (rng_one hrg) _ rfl) (by simp; omega) (by simp; omega) ?_); intro a9 c9 w9 L9 Hl9 ho9 hb9 hk9 hA9; have HA9 := hid hA9; clear hA9; have Ho9 := hid ho9; clear ho9; have Hk9 := hid hk9; clear hk9; have hz9 := hb9.size))
              have hL9 : Hid (L9 = uuidP L (i + 1)) := hid (by rw [Hl9.out, Hl7.out, hL6.out, uuidP, hS.out])
              have hl9 : L9.length ≤ 90 := by rw [hL9.out]; have := hPl.out; omega
              have hbz : Hid (Below V.heap.size V w9) := hid ((hb67.out.alloc hz67 _).trans hb9)
              go_roundw
              case rel => exact ⟨i + 1, a9, c9, L9, by omega, by go_num, rfl, hL9, hl9, Ho9, hbz, hbz.out.size⟩
              case measure => simp [intOf]; omega
          · have b8 : ((i : Int) == 8) = false := by simp; omega
            have b18 : ((i : Int) == 18) = false := by simp; omega
            have b12 : ((i : Int) == 12) = false := by simp; omega
            have b15 : ((i : Int) == 15) = false := by simp; omega
            have hS : Hid (sepU i = []) := hid (by unfold sepU; rw [if_neg (by omega), if_neg (by omega), if_neg (by omega), if_neg (by omega)])
            clear h8
            go_wp2_with (first | (at_builtin; (refine wpL_appn rfl (.tmp 44) (.tmp 49) rfl V.heap.size a6 (some ⟨wr.heap.size, 0, none⟩) L6.length 1 c6 1 L6 [gt L i] rfl (by first | rfl | simp | omega) (Ho.out.grow (by (repeat' (first | exact Below.refl _ _ | assumption | refine bdrewN ?_ _ | refine Below.drew ?_ | refine bal ?_ _ | refine bthen ?_ (by assumption))))) rfl (by first | rfl | simp | omega) (Sl.lit' _ [gt L i] _ _ (by simp) (by simp) (rng_one hrg) _ rfl) (by simp; omega) (by simp; omega) ?_); intro a9 c9 w9 L9 Hl9 ho9 hb9 hk9 hA9; have HA9 := hid hA9; clear hA9; have Ho9 := hid ho9; clear ho9; have Hk9 := hid hk9; clear hk9; have hz9 := hb9.size))
            have hL9 : Hid (L9 = uuidP L (i + 1)) := hid (by rw [Hl9.out, hL6.out, uuidP, hS.out]; simp)
            have hl9 : L9.length ≤ 90 := by rw [hL9.out]; have := hPl.out; omega
            have hbz : Hid (Below V.heap.size V w9) := hid ((hb6.out.alloc hz6 _).trans hb9)
            go_roundw
            case rel => exact ⟨i + 1, a9, c9, L9, by omega, by go_num, rfl, hL9, hl9, Ho9, hbz, hbz.out.size⟩
            case measure => simp [intOf]; omega
        · have hfin : Hid (L6 = uuidL (hexesL m u 5)) := hid (by
            rw [hL6.out, show i = 30 by have := hl30.out; omega, uuid_eq hl30.out, hL.out])
          have hlb : decide (i < L.length) = false := by simpa using hlt
          go_wp2
          go_ret
          exact ⟨a6, c6, by rw [← hfin.out]; rfl, by rw [← hfin.out]; exact Ho.out.base_le hz2, hb2.out.trans (hb6.out.mono hz2)⟩
end Go.Proofs.YtijhkpbnalnpbaaDoor
