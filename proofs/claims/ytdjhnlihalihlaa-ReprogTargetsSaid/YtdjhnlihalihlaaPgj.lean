/- The code's Compile: its plain function is compW. -/
import Derived.Test.YtdjhnlihalihlaaPgi
namespace Go.Proofs.Ytdjhnlihalihlaa
open Go.RowKit ReM Go.ChangeShapes Go.WideShapes Go.ChangeAt

theorem parseW_ok {p : List Int} {l : List Rn} {f : Int} (h : parseW p = (l, 0, f)) : f = 0 ∧ NodAt 0 l ∧ Los l ∧ p.length ≤ 60 ∧ ∃ g, g ≤ 9 ∧ gsL l = upto 0 g ∧ altP CC p.length (4 * p.length + 8) p 0 0 = .ok l [] g := by
  rcases parseW_cases p with ⟨e, f', h', he⟩ | ⟨l', g, h', hA, hp, hl, hf⟩
  · rw [h] at h'
    simp only [Prod.mk.injEq] at h'
    exact absurd h'.2.1.symm he
  · rw [h] at h'
    simp only [Prod.mk.injEq, true_and] at h'
    obtain ⟨rfl, rfl⟩ := h'
    have t := parse_tree hp rfl (fun c i => alt_nb p c i)
    exact ⟨rfl, t.1, (all_lo CC p.length _).1 _ _ _ _ _ _ hA, hl, g, alt_nine hA, ((all_gs CC p.length _).1 _ _ _ _ _ _ hA).2, hA⟩
/-- what a compiler tells: the program, the fault -/
def CompP (w : World) (res : List Ins × Int × Int) (e' : Ending) (w' : World) : Prop :=
  ∃ a' c' L, e' = .returned (.tuple #[.slice a' L.length c', .agg #[.int .i64 res.2.1, .int .i64 res.2.2]]) ∧ inss L = res.1 ∧ L.length ≤ 300 ∧ ROwn encIn 52 w' w.heap.size a' c' L ∧ Stk w.heap.size w' (L.map Im.key) ∧ Below w.heap.size w w'
theorem Stk.base_le {base base' : Nat} {w : World} {K : List Skey} (h : Stk base w K) (hb : base' ≤ base) : Stk base' w K := ⟨fun q hq => (h.own q hq).base_le hb, h.apart⟩
theorem Pg.new (w : World) (r : Nat) (hr : r = w.heap.size) : Pg (r + 1) (w.alloc (.cells #[.slice none 0 0] 66)) r none 0 [] := by
  subst hr
  exact ⟨by rw [cell_alloc_new]; rfl, by simp, ROwn.nil _ _, Stk.nil _ _, by omega, by simp⟩
set_option maxRecDepth 20000 in
set_option maxHeartbeats 16000000 in
theorem compile_c (a : Option Addr) (c : Nat) (p : List Int) (w : World) (h : Sl w a p) (hc : p.length ≤ c) :
    Calls Try.prog 21 #[.slice a p.length c] w (CompP w (compW p)) := by
  have hlen := h.len
  obtain ⟨V, hV⟩ : ∃ V, V = w.alloc (.cells #[.int .i64 0, .int .i64 0] 36) := ⟨_, rfl⟩
  have bV : Below w.heap.size w V := by subst hV; (repeat' (first | exact Below.refl _ _ | assumption | refine bdrewN ?_ _ | refine Below.drew ?_ | refine bal ?_ _ | refine bthen ?_ (by assumption)))
  have F0 : Hid (FtC V w.heap.size 0 0) := by subst hV; exact FtC.new _ _ _ _ _ rfl
  have zV : V.heap.size = w.heap.size + 1 := by subst hV; simp
  have PC := hid (parse_c a c p V (h.bel bV) hc)
  have BV := hid bV
  clear h bV
  obtain ⟨⟨t, e, f⟩, hX⟩ : ∃ X, X = parseW p := ⟨_, rfl⟩
  rw [← hX] at PC
  have HX := hid hX
  clear hX
  go_enter Try.func21, Try.ntmps21
  go_upto_region 1 with fail
  rw [← hV]; clear hV
  go_wp2_with fail
  refine PC.out.mono ?_
  rintro _ w1 ⟨a1, c1, T, rfl, hr1, ho1, hs1, hm1, b1⟩
  dsimp only at hr1
  have HT := hid hr1
  have O1 := hid ho1
  have S1 := hid hs1
  have hT5 := hm1.len
  have B1 := hid (BV.out.trans (b1.mono (by omega)))
  have F1 := hid (F0.out.bel b1)
  have zw1 := b1.size
  clear hr1 ho1 hs1 hm1 b1 PC F0
  go_upto_region 2 with fail
  obtain ⟨V2, hV2⟩ : ∃ V2, V2 = w1.alloc (.cells #[.int .i64 e, .int .i64 f] 36) := ⟨_, rfl⟩
  have G2 : Hid (FtC V2 w1.heap.size e f) := by subst hV2; exact FtC.new _ _ _ _ _ rfl
  have bV2 : Below w1.heap.size w1 V2 := by subst hV2; (repeat' (first | exact Below.refl _ _ | assumption | refine bdrewN ?_ _ | refine Below.drew ?_ | refine bal ?_ _ | refine bthen ?_ (by assumption)))
  have zV2 : V2.heap.size = w1.heap.size + 1 := by subst hV2; simp
  have F2 := hid (F1.out.bel bV2)
  have B2 := hid (B1.out.trans (bV2.mono B1.out.size))
  have O2 := hid (O1.out.grow bV2)
  have S2 := hid (S1.out.bel bV2)
  rw [← hV2]
  clear hV2 bV2 F1 B1 O1 S1
  have y0 := G2.out.c0
  have y1 := G2.out.c1
  by_cases he : e = 0
  · have b1 : (e != 0) = false := by simpa using he
    have he2 := hid he
    clear he
    go_upto_region 5 with fail
    obtain ⟨r, hr⟩ : ∃ r, r = w1.heap.size + 1 := ⟨_, rfl⟩
    obtain ⟨V3, hV3⟩ : ∃ V3, V3 = V2.alloc (.cells #[.slice none 0 0] 66) := ⟨_, rfl⟩
    have bV3 : Below V2.heap.size V2 V3 := by subst hV3; (repeat' (first | exact Below.refl _ _ | assumption | refine bdrewN ?_ _ | refine Below.drew ?_ | refine bal ?_ _ | refine bthen ?_ (by assumption)))
    have P3 : Hid (Pg (r + 1) V3 r none 0 []) := by rw [hV3]; exact hid (Pg.new V2 r (by omega))
    have zV3 : V3.heap.size = V2.heap.size + 1 := by subst hV3; simp
    have T3 : Hid (Tre (r + 1) r V3 a1 c1 T) := by
      refine hid ⟨(O2.out.grow bV3).sl, O2.out.cap, fun k hk => by have := (O2.out.lt hk).2; omega, fun m hm => ⟨((S2.out.own m hm).grow bV3).base_le (by omega), fun k hk => by have := S2.out.lt m hm k hk; omega⟩⟩
    have F3 := hid (F2.out.bel bV3)
    have B3 := hid (B2.out.trans (bV3.mono B2.out.size))
    have hX0 := HX.out
    rw [he2.out, ← HT.out] at hX0
    obtain ⟨hf0, hnod, hlos, -, -⟩ := parseW_ok hX0.symm
    have hcW : compW p = if 300 < (outW (rns T)).length then ([], 3, (p.length : Int)) else (outW (rns T), 0, 0) := by
      unfold compW
      rw [← hX0, if_neg (by simp)]
    have HC := hid hcW
    have hrw : w.heap.size < r := by omega
    have HL := hid hlos
    rw [← hr, ← hV3]
    have Hr := hid hr
    clear hV3 bV3 F2 B2 O2 S2 hX0 HX hcW y0 y1 G2 hlos hr
    go_wp2_with fail
    refine (save_c (r + 1) V3 r none 0 [] P3.out (by simp) 0).mono ?_
    rintro _ w4 ⟨a4, c4, L4, rfl, hp, hL4, hf⟩
    have P4 := hid hp
    have Q4 := hid hf
    have T4 := hid (T3.out.fr P3.out hf)
    have Hl4 : Hid (L4.length = 1) := hid (by rw [← inss_len, hL4.out]; simp [inss])
    have HL4 := hid (show inss L4 = [iSave 0] by rw [hL4.out]; rfl)
    clear hp hf hL4 T3
    go_wp2_with fail
    refine (node_all T.length (r + 1) w4 r a4 c4 L4 a1 c1 T 0 P4.out T4.out hnod (Nat.le_refl _) (by omega) HL.out (by have := Hl4.out; omega)).mono ?_
    rintro _ w5 ⟨a5, c5, L5, rfl, hp, hL5, hf⟩
    have P5 := hid hp
    have Q5 := hid (Q4.out.tr hf)
    have Hl5 := hid (node_len (k := T.length) (by omega) HL.out hL5.out)
    have HL5 := hid (show inss L5 = nodeE T.length (rns T) [iSave 0] by rw [hL5.out, HL4.out])
    clear hp hf hL5 T4 HL4
    go_wp2_with fail
    refine (save_c (r + 1) w5 r a5 c5 L5 P5.out (by have := Hl5.out; have := Hl4.out; omega) 1).mono ?_
    rintro _ w6 ⟨a6, c6, L6, rfl, hp, hL6, hf⟩
    have P6 := hid hp
    have Q6 := hid (Q5.out.tr hf)
    have Hl6 : Hid (L6.length = L5.length + 1) := hid (by rw [← inss_len, hL6.out]; simp [inss_len])
    have HL6 := hid hL6.out
    clear hp hf hL6
    go_wp2_with fail
    refine (add0_c (r + 1) w6 r a6 c6 L6 P6.out (by have := Hl6.out; have := Hl5.out; have := Hl4.out; omega) 6 0 0).mono ?_
    rintro _ w7 ⟨a7, c7, L7, rfl, hp, hL7, hf⟩
    have P7 := hid hp
    have Q7 := hid (Q6.out.tr hf)
    have HO : Hid (inss L7 = outW (rns T)) := by
      rw [hL7.out, HL6.out, HL5.out]
      unfold outW
      rw [rns_len]; exact hid rfl
    have hol : (outW (rns T)).length = L7.length := by rw [← HO.out, inss_len]
    have HC2 := HC.out
    rw [hol] at HC2
    have hNw : Np V3 r none w.heap.size := P3.out.ahead (by omega) (by omega)
    have F7 : Hid (FtC w7 w.heap.size 0 0) := hid (F3.out.same (hNw.same Q7.out))
    have hbl : ∀ k, (k = r ∨ Blk none k) → w.heap.size ≤ k := fun k hk => by
      rcases hk with rfl | hk
      · omega
      · exact (blk_none hk).elim
    have B7 : Hid (Below w.heap.size w w7) := hid (B3.out.trans (Q7.out.kpt.below hbl B3.out.size))
    have HC3 := hid HC2
    clear HC2 hbl
    clear hp hf hL7 hol P4 P5 P6 Q4 Q5 Q6 Hl4 Hl5 Hl6 HL5 HL6 Q7 F3 B3 hNw P3
    go_wp2_with fail
    refine (full_c (r + 1) w7 r a7 c7 L7 P7.out).mono ?_
    rintro _ w8 ⟨rfl, b8⟩
    have P8 := hid (P7.out.bel b8)
    have F8 := F7.out.bel b8
    have HF8 := hid F8
    have B8 := hid (B7.out.trans (b8.mono B7.out.size))
    have m0 := F8.c0
    have m1 := F8.c1
    have m2 := F8.fz 0
    have m3 := F8.fz 1
    clear b8 F8 F7 B7 P7
    by_cases hful : 300 < L7.length
    · have b2 : decide ((300 : Int) < (L7.length : Int)) = true := decide_eq_true (by omega)
      have HC2 := HC3.out
      rw [if_pos hful] at HC2
      have E := hid HC2
      clear hful HC2 HC3
      go_wp2_with fail
      refine ret_tf Try.results21 rfl rfl rfl (FtC.put (e := 0) (f := 0) ?_ 3 p.length) ?_
      · exact HF8.out
      · rw [E.out]
        exact ⟨none, 0, [], rfl, rfl, by simp, ROwn.nil _ _, Stk.nil _ _, (B8.out.setCell (by exact Nat.le_refl _) _).setCell (by exact Nat.le_refl _) _⟩
    · have b2 : decide ((300 : Int) < (L7.length : Int)) = false := decide_eq_false (by omega)
      have HC2 := HC3.out
      rw [if_neg hful] at HC2
      have E := hid HC2
      have y0 := P8.out.c0
      clear HC2 HC3
      go_wp2_with fail
      have e : ∀ k v o, k ≠ w.heap.size → ((w8.setCell ⟨w.heap.size, 0, none⟩ v).setCell ⟨w.heap.size, 1, none⟩ o).heap[k]? = w8.heap[k]? := fun k v o hk =>
        (Below.heap_setCell _ _ _ _ (fun e => hk e)).trans (Below.heap_setCell _ _ _ _ (fun e => hk e))
      refine ret_tf Try.results21 rfl rfl rfl (FtC.put (e := 0) (f := 0) ?_ 0 0) ?_
      · exact HF8.out
      · rw [E.out]
        refine ⟨a7, c7, L7, rfl, HO.out, by omega, (P8.out.own.base_le (by omega)).same fun ad ha _ => e _ _ _ ?_, (P8.out.sets.base_le (by omega)).same fun q hq k hk _ => e _ _ _ ?_, (B8.out.setCell (by exact Nat.le_refl _) _).setCell (by exact Nat.le_refl _) _⟩
        · have := (P8.out.own.lt (k := ad.block) ⟨ad, ha, rfl⟩).1; omega
        · have := (P8.out.sets.lt hq hk).1; omega
  · have b1 : (e != 0) = true := by simpa using he
    have E : Hid (compW p = ([], e, f)) := by
      unfold compW
      rw [← HX.out, if_pos he]; exact hid rfl
    have m0 := F2.out.c0
    have m1 := F2.out.c1
    have m2 := F2.out.fz 0
    have m3 := F2.out.fz 1
    clear he
    go_upto_region 3 with fail
    go_region
    all_goals
      go_wp2_with fail
      refine ret_tf Try.results21 rfl rfl rfl (FtC.put (e := 0) (f := 0) (w := V2.drew) ?_ e f) ?_
      · exact F2.out.same rfl
      · rw [E.out]
        exact ⟨none, 0, [], rfl, rfl, by simp, ROwn.nil _ _, Stk.nil _ _, (B2.out.drew.setCell (by exact Nat.le_refl _) _).setCell (by exact Nat.le_refl _) _⟩
end Go.Proofs.Ytdjhnlihalihlaa
