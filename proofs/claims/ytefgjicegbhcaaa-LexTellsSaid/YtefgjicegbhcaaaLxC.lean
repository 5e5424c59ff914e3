/- Package lex: slices of tokens; the fault; Tokens. -/
import Derived.Test.YtefgjicegbhcaaaLxB
import Derived.Deep.LoopGhost
namespace Go.Proofs.Ytefgjicegbhcaaa
open Go.RowKit

def encTk : Enc Tk where
  k := 3
  v := fun x => [.int .i64 x.kd, .int .i64 x.fr, .int .i64 x.to]
  cap := 4398046511104
  pos := by decide
  len := fun _ => rfl
  one := fun x u h => by simp at h; rcases h with rfl | rfl | rfl <;> rfl
theorem rec_tk {w : World} {b o : Nat} {x : Tk} (h : Rec1 encTk w b o x) :
    w.cell? ⟨b, o, none⟩ = some (.int .i64 x.kd) ∧ w.cell? ⟨b, o + 1, none⟩ = some (.int .i64 x.fr) ∧ w.cell? ⟨b, o + 2, none⟩ = some (.int .i64 x.to) := ⟨h 0 _ rfl, h 1 _ rfl, h 2 _ rfl⟩
theorem Try.infoTk : (Try.prog.info? 41).map (fun i => (i.zero, i.size, i.bytes)) = some (some (.agg #[.int .i64 0, .int .i64 0, .int .i64 0]), 3, 24) := by kernel_rfl
theorem Try.elemTk : Try.prog.underlying 34 = some (.slice (Try.prog.elem 34)) := by kernel_rfl
theorem Try.sizeTk (w : World) : (sizeOf (Try.prog.elem 34)).run Try.prog w = .ok 3 w := by kernel_rfl
theorem Try.tyTk : Ty Try.prog encTk 34 41 where
  und := Try.underlying34
  info := ⟨_, _, Try.infoTk, rfl, by decide⟩
  elem := Try.elemTk
  size := Try.sizeTk
  max := by decide
def TkSl (w : World) (a : Option Addr) (L : List Tk) : Prop := RSl encTk w a L
def TkOwn (w : World) (base : Nat) (a : Option Addr) (c : Nat) (L : List Tk) : Prop := ROwn encTk 41 w base a c L

/-- the fault of a text that is not read: its code, its place -/
def lexF (l : List Int) : Int × Int := if 600 < l.length then (3, 600) else if may l = true then (0, 0) else (1, fsn l)
set_option maxHeartbeats 4000000 in
theorem lrefused_c (a : Option Addr) (c : Nat) (l : List Int) (w : World) (h : Sl w a l) :
    Calls Try.prog 24 #[.slice a l.length c] w fun e w' => e = .returned (.agg #[.int .i64 (lexF l).1, .int .i64 (lexF l).2]) ∧ Below w.heap.size w w' := by
  have hl := h.len
  obtain ⟨R, hR⟩ : ∃ R, R = lexF l := ⟨_, rfl⟩
  rw [← hR]
  have HR := hid hR
  obtain ⟨V, hV⟩ : ∃ V, V = w.alloc (.cells #[.int .i64 0, .int .i64 0] 37) := ⟨_, rfl⟩
  have bV : Below w.heap.size w V := by subst hV; (repeat' (first | exact Below.refl _ _ | assumption | refine bdrewN ?_ _ | refine Below.drew ?_ | refine bal ?_ _ | refine bthen ?_ (by assumption)))
  have F0 : Hid (FtC V w.heap.size 0 0) := by subst hV; exact FtC.new _ _ _ _ _ rfl
  have h := h.bel bV
  have ff := F0.out
  have g0 := ff.c0
  have g1 := ff.c1
  have g2 := ff.fz 0
  have g3 := ff.fz 1
  have put : ∀ e f, Below w.heap.size w ((V.setCell ⟨w.heap.size, 0, none⟩ e).setCell ⟨w.heap.size, 1, none⟩ f) := fun e f => (bV.setCell (Nat.le_refl _) _).setCell (Nat.le_refl _) _
  have Put := hid put
  clear hR ff put
  by_cases h6 : 600 < l.length
  · have b1 : decide ((600 : Int) < (l.length : Int)) = true := by simp; omega
    have e : R = (3, 600) := by rw [HR.out]; unfold lexF; rw [if_pos h6]
    subst e
    go_enter Try.func24, Try.ntmps24
    go_upto_region 1 with fail
    rw [← hV]; clear hV
    go_wp2_with fail
    exact ret_ft Try.results24 rfl rfl (F0.out.put 3 600) ⟨rfl, Put.out _ _⟩
  · have b1 : decide ((600 : Int) < (l.length : Int)) = false := by simp; omega
    go_enter Try.func24, Try.ntmps24
    go_upto_region 1 with fail
    rw [← hV]; clear hV
    go_wp2_with fail
    go_loop [3, 4, 11] (fun _ _ i => ∃ k : Nat, k ≤ l.length ∧ i = .int .i64 k ∧ Hid (may (l.take k) = true)) (fun _ _ i => l.length - (intOf i).toNat)
    case atStart => exact ⟨0, Nat.zero_le _, rfl, rfl⟩
    case round =>
      obtain ⟨k, hk, rfl, hm⟩ := hrel
      by_cases hlt : k < l.length
      · obtain ⟨b, o, rfl, hc⟩ := h.at hlt
        have ck := hc k hlt
        have Ht : Hid (l.take (k + 1) = l.take k ++ [gt l k]) := take_succ hlt
        clear hc
        cases hs : sgn (gt l k) with
        | false =>
          have hc0 : (cls (gt l k) == 0) = true := by unfold cls; rw [if_neg (by rw [hs]; decide)]; rfl
          have e : R = (1, (k : Int)) := by
            rw [HR.out]; unfold lexF
            rw [if_neg h6, if_neg (by rw [may_snoc_false hlt hs]; decide), fsn_at hlt hm.out hs]
          subst e
          go_wp2_with (go_at_call 34; (with_reducible refine (class_c _ _).mono ?_); rintro e w' ⟨rfl, rfl⟩)
          exact ret_ft Try.results24 rfl rfl (F0.out.put 1 (k : Int)) ⟨rfl, Put.out _ _⟩
        | true =>
          have hc0 : (cls (gt l k) == 0) = false := by
            unfold cls; rw [if_pos hs]
            split
            · rfl
            · split
              · rfl
              · split <;> rfl
          go_wp2_with (go_at_call 34; (with_reducible refine (class_c _ _).mono ?_); rintro e w' ⟨rfl, rfl⟩)
          go_round
          case rel => exact ⟨k + 1, by omega, by go_num, by unfold Hid at *; rw [Ht, may_app, hm, hs]; rfl⟩
          case measure => simp [intOf]; omega
      · have hall : may l = true := by
          have := hm.out
          rwa [List.take_of_length_le (by omega)] at this
        have e : R = (0, 0) := by rw [HR.out]; unfold lexF; rw [if_neg h6, if_pos hall]
        subst e
        go_wp2_with fail
        exact ret_ft Try.results24 rfl rfl (F0.out.put 0 0) ⟨rfl, Put.out _ _⟩
/-- the tokens, where there is no fault -/
def lexL (l : List Int) : List Tk := if (lexF l).1 = 0 then toks l else []
theorem lexF_zero {l : List Int} (h : (lexF l).1 = 0) : l.length ≤ 600 ∧ may l = true ∧ lexF l = (0, 0) := by
  unfold lexF at h ⊢
  by_cases h6 : 600 < l.length
  · rw [if_pos h6] at h; cases h
  · rw [if_neg h6] at h ⊢
    cases hm : may l with
    | true => rw [if_pos rfl]; exact ⟨by omega, rfl, rfl⟩
    | false => rw [hm, if_neg (by decide)] at h; cases h
/-- what Tokens tells -/
def LexP (w : World) (l : List Int) (e' : Ending) (w' : World) : Prop :=
  Below w.heap.size w w' ∧ ∃ a c, e' = .returned (.tuple #[.slice a (lexL l).length c, .agg #[.int .i64 (lexF l).1, .int .i64 (lexF l).2]]) ∧ TkOwn w' w.heap.size a c (lexL l)
set_option maxRecDepth 20000 in
set_option maxHeartbeats 8000000 in
theorem tokens_c (a : Option Addr) (c : Nat) (l : List Int) (w : World) (h : Sl w a l) :
    Calls Try.prog 13 #[.slice a l.length c] w (LexP w l) := by
  obtain ⟨V, hV⟩ : ∃ V, V = w.alloc (.cells #[.int .i64 0, .int .i64 0] 37) := ⟨_, rfl⟩
  have bV : Below w.heap.size w V := by subst hV; (repeat' (first | exact Below.refl _ _ | assumption | refine bdrewN ?_ _ | refine Below.drew ?_ | refine bal ?_ _ | refine bthen ?_ (by assumption)))
  have F0 : Hid (FtC V w.heap.size 0 0) := by subst hV; exact FtC.new _ _ _ _ _ rfl
  have zV : V.heap.size = w.heap.size + 1 := by subst hV; simp
  have RF := hid (lrefused_c a c l V (h.bel bV))
  obtain ⟨e1, e2, hF⟩ : ∃ e1 e2, lexF l = (e1, e2) := ⟨_, _, rfl⟩
  rw [hF] at RF
  have HF := hid hF
  clear hF
  have HS := hid (h.bel bV)
  have BV := hid bV
  clear h bV
  go_enter Try.func13, Try.ntmps13
  go_upto_region 1 with fail
  rw [← hV]; clear hV
  go_wp2_with fail
  refine RF.out.mono ?_
  rintro _ w1 ⟨rfl, b1⟩
  obtain ⟨V2, hV2⟩ : ∃ V2, V2 = w1.alloc (.cells #[.int .i64 e1, .int .i64 e2] 37) := ⟨_, rfl⟩
  have b2 : Below V.heap.size V V2 := by rw [hV2]; exact b1.alloc b1.size _
  have G2 : FtC V2 w1.heap.size e1 e2 := by subst hV2; exact FtC.new _ _ _ _ _ rfl
  have B2 := hid b2
  have z1 := b1.size
  have z2 : V2.heap.size = w1.heap.size + 1 := by rw [hV2]; simp
  have n0 := G2.c0
  have n1 := G2.c1
  have G2 := hid G2
  clear b1 b2 RF
  by_cases he : e1 = 0
  · have q0 : (e1 != 0) = false := by rw [he]; rfl
    have hfz := lexF_zero (l := l) (by rw [HF.out]; exact he)
    have HM := hid hfz.2.1
    have hl6 := hfz.1
    have e0 : e1 = 0 ∧ e2 = 0 := by have := hfz.2.2; rw [HF.out] at this; simpa using this
    obtain ⟨rfl, rfl⟩ := e0
    have EL : Hid (lexL l = toks l) := hid (by unfold lexL; rw [HF.out]; rfl)
    clear hfz
    go_upto_region 2 with fail
    rw [← hV2]; clear hV2
    go_wp2_with fail
    go_loopg [5, 6, 7] l.length (fun g lv av _ wx => ∃ (t : Nat) (a1 : Option Addr) (c1 : Nat) (L : List Tk), t ≤ l.length ∧ l.length - t ≤ g ∧ av = .int .i64 t ∧ lv = .slice a1 L.length c1 ∧ Hid (TkOwn wx V.heap.size a1 c1 L) ∧ Hid (toks l = L ++ tkr l t) ∧ L.length ≤ t ∧ Hid (Below V.heap.size V wx))
    case atStart => exact ⟨0, none, 0, [], by omega, by omega, rfl, rfl, hid (ROwn.nil _ _), hid rfl, by simp, B2⟩
    case round =>
      obtain ⟨t, a1, c1, L, htl, htg, rfl, rfl, HO, HT, hLt, B3⟩ := hrel
      by_cases hlt : t < l.length
      · obtain ⟨g, rfl⟩ : ∃ g, gk = g + 1 := ⟨gk - 1, by omega⟩
        have TC := hid (token_c a c l t wr (HS.out.bel B3.out) hlt HM.out hl6)
        obtain ⟨k, hk⟩ : ∃ k, k = kno (gt l t) := ⟨_, rfl⟩
        obtain ⟨e, he⟩ : ∃ e, e = nxt l t := ⟨_, rfl⟩
        rw [← hk, ← he] at TC
        have HN : Hid (tkr l t = ⟨k, t, e⟩ :: tkr l e) := hid (by rw [tkr_go hlt, hk, he])
        have hte : t < e ∧ e ≤ l.length := by rw [he]; exact ⟨nxt_gt l t, nxt_le hlt⟩
        obtain ⟨hte, hel⟩ := hte
        clear hk he
        have z3 := B3.out.size
        go_wp2_with fail
        refine TC.out.mono ?_
        rintro _ w3 ⟨rfl, b3⟩
        obtain ⟨V4, hV4⟩ : ∃ V4, V4 = w3.alloc (.cells #[.int .i64 k, .int .i64 t, .int .i64 e] 41) := ⟨_, rfl⟩
        have T4 : TkC V4 w3.heap.size k t e := by subst hV4; exact TkC.new _ _ _ _ _ _ rfl
        have m0 := T4.c0
        have m1 := T4.c1
        have m2 := T4.c2
        have zV4 : V4.heap.size = w3.heap.size + 1 := by rw [hV4]; simp
        have b4 : Below wr.heap.size wr V4 := by rw [hV4]; exact b3.alloc b3.size _
        have HO4 := hid (HO.out.grow b4)
        have B4 := hid (B3.out.trans (b4.mono z3))
        have z4 := b3.size
        have hnb : ¬ Blk a1 w3.heap.size := fun hb => by have := (HO.out.lt hb).2; omega
        have T4' := hid T4
        clear TC b3 b4 T4
        go_upto_region 8 with fail
        rw [← hV4]; clear hV4
        go_wp2_with ((at_builtin; (refine wpL_rapp Try.tyTk rfl (.tmp 21) (.tmp 23) rfl V.heap.size a1 (some ⟨w3.heap.size + 1, 0, none⟩) L.length 1 c1 1 L [⟨k, t, e⟩] rfl (by first | rfl | simp | omega) (HO4.out.grow (by (repeat' (first | exact Below.refl _ _ | assumption | refine bdrewN ?_ _ | refine Below.drew ?_ | refine bal ?_ _ | refine bthen ?_ (by assumption))))) rfl (by first | rfl | simp | omega) (RSl.lit (E := encTk) V4 ⟨k, t, e⟩ 41 (w3.heap.size + 1) zV4.symm #[.int .i64 k, .int .i64 t, .int .i64 e] rfl (by decide)) (by simp; show _ ≤ 4398046511104; omega) (by simp; omega) ?_); intro a5 c5 w5 L5 Hl5 ho5 hb5 hk5 hA5; have HA5 := hid hA5; clear hA5; have Ho5 := hid ho5; clear ho5; have Hk5 := hid hk5; clear hk5; have hz5 := hb5.size); have m6 : w5.cell? ⟨w3.heap.size, 2, none⟩ = some (.int .i64 e) := (T4'.out.bel (by (repeat' (first | exact Below.refl _ _ | assumption | refine bdrewN ?_ _ | refine Below.drew ?_ | refine bal ?_ _ | refine bthen ?_ (by assumption)))) |>.same (Hk5.out.block _ (by simp; omega) hnb)).c2)
        go_roundg g
        case measure => omega
        case rel => exact ⟨e, a5, c5, L5, hel, by omega, rfl, rfl, Ho5, hid (by rw [Hl5.out, HT.out, HN.out]; simp), by rw [Hl5.out]; simp; omega, hid ((B4.out.alloc B4.out.size _).trans hb5)⟩
      · obtain rfl : t = l.length := by omega
        have F3 := hid (F0.out.bel B3.out)
        have f0 := F3.out.c0
        have f1 := F3.out.c1
        have f2 := F3.out.fz 0
        have f3 := F3.out.fz 1
        go_wp2_with fail
        refine ret_tf Try.results13 rfl rfl rfl (F3.out.put 0 0) ?_
        have e : lexL l = L := by rw [EL.out, HT.out, tkr_end (Nat.le_refl _), List.append_nil]
        have hB : Below w.heap.size w wr := BV.out.trans (B3.out.mono BV.out.size)
        refine ⟨(hB.setCell (Nat.le_refl _) _).setCell (Nat.le_refl _) _, a1, c1, by rw [e, HF.out]; rfl, ?_⟩
        rw [e]
        refine ROwn.same (ROwn.base_le HO.out (by omega)) fun ad ha _ => ?_
        have h1 := (HO.out.lt ⟨ad, ha, rfl⟩).1
        rw [Below.heap_setCell _ _ _ _ (by show ad.block ≠ w.heap.size; omega), Below.heap_setCell _ _ _ _ (by show ad.block ≠ w.heap.size; omega)]
  · have q0 : (e1 != 0) = true := by simpa using he
    have EL : lexL l = [] := by unfold lexL; rw [HF.out, if_neg he]
    have F3 := hid (F0.out.bel B2.out)
    have f0 := F3.out.c0
    have f1 := F3.out.c1
    have f2 := F3.out.fz 0
    have f3 := F3.out.fz 1
    go_upto_region 2 with fail
    rw [← hV2]; clear hV2
    go_upto_region 3 with fail
    go_region
    all_goals
      go_wp2_with fail
      refine ret_tf Try.results13 rfl rfl rfl (FtC.put (e := 0) (f := 0) (w := V2.drew) (F3.out.bel (Below.refl _ _).drew) e1 e2) ?_
      have hB : Below w.heap.size w V2 := BV.out.trans (B2.out.mono BV.out.size)
      refine ⟨(hB.drew.setCell (Nat.le_refl _) _).setCell (Nat.le_refl _) _, none, 0, by rw [EL, HF.out]; rfl, ?_⟩
      rw [EL]
      exact ROwn.nil _ _
end Go.Proofs.Ytefgjicegbhcaaa
