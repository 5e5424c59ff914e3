/- Layer 13's 'same': the code's tokens of a text that is lent, and once more when the first answer is written over, against the document's. -/
import Derived.Test.YtefgjicegbhcaaaLxK
import Derived.Test.YtefgjicegbhcaaaLxD
namespace Go.Proofs.Ytefgjicegbhcaaa
open Go.RowKit

/-- a list of tokens whose kinds are written over: its cells are there -/
structure Spt (W w : World) (a : Option Addr) (n : Nat) : Prop where
  cell : ∀ i, i < n → ∃ g v, a = some ⟨g, 0, none⟩ ∧ w.cell? ⟨g, i * 3, none⟩ = some (.int .i64 v)
  fz : ∀ g, a = some ⟨g, 0, none⟩ → ∀ o, w.frozen? ⟨g, o, none⟩ = false
  kpt : Kpt (Blk a) W w
theorem Spt.put {W w : World} {g n : Nat} (h : Spt W w (some ⟨g, 0, none⟩) n) (k : Nat) (x : Int) : Spt W (w.setCell ⟨g, k * 3, none⟩ (.int .i64 x)) (some ⟨g, 0, none⟩) n := by
  refine ⟨fun i hi => ?_, fun g' hg o => by rw [World.frozen?_setCell]; exact h.fz g' hg o, h.kpt.setCell (p := ⟨g, k * 3, none⟩) ⟨⟨g, 0, none⟩, rfl, rfl⟩ _⟩
  obtain ⟨g', v, hg, hv⟩ := h.cell i hi
  simp only [Option.some.injEq, Addr.mk.injEq, and_true] at hg
  subst hg
  by_cases he : k = i
  · subst he; exact ⟨g, x, rfl, by rw [World.cell?_setCell_same (h := hv)]⟩
  · exact ⟨g, v, rfl, cell_set1 hv (by omega)⟩
theorem TkOwn.spt {w w' : World} {base : Nat} {a : Option Addr} {c : Nat} {L : List Tk} (h : TkOwn w base a c L) (hw : Below w.heap.size w w') : Spt w' w' a L.length := by
  have h' := ROwn.grow h hw
  refine ⟨fun i hi => ?_, fun g hg o => ?_, Kpt.refl _ _⟩
  · obtain ⟨g, hg, _, _, _, hc⟩ := TkOwn.cells h' (fun e => by rw [e] at hi; simp at hi)
    exact ⟨g, _, hg, (hc i hi).1⟩
  · subst hg; exact h'.1.frozenAt o
set_option maxRecDepth 20000 in
set_option maxHeartbeats 20000000 in
theorem same13_c (a : Option Addr) (c : Nat) (l : List Int) (w : World) (h : Sl w a l) (hl : l.length ≤ 35184373137406) :
    Calls Try.prog 9 #[.slice a l.length c] w fun e w' => e = .returned (.bool true) ∧ Below w.heap.size w w' := by
  have LC := hid (lend_c a c l w h hl)
  have HS := hid h
  obtain ⟨e1, e2, hF⟩ : ∃ e1 e2, lexF l = (e1, e2) := ⟨_, _, rfl⟩
  obtain ⟨T, hT⟩ : ∃ T, T = lexL l := ⟨_, rfl⟩
  have hTl : T.length ≤ 600 := by
    rw [hT]; unfold lexL
    split
    · rename_i h1; exact Nat.le_trans (toks_len l) (lexF_zero h1).1
    · simp
  have P1 : Hid (∀ a c w, Sl w a l → Calls Try.prog 13 #[.slice a l.length c] w fun e' w' => Below w.heap.size w w' ∧ ∃ a c, e' = .returned (.tuple #[.slice a T.length c, .agg #[.int .i64 e1, .int .i64 e2]]) ∧ TkOwn w' w.heap.size a c T) := hid fun a c w h => by
    have := tokens_c a c l w h
    unfold LexP at this
    rw [hF, ← hT] at this
    exact this
  have P2 : Hid (∀ a c w, Sl w a l → Calls Try.prog 22 #[.slice a l.length c] w fun e' w' => Below w.heap.size w w' ∧ ∃ a c, e' = .returned (.tuple #[.slice a T.length c, .agg #[.int .i64 e1, .int .i64 e2]]) ∧ TkOwn w' w.heap.size a c T) := hid fun a c w h => by
    have := rtokens_c a c l w h
    unfold LexP at this
    rw [hF, ← hT] at this
    exact this
  clear hF hT h
  go_enter Try.func9, Try.ntmps9
  go_wp2_with fail
  refine LC.out.mono ?_
  rintro _ w1 ⟨g, cg, rfl, hgc, hg, og, b1⟩
  have sg : Sl w1 (some ⟨g, 0, none⟩) l := by have := og.sl.take l.length; simpa using this
  have OG := hid og.sl
  have B1 := hid b1
  have HS1 := hid (HS.out.bel b1)
  have hg1 : g < w1.heap.size := (og.1.lt g rfl).2
  clear b1 og LC
  go_wp2_with fail
  refine (P1.out _ cg w1 sg).mono ?_
  rintro _ w2 ⟨b2, al, cl, rfl, ol⟩
  obtain ⟨V2, hV2⟩ : ∃ V, V = w2.alloc (.cells #[.int .i64 e1, .int .i64 e2] 37) := ⟨_, rfl⟩
  have b3 : Below w2.heap.size w2 V2 := by subst hV2; (repeat' (first | exact Below.refl _ _ | assumption | refine bdrewN ?_ _ | refine Below.drew ?_ | refine bal ?_ _ | refine bthen ?_ (by assumption)))
  have F2 : Hid (FtC V2 w2.heap.size e1 e2) := by subst hV2; exact FtC.new _ _ _ _ _ rfl
  have b13 := b2.trans (b3.mono b2.size)
  have OL := hid (ol.grow b3)
  have B13 := hid b13
  have SV := HS1.out.bel b13
  have zV2 : V2.heap.size = w2.heap.size + 1 := by rw [hV2]; simp
  have z12 := b2.size
  clear b2 b3 ol b13 sg
  go_upto_region 3 with fail
  rw [← hV2]; clear hV2
  go_wp2_with fail
  refine (P2.out _ c V2 SV).mono ?_
  rintro _ w4 ⟨b4, am, cm, rfl, om⟩
  obtain ⟨V, hV⟩ : ∃ V, V = w4.alloc (.cells #[.int .i64 e1, .int .i64 e2] 37) := ⟨_, rfl⟩
  have b5 : Below w4.heap.size w4 V := by subst hV; (repeat' (first | exact Below.refl _ _ | assumption | refine bdrewN ?_ _ | refine Below.drew ?_ | refine bal ?_ _ | refine bthen ?_ (by assumption)))
  have FV : FtC V w4.heap.size e1 e2 := by subst hV; exact FtC.new _ _ _ _ _ rfl
  have b25 := b4.trans (b5.mono b4.size)
  have OM := hid (om.grow b5)
  have OL5 := hid (OL.out.grow b25)
  have F5 := F2.out.bel b25
  have f0 := F5.c0
  have f1 := F5.c1
  have f2 := FV.c0
  have f3 := FV.c1
  have B5 := hid (B13.out.trans (b25.mono B13.out.size))
  have SG := hid (OG.out.bel B5.out)
  have SS := hid (HS1.out.bel B5.out)
  have ST := hid ((sameTokens_c al am cl cm T T V (ROwn.sl OL5.out) (ROwn.sl OM.out) (by omega) (by omega)).mono fun _ _ h => (⟨h.1.trans (by simp), h.2⟩ : _ = Ending.returned (.bool true) ∧ _))
  have KP := hid (fun w' (hb : Below V.heap.size V w') => kept_c g cg a c l w' (SG.out.bel hb) hgc (SS.out.bel hb))
  have z4 := b4.size
  have z5 := b5.size
  have OL0 := OL
  clear b4 b5 om b25 F5 FV F2 SV OL B13 P2
  go_upto_region 4 with fail
  rw [← hV]; clear hV
  go_wp2_with (first | (go_at_call 14; refine ST.out.mono ?_; rintro _ _ ⟨rfl, n5, rfl⟩) | (go_at_call 23; refine (KP.out _ (bdrewN (Below.refl _ _) _)).mono ?_; rintro _ _ ⟨rfl, n6, rfl⟩))
  generalize hV1 : V.drewN _ = V1
  have bV1 : Below V.heap.size V V1 := by rw [← hV1]; exact bdrewN (Below.refl _ _) _
  clear hV1 f0 f1 f2 f3 ST KP
  have SP0 := hid (TkOwn.spt OL5.out bV1)
  have BL : Hid (∀ k, Blk al k → w1.heap.size ≤ k ∧ k < V2.heap.size) := hid fun k hk => by
    have h1 := OL5.out.lt hk
    exact ⟨h1.1, by have := OL0.out.lt hk; omega⟩
  have BV1 := hid (B1.out.trans ((B5.out.trans (bV1.mono B5.out.size)).mono B1.out.size))
  have OM1 := hid (OM.out.grow bV1)
  have z9 := bV1.size
  clear bV1 OL5 OL0 OM
  go_loopw [8, 40] (fun _ iv wr => ∃ k : Nat, k ≤ T.length ∧ iv = .int .i64 k ∧ Hid (Spt V1 wr al T.length)) (fun _ iv _ => T.length - (intOf iv).toNat)
  case atStart => exact ⟨0, Nat.zero_le _, rfl, SP0⟩
  case round =>
    obtain ⟨k, hk, rfl, SP⟩ := hrel
    by_cases hlt : k < T.length
    · obtain ⟨gl, v, hal, hv⟩ := SP.out.cell k hlt
      subst hal
      have hfz := SP.out.fz gl rfl (k * 3)
      go_wp2_with fail
      go_roundw
      case rel => exact ⟨k + 1, by omega, by go_num, hid (SP.out.put k (-9))⟩
      case measure => simp [intOf]; omega
    · have hK := SP.out.kpt
      have hB : Below w.heap.size V1 wr := hK.below (fun j hj => by have := (BL.out j hj).1; have := B1.out.size; omega) (by have := BV1.out.size; omega)
      have bw := hid (BV1.out.trans hB)
      have OM2 : Hid (TkOwn wr V2.heap.size am cm T) := hid (ROwn.same OM1.out fun ad ha hlt => hK.block _ hlt (fun hb => by have := (BL.out _ hb).2; have := (OM1.out.lt ⟨ad, ha, rfl⟩).1; omega))
      have SR := HS.out.bel bw.out
      go_wp2_with fail
      refine (P1.out _ c wr SR).mono ?_
      rintro _ w7 ⟨b7, ax, cx, rfl, ox⟩
      obtain ⟨V8, hV8⟩ : ∃ V, V = w7.alloc (.cells #[.int .i64 e1, .int .i64 e2] 37) := ⟨_, rfl⟩
      have b8 : Below w7.heap.size w7 V8 := by subst hV8; (repeat' (first | exact Below.refl _ _ | assumption | refine bdrewN ?_ _ | refine Below.drew ?_ | refine bal ?_ _ | refine bthen ?_ (by assumption)))
      have b78 := b7.trans (b8.mono b7.size)
      have ST := hid ((sameTokens_c ax am cx cm T T V8 (ROwn.sl (ox.grow b8)) (ROwn.sl (ROwn.grow OM2.out b78)) (by omega) (by omega)).mono fun _ _ h => (⟨h.1.trans (by simp), h.2⟩ : _ = Ending.returned (.bool true) ∧ _))
      have B8 := hid (bw.out.trans (b78.mono bw.out.size))
      clear b7 b8 ox b78
      go_upto_region 12 with fail
      rw [← hV8]; clear hV8
      go_wp2_with (go_at_call 14; refine ST.out.mono ?_; rintro _ _ ⟨rfl, n9, rfl⟩)
      go_ret
      exact ⟨rfl, bdrewN B8.out _⟩
end Go.Proofs.Ytefgjicegbhcaaa
