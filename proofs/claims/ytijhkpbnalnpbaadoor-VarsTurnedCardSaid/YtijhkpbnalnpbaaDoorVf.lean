/- Texts as strings in memory: the conversions; the code's table of variables, found by name. -/
import Derived.Test.YtijhkpbnalnpbaaDoorVm
import Derived.Test.YtijhkpbnalnpbaaDoorGl
import Derived.Test.YtijhkpbnalnpbaaDoorKeepR
import Derived.Test.YtijhkpbnalnpbaaDoorFtc
namespace Go.Proofs.YtijhkpbnalnpbaaDoor
open Go.RowKit

/-- the cells of a new text -/
def rCells (w : World) (l : List Int) : Array Value := (l.map (Value.int .i32)).toArray ++ Array.replicate (grownCap w l.length 0 21 - l.length) (.int .i32 0)
theorem conv_runes {s : ByteArray} {l : List Int} (h : Str s l) (hl : l.length ≤ 35184373137408) (w : World) :
    (convert 9 22 (.string s)).run Tryd.prog w = .ok (.slice (some ⟨w.heap.size, 0, none⟩) l.length (grownCap w l.length 0 21)) (w.drew.alloc (.cells (rCells w l) 21)) := by
  have hr := h.runes
  have hs : (Conv.runesFrom s s.size 0 #[]).size = l.length := by rw [hr]; simp
  rw [run_runes_of_string w 9 22 21 s Tryd.underlying9 Tryd.underlying22 Tryd.underlying21 (by omega), hs, hr]
  rfl
theorem may_rng {l : List Int} (h : may l = true) : rng l := by
  intro x hx
  have := List.all_eq_true.1 h x hx
  simp only [sgn, decide_eq_true_eq] at this; omega
theorem conv_own {l : List Int} (h : may l = true) (hl : l.length ≤ 35184373137408) (w v : World) (b base : Nat) (hb : b = v.heap.size) (hB : base ≤ v.heap.size) :
    Own (v.alloc (.cells (rCells w l) 21)) base (some ⟨b, 0, none⟩) (grownCap w l.length 0 21) l := by
  subst hb
  have hge := grownCap_ge w l.length 0 21
  refine ⟨⟨by simp, .inr ⟨_, _, _, rfl, hB, heap_alloc_new v _, hge, grownCap_le_maxLen _ _ _ _ (by unfold maxLen; omega), ?_, ?_⟩⟩, may_rng h, hl⟩
  · simp [rCells]; omega
  · simp [rCells]
theorem conv_str {w : World} {a : Option Addr} {l : List Int} (h : Sl w a l) (hm : may l = true) : ∃ s, Str s l ∧ ∀ c w', Sl w' a l → (convert 22 9 (.slice a l.length c)).run Tryd.prog w' = .ok (.string s) w' := by
  refine ⟨_, Str.of hm, fun c w' hs => ?_⟩
  cases a with
  | none =>
    obtain rfl : l = [] := by
      rcases hs.cells with h0 | ⟨_, _, h0, _⟩
      · exact h0
      · cases h0
    exact run_convert_runes_nil w' 22 9 21 _ _ Tryd.underlying22 Tryd.underlying21 Tryd.underlying9
  | some ad =>
    have := run_convert_runes w' 22 9 21 ad l.length c l (Nat.le_refl _) Tryd.underlying22 Tryd.underlying21 Tryd.underlying9 (by
      intro j hj
      obtain ⟨b, o, he, hc⟩ := hs.at hj
      simp only [Option.some.injEq] at he; subst he
      have h2 : (⟨b, o, none⟩ : Addr).add j = ⟨b, o + j, none⟩ := by unfold Addr.add; split <;> simp_all
      rw [h2]; exact hc j hj)
    rwa [List.take_length] at this

/-! ## the table -/
def rowV (k : Nat) : Value := .agg #[.string (bStr (nameL k)), .int .i64 (teN k), .int .i64 (paN k)]
theorem tab_at (w : World) (k : Nat) (h : k < 24) : (Instr.index 65 (.agg tabA) (.int .i64 k)).run Tryd.prog w = .ok (rowV k) w := by
  rcases (show k = 0 ∨ k = 1 ∨ k = 2 ∨ k = 3 ∨ k = 4 ∨ k = 5 ∨ k = 6 ∨ k = 7 ∨ k = 8 ∨ k = 9 ∨ k = 10 ∨ k = 11 ∨ k = 12 ∨ k = 13 ∨ k = 14 ∨ k = 15 ∨ k = 16 ∨ k = 17 ∨ k = 18 ∨ k = 19 ∨ k = 20 ∨ k = 21 ∨ k = 22 ∨ k = 23 by omega) with
    rfl | rfl | rfl | rfl | rfl | rfl | rfl | rfl | rfl | rfl | rfl | rfl | rfl | rfl | rfl | rfl | rfl | rfl | rfl | rfl | rfl | rfl | rfl | rfl <;> kernel_rfl
/-- what find tells -/
def FindE (w : World) (l : List Int) (e : Ending) (w' : World) : Prop :=
  Below w.heap.size w w' ∧ ((rowOf l = none ∧ e = .returned (.tuple #[.agg #[.string ⟨#[]⟩, .int .i64 0, .int .i64 0], .bool false])) ∨ ∃ k, k < 24 ∧ rowOf l = some k ∧ e = .returned (.tuple #[rowV k, .bool true]))
theorem rowOf_none_of {l : List Int} (h : ∀ j, j < 24 → nameL j ≠ l) : rowOf l = none := by
  rw [rowOf, List.find?_eq_none]
  intro k hk
  simpa using h k (List.mem_range.1 hk)
/-- three cells written -/
theorem set3 {W : World} {b : Nat} {x0 y0 z0 : Value} (x y z : Value) (h0 : W.cell? ⟨b, 0, none⟩ = some x0) (h1 : W.cell? ⟨b, 1, none⟩ = some y0) (h2 : W.cell? ⟨b, 2, none⟩ = some z0) :
    (((W.setCell ⟨b, 0, none⟩ x).setCell ⟨b, 1, none⟩ y).setCell ⟨b, 2, none⟩ z).cell? ⟨b, 0, none⟩ = some x ∧
    (((W.setCell ⟨b, 0, none⟩ x).setCell ⟨b, 1, none⟩ y).setCell ⟨b, 2, none⟩ z).cell? ⟨b, 1, none⟩ = some y ∧
    (((W.setCell ⟨b, 0, none⟩ x).setCell ⟨b, 1, none⟩ y).setCell ⟨b, 2, none⟩ z).cell? ⟨b, 2, none⟩ = some z := by
  have q1 : (W.setCell ⟨b, 0, none⟩ x).cell? ⟨b, 1, none⟩ = some y0 := cell_set1 h1 (by decide)
  have q2 : ((W.setCell ⟨b, 0, none⟩ x).setCell ⟨b, 1, none⟩ y).cell? ⟨b, 2, none⟩ = some z0 := cell_set1 (cell_set1 h2 (by decide)) (by decide)
  exact ⟨cell_set1 (cell_set1 (World.cell?_setCell_same (h := h0) ..) (by decide)) (by decide), cell_set1 (World.cell?_setCell_same (h := q1) ..) (by decide), World.cell?_setCell_same (h := q2) ..⟩
theorem ret_vb {fn : Func} {post : Ending → World → Prop} {at_ : Act} {W : World} {R : Nat} {x y z : Value} {b : Bool} (hr : fn.results = #[ResultVar.cell 2 48, ResultVar.tmp 3]) (h2 : at_.tmps[2]?.getD undef = .pointer (some ⟨R, 0, none⟩)) (h3 : at_.tmps[3]?.getD undef = .bool b) (hd : at_.defers = [])
    (h : W.cell? ⟨R, 0, none⟩ = some x ∧ W.cell? ⟨R, 1, none⟩ = some y ∧ W.cell? ⟨R, 2, none⟩ = some z) (hp : post (.returned (.tuple #[.agg #[x, y, z], .bool b])) W) : bodyPost Tryd.prog fn post Exit.ret at_ W :=
  bodyPost_ret (v := .tuple #[.agg #[x, y, z], .bool b]) (by simp [results, hr, go_sem, h2, h3, h.1, h.2.1, h.2.2]) hd hp
theorem nm_len {k : Nat} (h : k < 24) : (nameL k).length ≤ 24 := (names_asc k h).2.1
set_option maxHeartbeats 2000000 in
set_option maxRecDepth 100000 in
theorem find_c (a : Option Addr) (c : Nat) (l : List Int) (w : World) (h : Sl w a l) (hg : Hid (Gl w)) : Calls Tryd.prog 22 #[.slice a l.length c] w (FindE w l) := by
  obtain ⟨tt, fr, h1⟩ := hg.out.tab
  have hlt := hg.out.lt
  have h2 : ∀ o, (w.alloc o).heap[0]? = some (.cells tabA tt fr) := fun o => by rw [heap_alloc_old w o (by omega)]; exact h1
  have HS := hid h
  clear h1 h
  go_enter Tryd.func22, Tryd.ntmps22
  go_wp2_with (refine wpList_load_row rfl 65 _ rfl 0 rfl tt _ fr _ (h2 _) Tryd.underlying65 rfl (by kernel_rfl) ?_)
  go_loopw [7] (fun i wr => ∃ k : Nat, k ≤ 24 ∧ i = .int .i64 k ∧ Hid (∀ j, j < k → nameL j ≠ l) ∧ Hid (Below w.heap.size w wr) ∧ w.heap.size < wr.heap.size ∧
    wr.cell? ⟨w.heap.size, 0, none⟩ = some (.string ⟨#[]⟩) ∧ wr.cell? ⟨w.heap.size, 1, none⟩ = some (.int .i64 0) ∧ wr.cell? ⟨w.heap.size, 2, none⟩ = some (.int .i64 0) ∧
    wr.frozen? ⟨w.heap.size, 0, none⟩ = false ∧ wr.frozen? ⟨w.heap.size, 1, none⟩ = false ∧ wr.frozen? ⟨w.heap.size, 2, none⟩ = false) (fun i _ => 24 - (intOf i).toNat)
  case atStart =>
    refine ⟨0, by omega, rfl, hid (fun j hj => by omega), hid (bal (Below.refl _ _) _), by simp, ?_, ?_, ?_, ?_, ?_, ?_⟩
    · rw [cell_alloc_new]; rfl
    · rw [cell_alloc_new]; rfl
    · rw [cell_alloc_new]; rfl
    all_goals (unfold World.frozen?; rw [heap_alloc_new]; rfl)
  case round =>
    obtain ⟨k, hk, rfl, hm, hb, hs, r0, r1, r2, f0, f1, f2⟩ := hrel
    by_cases hlt2 : k < 24
    · have ix := tab_at (k := k) (h := hlt2)
      obtain ⟨n, hn⟩ : ∃ n, nameL k = n := ⟨_, rfl⟩
      have hst : Str (bStr n) n := hn ▸ bStr_str (names_asc k hlt2).1
      have hnl : n.length ≤ 24 := hn ▸ nm_len hlt2
      simp only [rowV, hn] at ix
      have cv := conv_runes hst (by omega)
      have b1 : decide (k < 24) = true := by simpa using hlt2
      have HN := hid hn
      clear hn
      generalize hSn : bStr n = s at ix cv hst
      have HSn := hid hSn
      clear hSn
      go_wp2_with fail
      have hb1 : Below w.heap.size w ((wr.alloc (.cells #[.string s, .int .i64 (teN k), .int .i64 (paN k)] 48)).alloc (.cells (rCells (wr.alloc (.cells #[.string s, .int .i64 (teN k), .int .i64 (paN k)] 48)) n) 21)) := bal (bal hb.out _) _
      refine (same_c _ _ _ _ _ _ _ (HS.out.bel hb1).drew ((conv_own hst.may (by omega) _ _ _ 0 (by simp) (by omega)).sl.drew)).mono ?_
      rintro e w' ⟨rfl, m, rfl⟩
      have HB1 := hid hb1
      clear hb1
      cases hq : eqM l n with
      | true =>
        have Hq := hid hq
        clear hq
        go_wp2
        have hn : l = n := by have := Hq.out; simpa [eqM] using this
        have e0 := (bal (bal (Below.refl wr.heap.size wr) (.cells #[.string s, .int .i64 (teN k), .int .i64 (paN k)] 48)) (.cells (rCells (wr.alloc (.cells #[.string s, .int .i64 (teN k), .int .i64 (paN k)] 48)) n) 21))
        refine ret_vb Tryd.results22 rfl rfl rfl (set3 _ _ _ (x0 := .string ⟨#[]⟩) (y0 := .int .i64 0) (z0 := .int .i64 0) ?_ ?_ ?_) ⟨?_, .inr ⟨k, hlt2, ?_, ?_⟩⟩
        · exact (e0.cell (p := ⟨w.heap.size, 0, none⟩) hs).trans r0
        · exact (e0.cell (p := ⟨w.heap.size, 1, none⟩) hs).trans r1
        · exact (e0.cell (p := ⟨w.heap.size, 2, none⟩) hs).trans r2
        · exact (((bdrewN HB1.out _).setCell (Nat.le_refl _) _).setCell (Nat.le_refl _) _).setCell (Nat.le_refl _) _
        · rw [hn, ← HN.out]; exact rowOf_name hlt2
        · rw [rowV, HN.out, HSn.out]
      | false =>
        have Hq := hid hq
        clear hq
        go_wp2
        go_roundw
        case rel =>
          have e0 := (bal (bal (Below.refl wr.heap.size wr) (.cells #[.string s, .int .i64 (teN k), .int .i64 (paN k)] 48)) (.cells (rCells (wr.alloc (.cells #[.string s, .int .i64 (teN k), .int .i64 (paN k)] 48)) n) 21))
          refine ⟨k + 1, by omega, by go_num, ?_, hid (bdrewN HB1.out _), by simp; omega, ?_, ?_, ?_, ?_, ?_, ?_⟩
          · refine hid (fun j hj => ?_)
            rcases Nat.lt_or_ge j k with h1 | h1
            · exact hm.out j h1
            · obtain rfl : j = k := by omega
              intro e
              have := Hq.out
              rw [HN.out] at e; subst e
              simp [eqM] at this
          · exact (e0.cell (p := ⟨w.heap.size, 0, none⟩) hs).trans r0
          · exact (e0.cell (p := ⟨w.heap.size, 1, none⟩) hs).trans r1
          · exact (e0.cell (p := ⟨w.heap.size, 2, none⟩) hs).trans r2
          · exact (World.frozen?_of_block (a := ⟨w.heap.size, 0, none⟩) (e0.block _ hs)).trans f0
          · exact (World.frozen?_of_block (a := ⟨w.heap.size, 1, none⟩) (e0.block _ hs)).trans f1
          · exact (World.frozen?_of_block (a := ⟨w.heap.size, 2, none⟩) (e0.block _ hs)).trans f2
        case measure => simp [intOf]; omega
    · have b1 : decide (k < 24) = false := by simpa using hlt2
      go_wp2
      refine ret_vb Tryd.results22 rfl rfl rfl (set3 _ _ _ r0 r1 r2) ⟨?_, .inl ⟨?_, rfl⟩⟩
      · exact ((hb.out.setCell (Nat.le_refl _) _).setCell (Nat.le_refl _) _).setCell (Nat.le_refl _) _
      · exact rowOf_none_of fun j hj => hm.out j (by omega)
end Go.Proofs.YtijhkpbnalnpbaaDoor
