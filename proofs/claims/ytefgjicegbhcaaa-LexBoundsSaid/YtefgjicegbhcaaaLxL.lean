/- LexBounds: the walk. -/
import Derived.Test.YtefgjicegbhcaaaLxE
import Derived.Deep.OwnRows
namespace Go.Proofs.Ytefgjicegbhcaaa
open Go.RowKit

def pt (j : Nat) : Int := gt [97, 49, 32, 36, 95] (j % 5)
theorem pt_cases (j : Nat) : pt j = 97 ∨ pt j = 49 ∨ pt j = 32 ∨ pt j = 36 ∨ pt j = 95 := by
  unfold pt
  have h : j % 5 < 5 := Nat.mod_lt _ (by decide)
  generalize j % 5 = m at h
  rcases m with _ | _ | _ | _ | _ | m
  · exact .inl rfl
  · exact .inr (.inl rfl)
  · exact .inr (.inr (.inl rfl))
  · exact .inr (.inr (.inr (.inl rfl)))
  · exact .inr (.inr (.inr (.inr rfl)))
  · omega
theorem pt_ix (k : Nat) (w' : World) : (Instr.index 45 (.agg #[.int .i32 97, .int .i32 49, .int .i32 32, .int .i32 36, .int .i32 95]) (.int .i64 ((k % 5 : Nat) : Int))).run Try.prog w' = .ok (.int .i32 (pt k)) w' := by
  unfold pt
  have h : k % 5 < 5 := Nat.mod_lt _ (by decide)
  generalize k % 5 = m at h
  rcases m with _ | _ | _ | _ | _ | m
  · rfl
  · rfl
  · rfl
  · rfl
  · rfl
  · omega
/-- a block of n signs, the first k of them made -/
structure Ptn (w : World) (g k n : Nat) : Prop where
  made : ∀ j, j < k → w.cell? ⟨g, j, none⟩ = some (.int .i32 (pt j))
  cell : ∀ j, j < n → ∃ v, w.cell? ⟨g, j, none⟩ = some (.int .i32 v)
  fz : ∀ j, w.frozen? ⟨g, j, none⟩ = false
theorem Ptn.next {w : World} {g k n : Nat} (h : Ptn w g k n) (hk : k < n) : Ptn (w.setCell ⟨g, k, none⟩ (.int .i32 (pt k))) g (k + 1) n := by
  obtain ⟨v, hv⟩ := h.cell k hk
  refine ⟨fun j hj => ?_, fun j hj => ?_, fun j => by rw [World.frozen?_setCell]; exact h.fz j⟩
  · by_cases e : k = j
    · subst e; rw [World.cell?_setCell_same (h := hv)]
    · exact cell_set1 (h.made j (by omega)) e
  · by_cases e : k = j
    · subst e; exact ⟨_, by rw [World.cell?_setCell_same (h := hv)]⟩
    · obtain ⟨u, hu⟩ := h.cell j hj; exact ⟨u, cell_set1 hu e⟩
def pts (n : Nat) : List Int := (List.range n).map pt
theorem pts_len (n : Nat) : (pts n).length = n := by simp [pts]
theorem pts_may (n m : Nat) : may ((pts n).take m) = true := by
  rw [may, List.all_eq_true]
  intro x hx
  have := List.mem_of_mem_take hx
  simp only [pts, List.mem_map] at this
  obtain ⟨j, _, rfl⟩ := this
  rcases pt_cases j with h | h | h | h | h <;> rw [h] <;> decide
theorem Ptn.sl {w : World} {g n : Nat} (h : Ptn w g n n) (hn : n ≤ 1000) : Sl w (some ⟨g, 0, none⟩) (pts n) := by
  refine ⟨by rw [pts_len]; omega, fun x hx => ?_, .inr ⟨g, 0, rfl, fun j hj => ?_⟩⟩
  · simp only [pts, List.mem_map] at hx
    obtain ⟨j, _, rfl⟩ := hx
    rcases pt_cases j with h | h | h | h | h <;> omega
  · rw [pts_len] at hj
    rw [Nat.zero_add, h.made j hj, gt_get (by rw [pts_len]; exact hj)]
    simp [pts]
theorem made_cell (w : World) (n : Nat) (T : TypeId) (j : Nat) (hj : j < n) : (w.alloc (.cells (madeCells #[.int .i32 0] n) T)).cell? ⟨w.heap.size, j, none⟩ = some (.int .i32 0) := by
  rw [cell_alloc_new]
  have : madeCells #[.int .i32 0] n = ((List.replicate n (0 : Int)).map (Value.int .i32)).toArray := by
    apply Array.ext
    · simp [madeCells]
    · intro i h1 h2
      simp [madeCells, Nat.mod_one]
  rw [this]
  simp [hj]
theorem Sl.put {w : World} {g : Nat} {l : List Int} (h : Sl w (some ⟨g, 0, none⟩) l) {i : Nat} (_hi : i < l.length) (x : Int) (hx : -2147483648 ≤ x ∧ x ≤ 2147483647) : Sl (w.setCell ⟨g, i, none⟩ (.int .i32 x)) (some ⟨g, 0, none⟩) (l.set i x) := by
  refine ⟨by rw [List.length_set]; exact h.len, fun y hy => ?_, .inr ⟨g, 0, rfl, fun j hj => ?_⟩⟩
  · rcases List.mem_or_eq_of_mem_set hy with h1 | rfl
    · exact h.rng y h1
    · exact hx
  · rw [List.length_set] at hj
    obtain ⟨b, o, hb, hc⟩ := h.at hj
    simp only [Option.some.injEq, Addr.mk.injEq, and_true] at hb
    obtain ⟨rfl, rfl⟩ := hb
    have cj := hc j hj
    rw [Nat.zero_add] at cj
    rw [Nat.zero_add]
    by_cases e : i = j
    · subst e
      rw [World.cell?_setCell_same (h := cj), gt_get (by rw [List.length_set]; exact hj)]
      simp
    · rw [cell_set1 cj e]
      unfold gt
      rw [List.getD_eq_getElem?_getD, List.getD_eq_getElem?_getD, List.getElem?_set_ne e]
set_option maxRecDepth 20000 in
set_option maxHeartbeats 20000000 in
theorem bounds_w (x0 x1 : Int) (W : World) (y1 : -2147483648 ≤ x1 ∧ x1 ≤ 2147483647) :
    Calls Try.prog 6 #[.int .i64 x0, .int .i32 x1] W fun e w' => e = .returned (.bool true) ∧ Below W.heap.size W w' := by
  have IX : Hid (∀ w', Calls Try.prog 8 #[.int .i64 x0, .int .i64 601] w' fun e w2 => (∃ i : Nat, i < 601 ∧ e = .returned (.int .i64 i)) ∧ w' = w2) := hid fun w' => index_c x0 601 w' (by omega) (by omega)
  have hmk : ∀ w, (Instr.makeSlice 22 (.int .i64 601) (.int .i64 601)).run Try.prog w = .ok (.slice (some ⟨w.heap.size, 0, none⟩) 601 601) (w.alloc (.cells (madeCells #[.int .i32 0] 601) 21)) :=
    fun w => run_make_row' 22 21 (.int .i32 0) 4 Try.underlying22 Try.infoI32 rfl .i64 .i64 601 (by decide) (by decide) w
  obtain ⟨V, hV⟩ : ∃ V, V = W.alloc (.cells (madeCells #[.int .i32 0] 601) 21) := ⟨_, rfl⟩
  have bV : Below W.heap.size W V := by rw [hV]; (repeat' (first | exact Below.refl _ _ | assumption | refine bdrewN ?_ _ | refine Below.drew ?_ | refine bal ?_ _ | refine bthen ?_ (by assumption)))
  have PV : Hid (Ptn V W.heap.size 0 601) := by
    refine hid ⟨fun j hj => by omega, fun j hj => ⟨0, ?_⟩, fun j => ?_⟩
    · rw [hV]; exact made_cell W 601 _ j hj
    · rw [hV]; simp
  have BV := hid bV
  clear bV
  go_enter Try.func6, Try.ntmps6
  go_upto_region 2 with fail
  rw [← hV]; clear hV hmk
  go_wp2_with fail
  go_loopw [6, 15] (fun _ iv wr => ∃ k : Nat, iv = .int .i64 k ∧ k ≤ 601 ∧ Hid (Ptn wr W.heap.size k 601) ∧ Hid (Below W.heap.size W wr)) (fun _ iv _ => 601 - (intOf iv).toNat)
  case atStart => exact ⟨0, rfl, by omega, PV, BV⟩
  case round =>
    obtain ⟨k, rfl, hk, PK, BK⟩ := hrel
    by_cases hlt : k < 601
    · obtain ⟨v, ck⟩ := PK.out.cell k hlt
      have fk := PK.out.fz k
      have e1 : decide ((k : Int) < 601) = true := decide_eq_true (by omega)
      have hix : ∀ w', (Instr.index 45 (.agg #[.int .i32 97, .int .i32 49, .int .i32 32, .int .i32 36, .int .i32 95]) (.int .i64 ((k : Int) % 5))).run Try.prog w' = .ok (.int .i32 (pt k)) w' := fun w' => by
        rw [show (k : Int) % 5 = ((k % 5 : Nat) : Int) by omega]; exact pt_ix k w'
      go_wp2_with fail
      go_roundw
      case rel => exact ⟨k + 1, by go_num, by omega, hid (PK.out.next hlt), hid (BK.out.setCell (Nat.le_refl _) _)⟩
      case measure => simp [intOf]; omega
    · obtain rfl : k = 601 := by omega
      have PS := PK.out.sl (by omega)
      obtain ⟨S, hS⟩ : ∃ S, S = pts 601 := ⟨_, rfl⟩
      have hSl : S.length = 601 := by rw [hS, pts_len]
      rw [← hS] at PS
      obtain ⟨D, hD⟩ : ∃ D, D = S.take 600 := ⟨_, rfl⟩
      have sD : Sl wr (some ⟨W.heap.size, 0, none⟩) D := by rw [hD]; exact PS.take 600
      have hDl : D.length = 600 := by rw [hD]; simp; omega
      have hDm : may D = true := by rw [hD, hS]; exact pts_may 601 600
      have LE := lexL_may hDm (by omega)
      have hT0 : 0 < (toks D).length := by unfold toks; rw [tkr_go (by omega)]; simp
      obtain ⟨T, hT⟩ : ∃ T, T = toks D := ⟨_, rfl⟩
      rw [← hT] at hT0
      have TC := tokens_c (some ⟨W.heap.size, 0, none⟩) 601 D wr sD
      unfold LexP at TC
      rw [LE.1, LE.2, ← hT, hDl] at TC
      have hTl : T.length ≤ 600 := by rw [hT]; have := toks_len D; omega
      have q0 : ((T.length : Int) == 0) = false := by rw [beq_eq_false_iff_ne]; omega
      have hF : lexF S = (3, 600) := by unfold lexF; rw [if_pos (by omega)]
      have hE : lexL S = [] := by unfold lexL; rw [hF]; rfl
      have TC2 := hid (fun w' (hb : Below wr.heap.size wr w') => by
        have := tokens_c (some ⟨W.heap.size, 0, none⟩) 601 S w' (PS.bel hb)
        unfold LexP at this
        rw [hF, hE, hSl] at this
        exact this)
      have TC := hid TC
      have HSl := hid hSl
      have HP := hid PS
      have HPK := hid PK.out
      clear LE hT hS hDm sD PS hD hSl hF hE hDl PK
      go_wp2_with (go_at_call 8; refine (IX.out _).mono ?_; rintro _ _ ⟨⟨i, hi, rfl⟩, rfl⟩)
      refine TC.out.mono ?_
      rintro _ w2 ⟨b2, a2, c2, rfl, -⟩
      obtain ⟨V2, hV2⟩ : ∃ V2, V2 = w2.alloc (.cells #[.int .i64 0, .int .i64 0] 37) := ⟨_, rfl⟩
      have b3 : Below w2.heap.size w2 V2 := by subst hV2; (repeat' (first | exact Below.refl _ _ | assumption | refine bdrewN ?_ _ | refine Below.drew ?_ | refine bal ?_ _ | refine bthen ?_ (by assumption)))
      have F2 : FtC V2 w2.heap.size 0 0 := by subst hV2; exact FtC.new _ _ _ _ _ rfl
      have b23 := b2.trans (b3.mono b2.size)
      have C2 := TC2.out V2 b23
      have B23 := hid b23
      have F2 := hid F2
      have C2 := hid C2
      clear b2 b3 b23 TC TC2
      go_upto_region 9 with fail
      rw [← hV2]; clear hV2
      go_wp2_with fail
      refine C2.out.mono ?_
      rintro _ w4 ⟨b4, a4, c4, rfl, -⟩
      obtain ⟨V, hV⟩ : ∃ V, V = w4.alloc (.cells #[.int .i64 3, .int .i64 600] 37) := ⟨_, rfl⟩
      have b5 : Below w4.heap.size w4 V := by subst hV; (repeat' (first | exact Below.refl _ _ | assumption | refine bdrewN ?_ _ | refine Below.drew ?_ | refine bal ?_ _ | refine bthen ?_ (by assumption)))
      have F4 : FtC V w4.heap.size 3 600 := by subst hV; exact FtC.new _ _ _ _ _ rfl
      have b25 := b4.trans (b5.mono b4.size)
      have g0 := (F2.out.bel b25).c0
      have g1 := F4.c0
      have g2 := F4.c1
      have B5 := hid (B23.out.trans (b25.mono B23.out.size))
      have hgw : W.heap.size < wr.heap.size := World.block_lt_of_cell? wr _ (HPK.out.made 0 (by omega))
      obtain ⟨v, cv⟩ := HPK.out.cell i (by omega)
      have cV := (B5.out.cell (World.block_lt_of_cell? wr _ cv)).trans cv
      have fV : V.frozen? ⟨W.heap.size, i, none⟩ = false := by rw [World.frozen?_of_block (w := wr) (w' := V) (a := ⟨W.heap.size, i, none⟩) (B5.out.block _ hgw)]; exact HPK.out.fz i
      have hi' : (i : Int) < 601 := by omega
      have hi2 : (i : Int) ≤ 601 := by omega
      obtain ⟨V6, hV6⟩ : ∃ V6, V6 = V.setCell ⟨W.heap.size, i, none⟩ (.int .i32 x1) := ⟨_, rfl⟩
      obtain ⟨S', hS'⟩ : ∃ S', S' = S.set i x1 := ⟨_, rfl⟩
      have S6 : Sl V6 (some ⟨W.heap.size, 0, none⟩) S' := by rw [hV6, hS']; exact (HP.out.bel B5.out).put (by have := HSl.out; omega) x1 y1
      have hSl' : S'.length = 601 := by rw [hS', List.length_set]; exact HSl.out
      have B6 := hid (show Below W.heap.size W V6 by rw [hV6]; exact (BK.out.trans (B5.out.mono BK.out.size)).setCell (Nat.le_refl _) _)
      have SM := hid (fun (m : Nat) (hm : m ≤ 601) w' (hb : Below V6.heap.size V6 w') => by
        have h1 : (S'.take m).length = m := by simp; omega
        have := same13_c (some ⟨W.heap.size, 0, none⟩) 601 (S'.take m) w' ((S6.take m).bel hb) (by omega)
        rw [h1] at this
        exact this)
      clear b4 b5 b25 F4 F2 C2 B23 S6 hSl' hS'
      go_upto_region 10 with fail
      rw [← hV]; clear hV
      go_upto_region 13 with fail
      rw [← hV6]; clear hV6
      go_wp2_with fail
      refine (SM.out 600 (by omega) V6 (Below.refl _ _)).mono ?_
      rintro _ w7 ⟨rfl, b7⟩
      have B7 := hid b7
      clear b7
      go_wp2_with fail
      refine (SM.out i (by omega) w7 B7.out).mono ?_
      rintro _ w8 ⟨rfl, b8⟩
      have B8 := hid (B7.out.trans (b8.mono B7.out.size))
      clear b8
      go_wp2_with fail
      refine (SM.out 601 (by omega) w8 B8.out).mono ?_
      rintro _ w9 ⟨rfl, b9⟩
      have B9 := hid (B8.out.trans (b9.mono B8.out.size))
      clear b9
      have IY := hid (index_c x0 40 w9 (by omega) (by omega))
      go_wp2_with fail
      refine IY.out.mono ?_
      rintro _ _ ⟨⟨j, hj, rfl⟩, rfl⟩
      have hj' : (j : Int) ≤ 601 := by omega
      go_wp2_with fail
      refine (SM.out j (by omega) w9 B9.out).mono ?_
      rintro _ w10 ⟨rfl, b10⟩
      have B10 := hid (B6.out.trans ((B9.out.trans (b10.mono B9.out.size)).mono B6.out.size))
      clear b10
      have hs97 : sgn 97 = true := by decide
      go_wp2_with (go_at_call 15; (with_reducible refine (rsign_c _ _).mono ?_); rintro e w' ⟨rfl, rfl⟩)
      refine (known13_c w10).mono ?_
      rintro _ w11 ⟨rfl, b11⟩
      have B11 := hid (B10.out.trans (b11.mono B10.out.size))
      clear b11
      go_wp2_with fail
      go_ret
      exact ⟨rfl, B11.out⟩
end Go.Proofs.Ytefgjicegbhcaaa
