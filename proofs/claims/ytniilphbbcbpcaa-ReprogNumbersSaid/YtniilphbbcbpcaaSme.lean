/- The document's SameRe: lists of nodes that read alike are told to be the same. -/
import Derived.Test.YtniilphbbcbpcaaRga
import Derived.Test.YtniilphbbcbpcaaSignsL
import Derived.Deep.RegionHeld3
namespace Go.Proofs.Ytniilphbbcbpcaa
open Go.RowKit ReM

theorem eqM_refl (l : List Int) : eqM l l = true := by simp [eqM]
set_option maxRecDepth 20000 in
set_option maxHeartbeats 16000000 in
theorem samere_c (a1 a2 : Option Addr) (c1 c2 : Nat) (M N : List Rm) (w : World) (h1 : RSl encRe w a1 M) (h2 : RSl encRe w a2 N) (o1 : Rms w (fun _ => False) M) (o2 : Rms w (fun _ => False) N) (h : rns M = rns N) :
    Calls Try.prog 19 #[.slice a1 M.length c1, .slice a2 N.length c2] w fun e w' => e = .returned (.bool true) ∧ Below w.heap.size w w' := by
  have hl : M.length ≤ 2199023255552 := h1.len
  have e : M.length = N.length := by rw [← rns_len, h, rns_len]
  have H := hid h
  have HM := hid h1
  have HN := hid h2
  have Ht := hid (fun i (hi : i < M.length) => show (rgt M i).rn = (rgt N i).rn by rw [← rns_get M hi, ← rns_get N (by omega)]; simp only [h])
  clear h h1 h2
  have b0 : ((M.length : Int) != N.length) = false := by rw [e]; simp
  have he := hid e
  go_enter Try.func19, Try.ntmps19
  go_wp2_with fail
  go_loopw [5] (fun iv wr => ∃ k : Nat, k ≤ M.length ∧ iv = .int .i64 k ∧ Below w.heap.size w wr) (fun iv _ => M.length - (intOf iv).toNat)
  case atStart => exact ⟨0, by omega, rfl, by (repeat' (first | exact Below.refl _ _ | assumption | refine bdrewN ?_ _ | refine Below.drew ?_ | refine Below.setCell ?_ (Nat.le_refl _) _ | refine bal ?_ _ | refine bthen ?_ (by assumption)))⟩
  case round =>
    obtain ⟨k, hk, rfl, hb⟩ := hrel
    by_cases hlt : k < M.length
    · obtain ⟨p1, q1, rfl, r1⟩ := (HM.out.bel hb).rc1 hlt
      obtain ⟨p2, q2, rfl, r2⟩ := (HN.out.bel hb).rc1 (show k < N.length by omega)
      obtain ⟨x0, x1, x2, x3, x4, x5, x6⟩ := rec_re r1
      obtain ⟨y0, y1, y2, y3, y4, y5, y6⟩ := rec_re r2
      have S1 := hid ((o1 _ (rgt_mem hlt)).set.bel hb)
      have S2 := hid ((o2 _ (rgt_mem (show k < N.length by omega))).set.bel hb)
      have et := Ht.out k hlt
      have hB1 : p1 < wr.heap.size := World.block_lt_of_cell? wr _ x0
      have hB2 : p2 < wr.heap.size := World.block_lt_of_cell? wr _ y0
      have z2 : (k : Int) < (N.length : Int) := by omega
      have z1 : (k : Int) < (M.length : Int) := by omega
      have w1' : IntKind.i64.wrap ((k : Int) + 1) = ((k + 1 : Nat) : Int) := by rw [IntKind.wrap_i64]; omega
      clear r1 r2
      generalize rgt M k = m at *
      generalize rgt N k = n at *
      obtain ⟨mk, md, ml, mh, mz, mn, ma, ms, mc⟩ := m
      obtain ⟨nk, nd, nl, nh, nz, nn, na, ns, nc⟩ := n
      simp only [Rm.rn, Rn.mk.injEq] at et
      obtain ⟨rfl, rfl, rfl, rfl, rfl, rfl, rfl⟩ := et
      dsimp only at *
      have KX := hid (fun w' (hw : Below wr.heap.size wr w') => show w'.cell? ⟨p1, q1 + k * 7, none⟩ = some (.int .i64 mk) ∧ w'.cell? ⟨p1, q1 + k * 7 + 1, none⟩ = some (.int .i64 md) ∧ w'.cell? ⟨p1, q1 + k * 7 + 2, none⟩ = some (.int .i64 ml) ∧ w'.cell? ⟨p1, q1 + k * 7 + 3, none⟩ = some (.int .i64 mh) ∧ w'.cell? ⟨p1, q1 + k * 7 + 4, none⟩ = some (.bool mz) ∧ w'.cell? ⟨p1, q1 + k * 7 + 5, none⟩ = some (.bool mn) ∧ w'.cell? ⟨p1, q1 + k * 7 + 6, none⟩ = some (.slice ma ms.length mc) ∧ w'.cell? ⟨p2, q2 + k * 7, none⟩ = some (.int .i64 mk) ∧ w'.cell? ⟨p2, q2 + k * 7 + 1, none⟩ = some (.int .i64 md) ∧ w'.cell? ⟨p2, q2 + k * 7 + 2, none⟩ = some (.int .i64 ml) ∧ w'.cell? ⟨p2, q2 + k * 7 + 3, none⟩ = some (.int .i64 mh) ∧ w'.cell? ⟨p2, q2 + k * 7 + 4, none⟩ = some (.bool mz) ∧ w'.cell? ⟨p2, q2 + k * 7 + 5, none⟩ = some (.bool mn) ∧ w'.cell? ⟨p2, q2 + k * 7 + 6, none⟩ = some (.slice na ms.length nc) from by
        refine ⟨?_, ?_, ?_, ?_, ?_, ?_, ?_, ?_, ?_, ?_, ?_, ?_, ?_, ?_⟩
        all_goals first | (rw [hw.cell (by exact hB1)]; assumption) | (rw [hw.cell (by exact hB2)]; assumption))
      clear e he
      go_wp2_with fail
      go_region_held3 (fun w' => w'.cell? ⟨p1, q1 + k * 7, none⟩ = some (.int .i64 mk) ∧ w'.cell? ⟨p1, q1 + k * 7 + 1, none⟩ = some (.int .i64 md) ∧ w'.cell? ⟨p1, q1 + k * 7 + 2, none⟩ = some (.int .i64 ml) ∧ w'.cell? ⟨p1, q1 + k * 7 + 3, none⟩ = some (.int .i64 mh) ∧ w'.cell? ⟨p1, q1 + k * 7 + 4, none⟩ = some (.bool mz) ∧ w'.cell? ⟨p1, q1 + k * 7 + 5, none⟩ = some (.bool mn) ∧ w'.cell? ⟨p1, q1 + k * 7 + 6, none⟩ = some (.slice ma ms.length mc) ∧ w'.cell? ⟨p2, q2 + k * 7, none⟩ = some (.int .i64 mk) ∧ w'.cell? ⟨p2, q2 + k * 7 + 1, none⟩ = some (.int .i64 md) ∧ w'.cell? ⟨p2, q2 + k * 7 + 2, none⟩ = some (.int .i64 ml) ∧ w'.cell? ⟨p2, q2 + k * 7 + 3, none⟩ = some (.int .i64 mh) ∧ w'.cell? ⟨p2, q2 + k * 7 + 4, none⟩ = some (.bool mz) ∧ w'.cell? ⟨p2, q2 + k * 7 + 5, none⟩ = some (.bool mn) ∧ w'.cell? ⟨p2, q2 + k * 7 + 6, none⟩ = some (.slice na ms.length nc)) (first | assumption | exact ⟨by assumption, by assumption, by assumption, by assumption, by assumption, by assumption, by assumption, by assumption, by assumption, by assumption, by assumption, by assumption, by assumption, by assumption⟩ | go_keep) (fail)
      all_goals clear x0 x1 x2 x3 x4 x5 x6 y0 y1 y2 y3 y4 y5 y6
      · obtain ⟨V, hV⟩ : ∃ V, V = (wr.alloc (.cells #[.int .i64 mk, .int .i64 md, .int .i64 ml, .int .i64 mh, .bool mz, .bool mn, .slice ma ms.length mc] 50)).alloc (.cells #[.int .i64 mk, .int .i64 md, .int .i64 ml, .int .i64 mh, .bool mz, .bool mn, .slice na ms.length nc] 50) := ⟨_, rfl⟩
        have hn1 : NdC V wr.heap.size mk md ml mh mz mn (.slice ma ms.length mc) := by subst hV; exact (NdC.new _ _ _ _ _ _ _ _ _ _ rfl).alloc _
        have hn2 : NdC V (wr.heap.size + 1) mk md ml mh mz mn (.slice na ms.length nc) := by subst hV; exact NdC.new _ _ _ _ _ _ _ _ _ _ (by simp)
        have bV : Below wr.heap.size wr V := by subst hV; (repeat' (first | exact Below.refl _ _ | assumption | refine bdrewN ?_ _ | refine Below.drew ?_ | refine bal ?_ _ | refine bthen ?_ (by assumption)))
        have T1 := hid (S1.out.bel bV)
        have T2 := hid (S2.out.bel bV)
        have hbV := hid (hb.trans (bV.mono hb.size))
        rw [← hV]
        (have g0 := hn1.c0; have g1 := hn1.c1; have g2 := hn1.c2; have g3 := hn1.c3; have g4 := hn1.c4; have g5 := hn1.c5; have g6 := hn1.c6; have gf0 := hn1.fz 0; have gf1 := hn1.fz 1; have gf2 := hn1.fz 2; have gf3 := hn1.fz 3; have gf4 := hn1.fz 4; have gf5 := hn1.fz 5; have gf6 := hn1.fz 6; have gz := hn1.lt; clear hn1)
        (have h0 := hn2.c0; have h1 := hn2.c1; have h2 := hn2.c2; have h3 := hn2.c3; have h4 := hn2.c4; have h5 := hn2.c5; have h6 := hn2.c6; have hf0 := hn2.fz 0; have hf1 := hn2.fz 1; have hf2 := hn2.fz 2; have hf3 := hn2.fz 3; have hf4 := hn2.fz 4; have hf5 := hn2.fz 5; have hf6 := hn2.fz 6; have hz := hn2.lt; clear hn2)
        clear hV S1 S2 bV
        as_aux_lemma =>
        go_wp2_with (go_at_call 35; refine (rsame_c _ _ _ _ _ _ _ T1.out.drew T2.out.drew).mono ?_; rintro _ w5 ⟨rfl, n5, rfl⟩; rw [eqM_refl])
        exact ⟨⟨k + 1, by omega, by go_num, bdrewN hbV.out _⟩, by simp [intOf]; omega⟩
      · obtain ⟨V, hV⟩ : ∃ V, V = (wr.alloc (.cells #[.int .i64 mk, .int .i64 md, .int .i64 ml, .int .i64 mh, .bool mz, .bool mn, .slice na ms.length nc] 50)).alloc (.cells #[.int .i64 mk, .int .i64 md, .int .i64 ml, .int .i64 mh, .bool mz, .bool mn, .slice ma ms.length mc] 50) := ⟨_, rfl⟩
        have hn1 : NdC V (wr.heap.size + 1) mk md ml mh mz mn (.slice ma ms.length mc) := by subst hV; exact NdC.new _ _ _ _ _ _ _ _ _ _ (by simp)
        have hn2 : NdC V wr.heap.size mk md ml mh mz mn (.slice na ms.length nc) := by subst hV; exact (NdC.new _ _ _ _ _ _ _ _ _ _ rfl).alloc _
        have bV : Below wr.heap.size wr V := by subst hV; (repeat' (first | exact Below.refl _ _ | assumption | refine bdrewN ?_ _ | refine Below.drew ?_ | refine bal ?_ _ | refine bthen ?_ (by assumption)))
        have T1 := hid (S1.out.bel bV)
        have T2 := hid (S2.out.bel bV)
        have hbV := hid (hb.trans (bV.mono hb.size))
        rw [← hV]
        (have g0 := hn1.c0; have g1 := hn1.c1; have g2 := hn1.c2; have g3 := hn1.c3; have g4 := hn1.c4; have g5 := hn1.c5; have g6 := hn1.c6; have gf0 := hn1.fz 0; have gf1 := hn1.fz 1; have gf2 := hn1.fz 2; have gf3 := hn1.fz 3; have gf4 := hn1.fz 4; have gf5 := hn1.fz 5; have gf6 := hn1.fz 6; have gz := hn1.lt; clear hn1)
        (have h0 := hn2.c0; have h1 := hn2.c1; have h2 := hn2.c2; have h3 := hn2.c3; have h4 := hn2.c4; have h5 := hn2.c5; have h6 := hn2.c6; have hf0 := hn2.fz 0; have hf1 := hn2.fz 1; have hf2 := hn2.fz 2; have hf3 := hn2.fz 3; have hf4 := hn2.fz 4; have hf5 := hn2.fz 5; have hf6 := hn2.fz 6; have hz := hn2.lt; clear hn2)
        clear hV S1 S2 bV
        as_aux_lemma =>
        go_wp2_with (go_at_call 35; refine (rsame_c _ _ _ _ _ _ _ T1.out.drew T2.out.drew).mono ?_; rintro _ w5 ⟨rfl, n5, rfl⟩; rw [eqM_refl])
        exact ⟨⟨k + 1, by omega, by go_num, bdrewN hbV.out _⟩, by simp [intOf]; omega⟩
    · obtain rfl : k = M.length := by omega
      go_wp2_with fail
      go_ret
      exact ⟨rfl, hb⟩
end Go.Proofs.Ytniilphbbcbpcaa
