/- What every program of layer 8 answers: known. -/
import Derived.Test.YtniilphbbcbpcaaRga
namespace Go.Proofs.Ytniilphbbcbpcaa
open Go.RowKit ReM

theorem parse_k1 : parseW [97, 124, 40, 98, 41] = ([nAlt, low1 nRow, low1 (low1 (nSet false [97, 97])), low1 nRow, low1 (low1 (nGroup 1)), low1 (low1 (low1 nRow)), low1 (low1 (low1 (low1 (nSet false [98, 98]))))], 0, 0) := by kernel_rfl
theorem parse_k2 : parseW [97, 42, 42] = ([], 5, 2) := by kernel_rfl
theorem rns_at {L : List Rm} {l : List Rn} (h : rns L = l) {i : Nat} (hi : i < L.length) : (rgt L i).rn = l.getD i ⟨0, 0, 0, 0, false, false, []⟩ := by
  subst h
  rw [List.getD_eq_getElem?_getD, List.getElem?_eq_getElem (by rw [rns_len]; exact hi), rns_get L hi]
  rfl
set_option maxRecDepth 20000 in
set_option maxHeartbeats 16000000 in
theorem known_c (w : World) : Calls Try.prog 9 #[] w fun e' w' => e' = .returned (.bool true) ∧ Below w.heap.size w w' := by
  obtain ⟨V, hV⟩ : ∃ V, V = w.alloc (.cells #[.int .i32 97, .int .i32 124, .int .i32 40, .int .i32 98, .int .i32 41] 21) := ⟨_, rfl⟩
  have sV : Sl V (some ⟨w.heap.size, 0, none⟩) [97, 124, 40, 98, 41] := by subst hV; exact (Sl.lit' _ [97, 124, 40, 98, 41] _ _ (by simp) (by simp) (by simp [rng]) _ rfl)
  have bV : Below w.heap.size w V := by subst hV; (repeat' (first | exact Below.refl _ _ | assumption | refine bdrewN ?_ _ | refine Below.drew ?_ | refine bal ?_ _ | refine bthen ?_ (by assumption)))
  have zV : V.heap.size = w.heap.size + 1 := by subst hV; simp
  have C1 := hid (parse_c (some ⟨w.heap.size, 0, none⟩) 5 [97, 124, 40, 98, 41] V sV (by simp))
  rw [parse_k1] at C1
  go_enter Try.func9, Try.ntmps9
  go_wp2_with fail
  rw [← hV]; clear hV sV
  refine C1.out.mono ?_
  rintro _ w1 ⟨a2, c2, L, rfl, hrn, ho, -, -, b1⟩
  have hL := hid (show L.length = 7 by rw [← rns_len, hrn]; rfl)
  have hat := hid (fun i hi => rns_at hrn (i := i) hi)
  have hG := hid (show (gsL (rns L)).length = 1 by rw [hrn]; decide)
  obtain ⟨g, rfl, hg1, hg2, hg3⟩ : ∃ g, a2 = some ⟨g, 0, none⟩ ∧ V.heap.size ≤ g ∧ g < w1.heap.size ∧ L.length ≤ c2 := by
    rcases ho.shape with ⟨_, _, h0⟩ | h0
    · rw [h0] at hL; cases hL.out
    · exact h0
  have Ho := hid ho
  have B1 := hid (bV.trans (b1.mono (by omega)))
  have zw := b1.size
  clear hrn ho b1 C1
  go_upto_region 2 with fail
  obtain ⟨V2, hV2⟩ : ∃ V2, V2 = w1.alloc (.cells #[.int .i64 0, .int .i64 0] 42) := ⟨_, rfl⟩
  have F1 : FtC V2 w1.heap.size 0 0 := by rw [hV2]; exact FtC.new _ _ _ _ _ rfl
  have O2 : RO V2 V.heap.size (some ⟨g, 0, none⟩) c2 L := by rw [hV2]; exact Ho.out.grow (by (repeat' (first | exact Below.refl _ _ | assumption | refine bdrewN ?_ _ | refine Below.drew ?_ | refine bal ?_ _ | refine bthen ?_ (by assumption))))
  have B2 : Hid (Below w.heap.size w V2) := by rw [hV2]; exact B1.out.trans (Below.mono (by (repeat' (first | exact Below.refl _ _ | assumption | refine bdrewN ?_ _ | refine Below.drew ?_ | refine bal ?_ _ | refine bthen ?_ (by assumption)))) (by omega))
  rw [← hV2]; clear hV2 Ho B1
  obtain ⟨V3, hV3⟩ : ∃ V3, V3 = V2.alloc (.cells #[.int .i32 97, .int .i32 42, .int .i32 42] 21) := ⟨_, rfl⟩
  have sV : Sl V3 (some ⟨V2.heap.size, 0, none⟩) [97, 42, 42] := by subst hV3; exact (Sl.lit' _ [97, 42, 42] _ _ (by simp) (by simp) (by simp [rng]) _ rfl)
  have bV3 : Below V2.heap.size V2 V3 := by subst hV3; (repeat' (first | exact Below.refl _ _ | assumption | refine bdrewN ?_ _ | refine Below.drew ?_ | refine bal ?_ _ | refine bthen ?_ (by assumption)))
  have C2 := hid (parse_c (some ⟨V2.heap.size, 0, none⟩) 3 [97, 42, 42] V3 sV (by simp))
  rw [parse_k2] at C2
  have F2 := hid (F1.bel bV3)
  have O3 := hid (O2.grow bV3)
  have B3 := hid (B2.out.trans (bV3.mono B2.out.size))
  clear F1 O2 B2
  go_wp2_with fail
  rw [← hV3]; clear hV3 sV bV3
  refine C2.out.mono ?_
  rintro _ w3 ⟨a4, c4, L4, rfl, -, -, -, -, b4⟩
  have F4 := F2.out.bel b4
  have O4 := O3.out.grow b4
  have B4 := hid (B3.out.trans (b4.mono B3.out.size))
  have GC := hid (fun w' (h : Below w3.heap.size w3 w') => groups_c (some ⟨g, 0, none⟩) c2 L w' (O4.grow h).sl)
  have k0 := (rec_re (O4.at (i := 0) (by rw [hL.out]; decide))).1
  have k1 := (rec_re (O4.at (i := 1) (by rw [hL.out]; decide))).1
  have d1 := (rec_re (O4.at (i := 1) (by rw [hL.out]; decide))).2.1
  have k2 := (rec_re (O4.at (i := 2) (by rw [hL.out]; decide))).1
  have d2 := (rec_re (O4.at (i := 2) (by rw [hL.out]; decide))).2.1
  have k4 := (rec_re (O4.at (i := 4) (by rw [hL.out]; decide))).1
  have o4 := (rec_re (O4.at (i := 4) (by rw [hL.out]; decide))).2.2.1
  have d6 := (rec_re (O4.at (i := 6) (by rw [hL.out]; decide))).2.1
  have e0 := hat.out 0 (by rw [hL.out]; decide)
  have e1 := hat.out 1 (by rw [hL.out]; decide)
  have e2 := hat.out 2 (by rw [hL.out]; decide)
  have e4 := hat.out 4 (by rw [hL.out]; decide)
  have e6 := hat.out 6 (by rw [hL.out]; decide)
  rw [show (rgt L 0).kind = 1 from congrArg Rn.kind e0] at k0
  rw [show (rgt L 1).kind = 0 from congrArg Rn.kind e1] at k1
  rw [show (rgt L 1).deep = 1 from congrArg Rn.deep e1] at d1
  rw [show (rgt L 2).kind = 2 from congrArg Rn.kind e2] at k2
  rw [show (rgt L 2).deep = 2 from congrArg Rn.deep e2] at d2
  rw [show (rgt L 4).kind = 5 from congrArg Rn.kind e4] at k4
  rw [show (rgt L 4).lo = 1 from congrArg Rn.lo e4] at o4
  rw [show (rgt L 6).deep = 4 from congrArg Rn.deep e6] at d6
  simp only [encRe] at k0 k1 d1 k2 d2 k4 o4 d6
  have m0 := F4.c0
  have m1 := F4.c1
  have m2 := F4.lt
  have z3 : g < w3.heap.size := World.block_lt_of_cell? w3 _ k0
  have z7 : ((L.length : Int) == 7) = true := by rw [hL.out]; rfl
  have zp : 6 < L.length := by rw [hL.out]; decide
  clear F4 O4 F2 O3 C2 b4 e0 e1 e2 e4 e6
  dsimp only
  go_wp2_with (go_at_call 20; refine (GC.out _ (by (repeat' (first | exact Below.refl _ _ | assumption | refine bdrewN ?_ _ | refine Below.drew ?_ | refine bal ?_ _ | refine bthen ?_ (by assumption))))).mono ?_; rintro _ w5 ⟨rfl, b5⟩; have hgs : (gsL (rns L)).length = 1 := hG.out; rw [hgs])
  go_ret
  exact ⟨rfl, B4.out.trans (Below.mono (bthen (by (repeat' (first | exact Below.refl _ _ | assumption | refine bdrewN ?_ _ | refine Below.drew ?_ | refine bal ?_ _ | refine bthen ?_ (by assumption)))) b5) B4.out.size)⟩
end Go.Proofs.Ytniilphbbcbpcaa
