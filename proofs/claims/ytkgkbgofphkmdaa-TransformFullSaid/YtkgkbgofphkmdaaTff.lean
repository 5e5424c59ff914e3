/- TransformFull: the matches of a pattern of one dot; each sign doubled; the walk. -/
import Derived.Test.YtkgkbgofphkmdaaFoX
import Derived.Test.YtkgkbgofphkmdaaKeepR
namespace Go.Proofs.Ytkgkbgofphkmdaa
open Go.RowKit FmM ReM
namespace ReM
def pD : List Ins := (compW [46]).1
theorem comp_pd : compW [46] = (pD, 0, 0) := by kernel_rfl
theorem grp_pd : (gsL (parseW [46]).1).length = 0 := by kernel_rfl
theorem pd_is : pD = [iSave 0, ⟨0, 0, 0, true, [10, 10]⟩, iSave 1, iMatch] := by kernel_rfl
theorem dot_in {x : Int} (h : x ≠ 10) : inW false (igt pD 1) x = true := by
  rw [pd_is]
  show ((inR [10, 10] x || (false && _)) != true) = true
  have : inR [10, 10] x = false := by
    simp only [inR, Bool.or_false]
    rw [Bool.and_eq_false_iff, decide_eq_false_iff_not, decide_eq_false_iff_not]; omega
  rw [this]; rfl
theorem dot_hit {s : List Int} {k : Nat} (hk : k < s.length) (hx : gt s k ≠ 10) : Hits (mch pD s false) [-1, -1] k none_ [(k : Int), ((k + 1 : Nat) : Int)] := by
  have i0 : igt pD 0 = iSave 0 := by rw [pd_is]; rfl
  have i1 : (igt pD 1).op = 0 := by rw [pd_is]; rfl
  have i2 : igt pD 2 = iSave 1 := by rw [pd_is]; rfl
  have i3 : (igt pD 3).op = 6 := by rw [pd_is]; rfl
  have s0 : succs (mch pD s false) ⟨0, k, [-1, -1]⟩ = [⟨1, k, [(k : Int), -1]⟩] := by
    unfold succs
    show (if (igt pD 0).op = 0 then _ else _) = _
    rw [show (mch pD s false).P = pD from rfl, i0]; rfl
  have s1 : succs (mch pD s false) ⟨1, k, [(k : Int), -1]⟩ = [⟨2, k + 1, [(k : Int), -1]⟩] := by
    unfold succs
    have hok : (mch pD s false).ok 1 k = true := by
      show (decide (k < s.length) && inW false (igt pD 1) (gt s k)) = true
      rw [decide_eq_true hk, dot_in hx]; rfl
    show (if (igt pD 1).op = 0 then (if (mch pD s false).ok 1 k then _ else _) else _) = _
    rw [if_pos i1, hok]; rfl
  have s2 : succs (mch pD s false) ⟨2, k + 1, [(k : Int), -1]⟩ = [⟨3, k + 1, [(k : Int), ((k + 1 : Nat) : Int)]⟩] := by
    unfold succs
    show (if (igt pD 2).op = 0 then _ else _) = _
    rw [show (mch pD s false).P = pD from rfl, i2]; rfl
  have r0 : Run (mch pD s false) [⟨0, k, [-1, -1]⟩] none_ [⟨1, k, [(k : Int), -1]⟩] (mark none_ 0 k) := by
    have := Run.step (m := mch pD s false) (p := ⟨0, k, [-1, -1]⟩) (S := []) (v := none_) rfl (by show (igt pD 0).op ≠ 6; rw [i0]; decide)
    rw [s0] at this; exact this
  have r1 : Run (mch pD s false) [⟨1, k, [(k : Int), -1]⟩] (mark none_ 0 k) [⟨2, k + 1, [(k : Int), -1]⟩] (mark (mark none_ 0 k) 1 k) := by
    have := Run.step (m := mch pD s false) (p := ⟨1, k, [(k : Int), -1]⟩) (S := []) (v := mark none_ 0 k) (by show mark none_ 0 k 1 k = false; rw [mark_ne (by omega)]; rfl) (by show (igt pD 1).op ≠ 6; rw [i1]; decide)
    rw [s1] at this; exact this
  have r2 : Run (mch pD s false) [⟨2, k + 1, [(k : Int), -1]⟩] (mark (mark none_ 0 k) 1 k) [⟨3, k + 1, [(k : Int), ((k + 1 : Nat) : Int)]⟩] (mark (mark (mark none_ 0 k) 1 k) 2 (k + 1)) := by
    have := Run.step (m := mch pD s false) (p := ⟨2, k + 1, [(k : Int), -1]⟩) (S := []) (v := mark (mark none_ 0 k) 1 k) (by show mark (mark none_ 0 k) 1 k 2 (k + 1) = false; rw [mark_ne (by omega), mark_ne (by omega)]; rfl) (by show (igt pD 2).op ≠ 6; rw [i2]; decide)
    rw [s2] at this; exact this
  exact ⟨_, _, _, (r0.trans r1).trans r2, by show mark (mark (mark none_ 0 k) 1 k) 2 (k + 1) 3 (k + 1) = false; rw [mark_ne (by omega), mark_ne (by omega), mark_ne (by omega)]; rfl, i3, rfl⟩
theorem dot_end {s : List Int} : FindR (mch pD s false) [-1, -1] s.length none := by
  have i0 : igt pD 0 = iSave 0 := by rw [pd_is]; rfl
  have i1 : (igt pD 1).op = 0 := by rw [pd_is]; rfl
  have s0 : succs (mch pD s false) ⟨0, s.length, [-1, -1]⟩ = [⟨1, s.length, [(s.length : Int), -1]⟩] := by
    unfold succs
    show (if (igt pD 0).op = 0 then _ else _) = _
    rw [show (mch pD s false).P = pD from rfl, i0]; rfl
  have s1 : succs (mch pD s false) ⟨1, s.length, [(s.length : Int), -1]⟩ = [] := by
    unfold succs
    have hok : (mch pD s false).ok 1 s.length = false := by
      show (decide (s.length < s.length) && inW false (igt pD 1) (gt s s.length)) = false
      rw [decide_eq_false (by omega)]; rfl
    show (if (igt pD 1).op = 0 then (if (mch pD s false).ok 1 s.length then _ else _) else _) = _
    rw [if_pos i1, hok]; rfl
  have r0 : Run (mch pD s false) [⟨0, s.length, [-1, -1]⟩] none_ [⟨1, s.length, [(s.length : Int), -1]⟩] (mark none_ 0 s.length) := by
    have := Run.step (m := mch pD s false) (p := ⟨0, s.length, [-1, -1]⟩) (S := []) (v := none_) rfl (by show (igt pD 0).op ≠ 6; rw [i0]; decide)
    rw [s0] at this; exact this
  have r1 : Run (mch pD s false) [⟨1, s.length, [(s.length : Int), -1]⟩] (mark none_ 0 s.length) [] (mark (mark none_ 0 s.length) 1 s.length) := by
    have := Run.step (m := mch pD s false) (p := ⟨1, s.length, [(s.length : Int), -1]⟩) (S := []) (v := mark none_ 0 s.length) (by show mark none_ 0 s.length 1 s.length = false; rw [mark_ne (by omega)]; rfl) (by show (igt pD 1).op ≠ 6; rw [i1]; decide)
    rw [s1] at this; exact this
  exact .miss (by show s.length ≤ s.length; omega) (r0.trans r1) (.out (by show s.length < _; omega))
/-- one match at each place -/
def dots : Nat → Nat → List (List Int)
  | _, 0 => []
  | k, m + 1 => [(k : Int), ((k + 1 : Nat) : Int)] :: dots (k + 1) m
theorem dots_all {s : List Int} (hs : ∀ j, j < s.length → gt s j ≠ 10) : ∀ (m k : Nat), k + m = s.length → AllR (mch pD s false) [-1, -1] k (dots k m) := by
  intro m
  induction m with
  | zero => intro k hk; rw [Nat.add_zero] at hk; subst hk; exact .done dot_end
  | succ m ih =>
    intro k hk
    refine .more (.hit (by show k ≤ s.length; omega) (dot_hit (by omega) (hs k (by omega)))) ?_
    have : nextF [(k : Int), ((k + 1 : Nat) : Int)] = k + 1 := by
      unfold nextF
      show (if (k : Int) = ((k + 1 : Nat) : Int) then _ else (((k + 1 : Nat) : Int)).toNat) = k + 1
      rw [if_neg (by omega), Int.toNat_natCast]
    rw [this]
    exact ih (k + 1) (by omega)
end ReM
/-- each sign twice -/
theorem dots_len {s : List Int} : ∀ (m k : Nat), k + m = s.length → (repl s [⟨1, 0, 0, [], []⟩, ⟨1, 0, 0, [], []⟩] k (dots k m)).length = 2 * m := by
  intro m
  induction m with
  | zero => intro k hk; show (s.drop k).length = 0; simp; omega
  | succ m ih =>
    intro k hk
    have h := ih (k + 1) (by omega)
    have eg : (gcap s [(k : Int), ((k + 1 : Nat) : Int)] 0).length = 1 := by
      have : gcap s [(k : Int), ((k + 1 : Nat) : Int)] 0 = (s.take (((k + 1 : Nat) : Int)).toNat).drop ((k : Int)).toNat := by
        unfold gcap
        rw [if_pos ⟨by show 0 < 2; decide, by show 0 ≤ (k : Int); omega⟩]
        rfl
      rw [this, Int.toNat_natCast, Int.toNat_natCast, List.length_drop, List.length_take]; omega
    have ef : (fillF (gcap s [(k : Int), ((k + 1 : Nat) : Int)]) [⟨1, 0, 0, [], []⟩, ⟨1, 0, 0, [], []⟩]).length = 2 := by
      have : fillF (gcap s [(k : Int), ((k + 1 : Nat) : Int)]) [⟨1, 0, 0, [], []⟩, ⟨1, 0, 0, [], []⟩] = gcap s [(k : Int), ((k + 1 : Nat) : Int)] 0 ++ (gcap s [(k : Int), ((k + 1 : Nat) : Int)] 0 ++ []) := by
        simp [fillF, ptx, cas_zero]
      rw [this, List.length_append, List.length_append, eg]; rfl
    show ((s.take (k : Int).toNat).drop k ++ (fillF (gcap s [(k : Int), ((k + 1 : Nat) : Int)]) _ ++ repl s _ (((k + 1 : Nat) : Int)).toNat (dots (k + 1) m))).length = _
    rw [List.length_append, List.length_append, ef, Int.toNat_natCast, Int.toNat_natCast, h, List.length_drop, List.length_take]
    omega
theorem make_z (n : Nat) (w : World) (hn : n ≤ 100000) : (Instr.makeSlice 24 (.int .i64 n) (.int .i64 n)).run Try.prog w = .ok (.slice (some ⟨w.heap.size, 0, none⟩) n n) (w.alloc (.cells (madeCells #[.int .i32 0] n) 21)) := by
  obtain ⟨i0, hi, hz0, hz1, hz2⟩ := info_parts Try.infoI32
  have h := run_make (P := Try.prog) w 24 21 i0 (.int .i32 0) Try.underlying24 hi hz0 .i64 .i64 n n (by omega) (by omega) (by rw [hz2]; omega) (by omega)
  rw [h, hz1]
  simp [Value.cells]
/-- a text of so many r, the first k of it written -/
def rep (r : Int) (k n : Nat) : List Int := List.replicate k r ++ List.replicate (n - k) 0
theorem rep_len (r : Int) {k n : Nat} (h : k ≤ n) : (rep r k n).length = n := by simp [rep]; omega
theorem rep_gt (r : Int) {k n j : Nat} (hj : j < k) : gt (rep r k n) j = r := by
  unfold rep
  rw [gt_app_left (by simpa using hj), gt_get (by simpa using hj)]; simp
theorem rep_set (r : Int) {k n : Nat} (h : k < n) : (rep r k n).set k r = rep r (k + 1) n := by
  unfold rep
  rw [List.set_append_right _ _ (by simp), List.length_replicate, Nat.sub_self, show n - k = (n - (k + 1)) + 1 by omega, List.replicate_succ, List.set_cons_zero, List.replicate_succ', List.append_assoc]; rfl
/-- the text in memory while it is written: a block of its own -/
structure Rp (w : World) (g : Nat) (r : Int) (k n : Nat) : Prop where
  cell : ∀ j, j < n → w.cell? ⟨g, j, none⟩ = some (.int .i32 (gt (rep r k n) j))
  fz : ∀ j, w.frozen? ⟨g, j, none⟩ = false
theorem Rp.next {w : World} {g : Nat} {r : Int} {k n : Nat} (h : Rp w g r k n) (hk : k < n) : Rp (w.setCell ⟨g, k, none⟩ (.int .i32 r)) g r (k + 1) n := by
  refine ⟨fun j hj => ?_, fun j => by simp only [World.frozen?_setCell]; exact h.fz j⟩
  rw [← rep_set r hk]
  by_cases e : k = j
  · subst e
    rw [World.cell?_setCell_same (h := h.cell k hk)]
    rw [gt_get (by rw [List.length_set, rep_len r (by omega)]; exact hk)]; simp
  · rw [cell_set1 (h.cell j hj) e]
    unfold gt
    rw [List.getD_eq_getElem?_getD, List.getD_eq_getElem?_getD, List.getElem?_set_ne e]
def twoF : List Fo := [⟨1, 0, 0, none, [], 0, none, [], 0⟩, ⟨1, 0, 0, none, [], 0, none, [], 0⟩]
theorem mades_eq (n : Nat) : madeCells #[.int .i32 0] n = ((List.replicate n (0 : Int)).map (Value.int .i32)).toArray := by
  apply Array.ext
  · simp [madeCells]
  · intro i h1 h2
    simp [madeCells, Nat.mod_one]
theorem Rp.new (w : World) (n : Nat) (e : TypeId) (r : Int) : Rp (w.alloc (.cells (madeCells #[.int .i32 0] n) e)) w.heap.size r 0 n := by
  refine ⟨fun j hj => ?_, fun j => by simp⟩
  rw [cell_alloc_new, mades_eq]
  have e : gt (rep r 0 n) j = 0 := by
    unfold rep
    rw [gt_app_right (by simp), gt_get (by simpa using hj)]; simp
  rw [e]
  simp [hj]
theorem Rp.sl {w : World} {g : Nat} {r : Int} {n : Nat} (h : Rp w g r n n) (hn : n ≤ 1000) (hr : -2147483648 ≤ r ∧ r ≤ 2147483647) : Sl w (some ⟨g, 0, none⟩) (rep r n n) := by
  refine ⟨by rw [rep_len r (Nat.le_refl _)]; omega, fun x hx => ?_, .inr ⟨g, 0, rfl, fun j hj => ?_⟩⟩
  · simp [rep] at hx; rw [hx.2]; exact hr
  · rw [Nat.zero_add]; exact h.cell j (by rwa [rep_len r (Nat.le_refl _)] at hj)
theorem rep_may {r : Int} (h : sgn r = true) (n : Nat) : may (rep r n n) = true := by
  rw [may, List.all_eq_true]
  intro x hx
  simp [rep] at hx; rw [hx.2]; exact h
theorem twoF_sl (w : World) : FSl (w.alloc (.cells #[.int .i64 1, .int .i64 0, .int .i64 0, .slice none 0 0, .slice none 0 0, .int .i64 1, .int .i64 0, .int .i64 0, .slice none 0 0, .slice none 0 0] 26)) (some ⟨w.heap.size, 0, none⟩) twoF := by
  refine ⟨by decide, .inr ⟨_, _, rfl, fun n u hu => ?_⟩⟩
  rw [Nat.zero_add, cell_alloc_new]
  simpa [rflat, twoF, encFo] using hu
theorem twoF_fos (w : World) : Fos w (fun _ => False) twoF := fun m hm => by
  have : m = ⟨1, 0, 0, none, [], 0, none, [], 0⟩ := by simp [twoF] at hm; exact hm
  subst this
  exact ⟨fun _ _ => Sl.nil _ _, by decide, fun _ _ => Sl.nil _ _, by decide, by unfold ir; decide, by unfold ir; decide, by unfold ir; decide⟩
def FullE (w : World) (n : Nat) (e' : Ending) (w' : World) : Prop :=
  Below w.heap.size w w' ∧ ((1000 < 2 * n ∧ e' = runE (.slice none 0 0) 3 0) ∨ (2 * n ≤ 1000 ∧ ∃ a c, e' = runE (.slice a (2 * n) c) 0 0))
theorem fullrun_c (g : Nat) (b fa : Option Addr) (r : Int) (n : Nat) (w : World) (h : Rp w g r n n) (hn : n ≤ 1000) (hr : -2147483648 ≤ r ∧ r ≤ 2147483647) (hs : sgn r = true) (h10 : r ≠ 10) (hp : Sl w b [46]) (hM : FSl w fa twoF) :
    Calls Try.prog 7 #[.slice (some ⟨g, 0, none⟩) n n, .slice b 1 1, .slice fa 2 2, .bool true, .bool false] w (FullE w n) := by
  have hl := rep_len r (Nat.le_refl n)
  have hc := run_c (some ⟨g, 0, none⟩) n (rep r n n) b 1 [46] fa 2 twoF true false 1000 w (h.sl hn hr) (by rw [hl]; exact Nat.le_refl _) hp (by decide) hM (twoF_fos w) (fun m hm => by
    have : m = ⟨1, 0, 0, none, [], 0, none, [], 0⟩ := by simp [twoF] at hm; exact hm
    subst this; decide) (by decide) (by decide)
  rw [hl] at hc
  refine hc.mono ?_
  rintro e' w' ⟨hb, ⟨h1, -⟩ | ⟨-, ⟨e, f, h1, h2, -⟩ | ⟨P, G, F, hP, hM, hG9, hG, hF, hr⟩⟩⟩
  · exact absurd ⟨by rw [hl]; exact hn, rep_may hs n, by decide⟩ h1
  · rw [comp_pd] at h1; simp only [Prod.mk.injEq] at h1; exact absurd h1.2.1.symm h2
  · rw [grp_pd] at hG
    subst hG
    rw [comp_pd] at hP
    obtain rfl : P = pD := by simpa using hP
    have hd := dots_all (s := rep r n n) (fun j hj => by rw [rep_gt r (by rwa [hl] at hj)]; exact h10) n 0 (by rw [hl]; omega)
    have hF1 : F = dots 0 n := by
      have hF' : AllR (mch pD (rep r n n) false) [-1, -1] 0 F := by simpa [FndR] using hF
      exact hF'.one hd
    have hlen : (repl (rep r n n) (fps twoF) 0 F).length = 2 * n := by rw [hF1]; exact dots_len n 0 (by rw [hl]; omega)
    rw [hlen] at hr
    rcases hr with ⟨k1, k2⟩ | ⟨k1, a, c, k2, -⟩
    · exact ⟨hb, .inl ⟨k1, k2⟩⟩
    · exact ⟨hb, .inr ⟨k1, a, c, k2⟩⟩
set_option maxRecDepth 20000 in
set_option maxHeartbeats 60000000 in
theorem full_w (x0 x1 : Int) (W : World) (y0 : -2147483648 ≤ x0 ∧ x0 ≤ 2147483647) :
    Calls Try.prog 3 #[.int .i32 x0, .int .i64 x1] W fun e w' => e = .returned (.bool true) ∧ Below W.heap.size W w' := by
  have SG := hid (rsign_c x0 W)
  have IX : Hid (∀ w', Calls Try.prog 6 #[.int .i64 x1, .int .i64 5] w' fun e w2 => (∃ i : Nat, i < 5 ∧ e = .returned (.int .i64 i)) ∧ w' = w2) := hid fun w' => index_c x1 5 w' (by omega) (by omega)
  go_enter Try.func3, Try.ntmps3
  have tri : sgn x0 = false ∨ (sgn x0 = true ∧ x0 = 10) ∨ (sgn x0 = true ∧ x0 ≠ 10) := by
    cases sgn x0
    · exact .inl rfl
    · by_cases h : x0 = 10
      · exact .inr (.inl ⟨rfl, h⟩)
      · exact .inr (.inr ⟨rfl, h⟩)
  have hmain : ∃ r : Int, r = 114 := ⟨_, rfl⟩
  rcases tri with h1 | ⟨h1, h2⟩ | ⟨h1, h2⟩
  · rw [h1] at SG
    go_upto_region 3 with (go_at_call 5; (with_reducible refine SG.out.mono ?_); rintro _ _ ⟨rfl, rfl⟩)
    obtain ⟨r, hr⟩ := hmain
    rw [← hr]
    have hs : sgn r = true := by rw [hr]; decide
    have h10 : r ≠ 10 := by omega
    have yr : -2147483648 ≤ r ∧ r ≤ 2147483647 := by omega
    clear hr SG h1
    have HSg := hid hs
    have H10 := hid h10
    clear hs h10
    go_wp2_with fail
    refine (IX.out W).mono ?_
    rintro _ _ ⟨⟨i, hi, rfl⟩, rfl⟩
    obtain ⟨n, hn⟩ : ∃ n : Nat, (498 : Int) + (i : Int) = (n : Int) := ⟨498 + i, by omega⟩
    have hn1 : n ≤ 502 := by omega
    have hn0 : 498 ≤ n := by omega
    have mz := make_z n W (by omega)
    have R2 := hid (Rp.new W n 21 r)
    have b2 : Below W.heap.size W (W.alloc (.cells (madeCells #[.int .i32 0] n) 21)) := (Below.refl _ _).alloc (Nat.le_refl _) _
    have Hn := hid hn
    have Hi := hid hi
    clear hi
    go_upto_region 4 with fail
    clear hn
    go_upto_region 5 with fail
    generalize W.alloc (.cells (madeCells #[.int .i32 0] n) 21) = V2 at *
    have B2 := hid b2
    clear b2 mz
    go_wp2_with fail
    go_loopw [7, 25] (fun _ kv wr => ∃ k : Nat, kv = .int .i64 k ∧ k ≤ n ∧ Hid (Rp wr W.heap.size r k n) ∧ Hid (Below W.heap.size W wr)) (fun _ kv _ => n - (intOf kv).toNat)
    case atStart => exact ⟨0, rfl, by omega, R2, B2⟩
    case round =>
      obtain ⟨k, rfl, hk, RK, BK⟩ := hrel
      by_cases hlt : k < n
      · have ck := RK.out.cell k hlt
        have fk := RK.out.fz k
        have e1 : decide (k < n) = true := decide_eq_true hlt
        go_wp2_with fail
        go_roundw
        case rel => exact ⟨k + 1, by go_num, by omega, hid (RK.out.next hlt), hid (BK.out.setCell (by exact Nat.le_refl _) _)⟩
        case measure => simp [intOf]; omega
      · obtain rfl : k = n := by omega
        have e1 : decide (k < k) = false := decide_eq_false (by omega)
        obtain ⟨V3, hV3⟩ : ∃ V3, V3 = wr.alloc (.cells #[.int .i64 1, .int .i64 0, .int .i64 0, .slice none 0 0, .slice none 0 0, .int .i64 1, .int .i64 0, .int .i64 0, .slice none 0 0, .slice none 0 0] 26) := ⟨_, rfl⟩
        have b3 : Below wr.heap.size wr V3 := by subst hV3; (repeat' (first | exact Below.refl _ _ | assumption | refine bdrewN ?_ _ | refine Below.drew ?_ | refine bal ?_ _ | refine bthen ?_ (by assumption)))
        have m3 : FSl V3 (some ⟨wr.heap.size, 0, none⟩) twoF := by subst hV3; exact twoF_sl wr
        have z3 : V3.heap.size = wr.heap.size + 1 := by subst hV3; simp
        obtain ⟨V4, hV4⟩ : ∃ V4, V4 = V3.alloc (.cells #[.int .i32 46] 21) := ⟨_, rfl⟩
        have b4 : Below V3.heap.size V3 V4 := by subst hV4; (repeat' (first | exact Below.refl _ _ | assumption | refine bdrewN ?_ _ | refine Below.drew ?_ | refine bal ?_ _ | refine bthen ?_ (by assumption)))
        have s4 : Sl V4 (some ⟨wr.heap.size + 1, 0, none⟩) [46] := by rw [hV4, hV3]; exact (Sl.lit' _ [46] _ _ (by simp) (by simp) (by simp [rng]) _ rfl)
        have b34 := b3.trans (b4.mono b3.size)
        have B4 := hid (BK.out.trans (b34.mono BK.out.size))
        have r4 : Rp V4 W.heap.size r k k := ⟨fun j hj => by
          have := RK.out.cell j hj
          exact (b34.cell (World.block_lt_of_cell? wr _ this)).trans this, fun j => by
          have hb : W.heap.size < wr.heap.size := World.block_lt_of_cell? wr _ (RK.out.cell 0 (by omega))
          rw [World.frozen?_of_block (w := wr) (a := ⟨W.heap.size, j, none⟩) (b34.block _ hb)]; exact RK.out.fz j⟩
        have RC := hid (fullrun_c W.heap.size _ _ r k V4 r4 (by omega) yr HSg.out H10.out s4 (m3.bel b4))
        have M4 := hid (m3.bel b4)
        clear b3 m3 b4 s4 b34 r4 RK
        go_wp2_with fail
        rw [← hV3, ← hV4]; clear hV3 hV4
        refine RC.out.mono ?_
        rintro _ w5 ⟨b5, hor⟩
        have B5 := hid (B4.out.trans (b5.mono B4.out.size))
        have M5 := hid (M4.out.bel b5)
        clear b5 RC M4 BK
        unfold runE at hor
        have hkn := Hn.out
        rcases hor with ⟨h2, rfl⟩ | ⟨h2, a, c, rfl⟩
        · obtain ⟨V6, hV6⟩ : ∃ V6, V6 = w5.alloc (.cells #[.int .i64 3, .int .i64 0] 30) := ⟨_, rfl⟩
          have F6 : FtC V6 w5.heap.size 3 0 := by rw [hV6]; exact FtC.new _ _ _ _ _ rfl
          have b6 : Below w5.heap.size w5 V6 := by rw [hV6]; (repeat' (first | exact Below.refl _ _ | assumption | refine bdrewN ?_ _ | refine Below.drew ?_ | refine bal ?_ _ | refine bthen ?_ (by assumption)))
          have B6 := hid (B5.out.trans (b6.mono B5.out.size))
          have c0 := F6.c0
          have c1 := F6.c1
          have q1 : decide ((1000 : Int) < 2 * (k : Int)) = true := decide_eq_true (by omega)
          have KC := hid (known12_c V6)
          clear F6 b6 hkn
          go_upto_region 12 with fail
          rw [← hV6]; clear hV6
          go_wp2_with fail
          refine KC.out.mono ?_
          rintro _ w7 ⟨rfl, b7⟩
          have B7 := hid (B6.out.trans (b7.mono B6.out.size))
          clear b7
          go_wp2_with fail
          go_ret
          exact ⟨rfl, B7.out⟩
        · obtain ⟨V6, hV6⟩ : ∃ V6, V6 = w5.alloc (.cells #[.int .i64 0, .int .i64 0] 30) := ⟨_, rfl⟩
          have F6 : FtC V6 w5.heap.size 0 0 := by rw [hV6]; exact FtC.new _ _ _ _ _ rfl
          have b6 : Below w5.heap.size w5 V6 := by rw [hV6]; (repeat' (first | exact Below.refl _ _ | assumption | refine bdrewN ?_ _ | refine Below.drew ?_ | refine bal ?_ _ | refine bthen ?_ (by assumption)))
          have B6 := hid (B5.out.trans (b6.mono B5.out.size))
          have c0 := F6.c0
          have c1 := F6.c1
          obtain ⟨m, hm⟩ : ∃ m, m = 2 * k := ⟨_, rfl⟩
          have hmk : 2 * (k : Int) = (m : Int) := by omega
          have q1 : decide ((1000 : Int) < (m : Int)) = false := decide_eq_false (by omega)
          have q2 : decide (1000 < m) = false := decide_eq_false (by omega)
          have MC := hid (fmay_c _ 2 twoF (fun _ => False) V6 (M5.out.bel b6) ((twoF_fos w5).bel b6))
          have hmay : mayF (fps twoF) = true := by decide
          rw [hmay] at MC
          rw [← hm]
          clear hm
          clear F6 b6 hkn h2
          go_upto_region 12 with fail
          rw [← hV6]; clear hV6
          go_wp2_with fail
          refine MC.out.mono ?_
          rintro _ w7 ⟨rfl, b7⟩
          have B7 := hid (B6.out.trans (b7.mono B6.out.size))
          clear b7
          go_wp2_with fail
          refine (known12_c w7).mono ?_
          rintro _ w8 ⟨rfl, b8⟩
          have B8 := hid (B7.out.trans (b8.mono B7.out.size))
          clear b8
          go_wp2_with fail
          go_ret
          exact ⟨rfl, B8.out⟩
  · rw [h1] at SG
    have e10 : (x0 == 10) = true := by simpa using h2
    subst h2
    go_upto_region 3 with (go_at_call 5; (with_reducible refine SG.out.mono ?_); rintro _ _ ⟨rfl, rfl⟩)
    obtain ⟨r, hr⟩ := hmain
    rw [← hr]
    have hs : sgn r = true := by rw [hr]; decide
    have h10 : r ≠ 10 := by omega
    have yr : -2147483648 ≤ r ∧ r ≤ 2147483647 := by omega
    clear hr SG h1
    have HSg := hid hs
    have H10 := hid h10
    clear hs h10
    go_wp2_with fail
    refine (IX.out W).mono ?_
    rintro _ _ ⟨⟨i, hi, rfl⟩, rfl⟩
    obtain ⟨n, hn⟩ : ∃ n : Nat, (498 : Int) + (i : Int) = (n : Int) := ⟨498 + i, by omega⟩
    have hn1 : n ≤ 502 := by omega
    have hn0 : 498 ≤ n := by omega
    have mz := make_z n W (by omega)
    have R2 := hid (Rp.new W n 21 r)
    have b2 : Below W.heap.size W (W.alloc (.cells (madeCells #[.int .i32 0] n) 21)) := (Below.refl _ _).alloc (Nat.le_refl _) _
    have Hn := hid hn
    have Hi := hid hi
    clear hi
    go_upto_region 4 with fail
    clear hn
    go_upto_region 5 with fail
    generalize W.alloc (.cells (madeCells #[.int .i32 0] n) 21) = V2 at *
    have B2 := hid b2
    clear b2 mz
    go_wp2_with fail
    go_loopw [7, 25] (fun _ kv wr => ∃ k : Nat, kv = .int .i64 k ∧ k ≤ n ∧ Hid (Rp wr W.heap.size r k n) ∧ Hid (Below W.heap.size W wr)) (fun _ kv _ => n - (intOf kv).toNat)
    case atStart => exact ⟨0, rfl, by omega, R2, B2⟩
    case round =>
      obtain ⟨k, rfl, hk, RK, BK⟩ := hrel
      by_cases hlt : k < n
      · have ck := RK.out.cell k hlt
        have fk := RK.out.fz k
        have e1 : decide (k < n) = true := decide_eq_true hlt
        go_wp2_with fail
        go_roundw
        case rel => exact ⟨k + 1, by go_num, by omega, hid (RK.out.next hlt), hid (BK.out.setCell (by exact Nat.le_refl _) _)⟩
        case measure => simp [intOf]; omega
      · obtain rfl : k = n := by omega
        have e1 : decide (k < k) = false := decide_eq_false (by omega)
        obtain ⟨V3, hV3⟩ : ∃ V3, V3 = wr.alloc (.cells #[.int .i64 1, .int .i64 0, .int .i64 0, .slice none 0 0, .slice none 0 0, .int .i64 1, .int .i64 0, .int .i64 0, .slice none 0 0, .slice none 0 0] 26) := ⟨_, rfl⟩
        have b3 : Below wr.heap.size wr V3 := by subst hV3; (repeat' (first | exact Below.refl _ _ | assumption | refine bdrewN ?_ _ | refine Below.drew ?_ | refine bal ?_ _ | refine bthen ?_ (by assumption)))
        have m3 : FSl V3 (some ⟨wr.heap.size, 0, none⟩) twoF := by subst hV3; exact twoF_sl wr
        have z3 : V3.heap.size = wr.heap.size + 1 := by subst hV3; simp
        obtain ⟨V4, hV4⟩ : ∃ V4, V4 = V3.alloc (.cells #[.int .i32 46] 21) := ⟨_, rfl⟩
        have b4 : Below V3.heap.size V3 V4 := by subst hV4; (repeat' (first | exact Below.refl _ _ | assumption | refine bdrewN ?_ _ | refine Below.drew ?_ | refine bal ?_ _ | refine bthen ?_ (by assumption)))
        have s4 : Sl V4 (some ⟨wr.heap.size + 1, 0, none⟩) [46] := by rw [hV4, hV3]; exact (Sl.lit' _ [46] _ _ (by simp) (by simp) (by simp [rng]) _ rfl)
        have b34 := b3.trans (b4.mono b3.size)
        have B4 := hid (BK.out.trans (b34.mono BK.out.size))
        have r4 : Rp V4 W.heap.size r k k := ⟨fun j hj => by
          have := RK.out.cell j hj
          exact (b34.cell (World.block_lt_of_cell? wr _ this)).trans this, fun j => by
          have hb : W.heap.size < wr.heap.size := World.block_lt_of_cell? wr _ (RK.out.cell 0 (by omega))
          rw [World.frozen?_of_block (w := wr) (a := ⟨W.heap.size, j, none⟩) (b34.block _ hb)]; exact RK.out.fz j⟩
        have RC := hid (fullrun_c W.heap.size _ _ r k V4 r4 (by omega) yr HSg.out H10.out s4 (m3.bel b4))
        have M4 := hid (m3.bel b4)
        clear b3 m3 b4 s4 b34 r4 RK
        go_wp2_with fail
        rw [← hV3, ← hV4]; clear hV3 hV4
        refine RC.out.mono ?_
        rintro _ w5 ⟨b5, hor⟩
        have B5 := hid (B4.out.trans (b5.mono B4.out.size))
        have M5 := hid (M4.out.bel b5)
        clear b5 RC M4 BK
        unfold runE at hor
        have hkn := Hn.out
        rcases hor with ⟨h2, rfl⟩ | ⟨h2, a, c, rfl⟩
        · obtain ⟨V6, hV6⟩ : ∃ V6, V6 = w5.alloc (.cells #[.int .i64 3, .int .i64 0] 30) := ⟨_, rfl⟩
          have F6 : FtC V6 w5.heap.size 3 0 := by rw [hV6]; exact FtC.new _ _ _ _ _ rfl
          have b6 : Below w5.heap.size w5 V6 := by rw [hV6]; (repeat' (first | exact Below.refl _ _ | assumption | refine bdrewN ?_ _ | refine Below.drew ?_ | refine bal ?_ _ | refine bthen ?_ (by assumption)))
          have B6 := hid (B5.out.trans (b6.mono B5.out.size))
          have c0 := F6.c0
          have c1 := F6.c1
          have q1 : decide ((1000 : Int) < 2 * (k : Int)) = true := decide_eq_true (by omega)
          have KC := hid (known12_c V6)
          clear F6 b6 hkn
          go_upto_region 12 with fail
          rw [← hV6]; clear hV6
          go_wp2_with fail
          refine KC.out.mono ?_
          rintro _ w7 ⟨rfl, b7⟩
          have B7 := hid (B6.out.trans (b7.mono B6.out.size))
          clear b7
          go_wp2_with fail
          go_ret
          exact ⟨rfl, B7.out⟩
        · obtain ⟨V6, hV6⟩ : ∃ V6, V6 = w5.alloc (.cells #[.int .i64 0, .int .i64 0] 30) := ⟨_, rfl⟩
          have F6 : FtC V6 w5.heap.size 0 0 := by rw [hV6]; exact FtC.new _ _ _ _ _ rfl
          have b6 : Below w5.heap.size w5 V6 := by rw [hV6]; (repeat' (first | exact Below.refl _ _ | assumption | refine bdrewN ?_ _ | refine Below.drew ?_ | refine bal ?_ _ | refine bthen ?_ (by assumption)))
          have B6 := hid (B5.out.trans (b6.mono B5.out.size))
          have c0 := F6.c0
          have c1 := F6.c1
          obtain ⟨m, hm⟩ : ∃ m, m = 2 * k := ⟨_, rfl⟩
          have hmk : 2 * (k : Int) = (m : Int) := by omega
          have q1 : decide ((1000 : Int) < (m : Int)) = false := decide_eq_false (by omega)
          have q2 : decide (1000 < m) = false := decide_eq_false (by omega)
          have MC := hid (fmay_c _ 2 twoF (fun _ => False) V6 (M5.out.bel b6) ((twoF_fos w5).bel b6))
          have hmay : mayF (fps twoF) = true := by decide
          rw [hmay] at MC
          rw [← hm]
          clear hm
          clear F6 b6 hkn h2
          go_upto_region 12 with fail
          rw [← hV6]; clear hV6
          go_wp2_with fail
          refine MC.out.mono ?_
          rintro _ w7 ⟨rfl, b7⟩
          have B7 := hid (B6.out.trans (b7.mono B6.out.size))
          clear b7
          go_wp2_with fail
          refine (known12_c w7).mono ?_
          rintro _ w8 ⟨rfl, b8⟩
          have B8 := hid (B7.out.trans (b8.mono B7.out.size))
          clear b8
          go_wp2_with fail
          go_ret
          exact ⟨rfl, B8.out⟩
  · rw [h1] at SG
    have e10 : (x0 == 10) = false := by simpa using h2
    go_upto_region 3 with (go_at_call 5; (with_reducible refine SG.out.mono ?_); rintro _ _ ⟨rfl, rfl⟩)
    clear hmain e10
    obtain ⟨r, hr⟩ : ∃ r, r = x0 := ⟨_, rfl⟩
    subst hr
    have hs := h1
    have h10 := h2
    have yr := y0
    clear h1 h2 y0 SG
    have HSg := hid hs
    have H10 := hid h10
    clear hs h10
    go_wp2_with fail
    refine (IX.out W).mono ?_
    rintro _ _ ⟨⟨i, hi, rfl⟩, rfl⟩
    obtain ⟨n, hn⟩ : ∃ n : Nat, (498 : Int) + (i : Int) = (n : Int) := ⟨498 + i, by omega⟩
    have hn1 : n ≤ 502 := by omega
    have hn0 : 498 ≤ n := by omega
    have mz := make_z n W (by omega)
    have R2 := hid (Rp.new W n 21 r)
    have b2 : Below W.heap.size W (W.alloc (.cells (madeCells #[.int .i32 0] n) 21)) := (Below.refl _ _).alloc (Nat.le_refl _) _
    have Hn := hid hn
    have Hi := hid hi
    clear hi
    go_upto_region 4 with fail
    clear hn
    go_upto_region 5 with fail
    generalize W.alloc (.cells (madeCells #[.int .i32 0] n) 21) = V2 at *
    have B2 := hid b2
    clear b2 mz
    go_wp2_with fail
    go_loopw [7, 25] (fun _ kv wr => ∃ k : Nat, kv = .int .i64 k ∧ k ≤ n ∧ Hid (Rp wr W.heap.size r k n) ∧ Hid (Below W.heap.size W wr)) (fun _ kv _ => n - (intOf kv).toNat)
    case atStart => exact ⟨0, rfl, by omega, R2, B2⟩
    case round =>
      obtain ⟨k, rfl, hk, RK, BK⟩ := hrel
      by_cases hlt : k < n
      · have ck := RK.out.cell k hlt
        have fk := RK.out.fz k
        have e1 : decide (k < n) = true := decide_eq_true hlt
        go_wp2_with fail
        go_roundw
        case rel => exact ⟨k + 1, by go_num, by omega, hid (RK.out.next hlt), hid (BK.out.setCell (by exact Nat.le_refl _) _)⟩
        case measure => simp [intOf]; omega
      · obtain rfl : k = n := by omega
        have e1 : decide (k < k) = false := decide_eq_false (by omega)
        obtain ⟨V3, hV3⟩ : ∃ V3, V3 = wr.alloc (.cells #[.int .i64 1, .int .i64 0, .int .i64 0, .slice none 0 0, .slice none 0 0, .int .i64 1, .int .i64 0, .int .i64 0, .slice none 0 0, .slice none 0 0] 26) := ⟨_, rfl⟩
        have b3 : Below wr.heap.size wr V3 := by subst hV3; (repeat' (first | exact Below.refl _ _ | assumption | refine bdrewN ?_ _ | refine Below.drew ?_ | refine bal ?_ _ | refine bthen ?_ (by assumption)))
        have m3 : FSl V3 (some ⟨wr.heap.size, 0, none⟩) twoF := by subst hV3; exact twoF_sl wr
        have z3 : V3.heap.size = wr.heap.size + 1 := by subst hV3; simp
        obtain ⟨V4, hV4⟩ : ∃ V4, V4 = V3.alloc (.cells #[.int .i32 46] 21) := ⟨_, rfl⟩
        have b4 : Below V3.heap.size V3 V4 := by subst hV4; (repeat' (first | exact Below.refl _ _ | assumption | refine bdrewN ?_ _ | refine Below.drew ?_ | refine bal ?_ _ | refine bthen ?_ (by assumption)))
        have s4 : Sl V4 (some ⟨wr.heap.size + 1, 0, none⟩) [46] := by rw [hV4, hV3]; exact (Sl.lit' _ [46] _ _ (by simp) (by simp) (by simp [rng]) _ rfl)
        have b34 := b3.trans (b4.mono b3.size)
        have B4 := hid (BK.out.trans (b34.mono BK.out.size))
        have r4 : Rp V4 W.heap.size r k k := ⟨fun j hj => by
          have := RK.out.cell j hj
          exact (b34.cell (World.block_lt_of_cell? wr _ this)).trans this, fun j => by
          have hb : W.heap.size < wr.heap.size := World.block_lt_of_cell? wr _ (RK.out.cell 0 (by omega))
          rw [World.frozen?_of_block (w := wr) (a := ⟨W.heap.size, j, none⟩) (b34.block _ hb)]; exact RK.out.fz j⟩
        have RC := hid (fullrun_c W.heap.size _ _ r k V4 r4 (by omega) yr HSg.out H10.out s4 (m3.bel b4))
        have M4 := hid (m3.bel b4)
        clear b3 m3 b4 s4 b34 r4 RK
        go_wp2_with fail
        rw [← hV3, ← hV4]; clear hV3 hV4
        refine RC.out.mono ?_
        rintro _ w5 ⟨b5, hor⟩
        have B5 := hid (B4.out.trans (b5.mono B4.out.size))
        have M5 := hid (M4.out.bel b5)
        clear b5 RC M4 BK
        unfold runE at hor
        have hkn := Hn.out
        rcases hor with ⟨h2, rfl⟩ | ⟨h2, a, c, rfl⟩
        · obtain ⟨V6, hV6⟩ : ∃ V6, V6 = w5.alloc (.cells #[.int .i64 3, .int .i64 0] 30) := ⟨_, rfl⟩
          have F6 : FtC V6 w5.heap.size 3 0 := by rw [hV6]; exact FtC.new _ _ _ _ _ rfl
          have b6 : Below w5.heap.size w5 V6 := by rw [hV6]; (repeat' (first | exact Below.refl _ _ | assumption | refine bdrewN ?_ _ | refine Below.drew ?_ | refine bal ?_ _ | refine bthen ?_ (by assumption)))
          have B6 := hid (B5.out.trans (b6.mono B5.out.size))
          have c0 := F6.c0
          have c1 := F6.c1
          have q1 : decide ((1000 : Int) < 2 * (k : Int)) = true := decide_eq_true (by omega)
          have KC := hid (known12_c V6)
          clear F6 b6 hkn
          go_upto_region 12 with fail
          rw [← hV6]; clear hV6
          go_wp2_with fail
          refine KC.out.mono ?_
          rintro _ w7 ⟨rfl, b7⟩
          have B7 := hid (B6.out.trans (b7.mono B6.out.size))
          clear b7
          go_wp2_with fail
          go_ret
          exact ⟨rfl, B7.out⟩
        · obtain ⟨V6, hV6⟩ : ∃ V6, V6 = w5.alloc (.cells #[.int .i64 0, .int .i64 0] 30) := ⟨_, rfl⟩
          have F6 : FtC V6 w5.heap.size 0 0 := by rw [hV6]; exact FtC.new _ _ _ _ _ rfl
          have b6 : Below w5.heap.size w5 V6 := by rw [hV6]; (repeat' (first | exact Below.refl _ _ | assumption | refine bdrewN ?_ _ | refine Below.drew ?_ | refine bal ?_ _ | refine bthen ?_ (by assumption)))
          have B6 := hid (B5.out.trans (b6.mono B5.out.size))
          have c0 := F6.c0
          have c1 := F6.c1
          obtain ⟨m, hm⟩ : ∃ m, m = 2 * k := ⟨_, rfl⟩
          have hmk : 2 * (k : Int) = (m : Int) := by omega
          have q1 : decide ((1000 : Int) < (m : Int)) = false := decide_eq_false (by omega)
          have q2 : decide (1000 < m) = false := decide_eq_false (by omega)
          have MC := hid (fmay_c _ 2 twoF (fun _ => False) V6 (M5.out.bel b6) ((twoF_fos w5).bel b6))
          have hmay : mayF (fps twoF) = true := by decide
          rw [hmay] at MC
          rw [← hm]
          clear hm
          clear F6 b6 hkn h2
          go_upto_region 12 with fail
          rw [← hV6]; clear hV6
          go_wp2_with fail
          refine MC.out.mono ?_
          rintro _ w7 ⟨rfl, b7⟩
          have B7 := hid (B6.out.trans (b7.mono B6.out.size))
          clear b7
          go_wp2_with fail
          refine (known12_c w7).mono ?_
          rintro _ w8 ⟨rfl, b8⟩
          have B8 := hid (B7.out.trans (b8.mono B7.out.size))
          clear b8
          go_wp2_with fail
          go_ret
          exact ⟨rfl, B8.out⟩
end Go.Proofs.Ytkgkbgofphkmdaa
