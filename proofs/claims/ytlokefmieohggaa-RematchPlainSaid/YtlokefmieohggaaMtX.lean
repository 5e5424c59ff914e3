/- RematchPlain on lists: the program of letters in a group, run: a try goes through once, nothing is reached twice. RematchPlain: the document's Case to capitals; a []byte as an argument; the programs of all short rows of a, b, c in a group. RematchPlain: rows of a, b, c on lists: where they stand, what the matcher finds. RematchPlain: the walk. -/
import Derived.Test.YtlokefmieohggaaMtF
import Derived.Test.YtlokefmieohggaaKeepR
import Derived.Deep.CutBlock
import Derived.Deep.DeepCutAuto
import Derived.Deep.RegionLaw
namespace Go.Proofs.Ytlokefmieohggaa
open ReM
namespace ReM
/-- the program of letters in a group -/
def plainP (p : List Int) : List Ins := iSave 0 :: iSave 2 :: (p.map (fun x => iSet false [x, x]) ++ [iSave 3, iSave 1, iMatch])
theorem plain_len (p : List Int) : (plainP p).length = p.length + 5 := by simp [plainP]
theorem plain_0 (p : List Int) : igt (plainP p) 0 = iSave 0 := rfl
theorem plain_1 (p : List Int) : igt (plainP p) 1 = iSave 2 := rfl
theorem plain_k (p : List Int) {k : Nat} (h : k < p.length) : igt (plainP p) (k + 2) = iSet false [gt p k, gt p k] := by
  unfold igt plainP
  rw [List.getD_eq_getElem?_getD, List.getElem?_cons_succ, List.getElem?_cons_succ, List.getElem?_append_left (by simpa using h), List.getElem?_map, List.getElem?_eq_getElem h, gt_get h]
  rfl
theorem plain_e (p : List Int) (j : Nat) : igt (plainP p) (p.length + j + 2) = [iSave 3, iSave 1, iMatch].getD j default := by
  unfold igt plainP
  rw [List.getD_eq_getElem?_getD, List.getElem?_cons_succ, List.getElem?_cons_succ, List.getElem?_append_right (by simp), List.length_map, Nat.add_sub_cancel_left, ← List.getD_eq_getElem?_getD]
/-- how many elements a path has taken at an instruction -/
def dep (l i : Nat) : Nat := min (i - 2) l
/-- what the tries ahead of t may have reached -/
def Vb (l t : Nat) (v : Vis) : Prop := ∀ i a, v i a = true → a < t + dep l i
/-- .. and the try at t, up to instruction e -/
def Vt (l t e : Nat) (v : Vis) : Prop := ∀ i a, v i a = true → a < t + dep l i ∨ (a = t + dep l i ∧ i < e)
theorem Vb.vt {l t : Nat} {v : Vis} (h : Vb l t v) : Vt l t 0 v := fun i a hv => .inl (h i a hv)
theorem Vt.vb {l t e : Nat} {v : Vis} (h : Vt l t e v) : Vb l (t + 1) v := fun i a hv => by
  rcases h i a hv with h1 | ⟨h1, _⟩ <;> omega
theorem Vt.mark {l t e a : Nat} {v : Vis} (h : Vt l t e v) (ha : a = t + dep l e) : Vt l t (e + 1) (mark v e a) := fun i b hv => by
  rcases mark_or hv with ⟨rfl, rfl⟩ | hv
  · exact .inr ⟨ha, by omega⟩
  · rcases h i b hv with h1 | ⟨h1, h2⟩
    · exact .inl h1
    · exact .inr ⟨h1, by omega⟩
theorem Vt.new {l t e a : Nat} {v : Vis} (h : Vt l t e v) (ha : a = t + dep l e) : v e a = false := by
  cases hv : v e a with
  | false => rfl
  | true =>
    rcases h e a hv with h1 | ⟨_, h2⟩ <;> omega
/-- the letters stand at a place -/
def fitA (p s : List Int) (a k : Nat) : Prop := a + k < s.length ∧ foldS [gt p k, gt p k] (gt s (a + k)) = true
theorem run1 {m : Mc} {i a : Nat} {r : List Int} {S0 : List Pa} {v0 v : Vis} {q : Ins} (h : Run m S0 v0 [⟨i, a, r⟩] v) (hv : v i a = false) (hq : igt m.P i = q) (h6 : q.op ≠ 6) {L : List Pa} (hs : succs m ⟨i, a, r⟩ = L) : Run m S0 v0 L (mark v i a) := by
  have := h.trans (Run.step (p := ⟨i, a, r⟩) hv (by rw [hq]; exact h6))
  rw [hs, List.append_nil] at this
  exact this
theorem dep2 (l k : Nat) (h : k ≤ l) : dep l (k + 2) = k := by unfold dep; omega
theorem dep3 (l j : Nat) : dep l (l + j + 2) = l := by unfold dep; omega
/-- the first k letters taken -/
theorem plain_run {p s : List Int} {t : Nat} {v : Vis} (h : Vb p.length t v) : ∀ k, k ≤ p.length → (∀ j, j < k → fitA p s t j) →
    ∃ u, Run (mch (plainP p) s true) [⟨0, t, [-1, -1, -1, -1]⟩] v [⟨k + 2, t + k, [(t : Int), -1, (t : Int), -1]⟩] u ∧ Vt p.length t (k + 2) u := by
  intro k
  induction k with
  | zero =>
    intro _ _
    have h0 := h.vt
    have n0 := h0.new (a := t) (by unfold dep; omega)
    have r1 := run1 (m := mch (plainP p) s true) (r := [-1, -1, -1, -1]) (.refl [⟨0, t, [-1, -1, -1, -1]⟩] v) n0 (plain_0 p) (by decide) (L := [⟨1, t, [(t : Int), -1, -1, -1]⟩]) (by
      simp only [succs]; rw [show igt (mch (plainP p) s true).P 0 = _ from plain_0 p]; rfl)
    have h1 := h0.mark (a := t) (by unfold dep; omega)
    have n1 := h1.new (a := t) (by unfold dep; omega)
    have r2 := run1 r1 n1 (plain_1 p) (by decide) (L := [⟨2, t, [(t : Int), -1, (t : Int), -1]⟩]) (by
      simp only [succs]; rw [show igt (mch (plainP p) s true).P 1 = _ from plain_1 p]; rfl)
    exact ⟨_, r2, h1.mark (a := t) (by unfold dep; omega)⟩
  | succ k ih =>
    intro hk hf
    obtain ⟨u, hr, hu⟩ := ih (by omega) fun j hj => hf j (by omega)
    have hd := dep2 p.length k (by omega)
    have n0 := hu.new (a := t + k) (by rw [hd])
    obtain ⟨f1, f2⟩ := hf k (by omega)
    have hok : (mch (plainP p) s true).ok (k + 2) (t + k) = true := by
      show (decide (t + k < s.length) && inW true (igt (plainP p) (k + 2)) (gt s (t + k))) = true
      rw [decide_eq_true f1, plain_k p (by omega), Bool.true_and]
      show (foldS [gt p k, gt p k] (gt s (t + k)) != false) = true
      rw [f2]; rfl
    have r1 := run1 hr n0 (plain_k p (by omega)) (by show (0 : Int) ≠ 6; decide) (L := [⟨k + 3, t + k + 1, [(t : Int), -1, (t : Int), -1]⟩]) (by
      simp only [succs]; rw [show igt (mch (plainP p) s true).P (k + 2) = _ from plain_k p (by omega), hok]; rfl)
    exact ⟨_, r1, hu.mark (by rw [hd])⟩
theorem plain_hit {p s : List Int} {t : Nat} {v : Vis} (h : Vb p.length t v) (hf : ∀ j, j < p.length → fitA p s t j) : Hits (mch (plainP p) s true) [-1, -1, -1, -1] t v [(t : Int), ((t + p.length : Nat) : Int), (t : Int), ((t + p.length : Nat) : Int)] := by
  obtain ⟨u, hr, hu⟩ := plain_run (s := s) h p.length (Nat.le_refl _) hf
  have d0 := dep3 p.length 0
  have d1 := dep3 p.length 1
  have d2 := dep3 p.length 2
  rw [Nat.add_zero] at d0
  have e0 := plain_e p 0
  rw [Nat.add_zero] at e0
  have n0 := hu.new (a := t + p.length) (by rw [d0])
  have r1 := run1 hr n0 e0 (by decide) (L := [⟨p.length + 3, t + p.length, [(t : Int), -1, (t : Int), ((t + p.length : Nat) : Int)]⟩]) (by
    simp only [succs]; rw [show igt (mch (plainP p) s true).P (p.length + 2) = _ from e0]; rfl)
  have h1 := hu.mark (a := t + p.length) (by rw [d0])
  have n1 := h1.new (a := t + p.length) (by rw [show p.length + 2 + 1 = p.length + 1 + 2 by omega, d1])
  have e1 : igt (plainP p) (p.length + 3) = iSave 1 := by rw [show p.length + 3 = p.length + 1 + 2 by omega, plain_e p 1]; rfl
  have r2 := run1 r1 n1 e1 (by decide) (L := [⟨p.length + 4, t + p.length, [(t : Int), ((t + p.length : Nat) : Int), (t : Int), ((t + p.length : Nat) : Int)]⟩]) (by
    simp only [succs]; rw [show igt (mch (plainP p) s true).P (p.length + 3) = _ from e1]; rfl)
  have h2 := h1.mark (a := t + p.length) (by rw [show p.length + 2 + 1 = p.length + 1 + 2 by omega, d1])
  have n2 := h2.new (a := t + p.length) (by rw [show p.length + 2 + 1 + 1 = p.length + 2 + 2 by omega, d2])
  have e2 : igt (plainP p) (p.length + 4) = iMatch := by rw [show p.length + 4 = p.length + 2 + 2 by omega, plain_e p 2]; rfl
  exact ⟨_, _, _, r2, n2, by show (igt (plainP p) (p.length + 4)).op = 6; rw [e2]; rfl, rfl⟩
theorem plain_miss {p s : List Int} {t k : Nat} {v : Vis} (h : Vb p.length t v) (hk : k < p.length) (hf : ∀ j, j < k → fitA p s t j) (hn : ¬ fitA p s t k) : ∃ u, Fails (mch (plainP p) s true) [-1, -1, -1, -1] t v u ∧ Vb p.length (t + 1) u := by
  obtain ⟨u, hr, hu⟩ := plain_run (s := s) h k (by omega) hf
  have hd := dep2 p.length k (by omega)
  have n0 := hu.new (a := t + k) (by rw [hd])
  have hok : (mch (plainP p) s true).ok (k + 2) (t + k) = false := by
    show (decide (t + k < s.length) && inW true (igt (plainP p) (k + 2)) (gt s (t + k))) = false
    rw [plain_k p hk]
    by_cases f1 : t + k < s.length
    · rw [decide_eq_true f1, Bool.true_and]
      show (foldS [gt p k, gt p k] (gt s (t + k)) != false) = false
      cases hb : foldS [gt p k, gt p k] (gt s (t + k)) with
      | false => rfl
      | true => exact absurd ⟨f1, hb⟩ hn
    · rw [decide_eq_false f1]; rfl
  have r1 := run1 hr n0 (plain_k p hk) (by show (0 : Int) ≠ 6; decide) (L := []) (by
    simp only [succs]; rw [show igt (mch (plainP p) s true).P (k + 2) = _ from plain_k p hk, hok]; rfl)
  exact ⟨_, r1, (hu.mark (by rw [hd])).vb⟩
theorem least_bad {P : Nat → Prop} {n : Nat} (h : ¬ ∀ j, j < n → P j) : ∃ k, k < n ∧ (∀ j, j < k → P j) ∧ ¬ P k := by
  induction n with
  | zero => exact absurd (fun j hj => by omega) h
  | succ n ih =>
    by_cases h1 : ∀ j, j < n → P j
    · refine ⟨n, by omega, h1, fun h2 => h fun j hj => ?_⟩
      rcases Nat.lt_or_ge j n with h3 | h3
      · exact h1 j h3
      · obtain rfl : j = n := by omega
        exact h2
    · obtain ⟨k, hk, h2, h3⟩ := ih h1
      exact ⟨k, by omega, h2, h3⟩
/-- the letters stand at a place, whole -/
def fits (p s : List Int) (a : Nat) : Prop := ∀ j, j < p.length → fitA p s a j
theorem plain_finds {p s : List Int} (d : Nat) : ∀ (f : Nat) (v : Vis), Vb p.length f v → f + d ≤ s.length → (∀ k, f ≤ k → k < f + d → ¬ fits p s k) → fits p s (f + d) →
    Finds (mch (plainP p) s true) [-1, -1, -1, -1] f v (some [((f + d : Nat) : Int), ((f + d + p.length : Nat) : Int), ((f + d : Nat) : Int), ((f + d + p.length : Nat) : Int)]) := by
  induction d with
  | zero => intro f v hv hl _ hf; exact .hit (by show f ≤ s.length; omega) (plain_hit hv hf)
  | succ d ih =>
    intro f v hv hl hn hf
    obtain ⟨k, hk, h1, h2⟩ := least_bad (hn f (Nat.le_refl _) (by omega))
    obtain ⟨u, hu, hb⟩ := plain_miss hv hk h1 h2
    have := ih (f + 1) u hb (by omega) (fun k h1 h2 => hn k (by omega) (by omega)) (by rw [show f + 1 + d = f + (d + 1) by omega]; exact hf)
    rw [show f + 1 + d = f + (d + 1) by omega] at this
    exact .miss (by show f ≤ s.length; omega) hu this
theorem plain_none {p s : List Int} (d : Nat) : ∀ (f : Nat) (v : Vis), Vb p.length f v → f + d = s.length + 1 → (∀ k, f ≤ k → k ≤ s.length → ¬ fits p s k) → Finds (mch (plainP p) s true) [-1, -1, -1, -1] f v none := by
  induction d with
  | zero => intro f v _ hl _; exact .out (by show s.length < f; omega)
  | succ d ih =>
    intro f v hv hl hn
    obtain ⟨k, hk, h1, h2⟩ := least_bad (hn f (Nat.le_refl _) (by omega))
    obtain ⟨u, hu, hb⟩ := plain_miss hv hk h1 h2
    exact .miss (by show f ≤ s.length; omega) hu (ih (f + 1) u hb (by omega) fun k h1 h2 => hn k (by omega) h2)
theorem vb_none (l f : Nat) : Vb l f none_ := fun i a h => by simp [none_] at h
/-- the least letters a, b, c: nothing but themselves -/
theorem fold_abc {x y : Int} (hx : 97 ≤ x ∧ x ≤ 99) (hy : 97 ≤ y ∧ y ≤ 99) : foldS [x, x] y = decide (x = y) := by
  have h1 : up y = y - 32 := by unfold up; rw [if_pos]; simp [sml]; omega
  have h2 : lo y = y := by unfold lo; rw [if_neg]; simp [cpt]; omega
  rw [foldS_eq, h1, h2]
  simp only [inR, Bool.or_false]
  rw [Bool.eq_iff_iff]
  simp
  omega
end ReM
end Go.Proofs.Ytlokefmieohggaa
namespace Go.Proofs.Ytlokefmieohggaa
open Go.RowKit Go.ChangeShapes Go.WideShapes Go.ChangeAt

set_option maxHeartbeats 800000 in
theorem rcase1_c (a : Option Addr) (c : Nat) (l : List Int) (w : World) (h : Sl w a l) :
    Calls Try.prog 18 #[.slice a l.length c, .int .i64 1] w (Makes w (l.map up)) := by
  have hl := h.len
  go_enter Try.func18, Try.ntmps18
  go_wp2_with (at_builtin; refine wpL_app rfl _ _ rfl w.heap.size none a 0 c [] l rfl (Own.nil _ _) rfl h (by simpa using hl) (Nat.le_refl _) ?_; intro a1 c1 w1 hown hgrow hbel; simp only [List.nil_append] at hown ⊢)
  have Hown := hid hown
  go_loopw [6] (fun i wr => ∃ k : Nat, k ≤ l.length ∧ i = .int .i64 k ∧ Own wr w.heap.size a1 c1 (half up k l) ∧ Below w.heap.size w wr) (fun i _ => l.length - (intOf i).toNat)
  case atStart => exact ⟨0, Nat.zero_le _, rfl, by rw [half_zero]; exact Hown.out, hbel⟩
  case round =>
    obtain ⟨k, hk, rfl, hk1, hk2⟩ := hrel
    by_cases hlt : k < l.length
    · have hsh := hk1.shape
      rcases hsh with ⟨_, _, h0⟩ | ⟨g0, rfl, hg1, hg2, hg3⟩
      · have h1 := half_len up k l
        rw [h0] at h1; simp at h1; omega
      · skip
        obtain ⟨b', o', he, hcell⟩ := hk1.sl.at (i := k) (by rw [half_len]; exact hlt)
        simp only [Option.some.injEq, Addr.mk.injEq, and_true] at he
        obtain ⟨rfl, rfl⟩ := he
        have ck := hcell k (by rw [half_len]; exact hlt)
        rw [half_gt hlt, Nat.zero_add] at ck
        have fk := hk1.free k
        have hr := rng_gt h.rng hlt
        have Hk1 := hid hk1
        clear hcell hk1 hown hg3
        go_wp2_with (go_at_call 37; (with_reducible refine (rupper_c _ _ hr).mono ?_); rintro e w' ⟨rfl, rfl⟩)
        go_roundw
        case rel =>
          refine ⟨k + 1, by omega, by go_num, ?_, hk2.setCell (by simpa using hg1) _⟩
          rw [← half_set hlt]
          exact Hk1.out.stored k (up (gt l k)) (up_rng hr)
        case measure => simp [intOf]; omega
    · go_wp2
      go_ret
      rw [half_all up l (show l.length ≤ k from by omega)] at hk1
      exact ⟨_, _, by rw [List.length_map]; rfl, hk1, hk2⟩


/-- a slice of bytes that reads as a list -/
def USl (w : World) (a : Option Addr) (l : List Int) : Prop :=
  l.length ≤ 9223372036854775807 ∧ (∀ x, x ∈ l → 0 ≤ x ∧ x ≤ 255) ∧ (l = [] ∨ ∃ b off, a = some ⟨b, off, none⟩ ∧ ∀ i, i < l.length → w.cell? ⟨b, off + i, none⟩ = some (.int .u8 (gt l i)))
theorem USl.at {w : World} {a : Option Addr} {l : List Int} (h : USl w a l) {i : Nat} (hi : i < l.length) : ∃ b off, a = some ⟨b, off, none⟩ ∧ ∀ i, i < l.length → w.cell? ⟨b, off + i, none⟩ = some (.int .u8 (gt l i)) := by
  rcases h.2.2 with rfl | h
  · simp at hi
  · exact h
theorem wf_u8 {n : Int} (h : (Lit.int .u8 n).wf = true) : 0 ≤ n ∧ n ≤ 255 := by
  have h1 : IntKind.u8.min = 0 := rfl
  have h2 : IntKind.u8.max = 255 := rfl
  simp only [Lit.wf, Bool.and_eq_true, decide_eq_true_eq, h1, h2] at h
  exact h
section
variable {H : Type} {enc : TypeId × Value → H}
set_option maxRecDepth 20000 in
theorem open_byl {W : World} {base : Nat} {v : Value} {d : DataW H} {p : List MemPlace} (hv : Value.okWide Try.prog W .any base 36 v)
    (h : DataW.Trod enc Try.prog W 0 (fun _ => true) true 36 v d p) :
    ∃ a l c, v = .slice a l.length c ∧ l.length ≤ c ∧ USl W a l := by
  obtain ⟨a0, len, cap, rfl⟩ := okWide_slice Try.underlying36 hv
  obtain ⟨fuel, hf⟩ := h
  rcases open_ints Try.underlying36 Try.underlying5 (by kernel_rfl) hf with ⟨hcs, hx⟩ | ⟨a, len', cap', zs, hcs, _, hl, hm, hz, hx, hcell, hwz⟩
  · simp only [Value.cells, List.cons.injEq, and_true, Value.slice.injEq] at hcs
    obtain ⟨rfl, rfl, rfl⟩ := hcs
    exact ⟨none, [], 0, rfl, by simp, by simp, by simp, .inl rfl⟩
  · simp only [Value.cells, List.cons.injEq, and_true, Value.slice.injEq] at hcs
    obtain ⟨rfl, rfl, rfl⟩ := hcs
    simp only [if_true] at hz
    have hlen : (zs.take len).length = len := by rw [List.length_take]; omega
    refine ⟨some a, zs.take len, cap, by rw [hlen], by omega, by rw [hlen]; unfold maxLen at hm; omega, fun x hx => wf_u8 (hwz x (List.mem_of_mem_take hx)), ?_⟩
    by_cases h0 : zs.take len = []
    · exact .inl h0
    · have hpos : 0 < len := by
        rcases Nat.eq_zero_or_pos len with h | h
        · subst h; simp at h0
        · exact h
      have hsp : a.spot = none := by
        have := hcell 0 (by omega)
        obtain ⟨b, o, sp⟩ := a
        cases sp with
        | none => rfl
        | some s =>
          simp only [Addr.add, if_true, World.cell?] at this
          split at this <;> simp_all
      obtain ⟨b, o, sp⟩ := a
      simp only at hsp; subst hsp
      refine .inr ⟨b, o, rfl, fun i hi => ?_⟩
      have h1 := hcell i (by omega)
      rw [gt_get hi]
      have h2 : (⟨b, o, none⟩ : Addr).add i = ⟨b, o + i, none⟩ := by unfold Addr.add; split <;> simp_all
      rw [h2] at h1
      rw [h1]
      simp [List.getD, List.getElem?_eq_getElem (show i < zs.length by omega)]
end
namespace ReM
/-- all rows of a, b, c of length k -/
def abcs : Nat → List (List Int)
  | 0 => [[]]
  | k + 1 => (abcs k).flatMap fun l => [97 :: l, 98 :: l, 99 :: l]
theorem abcs_mem : ∀ (k : Nat) (l : List Int), l.length = k → (∀ x, x ∈ l → 97 ≤ x ∧ x ≤ 99) → l ∈ abcs k := by
  intro k
  induction k with
  | zero => intro l h _; rw [List.length_eq_zero_iff.1 h]; simp [abcs]
  | succ k ih =>
    intro l h hx
    cases l with
    | nil => simp at h
    | cons x l =>
      have h1 := ih l (by simpa using h) fun y hy => hx y (List.mem_cons_of_mem _ hy)
      have h2 := hx x (by simp)
      unfold abcs
      rw [List.mem_flatMap]
      refine ⟨l, h1, ?_⟩
      have : x = 97 ∨ x = 98 ∨ x = 99 := by omega
      rcases this with rfl | rfl | rfl <;> simp
def okAbc (l : List Int) : Bool := decide (compW (40 :: (l ++ [41])) = (plainP l, 0, 0)) && decide ((gsL (parseW (40 :: (l ++ [41]))).1).length = 1)
theorem abc0 : (abcs 0).all okAbc = true := by kernel_rfl
theorem abc1 : (abcs 1).all okAbc = true := by kernel_rfl
theorem abc2 : (abcs 2).all okAbc = true := by kernel_rfl
theorem abc3 : (abcs 3).all okAbc = true := by kernel_rfl
theorem abc4 : (abcs 4).all okAbc = true := by kernel_rfl
theorem abc_comp {l : List Int} (h : l.length ≤ 4) (hx : ∀ x, x ∈ l → 97 ≤ x ∧ x ≤ 99) : compW (40 :: (l ++ [41])) = (plainP l, 0, 0) ∧ (gsL (parseW (40 :: (l ++ [41]))).1).length = 1 := by
  have hm := abcs_mem l.length l rfl hx
  have : okAbc l = true := by
    have h5 : l.length = 0 ∨ l.length = 1 ∨ l.length = 2 ∨ l.length = 3 ∨ l.length = 4 := by omega
    rcases h5 with h5 | h5 | h5 | h5 | h5
    · rw [h5] at hm; exact List.all_eq_true.1 abc0 l hm
    · rw [h5] at hm; exact List.all_eq_true.1 abc1 l hm
    · rw [h5] at hm; exact List.all_eq_true.1 abc2 l hm
    · rw [h5] at hm; exact List.all_eq_true.1 abc3 l hm
    · rw [h5] at hm; exact List.all_eq_true.1 abc4 l hm
  unfold okAbc at this
  rw [Bool.and_eq_true] at this
  exact ⟨of_decide_eq_true this.1, of_decide_eq_true this.2⟩
end ReM
end Go.Proofs.Ytlokefmieohggaa
namespace Go.Proofs.Ytlokefmieohggaa
open Go.RowKit ReM

theorem u8_mod {x : Int} (h : 0 ≤ x ∧ x ≤ 255) : ∃ m : Nat, m ≤ 2 ∧ x.tmod 3 = m ∧ x % 3 = m := by
  refine ⟨(x % 3).toNat, by omega, ?_, by omega⟩
  rw [Int.tmod_eq_emod_of_nonneg h.1]; omega
/-- small letters a, b, c -/
def Abc (l : List Int) : Prop := ∀ x, x ∈ l → 97 ≤ x ∧ x ≤ 99
theorem Abc.app {l : List Int} (h : Abc l) {x : Int} (hx : 97 ≤ x ∧ x ≤ 99) : Abc (l ++ [x]) := fun y hy => by
  rcases List.mem_append.1 hy with hy | hy
  · exact h y hy
  · rw [List.mem_singleton.1 hy]; exact hx
theorem fits_abc {P T : List Int} (hP : Abc P) (hT : Abc T) {k : Nat} (hk : k + P.length ≤ T.length) : fits P T k ↔ (T.take (k + P.length)).drop k = P := by
  have hl : ((T.take (k + P.length)).drop k).length = P.length := by simp; omega
  have hg : ∀ j, j < P.length → gt ((T.take (k + P.length)).drop k) j = gt T (k + j) := fun j hj => by
    rw [gt_get (by omega), gt_get (by omega)]; simp
  constructor
  · intro h
    refine List.ext_getElem hl fun j h1 h2 => ?_
    have := (h j h2).2
    rw [fold_abc (hP _ (gt_mem h2)) (hT _ (gt_mem (by omega)))] at this
    have e := of_decide_eq_true this
    have a := hg j h2
    rw [gt_get h1] at a
    rw [a, ← e, gt_get h2]
  · intro h j hj
    refine ⟨by omega, ?_⟩
    rw [fold_abc (hP _ (gt_mem hj)) (hT _ (gt_mem (by omega))), ← hg j hj, h]
    simp
theorem plain_hitR {P T : List Int} {f j : Nat} (hfj : f ≤ j) (hl : j + P.length ≤ T.length) (hn : ∀ k, f ≤ k → k < j → ¬ fits P T k) (hj : fits P T j) :
    FindR (mch (plainP P) T true) [-1, -1, -1, -1] f (some [(j : Int), ((j + P.length : Nat) : Int), (j : Int), ((j + P.length : Nat) : Int)]) := by
  obtain ⟨d, rfl⟩ : ∃ d, j = f + d := ⟨j - f, by omega⟩
  exact plain_finds d f none_ (vb_none _ _) (by omega) hn hj
theorem plain_noneR {P T : List Int} {f j : Nat} (hf : f ≤ T.length) (hl : T.length < j + P.length) (hn : ∀ k, f ≤ k → k < j → ¬ fits P T k) :
    FindR (mch (plainP P) T true) [-1, -1, -1, -1] f none := by
  refine plain_none (T.length + 1 - f) f none_ (vb_none _ _) (by omega) fun k h1 h2 hk => ?_
  rcases Nat.lt_or_ge k j with h3 | h3
  · exact hn k h1 h3 hk
  · have := (hk (P.length - 1) (by omega)).1
    omega
/-- the same machine in capitals -/
theorem mch_up (Q : List Ins) (T : List Int) : mch Q (T.map up) true = mch Q T true := by
  refine mch_fe (by simp) fun j hj => ?_
  have h1 : j < T.length := by simpa using hj
  rw [gt_get hj, gt_get h1, List.getElem_map]
  exact ⟨up_up _, lo_up _⟩
end Go.Proofs.Ytlokefmieohggaa
namespace Go.Proofs.Ytlokefmieohggaa
open Go.RowKit ReM

set_option maxRecDepth 100000 in
set_option maxHeartbeats 60000000 in
theorem plain_w (a0 : Option Addr) (c0 : Nat) (l0 : List Int) (a1 : Option Addr) (c1 : Nat) (l1 : List Int) (x2 : Int) (W : World) (h0 : USl W a0 l0) (h1 : USl W a1 l1) :
    Calls Try.prog 5 #[.slice a0 l0.length c0, .slice a1 l1.length c1, .int .i64 x2] W fun e w' => e = .returned (.bool true) ∧ Below W.heap.size W w' := by
  have H0 := hid h0
  have H1 := hid h1
  have q0 := h0.1
  have q1 := h1.1
  clear h0 h1
  go_enter Try.func5, Try.ntmps5
  go_upto_block 0 with fail
  go_cut [7] (fun pv w1 => ∃ (aP : Option Addr) (cP : Nat) (P : List Int), pv = .slice aP P.length cP ∧ P.length ≤ 4 ∧ Hid (Own w1 W.heap.size aP cP P) ∧ Hid (Abc P) ∧ Below W.heap.size W w1)
  case first =>
    go_wp2_with fail
    go_loopw [7, 9] (fun pv iv wr => ∃ (k : Nat) (aP : Option Addr) (cP : Nat) (P : List Int), iv = .int .i64 k ∧ pv = .slice aP P.length cP ∧ k ≤ l0.length ∧ k ≤ 4 ∧ P.length = k ∧ Hid (Own wr W.heap.size aP cP P) ∧ Hid (Abc P) ∧ Hid (Below W.heap.size W wr)) (fun _ iv _ => 4 - (intOf iv).toNat)
    case atStart => exact ⟨0, none, 0, [], rfl, rfl, Nat.zero_le _, by omega, rfl, hid (Own.nil _ _), hid (fun x h => by cases h), hid (Below.refl _ _)⟩
    case round =>
      obtain ⟨k, aP, cP, P, rfl, rfl, hk1, hk2, hPl, HP, HAbc, HB⟩ := hrel
      by_cases g1 : k < l0.length
      · have b1 : decide ((k : Int) < (l0.length : Int)) = true := decide_eq_true (by omega)
        have b1' : decide (k < l0.length) = true := decide_eq_true g1
        by_cases g2 : k < 4
        · have b2 : decide ((k : Int) < 4) = true := decide_eq_true (by omega)
          have b2' : decide (k < 4) = true := decide_eq_true g2
          obtain ⟨ub, uo, hua, huc⟩ := H0.out.at g1
          have ck := huc k g1
          have cx := (HB.out.cell (World.block_lt_of_cell? W _ ck)).trans ck
          have hrx := H0.out.2.1 _ (gt_mem g1)
          obtain ⟨m, hm, hm1, hm2⟩ := u8_mod hrx
          obtain ⟨x, hx⟩ : ∃ x, x = gt l0 k := ⟨_, rfl⟩
          rw [← hx] at cx hrx hm1 hm2
          have kz : (k : Int) < (l0.length : Int) := by omega
          have kz0 : (0 : Int) ≤ (k : Int) := by omega
          have wu : IntKind.u8.wrap (m : Int) = (m : Int) := by
            have : m = 0 ∨ m = 1 ∨ m = 2 := by omega
            rcases this with rfl | rfl | rfl <;> decide
          have wi : IntKind.i32.wrap (m : Int) = (m : Int) := by
            have : m = 0 ∨ m = 1 ∨ m = 2 := by omega
            rcases this with rfl | rfl | rfl <;> decide
          have wz : IntKind.i32.wrap (97 + (m : Int)) = (97 + (m : Int)) := by
            have : m = 0 ∨ m = 1 ∨ m = 2 := by omega
            rcases this with rfl | rfl | rfl <;> decide
          have hbz := HB.out.size
          subst hua
          have HPl := hid hPl
          have HP4 := hid (show P.length ≤ 3 by omega)
          have hzw : W.heap.size ≤ wr.heap.size := by omega
          clear huc ck hx hPl
          as_aux_lemma =>
          go_wp2_with (at_builtin; (refine wpL_appn rfl (.tmp 29) (.tmp 37) rfl W.heap.size aP (some ⟨wr.heap.size, 0, none⟩) P.length 1 cP 1 P [97 + (m : Int)] rfl (by first | rfl | simp | omega) (HP.out.grow (by (repeat' (first | exact Below.refl _ _ | assumption | refine bdrewN ?_ _ | refine Below.drew ?_ | refine bal ?_ _ | refine bthen ?_ (by assumption))))) rfl (by first | rfl | simp | omega) (Sl.lit wr [97 + (m : Int)] _ (by simp) (rng_one (by omega)) _ rfl) (by have := HP4.out; simp; omega) (by simp; omega) ?_); intro a5 c5 w5 L5 Hl5 ho5 hb5 hk5 hA5; have HA5 := hid hA5; clear hA5; have Ho5 := hid ho5; clear ho5; have Hk5 := hid hk5; clear hk5; have hz5 := hb5.size)
          have hL5 : L5.length = k + 1 := by rw [Hl5.out, List.length_append, HPl.out]; rfl
          have B5 := hid (Below.trans (bal HB.out _) (hb5.mono (by first | (simp; done) | (simp; omega) | omega)))
          have A5 : Hid (Abc L5) := by rw [Hl5.out]; exact hid (HAbc.out.app (by omega))
          exact ⟨⟨k + 1, a5, c5, L5, by go_num, rfl, by omega, by omega, hL5, Ho5, A5, B5⟩, by simp [intOf] <;> omega⟩
        · have b2 : decide ((k : Int) < 4) = false := decide_eq_false (by omega)
          have b2' : decide (k < 4) = false := decide_eq_false g2
          have HPl := hid (show P.length ≤ 4 by omega)
          clear hPl
          go_wp2_with fail
          go_meet
          exact ⟨aP, cP, P, rfl, HPl.out, HP, HAbc, HB.out⟩
      · have b1 : decide ((k : Int) < (l0.length : Int)) = false := decide_eq_false (by omega)
        have b1' : decide (k < l0.length) = false := decide_eq_false g1
        have HPl := hid (show P.length ≤ 4 by omega)
        clear hPl
        go_wp2_with fail
        go_meet
        exact ⟨aP, cP, P, rfl, HPl.out, HP, HAbc, HB.out⟩
  case rest =>
    rename World => w1
    obtain ⟨aP, cP, P, rfl, hP4, HP, HAP, hbp⟩ := hcut
    have HB1 := hid hbp
    have H1p : Hid (USl w1 a1 l1) := hid ⟨H1.out.1, H1.out.2.1, by
      rcases H1.out.2.2 with h | ⟨b, o, h, hc⟩
      · exact .inl h
      · exact .inr ⟨b, o, h, fun i hi => (hbp.cell (World.block_lt_of_cell? W _ (hc i hi))).trans (hc i hi)⟩⟩
    have hz1 := hbp.size
    obtain ⟨n, hn⟩ : ∃ n, n = P.length := ⟨_, rfl⟩
    have Hn := hid hn
    rw [← hn] at hP4 ⊢
    clear hbp hn
    go_upto_block 2 with fail
    go_cut [8] (fun tv w2 => ∃ (aT : Option Addr) (cT : Nat) (T : List Int), tv = .slice aT T.length cT ∧ T.length ≤ 40 ∧ Hid (Own w2 w1.heap.size aT cT T) ∧ Hid (Abc T) ∧ Below w1.heap.size w1 w2)
    case first =>
      go_wp2_with fail
      go_loopw [8, 10] (fun pv iv wr => ∃ (k : Nat) (aP : Option Addr) (cP : Nat) (P : List Int), iv = .int .i64 k ∧ pv = .slice aP P.length cP ∧ k ≤ l1.length ∧ k ≤ 40 ∧ P.length = k ∧ Hid (Own wr w1.heap.size aP cP P) ∧ Hid (Abc P) ∧ Hid (Below w1.heap.size w1 wr)) (fun _ iv _ => 40 - (intOf iv).toNat)
      case atStart => exact ⟨0, none, 0, [], rfl, rfl, Nat.zero_le _, by omega, rfl, hid (Own.nil _ _), hid (fun x h => by cases h), hid (Below.refl _ _)⟩
      case round =>
        obtain ⟨k, aP, cP, P, rfl, rfl, hk1, hk2, hPl, HP, HAbc, HB⟩ := hrel
        by_cases g1 : k < l1.length
        · have b1 : decide ((k : Int) < (l1.length : Int)) = true := decide_eq_true (by omega)
          have b1' : decide (k < l1.length) = true := decide_eq_true g1
          by_cases g2 : k < 40
          · have b2 : decide ((k : Int) < 40) = true := decide_eq_true (by omega)
            have b2' : decide (k < 40) = true := decide_eq_true g2
            obtain ⟨ub, uo, hua, huc⟩ := H1p.out.at g1
            have ck := huc k g1
            have cx := (HB.out.cell (World.block_lt_of_cell? w1 _ ck)).trans ck
            have hrx := H1p.out.2.1 _ (gt_mem g1)
            obtain ⟨m, hm, hm1, hm2⟩ := u8_mod hrx
            obtain ⟨x, hx⟩ : ∃ x, x = gt l1 k := ⟨_, rfl⟩
            rw [← hx] at cx hrx hm1 hm2
            have kz : (k : Int) < (l1.length : Int) := by omega
            have kz0 : (0 : Int) ≤ (k : Int) := by omega
            have wu : IntKind.u8.wrap (m : Int) = (m : Int) := by
              have : m = 0 ∨ m = 1 ∨ m = 2 := by omega
              rcases this with rfl | rfl | rfl <;> decide
            have wi : IntKind.i32.wrap (m : Int) = (m : Int) := by
              have : m = 0 ∨ m = 1 ∨ m = 2 := by omega
              rcases this with rfl | rfl | rfl <;> decide
            have wz : IntKind.i32.wrap (97 + (m : Int)) = (97 + (m : Int)) := by
              have : m = 0 ∨ m = 1 ∨ m = 2 := by omega
              rcases this with rfl | rfl | rfl <;> decide
            have hbz := HB.out.size
            subst hua
            have HPl := hid hPl
            have HP4 := hid (show P.length ≤ 39 by omega)
            have hzw : w1.heap.size ≤ wr.heap.size := by omega
            clear huc ck hx hPl
            as_aux_lemma =>
            go_wp2_with (at_builtin; (refine wpL_appn rfl (.tmp 49) (.tmp 57) rfl w1.heap.size aP (some ⟨wr.heap.size, 0, none⟩) P.length 1 cP 1 P [97 + (m : Int)] rfl (by first | rfl | simp | omega) (HP.out.grow (by (repeat' (first | exact Below.refl _ _ | assumption | refine bdrewN ?_ _ | refine Below.drew ?_ | refine bal ?_ _ | refine bthen ?_ (by assumption))))) rfl (by first | rfl | simp | omega) (Sl.lit wr [97 + (m : Int)] _ (by simp) (rng_one (by omega)) _ rfl) (by have := HP4.out; simp; omega) (by simp; omega) ?_); intro a5 c5 w5 L5 Hl5 ho5 hb5 hk5 hA5; have HA5 := hid hA5; clear hA5; have Ho5 := hid ho5; clear ho5; have Hk5 := hid hk5; clear hk5; have hz5 := hb5.size)
            have hL5 : L5.length = k + 1 := by rw [Hl5.out, List.length_append, HPl.out]; rfl
            have B5 := hid (Below.trans (bal HB.out _) (hb5.mono (by first | (simp; done) | (simp; omega) | omega)))
            have A5 : Hid (Abc L5) := by rw [Hl5.out]; exact hid (HAbc.out.app (by omega))
            exact ⟨⟨k + 1, a5, c5, L5, by go_num, rfl, by omega, by omega, hL5, Ho5, A5, B5⟩, by simp [intOf] <;> omega⟩
          · have b2 : decide ((k : Int) < 40) = false := decide_eq_false (by omega)
            have b2' : decide (k < 40) = false := decide_eq_false g2
            have HPl := hid (show P.length ≤ 40 by omega)
            clear hPl
            go_wp2_with fail
            go_meet
            exact ⟨aP, cP, P, rfl, HPl.out, HP, HAbc, HB.out⟩
        · have b1 : decide ((k : Int) < (l1.length : Int)) = false := decide_eq_false (by omega)
          have b1' : decide (k < l1.length) = false := decide_eq_false g1
          have HPl := hid (show P.length ≤ 40 by omega)
          clear hPl
          go_wp2_with fail
          go_meet
          exact ⟨aP, cP, P, rfl, HPl.out, HP, HAbc, HB.out⟩
    case rest =>
      rename World => w2
      obtain ⟨aT, cT, T, rfl, hT40, HT, HAT, hbt⟩ := hcut
      have HB2 := hid (HB1.out.trans (hbt.mono hz1))
      have HPs := hid (HP.out.sl.bel hbt)
      have hTc : T.length ≤ cT := by rcases HT.out.shape with ⟨_, _, h⟩ | ⟨_, _, _, _, h⟩; simp [h]; exact h
      obtain ⟨m, hm⟩ : ∃ m, m = T.length := ⟨_, rfl⟩
      have Hm := hid hm
      rw [← hm] at hT40 hTc ⊢
      clear hbt hm
      go_wp2_with fail
      rw [show (m : Int) + 1 = ((m + 1 : Nat) : Int) from by omega]
      refine (index_c x2 (m + 1) w2 (by omega) (by omega)).mono ?_
      rintro _ _ ⟨⟨f, hf, rfl⟩, rfl⟩
      go_upto_block 4 with fail
      go_cut [11] (fun av wc => ∃ j : Nat, av = .int .i64 j ∧ f ≤ j ∧ j ≤ m + 1 ∧ Hid (∀ k, f ≤ k → k < j → ¬ fits P T k) ∧ Hid ((j + n ≤ m ∧ fits P T j) ∨ m < j + n) ∧ Below w2.heap.size w2 wc)
      case first =>
        go_wp2_with fail
        go_loopw [11] (fun av wr => ∃ j : Nat, av = .int .i64 j ∧ f ≤ j ∧ j ≤ m + 1 ∧ Hid (∀ k, f ≤ k → k < j → ¬ fits P T k) ∧ Below w2.heap.size w2 wr) (fun av _ => m + 1 - (intOf av).toNat)
        case atStart => exact ⟨f, rfl, Nat.le_refl _, by omega, hid (fun k h1 h2 => by omega), Below.refl _ _⟩
        case round =>
          obtain ⟨j, rfl, hfj, hjm, HN, hb⟩ := hrel
          have Hb := hid hb
          have wm : IntKind.i64.wrap ((m : Int) - (n : Int)) = (m : Int) - (n : Int) := by rw [IntKind.wrap_i64]; omega
          by_cases hle : j + n ≤ m
          · have b1 : decide ((j : Int) ≤ (m : Int) - (n : Int)) = true := decide_eq_true (by omega)
            have wj : IntKind.i64.wrap ((j : Int) + (n : Int)) = (j : Int) + (n : Int) := by rw [IntKind.wrap_i64]; omega
            obtain ⟨a', c', D, HD, sD, hDc, hrun⟩ := slice_mid (HT.out.sl.bel hb) j (j + n) cT (by omega) (by rw [← Hm.out]; exact hle) (by rw [← Hm.out]; exact hTc)
            rw [← Hm.out] at hrun
            simp only [Int.natCast_add] at hrun
            have SC := rsame_c a' aP c' cP D P wr sD (HPs.out.bel hb)
            rw [← Hn.out] at SC
            have HSC := hid SC
            clear SC hb
            cases hE : eqM D P with
            | true =>
              rw [hE] at HSC
              have hfit := hid ((fits_abc HAP.out HAT.out (k := j) (by rw [← Hm.out, ← Hn.out]; exact hle)).2 (by
                have h1 : D = P := of_decide_eq_true hE
                rw [← Hn.out, ← HD.out]; exact h1))
              clear hE
              go_wp2_with fail
              refine HSC.out.mono ?_
              rintro _ _ ⟨rfl, n5, rfl⟩
              have Hb5 := hid (bdrewN Hb.out n5)
              go_wp2_with fail
              go_meet
              exact ⟨j, rfl, hfj, hjm, HN, hid (.inl ⟨hle, hfit.out⟩), Hb5.out⟩
            | false =>
              rw [hE] at HSC
              have hfit := hid (fun hf => by
                have h1 := (fits_abc HAP.out HAT.out (k := j) (by rw [← Hm.out, ← Hn.out]; exact hle)).1 hf
                rw [← Hn.out, ← HD.out] at h1
                have h2 : D ≠ P := of_decide_eq_false hE
                exact h2 h1 : ¬ fits P T j)
              clear hE
              go_wp2_with fail
              refine HSC.out.mono ?_
              rintro _ _ ⟨rfl, n5, rfl⟩
              have Hb5 := hid (bdrewN Hb.out n5)
              go_wp2_with fail
              refine ⟨⟨j + 1, by go_num, by omega, by omega, hid ?_, Hb5.out⟩, by simp [intOf] <;> omega⟩
              intro k h1 h2
              by_cases h3 : k = j
              · subst h3; exact hfit.out
              · exact HN.out k h1 (by omega)
          · have b1 : decide ((j : Int) ≤ (m : Int) - (n : Int)) = false := decide_eq_false (by omega)
            go_wp2_with fail
            go_meet
            exact ⟨j, rfl, hfj, hjm, HN, hid (.inr (by omega)), Hb.out⟩
      case rest =>
        rename World => w3
        obtain ⟨j, rfl, hfj, hjm, HN, HJ, hb3⟩ := hcut
        have HB3 := hid (HB2.out.trans (hb3.mono HB2.out.size))
        have HP3 := hid (HPs.out.bel hb3)
        have HT3 := hid (HT.out.sl.bel hb3)
        have hB3z := hb3.size
        clear hb3
        have hn := Hn.out
        subst hn
        go_upto_region 14 with fail
        go_wp2_with (first | (at_builtin; go_loud (refine wpL_appn rfl (.tmp 87) (.tmp 88) rfl w3.heap.size (some ⟨w3.heap.size, 0, none⟩) aP 1 P.length 1 cP [40] P rfl (by first | rfl | simp | omega) (Own.lit' w3 [40] _ _ 1 rfl (Nat.le_refl _) (by decide) (by unfold rng; simp) _ rfl rfl) rfl (by first | rfl | simp | omega) (HP3.out.bel (by (repeat' (first | exact Below.refl _ _ | assumption | refine bdrewN ?_ _ | refine Below.drew ?_ | refine bal ?_ _ | refine bthen ?_ (by assumption))))) (by simp; omega) (by first | (simp; done) | (simp; omega)) ?_); intro a8 c8 w8 L8 Hl8 ho8 hb8 hk8 hA8; have HA8 := hid hA8; clear hA8; have Ho8 := hid ho8; clear ho8; have Hk8 := hid hk8; clear hk8; have hz8 := hb8.size) | (at_builtin; go_loud (refine wpL_appn rfl (.tmp 89) (.tmp 90) rfl w3.heap.size a8 (some ⟨w8.heap.size, 0, none⟩) L8.length 1 c8 1 L8 [41] rfl (by first | rfl | simp | omega) (Ho8.out.grow (by (repeat' (first | exact Below.refl _ _ | assumption | refine bdrewN ?_ _ | refine Below.drew ?_ | refine bal ?_ _ | refine bthen ?_ (by assumption))))) rfl (by first | rfl | simp | omega) (Sl.lit' _ [41] _ _ (by simp) (by simp) (by simp [rng]) _ rfl) (by rw [Hl8.out, List.length_append]; simp; omega) (by have := hz8; simp only [World.size_alloc] at this ⊢; omega) ?_); intro a9 c9 w9 L9 Hl9 ho9 hb9 hk9 hA9; have HA9 := hid hA9; clear hA9; have Ho9 := hid ho9; clear ho9; have Hk9 := hid hk9; clear hk9; have hz9 := hb9.size))
        have hL9 : L9 = 40 :: (P ++ [41]) := by rw [Hl9.out, Hl8.out]; rfl
        have z8 : w3.heap.size ≤ w8.heap.size := by have := hz8; simp only [World.size_alloc] at this; omega
        have b39 : Below w3.heap.size w3 w9 := (Below.trans (by (repeat' (first | exact Below.refl _ _ | assumption | refine bdrewN ?_ _ | refine Below.drew ?_ | refine bal ?_ _ | refine bthen ?_ (by assumption)))) hb8).trans (Below.trans ((Below.refl _ _).alloc z8 _) hb9)
        have k9 : L9.length ≤ c9 := by rcases Ho9.out.shape with ⟨_, _, h⟩ | ⟨_, _, _, _, h⟩; simp [h]; exact h
        have PC := hid (new_c a9 c9 L9 true w9 Ho9.out.sl k9)
        have HL9 := hid hL9
        clear hL9 Hl8 Hl9 k9 HA8 HA9 Hk8 Hk9 Ho8
        refine PC.out.mono ?_
        rintro _ w10 ⟨b10, hor⟩
        have AC := abc_comp (l := P) hP4 HAP.out
        rw [← HL9.out] at AC
        rcases hor with ⟨e, f', h1, h2, -⟩ | ⟨M, pa, pc, L, G, hN, rfl⟩
        · rw [AC.1] at h1
          simp only [Prod.mk.injEq] at h1
          exact absurd h1.2.1.symm h2
        have hG : G = 1 := by rw [hN.grp]; exact AC.2
        subst hG
        have hI : inss L = plainP P := by
          have := hN.prog
          rw [AC.1] at this
          simpa using this
        have B10 := hid (HB3.out.trans ((b39.trans (b10.mono b39.size)).mono HB3.out.size))
        have b310 := b39.trans (b10.mono b39.size)
        obtain ⟨V, hV⟩ : ∃ V, V = w10.alloc (.cells #[.int .i64 0, .int .i64 0] 41) := ⟨_, rfl⟩
        have F3 : FtC V w10.heap.size 0 0 := by rw [hV]; exact FtC.new _ _ _ _ _ rfl
        have bV : Below w10.heap.size w10 V := by rw [hV]; (repeat' (first | exact Below.refl _ _ | assumption | refine bdrewN ?_ _ | refine Below.drew ?_ | refine bal ?_ _ | refine bthen ?_ (by assumption)))
        have NV := hid (hN.bel bV)
        have BV := hid (B10.out.trans (bV.mono B10.out.size))
        have bV3 := b310.trans (bV.mono b310.size)
        have HTV := hid (HT3.out.bel bV3)
        have HI := hid hI
        have hTc2 : T.length ≤ cT := by rw [← Hm.out]; exact hTc
        have HTc2 := hid hTc2
        have FR := hid (show FindR (mch (plainP P) T true) [-1, -1, -1, -1] f (if j + P.length ≤ m then some [(j : Int), ((j + P.length : Nat) : Int), (j : Int), ((j + P.length : Nat) : Int)] else none) from by
          rcases HJ.out with ⟨h1, h2⟩ | h1
          · rw [if_pos h1]; exact plain_hitR hfj (by rw [← Hm.out]; exact h1) HN.out h2
          · rw [if_neg (by omega)]; exact plain_noneR (j := j) (by rw [← Hm.out]; omega) (by rw [← Hm.out]; exact h1) HN.out)
        clear hN hI bV b310 b39 b10 PC AC HL9 Ho9 hb8 hb9 hz8 hz9 z8 bV3 hTc2 B10 HT3 HP3
        go_upto_region 15 with fail
        rw [← hV]; clear hV
        have f0 := F3.c0
        clear F3
        have hm := Hm.out
        subst hm
        obtain ⟨U, hU⟩ : ∃ U, U = T.map up := ⟨_, rfl⟩
        have hUl : U.length = T.length := by rw [hU]; simp
        have HU := hid hU
        have e4 : (List.replicate (2 * 1 + 2) (-1) : List Int) = [-1, -1, -1, -1] := rfl
        have F1 := hid (fun w' (b : Below V.heap.size V w') => find_c w' ⟨M, pa, pc, L, 1, true, aT, cT, T⟩ (NV.out.fx b (HTV.out.bel b) HTc2.out (by show T.length ≤ 1000; omega)) NV.out.made.ok f (by show f ≤ T.length; omega))
        have F2 := hid (fun w' (b : Below V.heap.size V w') (a' : Option Addr) (c' : Nat) (s' : Sl w' a' U) (h' : U.length ≤ c') => find_c w' ⟨M, pa, pc, L, 1, true, a', c', U⟩ (NV.out.fx b s' h' (by show U.length ≤ 1000; rw [hUl]; omega)) NV.out.made.ok f (by show f ≤ U.length; rw [hUl]; omega))
        clear NV HN HJ hUl hU
        have HF := hid (fun (o : Option (List Int)) (h : FindR (mch (inss L) T true) (List.replicate (2 * 1 + 2) (-1)) f o) => show o = if j + P.length ≤ T.length then some [(j : Int), ((j + P.length : Nat) : Int), (j : Int), ((j + P.length : Nat) : Int)] else none from by
          rw [HI.out, e4] at h
          exact FindR.one h FR.out)
        have HF2 := hid (fun (o : Option (List Int)) (h : FindR (mch (inss L) U true) (List.replicate (2 * 1 + 2) (-1)) f o) => show o = if j + P.length ≤ T.length then some [(j : Int), ((j + P.length : Nat) : Int), (j : Int), ((j + P.length : Nat) : Int)] else none from by
          rw [HU.out, mch_up] at h
          exact HF.out o h)
        clear FR e4 HI
        have P1 := F1.out V (Below.refl _ _)
        dsimp only at P1
        go_wp2_with fail
        refine P1.mono ?_
        rintro _ w11 ⟨b11, hor⟩
        change (FindR (mch (inss L) T true) (List.replicate (2 * 1 + 2) (-1)) f none ∧ _) ∨ ∃ r g c, FindR (mch (inss L) T true) (List.replicate (2 * 1 + 2) (-1)) f (some r) ∧ _ at hor
        have R1 := rcase1_c aT cT T w11 (HTV.out.bel b11)
        rw [← HU.out] at R1
        have HB11 := hid b11
        clear P1 F1 b11
        by_cases hj : j + P.length ≤ T.length
        · rcases hor with ⟨h1, -⟩ | ⟨r, g, c, h1, rfl, ho⟩
          · have := HF.out _ h1
            rw [if_pos hj] at this
            cases this
          have hr := HF.out _ h1
          rw [if_pos hj] at hr
          injection hr with hr
          have Hr := hid hr
          have HO := hid ho
          clear hr ho h1
          go_wp2_with fail
          refine R1.mono ?_
          rintro _ w12 ⟨a12, c12, rfl, ho12, b12⟩
          have b12' := HB11.out.trans (b12.mono HB11.out.size)
          have P2 := F2.out w12 b12' a12 c12 ho12.sl (by rcases ho12.shape with ⟨_, _, h⟩ | ⟨_, _, _, _, h⟩; simp [h]; exact h)
          try dsimp only at P2
          have HO12 := hid (HO.out.grow b12)
          have HB12 := hid b12'
          clear b12 b12' ho12 R1 HO HB11
          go_wp2_with fail
          refine P2.mono ?_
          rintro _ w13 ⟨b13, hor⟩
          change (FindR (mch (inss L) U true) (List.replicate (2 * 1 + 2) (-1)) f none ∧ _) ∨ ∃ r g c, FindR (mch (inss L) U true) (List.replicate (2 * 1 + 2) (-1)) f (some r) ∧ _ at hor
          rcases hor with ⟨h1, -⟩ | ⟨r2, g2, c2, h1, rfl, ho2⟩
          · have := HF2.out _ h1
            rw [if_pos hj] at this
            cases this
          have hr2 := HF2.out _ h1
          rw [if_pos hj] at hr2
          injection hr2 with hr2
          have Hr2 := hid hr2
          have HO13 := hid (HO12.out.grow b13)
          have HB13 := hid (BV.out.trans ((HB12.out.trans (b13.mono HB12.out.size)).mono BV.out.size))
          have HO2 := hid ho2
          clear hr2 h1 ho2 b13 P2 F2 HO12 HB12 HF HF2
          have wm : IntKind.i64.wrap ((T.length : Int) - (P.length : Int)) = (T.length : Int) - (P.length : Int) := by rw [IntKind.wrap_i64]; omega
          have bg : decide ((T.length : Int) - (P.length : Int) < (j : Int)) = false := decide_eq_false (by omega)
          have wj : IntKind.i64.wrap ((j : Int) + (P.length : Int)) = ((j + P.length : Nat) : Int) := by rw [IntKind.wrap_i64]; omega
          obtain ⟨X, hX⟩ : ∃ X : List Int, X = [(j : Int), ((j + P.length : Nat) : Int), (j : Int), ((j + P.length : Nat) : Int)] := ⟨_, rfl⟩
          have hX4 : X.length = 4 := by rw [hX]; rfl
          obtain ⟨V4, hV4⟩ : ∃ V4, V4 = w13.alloc (.cells #[.int .i64 (j : Int), .int .i64 ((j : Int) + (P.length : Int)), .int .i64 (j : Int), .int .i64 ((j : Int) + (P.length : Int))] 3) := ⟨_, rfl⟩
          have sX : I.Sl V4 (some ⟨w13.heap.size, 0, none⟩) X := by
            rw [hV4, hX]
            exact I.Sl.lit' _ [(j : Int), ((j + P.length : Nat) : Int), (j : Int), ((j + P.length : Nat) : Int)] _ _ rfl (by simp) (by
              intro y hy
              simp only [List.mem_cons, List.not_mem_nil, or_false] at hy
              rcases hy with rfl | rfl | rfl | rfl <;> omega) _ (by simp)
          have bV4 : Below w13.heap.size w13 V4 := by rw [hV4]; (repeat' (first | exact Below.refl _ _ | assumption | refine bdrewN ?_ _ | refine Below.drew ?_ | refine bal ?_ _ | refine bthen ?_ (by assumption)))
          have HB4 := hid (HB13.out.trans (bV4.mono HB13.out.size))
          have HX := hid hX
          have er : r = X := by rw [Hr.out, HX.out]
          have er2 : r2 = X := by rw [Hr2.out, HX.out]
          subst er
          subst er2
          have HX4 := hid hX4
          have SI1 := hid (sameInts_c (some ⟨g, 0, none⟩) (some ⟨w13.heap.size, 0, none⟩) c 4 r2 r2 V4 ((HO13.out.grow bV4).sl) sX)
          have SI2 := hid (fun (w' : World) (b : Below V4.heap.size V4 w') => sameInts_c (some ⟨g2, 0, none⟩) (some ⟨w13.heap.size, 0, none⟩) c2 4 r2 r2 w' ((HO2.out.grow (bV4.trans (b.mono bV4.size))).sl) (sX.bel b))
          rw [eqM_self, HX4.out] at SI1
          simp only [eqM_self, HX4.out] at SI2
          clear hX hX4 sX bV4
          go_upto_region 22 with fail
          rw [← hV4, HX4.out]
          clear hV4
          go_wp2_with fail
          refine SI1.out.mono ?_
          rintro _ _ ⟨rfl, n5, rfl⟩
          have SI3 := SI2.out _ (bdrewN (Below.refl _ _) n5)
          have HB5 := hid (bdrewN HB4.out n5)
          clear SI1 SI2
          go_wp2_with fail
          refine SI3.mono ?_
          rintro _ _ ⟨rfl, n6, rfl⟩
          have HB6 := hid (show Below W.heap.size W (V4.drewN (n5 + n6)) from bdrewN HB4.out _)
          clear SI3 HB5
          go_wp2_with fail
          refine (known10_c _).mono ?_
          rintro _ w14 ⟨rfl, b14⟩
          have B14 := hid (HB6.out.trans (b14.mono HB6.out.size))
          clear b14
          go_wp2_with fail
          go_ret
          exact ⟨rfl, B14.out⟩
        · rcases hor with ⟨h1, rfl⟩ | ⟨r, g, c, h1, -⟩
          rotate_left
          · have := HF.out _ h1
            rw [if_neg hj] at this
            cases this
          clear h1
          go_wp2_with fail
          refine R1.mono ?_
          rintro _ w12 ⟨a12, c12, rfl, ho12, b12⟩
          have b12' := HB11.out.trans (b12.mono HB11.out.size)
          have P2 := F2.out w12 b12' a12 c12 ho12.sl (by rcases ho12.shape with ⟨_, _, h⟩ | ⟨_, _, _, _, h⟩; simp [h]; exact h)
          try dsimp only at P2
          have HB12 := hid b12'
          clear b12 b12' ho12 R1 HB11
          go_wp2_with fail
          refine P2.mono ?_
          rintro _ w13 ⟨b13, hor⟩
          change (FindR (mch (inss L) U true) (List.replicate (2 * 1 + 2) (-1)) f none ∧ _) ∨ ∃ r g c, FindR (mch (inss L) U true) (List.replicate (2 * 1 + 2) (-1)) f (some r) ∧ _ at hor
          rcases hor with ⟨h1, rfl⟩ | ⟨r2, g2, c2, h1, -⟩
          rotate_left
          · have := HF2.out _ h1
            rw [if_neg hj] at this
            cases this
          have HB13 := hid (BV.out.trans ((HB12.out.trans (b13.mono HB12.out.size)).mono BV.out.size))
          clear h1 b13 P2 F2 HB12 HF HF2
          have wm : IntKind.i64.wrap ((T.length : Int) - (P.length : Int)) = (T.length : Int) - (P.length : Int) := by rw [IntKind.wrap_i64]; omega
          have bg : decide ((T.length : Int) - (P.length : Int) < (j : Int)) = true := decide_eq_true (by omega)
          go_wp2_with fail
          refine (known10_c w13).mono ?_
          rintro _ w14 ⟨rfl, b14⟩
          have B14 := hid (HB13.out.trans (b14.mono HB13.out.size))
          clear b14
          go_wp2_with fail
          go_ret
          exact ⟨rfl, B14.out⟩
end Go.Proofs.Ytlokefmieohggaa
