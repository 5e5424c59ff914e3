/- Layer 10 as plain facts: every program that is made can be run (PgOk); save 0 and save 1 stand in it once each; where a match lies. Layer 10 as plain facts: where a match lies, what it records; the matches one behind the other. Layer 10 as plain functions: the machine run (for closed patterns and texts). Layer 10 in memory: New. Layer 10 in memory: All of a matcher. Layer 10: what every program answers that is one (standishlaw10.known). -/
import Derived.Test.YtefgjicegbhcaaaGreatMtA
import Derived.Test.YtefgjicegbhcaaaGreatPgY
import Derived.Test.YtefgjicegbhcaaaGreatMtB
import Derived.Test.YtefgjicegbhcaaaGreatRga
import Derived.Deep.CutBlock
import Derived.Deep.DeepCutAuto
import Derived.Deep.QuietTactic
import Derived.BigQuiet
import Derived.Test.YtefgjicegbhcaaaGreatKeepI
namespace Go.Proofs.YtefgjicegbhcaaaGreat
open ReM
namespace ReM
def Qi (q : Ins) : Prop := 0 ≤ q.op ∧ q.op ≤ 5 ∧ (q.op = 3 → 2 ≤ q.x)
def Qs (b : List Ins) : Prop := ∀ q, q ∈ b → Qi q
theorem Qs.nil : Qs [] := fun q h => by cases h
theorem Qs.app {a b : List Ins} (h : Qs a) (k : Qs b) : Qs (a ++ b) := fun q hq => by
  rcases List.mem_append.1 hq with hq | hq
  · exact h q hq
  · exact k q hq
theorem Qs.cons {x : Ins} {b : List Ins} (h : Qi x) (k : Qs b) : Qs (x :: b) := fun q hq => by
  rcases List.mem_cons.1 hq with rfl | hq
  · exact h
  · exact k q hq
theorem Qs.one {x : Ins} (h : Qi x) : Qs [x] := Qs.nil.cons h
theorem Qs.sh {b : List Ins} (h : Qs b) (n : Nat) : Qs (shI n b) := fun q hq => by
  obtain ⟨p, hp, rfl⟩ := List.mem_map.1 hq
  have := h p hp
  obtain ⟨op, x, y, nt, st⟩ := p
  simp only [Qi, shI1] at this ⊢
  refine ⟨this.1, this.2.1, fun e => ?_⟩
  rw [if_neg (by omega)]
  exact this.2.2 e
theorem Qs.cat {bs : List (List Ins)} (h : ∀ b, b ∈ bs → Qs b) : Qs (catB bs) := by
  induction bs with
  | nil => exact Qs.nil
  | cons b bs ih => exact (h b (by simp)).app ((ih fun c hc => h c (List.mem_cons_of_mem _ hc)).sh _)
theorem Qs.alt (E : Nat) {bs : List (List Ins)} (h : ∀ b, b ∈ bs → Qs b) : ∀ n, Qs (altC E n bs) := by
  induction bs with
  | nil => intro n; exact Qs.nil
  | cons b bs ih =>
    intro n
    cases bs with
    | nil => exact (h b (by simp)).sh n
    | cons c bs =>
      refine Qs.cons (by simp [Qi, iSplit]) (((h b (by simp)).sh _).app (Qs.cons (by simp [Qi, iJump]) (ih (fun d hd => h d (List.mem_cons_of_mem _ hd)) _)))
theorem q_spl (z : Bool) (a b : Int) : Qi (spl z a b) := by cases z <;> simp [Qi, spl, iSplit]
theorem Qs.loop {b : List Ins} (h : Qs b) (z : Bool) : Qs (loopB b z) := Qs.cons (q_spl _ _ _) ((h.sh 1).app (Qs.one (by simp [Qi, iJump])))
theorem Qs.optc {b : List Ins} (h : Qs b) {sp : Nat → Ins} (hs : ∀ n, Qi (sp n)) (m : Nat) : ∀ n, Qs (optC sp b n m) := by
  induction m with
  | zero => intro n; exact Qs.nil
  | succ m ih => intro n; exact Qs.cons (hs n) ((h.sh _).app (ih _))
theorem Qs.group {b : List Ins} (h : Qs b) {no : Int} (h0 : 0 ≤ no) : Qs (groupB b no) := by
  unfold groupB
  split
  · exact h
  · refine Qs.cons ?_ ((h.sh 1).app (Qs.one ?_)) <;> simp [Qi, iSave] <;> omega
theorem blk_q (k : Nat) : ∀ t : List Rn, (∀ x, x ∈ t → x.kind = 5 → 0 ≤ x.lo) → Qs (blk k t) := by
  induction k with
  | zero => intro t _; exact Qs.nil
  | succ k ih =>
    intro t h
    cases t with
    | nil => exact Qs.nil
    | cons x cs =>
      have hcs := ih cs fun y hy => h y (List.mem_cons_of_mem _ hy)
      have hm : ∀ b, b ∈ (partsL cs).map (blk k) → Qs b := fun b hb => by
        obtain ⟨c, hc, rfl⟩ := List.mem_map.1 hb
        exact ih c fun y hy => h y (List.mem_cons_of_mem _ (((partsF_mem cs.length cs).2 c hc).2 y hy))
      unfold blk
      dsimp only
      split
      · exact Qs.cat hm
      split
      · exact Qs.alt _ hm 0
      split
      · exact Qs.one (by simp [Qi, iSet])
      split
      · exact Qs.one (by simp [Qi, iStart])
      split
      · exact Qs.one (by simp [Qi, iEnd])
      split
      · rename_i h5; exact hcs.group (h x (by simp) h5)
      split
      · refine Qs.cat fun b hb => ?_
        rcases List.mem_append.1 hb with hb | hb
        · rw [(List.mem_replicate.1 hb).2]; exact hcs
        · rw [List.mem_singleton.1 hb]
          split
          · exact hcs.loop _
          · exact Qs.optc hcs (fun n => q_spl _ _ _) _ 0
      · exact Qs.nil
/-- what stands in a program that is made -/
structure Made (P : List Ins) (G : Nat) : Prop where
  ok : PgOk P G
  first : igt P 0 = iSave 0
  last : ∀ i, i < P.length → (igt P i).op = 6 → i + 1 = P.length
  pre : igt P (P.length - 2) = iSave 1
  two : 3 ≤ P.length
  only : ∀ i, i < P.length → (igt P i).op = 3 → (igt P i).x = 0 → i = 0
  into : ∀ i, i < P.length → ((igt P i).op = 4 → 1 ≤ (igt P i).x ∧ 1 ≤ (igt P i).y ∧ (igt P i).x + 2 ≤ P.length ∧ (igt P i).y + 2 ≤ P.length) ∧ ((igt P i).op = 5 → 1 ≤ (igt P i).x ∧ (igt P i).x + 2 ≤ P.length)
theorem code_made {l : List Rn} {g : Nat} (hn : NodAt 0 l) (hL : Los l) (hg : gsL l = upto 0 g) : Made (codeW l) g := by
  have hlo := lo_le hg hL
  have hG : ∀ x, x ∈ l → x.kind = 5 → 0 ≤ x.lo ∧ x.lo ≤ (g : Int) := hlo
  have hb := blk_tg g l.length 0 l (Nat.le_refl _) hn hG
  have hq := (blk_q l.length l fun x hx h5 => (hlo x hx h5).1).sh 1
  obtain ⟨b, hbb⟩ : ∃ b, b = shI 1 (blk l.length l) := ⟨_, rfl⟩
  have hbl : b.length = (blk l.length l).length := by rw [hbb, shI_len]
  rw [← hbb] at hq
  have hcode : codeW l = iSave 0 :: (b ++ [iSave 1, iMatch]) := by rw [hbb]; rfl
  have hlen : (codeW l).length = b.length + 3 := by rw [hcode]; simp
  have ht : TgL g 1 (b.length + 1) 1 b := by
    have := hb.at 1 (lo := 1) (hi := b.length + 1) (Nat.le_refl _) (by omega)
    rwa [← hbb] at this
  have hmid : ∀ i, i < b.length → igt (codeW l) (i + 1) = igt b i := fun i hi => by
    rw [hcode]
    unfold igt
    rw [List.getD_eq_getElem?_getD, List.getElem?_cons_succ, List.getElem?_append_left hi, ← List.getD_eq_getElem?_getD]
  have h0 : igt (codeW l) 0 = iSave 0 := code_first l
  have h1 : igt (codeW l) (b.length + 1) = iSave 1 := by
    rw [hcode]; unfold igt
    rw [List.getD_eq_getElem?_getD, List.getElem?_cons_succ, List.getElem?_append_right (Nat.le_refl _), Nat.sub_self]; rfl
  have h2 : igt (codeW l) (b.length + 2) = iMatch := by
    rw [hcode]; unfold igt
    rw [List.getD_eq_getElem?_getD, List.getElem?_cons_succ, List.getElem?_append_right (by omega), Nat.add_sub_cancel_left]; rfl
  have hmem : ∀ i, i < b.length → igt b i ∈ b := fun i hi => by
    unfold igt; rw [List.getD_eq_getElem?_getD, List.getElem?_eq_getElem hi]; exact List.getElem_mem hi
  have hT : ∀ i, i < b.length → TgI g 1 (b.length + 1) (1 + i) (igt b i) := fun i hi => ht.get i hi
  have cases_ : ∀ i, i < (codeW l).length → i = 0 ∨ (∃ j, i = j + 1 ∧ j < b.length) ∨ i = b.length + 1 ∨ i = b.length + 2 := fun i hi => by
    rw [hlen] at hi
    rcases Nat.eq_zero_or_pos i with h | h
    · exact .inl h
    · by_cases h3 : i - 1 < b.length
      · exact .inr (.inl ⟨i - 1, by omega, h3⟩)
      · omega
  refine ⟨⟨by omega, fun i hi => ?_, fun i hi => ?_, fun i hi => ?_, fun i hi => ?_, fun i hi => ?_, fun i hi => ?_⟩, h0, fun i hi => ?_, ?_, by omega, fun i hi => ?_, fun i hi => ?_⟩
  · rcases cases_ i hi with rfl | ⟨j, rfl, hj⟩ | rfl | rfl
    · rw [h0]; simp [iSave]
    · rw [hmid j hj]; have := hq _ (hmem j hj); unfold Qi at this; omega
    · rw [h1]; simp [iSave]
    · rw [h2]; simp [iMatch]
  · rcases cases_ i hi with rfl | ⟨j, rfl, hj⟩ | rfl | rfl
    · intro _; omega
    · intro _; omega
    · intro _; omega
    · rw [h2]; intro h; simp [iMatch] at h
  · rcases cases_ i hi with rfl | ⟨j, rfl, hj⟩ | rfl | rfl
    · rw [h0]; intro h; simp [iSave] at h
    · rw [hmid j hj]; intro h; have := (hT j hj).1 h; omega
    · rw [h1]; intro h; simp [iSave] at h
    · rw [h2]; intro h; simp [iMatch] at h
  · rcases cases_ i hi with rfl | ⟨j, rfl, hj⟩ | rfl | rfl
    · rw [h0]; intro h; simp [iSave] at h
    · rw [hmid j hj]; intro h; have := (hT j hj).2.1 h; omega
    · rw [h1]; intro h; simp [iSave] at h
    · rw [h2]; intro h; simp [iMatch] at h
  · rcases cases_ i hi with rfl | ⟨j, rfl, hj⟩ | rfl | rfl
    · rw [h0]; intro _; simp [iSave]; omega
    · rw [hmid j hj]; intro h; exact (hT j hj).2.2.1 h
    · rw [h1]; intro _; simp [iSave]; omega
    · rw [h2]; intro h; simp [iMatch] at h
  · rcases cases_ i hi with rfl | ⟨j, rfl, hj⟩ | rfl | rfl
    · rw [h0]; intro h; simp [iSave] at h
    · rw [hmid j hj]; intro h; exact ((hT j hj).2.2.2 h).2
    · rw [h1]; intro h; simp [iSave] at h
    · rw [h2]; intro h; simp [iMatch] at h
  · rcases cases_ i hi with rfl | ⟨j, rfl, hj⟩ | rfl | rfl
    · rw [h0]; intro h; simp [iSave] at h
    · rw [hmid j hj]; intro h; have := (hq _ (hmem j hj)).2.1; omega
    · rw [h1]; intro h; simp [iSave] at h
    · intro _; omega
  · rw [hlen, show b.length + 3 - 2 = b.length + 1 by omega]; exact h1
  · rcases cases_ i hi with rfl | ⟨j, rfl, hj⟩ | rfl | rfl
    · intro _ _; rfl
    · rw [hmid j hj]; intro h h'; have := (hq _ (hmem j hj)).2.2 h; omega
    · rw [h1]; intro _ h; simp [iSave] at h
    · rw [h2]; intro h; simp [iMatch] at h
  · rcases cases_ i hi with rfl | ⟨j, rfl, hj⟩ | rfl | rfl
    · rw [h0]; exact ⟨fun h => by simp [iSave] at h, fun h => by simp [iSave] at h⟩
    · rw [hmid j hj]; exact ⟨fun h => by have := (hT j hj).1 h; omega, fun h => by have := (hT j hj).2.1 h; omega⟩
    · rw [h1]; exact ⟨fun h => by simp [iSave] at h, fun h => by simp [iSave] at h⟩
    · rw [h2]; exact ⟨fun h => by simp [iMatch] at h, fun h => by simp [iMatch] at h⟩
end ReM
end Go.Proofs.YtefgjicegbhcaaaGreat
namespace Go.Proofs.YtefgjicegbhcaaaGreat
open ReM
namespace ReM
/-- what holds of each path of a try that begins at b -/
structure On (P : List Ins) (G n b : Nat) (p : Pa) : Prop where
  i : p.i < P.length
  lo : b ≤ p.a
  hi : p.a ≤ n
  len : p.r.length = 2 * G + 2
  at0 : p.i = 0 → p.a = b
  fst : 0 < p.i → gt p.r 0 = b
  all : ∀ k, k < p.r.length → gt p.r k = -1 ∨ ((b : Int) ≤ gt p.r k ∧ gt p.r k ≤ p.a)
  snd : p.i + 1 = P.length → gt p.r 1 = p.a
theorem gt_set_self {l : List Int} {i : Nat} (h : i < l.length) (x : Int) : gt (l.set i x) i = x := by
  unfold gt; rw [List.getD_eq_getElem?_getD, List.getElem?_set_self h]; rfl
theorem gt_set_ne {l : List Int} {i k : Nat} (h : i ≠ k) (x : Int) : gt (l.set i x) k = gt l k := by
  unfold gt; rw [List.getD_eq_getElem?_getD, List.getElem?_set_ne h, ← List.getD_eq_getElem?_getD]
theorem On.succ {P : List Ins} {G b : Nat} {s : List Int} {fold : Bool} (M : Made P G) {p : Pa} (h : On P G s.length b p) {q : Pa} (hq : q ∈ succs (mch P s fold) p) : On P G s.length b q := by
  obtain ⟨i, a, r⟩ := p
  obtain ⟨h1, h2, h3, h4, h5, h6, h7, h8⟩ := h
  dsimp only at h1 h2 h3 h4 h5 h6 h7 h8
  have h2l := M.two
  have hne0 : (igt P i).op ≠ 3 → 0 < i := fun hn => by
    rcases Nat.eq_zero_or_pos i with rfl | h
    · rw [M.first] at hn; simp [iSave] at hn
    · exact h
  have hpre : (igt P i).op ≠ 3 → i + 2 ≠ P.length := fun hn e => by
    have : i = P.length - 2 := by omega
    rw [this, M.pre] at hn; simp [iSave] at hn
  have hnx : (igt P i).op ≠ 6 → i + 1 < P.length := M.ok.next i h1
  unfold succs at hq
  change q ∈ (if (igt P i).op = 0 then (if (mch P s fold).ok i a then [(⟨i + 1, a + 1, r⟩ : Pa)] else [])
    else if (igt P i).op = 1 then (if a = 0 then [⟨i + 1, a, r⟩] else [])
    else if (igt P i).op = 2 then (if a = s.length then [⟨i + 1, a, r⟩] else [])
    else if (igt P i).op = 3 then [⟨i + 1, a, r.set (igt P i).x.toNat (a : Int)⟩]
    else if (igt P i).op = 4 then [⟨(igt P i).x.toNat, a, r⟩, ⟨(igt P i).y.toNat, a, r⟩]
    else if (igt P i).op = 5 then [⟨(igt P i).x.toNat, a, r⟩]
    else []) at hq
  have plain : ∀ a', (igt P i).op ≠ 3 → (igt P i).op ≠ 6 → a ≤ a' → a' ≤ s.length → On P G s.length b ⟨i + 1, a', r⟩ := fun a' k3 k6 ha hl =>
    ⟨hnx k6, by show b ≤ a'; omega, hl, h4, (fun e => by cases e), fun _ => h6 (hne0 k3), (fun k hk => by
      rcases h7 k hk with e | ⟨e1, e2⟩
      · exact .inl e
      · exact .inr ⟨e1, by show gt r k ≤ (a' : Int); omega⟩), fun e => absurd e (by have := hpre k3; show ¬ (i + 1 + 1 = _); omega)⟩
  have jump : ∀ x : Int, (igt P i).op ≠ 3 → 1 ≤ x → x + 2 ≤ P.length → On P G s.length b ⟨x.toNat, a, r⟩ := fun x k3 hx hl =>
    ⟨by show x.toNat < _; omega, h2, h3, h4, (fun e => by exfalso; change x.toNat = 0 at e; omega), fun _ => h6 (hne0 k3), h7, fun e => by exfalso; change x.toNat + 1 = _ at e; omega⟩
  split at hq
  · rename_i h0
    split at hq
    · rename_i hok
      rw [List.mem_singleton.1 hq]
      have : a < s.length := by
        change (decide (a < s.length) && _) = true at hok
        rw [Bool.and_eq_true] at hok
        exact of_decide_eq_true hok.1
      exact plain (a + 1) (by omega) (by omega) (by omega) (by omega)
    · cases hq
  split at hq
  · split at hq
    · rw [List.mem_singleton.1 hq]; exact plain a (by omega) (by omega) (Nat.le_refl _) h3
    · cases hq
  split at hq
  · split at hq
    · rw [List.mem_singleton.1 hq]; exact plain a (by omega) (by omega) (Nat.le_refl _) h3
    · cases hq
  split at hq
  · rename_i h0
    rw [List.mem_singleton.1 hq]
    have hs := M.ok.save i h1 h0
    obtain ⟨x, hx⟩ : ∃ x : Nat, (igt P i).x = x := ⟨(igt P i).x.toNat, by omega⟩
    rw [hx, Int.toNat_natCast]
    rw [hx] at hs
    have hxl : x < r.length := by omega
    refine ⟨hnx (by omega), h2, h3, by rw [List.length_set]; exact h4, (fun e => by cases e), fun _ => ?_, fun k hk => ?_, fun e => ?_⟩
    · show gt (r.set x a) 0 = b
      rcases Nat.eq_zero_or_pos i with rfl | hi
      · have : x = 0 := by rw [M.first] at hx; simp [iSave] at hx; omega
        subst this
        rw [gt_set_self hxl, h5 rfl]
      · have : x ≠ 0 := fun e => by have := M.only i h1 h0 (by rw [hx, e]; rfl); omega
        rw [gt_set_ne this]; exact h6 hi
    · show gt (r.set x a) k = -1 ∨ _
      by_cases hk2 : x = k
      · subst hk2
        rw [gt_set_self hxl]
        exact .inr ⟨by omega, Int.le_refl _⟩
      · rw [gt_set_ne hk2]
        exact h7 k (by rw [List.length_set] at hk; exact hk)
    · show gt (r.set x a) 1 = a
      change i + 1 + 1 = P.length at e
      have hi : i = P.length - 2 := by omega
      have : x = 1 := by rw [hi, M.pre] at hx; simp [iSave] at hx; omega
      subst this
      exact gt_set_self hxl _
  split at hq
  · rename_i h0
    have hs := (M.into i h1).1 h0
    rcases List.mem_cons.1 hq with rfl | hq
    · exact jump _ (by omega) hs.1 hs.2.2.1
    · rw [List.mem_singleton.1 hq]; exact jump _ (by omega) hs.2.1 hs.2.2.2
  split at hq
  · rename_i h0
    have hs := (M.into i h1).2 h0
    rw [List.mem_singleton.1 hq]; exact jump _ (by omega) hs.1 hs.2
  · cases hq
theorem Run.on_all {P : List Ins} {G b : Nat} {s : List Int} {fold : Bool} (M : Made P G) {S S' : List Pa} {v v' : Vis} (h : Run (mch P s fold) S v S' v') : (∀ p, p ∈ S → On P G s.length b p) → ∀ p, p ∈ S' → On P G s.length b p := by
  induction h with
  | refl => exact fun h => h
  | old _ _ ih => exact fun k => ih fun p hp => k p (List.mem_cons_of_mem _ hp)
  | new _ _ _ ih =>
    intro k
    refine ih fun p hp => ?_
    rcases List.mem_append.1 hp with hp | hp
    · exact (k _ (by simp)).succ M hp
    · exact k p (List.mem_cons_of_mem _ hp)
/-- what a match records -/
structure Hit1 (G n b : Nat) (r : List Int) : Prop where
  len : r.length = 2 * G + 2
  fst : gt r 0 = b
  snd : (b : Int) ≤ gt r 1 ∧ gt r 1 ≤ n
  all : ∀ k, k < r.length → gt r k = -1 ∨ ((b : Int) ≤ gt r k ∧ gt r k ≤ gt r 1)
theorem Hits.one1 {P : List Ins} {G b : Nat} {s : List Int} {fold : Bool} (M : Made P G) (hb : b ≤ s.length) {v : Vis} {r : List Int} (h : Hits (mch P s fold) (List.replicate (2 * G + 2) (-1)) b v r) : Hit1 G s.length b r := by
  obtain ⟨p, S, v', h1, -, h3, rfl⟩ := h
  have h0 : On P G s.length b ⟨0, b, List.replicate (2 * G + 2) (-1)⟩ := by
    refine ⟨M.ok.pos, Nat.le_refl _, hb, by simp, fun _ => rfl, (fun h => by cases h), fun k hk => .inl ?_, fun e => ?_⟩
    · have hk' : k < 2 * G + 2 := by simpa using hk
      unfold gt; rw [List.getD_eq_getElem?_getD, List.getElem?_replicate, if_pos hk']; rfl
    · have := M.two; change 0 + 1 = _ at e; omega
  have hp := Run.on_all M h1 (fun q hq => by rw [List.mem_singleton.1 hq]; exact h0) p (by simp)
  have hl := M.last p.i hp.i h3
  have h2 := M.two
  have e1 := hp.snd hl
  refine ⟨hp.len, hp.fst (by omega), ?_, fun k hk => ?_⟩
  · rw [e1]; have := hp.lo; have := hp.hi; omega
  · rw [e1]; exact hp.all k hk
/-- the least place -/
theorem FindR.at {P : List Ins} {G : Nat} {s : List Int} {fold : Bool} (M : Made P G) {from_ : Nat} {r : List Int} (h : FindR (mch P s fold) (List.replicate (2 * G + 2) (-1)) from_ (some r)) : ∃ b u, from_ ≤ b ∧ b ≤ s.length ∧ Hit1 G s.length b r ∧ Shut (mch P s fold) u ∧ Hits (mch P s fold) (List.replicate (2 * G + 2) (-1)) b u r := by
  obtain ⟨b, u, h1, h2, h3, h4, -⟩ := Finds.hits h (shut_none _) r rfl
  exact ⟨b, u, h1, h2, Hits.one1 M h2 h4, h3, h4⟩
/-- from each place up to the match, the same -/
theorem FindR.same {P : List Ins} {G : Nat} {s : List Int} {fold : Bool} (M : Made P G) {from_ k : Nat} {r : List Int} {o : Option (List Int)} (h : FindR (mch P s fold) (List.replicate (2 * G + 2) (-1)) from_ (some r)) (h1 : from_ ≤ k) (h2 : (k : Int) ≤ gt r 0)
    (g : FindR (mch P s fold) (List.replicate (2 * G + 2) (-1)) k o) : o = some r := by
  obtain ⟨b, u, h3, h4, h5, h6, h7⟩ := h.at M
  have hb := h5.fst
  obtain ⟨b', u', k3, k4, k5, k6, k7⟩ := Finds.hits h (shut_none _) r rfl
  have hbb : b' = b := by
    have := (Hits.one1 M k4 k6).fst
    omega
  subst hbb
  exact Finds.from g (shut_none _) (by omega) k4 k5 k6 fun j j1 j2 => k7 j (by omega) j2
/-- the matches one behind the other -/
def nextF (r : List Int) : Nat := if gt r 0 = gt r 1 then (gt r 1).toNat + 1 else (gt r 1).toNat
inductive AllR (m : Mc) (z : List Int) : Nat → List (List Int) → Prop
  | done {a : Nat} : FindR m z a none → AllR m z a []
  | more {a : Nat} {r : List Int} {l : List (List Int)} : FindR m z a (some r) → AllR m z (nextF r) l → AllR m z a (r :: l)
end ReM
end Go.Proofs.YtefgjicegbhcaaaGreat
namespace Go.Proofs.YtefgjicegbhcaaaGreat
open ReM
namespace ReM
def exec (m : Mc) : Nat → List Pa → Vis → Option (Option (List Int) × Vis)
  | 0, _, _ => none
  | _ + 1, [], v => some (none, v)
  | k + 1, p :: S, v => if v p.i p.a = true then exec m k S v else if (igt m.P p.i).op = 6 then some (some p.r, v) else exec m k (succs m p ++ S) (mark v p.i p.a)
theorem exec_none {m : Mc} : ∀ (k : Nat) (S : List Pa) (v v' : Vis), exec m k S v = some (none, v') → Run m S v [] v' := by
  intro k
  induction k with
  | zero => intro S v v' h; cases h
  | succ k ih =>
    intro S v v' h
    cases S with
    | nil => simp only [exec, Option.some.injEq, Prod.mk.injEq, true_and] at h; subst h; exact .refl _ _
    | cons p S =>
      unfold exec at h
      split at h
      · rename_i hv; exact .old hv (ih _ _ _ h)
      · rename_i hv
        split at h
        · cases h
        · rename_i h6; exact .new (by simpa using hv) h6 (ih _ _ _ h)
theorem exec_some {m : Mc} : ∀ (k : Nat) (S : List Pa) (v v' : Vis) (r : List Int), exec m k S v = some (some r, v') → ∃ p T v2, Run m S v (p :: T) v2 ∧ v2 p.i p.a = false ∧ (igt m.P p.i).op = 6 ∧ p.r = r := by
  intro k
  induction k with
  | zero => intro S v v' r h; cases h
  | succ k ih =>
    intro S v v' r h
    cases S with
    | nil => simp [exec] at h
    | cons p S =>
      unfold exec at h
      split at h
      · rename_i hv
        obtain ⟨q, T, v2, h1, h2⟩ := ih _ _ _ _ h
        exact ⟨q, T, v2, .old hv h1, h2⟩
      · rename_i hv
        split at h
        · rename_i h6
          simp only [Option.some.injEq, Prod.mk.injEq] at h
          exact ⟨p, S, v, .refl _ _, by simpa using hv, h6, h.1⟩
        · rename_i h6
          obtain ⟨q, T, v2, h1, h2⟩ := ih _ _ _ _ h
          exact ⟨q, T, v2, .new (by simpa using hv) h6 h1, h2⟩
def findX (m : Mc) (z : List Int) : Nat → Nat → Vis → Option (Option (List Int))
  | 0, _, _ => none
  | k + 1, a, v => if m.n < a then some none else match exec m 1000 [⟨0, a, z⟩] v with
    | none => none
    | some (some r, _) => some (some r)
    | some (none, v') => findX m z k (a + 1) v'
theorem findX_finds {m : Mc} {z : List Int} : ∀ (k a : Nat) (v : Vis) (o : Option (List Int)), findX m z k a v = some o → Finds m z a v o := by
  intro k
  induction k with
  | zero => intro a v o h; cases h
  | succ k ih =>
    intro a v o h
    unfold findX at h
    split at h
    · rename_i hlt
      simp only [Option.some.injEq] at h
      subst h
      exact .out hlt
    · rename_i hlt
      split at h
      · cases h
      · rename_i r v' he
        simp only [Option.some.injEq] at h
        subst h
        exact .hit (by omega) (exec_some _ _ _ _ _ he)
      · rename_i v' he
        exact .miss (by omega) (exec_none _ _ _ _ he) (ih _ _ _ h)
theorem AllR.one {m : Mc} {z : List Int} {a : Nat} {l1 : List (List Int)} (h : AllR m z a l1) : ∀ {l2}, AllR m z a l2 → l1 = l2 := by
  induction h with
  | done h =>
    intro l2 k
    cases k with
    | done => rfl
    | more k _ => have := FindR.one h k; cases this
  | more h _ ih =>
    intro l2 k
    cases k with
    | done k => have := FindR.one h k; cases this
    | more k k2 =>
      have := FindR.one h k
      cases this
      rw [ih k2]
def pK : List Ins := (compW [97, 43]).1
theorem comp_pk : compW [97, 43] = (pK, 0, 0) := by kernel_rfl
theorem comp_par : compW [40] = ([], 5, 1) := by kernel_rfl
theorem find_k1 : FindR (mch pK [98, 97, 97] false) [-1, -1] 0 (some [1, 3]) := findX_finds 10 0 none_ _ (by kernel_rfl)
theorem find_k2 : FindR (mch pK [97, 98, 97] false) [-1, -1] 0 (some [0, 1]) := findX_finds 10 0 none_ _ (by kernel_rfl)
theorem find_k3 : FindR (mch pK [97, 98, 97] false) [-1, -1] 1 (some [2, 3]) := findX_finds 10 1 none_ _ (by kernel_rfl)
theorem find_k4 : FindR (mch pK [97, 98, 97] false) [-1, -1] 3 none := findX_finds 10 3 none_ _ (by kernel_rfl)
theorem all_k : AllR (mch pK [97, 98, 97] false) [-1, -1] 0 [[0, 1], [2, 3]] := .more find_k2 (.more find_k3 (.done find_k4))
end ReM
end Go.Proofs.YtefgjicegbhcaaaGreat
namespace Go.Proofs.YtefgjicegbhcaaaGreat
open Go.RowKit ReM

/-- a matcher that New makes: what it stands for -/
structure New1 (w0 w : World) (p : List Int) (fold : Bool) (M : Nat) (pa : Option Addr) (pc : Nat) (L : List Im) (G : Nat) : Prop where
  mt : Mt w M pa pc L G fold
  prog : (inss L, (0 : Int), (0 : Int)) = compW p
  made : Made (inss L) G
  Ll : L.length ≤ 300
  G9 : G ≤ 9
  new : w0.heap.size ≤ M
  grp : G = (gsL (parseW p).1).length
  pnew : ∀ ad, pa = some ad → w0.heap.size ≤ ad.block
  snew : ∀ q, q ∈ L → ∀ ad, q.sa = some ad → w0.heap.size ≤ ad.block
def NewR (w : World) (p : List Int) (fold : Bool) (e' : Ending) (w' : World) : Prop :=
  Below w.heap.size w w' ∧ ((∃ e f, compW p = ([], e, f) ∧ e ≠ 0 ∧ e' = .returned (.tuple #[.pointer none, .agg #[.int .i64 e, .int .i64 f]])) ∨
    ∃ M pa pc L G, New1 w w' p fold M pa pc L G ∧ e' = .returned (.tuple #[.pointer (some ⟨M, 0, none⟩), .agg #[.int .i64 0, .int .i64 0]]))
theorem ret_45 {fn : Func} {post : Ending → World → Prop} {at_ : Act} {w : World} {R : Nat} {e f : Int} {v : Value} (hr : fn.results = #[ResultVar.tmp 4, ResultVar.cell 5 47]) (h2 : at_.tmps[4]?.getD undef = v) (ht : at_.tmps[5]?.getD undef = .pointer (some ⟨R, 0, none⟩)) (hd : at_.defers = [])
    (h : FtC w R e f) (hp : post (.returned (.tuple #[v, .agg #[.int .i64 e, .int .i64 f]])) w) : bodyPost Tryz.prog fn post Exit.ret at_ w :=
  bodyPost_ret (v := .tuple #[v, .agg #[.int .i64 e, .int .i64 f]]) (by simp [results, hr, go_sem, h2, ht, h.c0, h.c1]) hd hp
/-- beside a block that is none of the matcher's -/
theorem Mt.kr {w w' : World} {M : Nat} {pa : Option Addr} {pc : Nat} {L : List Im} {G : Nat} {fold : Bool} (h : Mt w M pa pc L G fold) {r : Nat} (k : Kpt (fun j => j = r) w w') (hM : M ≠ r) (hp : ∀ ad, pa = some ad → ad.block ≠ r) (hs : ∀ q, q ∈ L → ∀ ad, q.sa = some ad → ad.block ≠ r) : Mt w' M pa pc L G fold :=
  ⟨k.cell h.c0 hM, k.cell h.c1 hM, k.cell h.c2 hM, h.prog.same fun ad ha hl => k.block _ hl (hp ad ha), h.cap, fun q hq => (h.sets q hq).same fun ad ha hl => k.block _ hl (hs q hq ad ha)⟩
theorem New1.kr {w0 w w' : World} {p : List Int} {fold : Bool} {M : Nat} {pa : Option Addr} {pc : Nat} {L : List Im} {G : Nat} (h : New1 w0 w p fold M pa pc L G) {r : Nat} (k : Kpt (fun j => j = r) w w') (hr : r < w0.heap.size) : New1 w0 w' p fold M pa pc L G :=
  ⟨h.mt.kr k (by have := h.new; omega) (fun ad ha => by have := h.pnew ad ha; omega) (fun q hq ad ha => by have := h.snew q hq ad ha; omega), h.prog, h.made, h.Ll, h.G9, h.new, h.grp, h.pnew, h.snew⟩
theorem New1.bel {w0 w w' : World} {p : List Int} {fold : Bool} {M : Nat} {pa : Option Addr} {pc : Nat} {L : List Im} {G : Nat} (h : New1 w0 w p fold M pa pc L G) (b : Below w.heap.size w w') : New1 w0 w' p fold M pa pc L G :=
  ⟨h.mt.bel b, h.prog, h.made, h.Ll, h.G9, h.new, h.grp, h.pnew, h.snew⟩
set_option maxRecDepth 20000 in
set_option maxHeartbeats 16000000 in
theorem new_c (a : Option Addr) (c : Nat) (p : List Int) (fold : Bool) (w : World) (h : Sl w a p) (hc : p.length ≤ c) :
    Calls Tryz.prog 18 #[.slice a p.length c, .bool fold] w (NewR w p fold) := by
  obtain ⟨V, hV⟩ : ∃ V, V = w.alloc (.cells #[.int .i64 0, .int .i64 0] 47) := ⟨_, rfl⟩
  have bV : Below w.heap.size w V := by subst hV; (repeat' (first | exact Below.refl _ _ | assumption | refine bdrewN ?_ _ | refine Below.drew ?_ | refine bal ?_ _ | refine bthen ?_ (by assumption)))
  have F0 : Hid (FtC V w.heap.size 0 0) := by subst hV; exact FtC.new _ _ _ _ _ rfl
  have zV : V.heap.size = w.heap.size + 1 := by subst hV; simp
  have HS := hid (h.bel bV)
  have Hc := hid hc
  have CC := hid (compile_c a c p V HS.out hc)
  have BV := hid bV
  have CS := hid (compW_cases p)
  clear h bV hc
  go_enter Tryz.func18, Tryz.ntmps18
  go_upto_region 1 with fail
  rw [← hV]; clear hV
  go_wp2_with fail
  refine CC.out.mono ?_
  rintro _ w1 ⟨a1, c1, L, rfl, hin, hLl, ho, hs, b1⟩
  obtain ⟨⟨pr, e, f⟩, hX⟩ : ∃ X, X = compW p := ⟨_, rfl⟩
  rw [← hX] at hin
  dsimp only at hin
  have HX := hid hX
  have HIn := hid hin
  have HLl := hid hLl
  have Ho := hid ho
  have Hs := hid hs
  have B1 := hid (BV.out.trans (b1.mono (by omega)))
  have F1 := hid (F0.out.bel b1)
  have S1 := hid (HS.out.bel b1)
  have zw1 := b1.size
  rw [← hX]
  dsimp only
  clear hX hin hLl ho hs b1 CC F0 HS
  go_upto_region 2 with fail
  obtain ⟨V2, hV2⟩ : ∃ V2, V2 = w1.alloc (.cells #[.int .i64 e, .int .i64 f] 47) := ⟨_, rfl⟩
  have G2 : Hid (FtC V2 w1.heap.size e f) := by subst hV2; exact FtC.new _ _ _ _ _ rfl
  have bV2 : Below w1.heap.size w1 V2 := by subst hV2; (repeat' (first | exact Below.refl _ _ | assumption | refine bdrewN ?_ _ | refine Below.drew ?_ | refine bal ?_ _ | refine bthen ?_ (by assumption)))
  have zV2 : V2.heap.size = w1.heap.size + 1 := by subst hV2; simp
  have F2 := hid (F1.out.bel bV2)
  have B2 := hid (B1.out.trans (bV2.mono B1.out.size))
  have S2 := hid (S1.out.bel bV2)
  have O2 := hid (Ho.out.grow bV2)
  have Q2 := hid (Hs.out.bel bV2)
  rw [← hV2]
  clear hV2 bV2 F1 B1 S1 Ho Hs
  have y0 := G2.out.c0
  have y1 := G2.out.c1
  by_cases he : e = 0
  · have b1 : (e != 0) = false := by simpa using he
    have he2 := hid he
    clear he
    have PC := hid (parse_c a c p V2 S2.out Hc.out)
    go_wp2_with fail
    refine PC.out.mono ?_
    rintro _ w3 ⟨a3, c3, T, rfl, hr3, ho3, -, -, b3⟩
    have HT := hid hr3
    have O3 := hid ho3
    have F3 := hid (F2.out.bel b3)
    have B3 := hid (B2.out.trans (b3.mono B2.out.size))
    have P3 := hid (O2.out.grow b3)
    have Q3 := hid (Q2.out.bel b3)
    have hd : ∃ e' f', (parseW p).2 = (e', f') := ⟨_, _, rfl⟩
    obtain ⟨e3, f3, hd3⟩ := hd
    rw [hd3]
    dsimp only
    have D3 := hid hd3
    have zw3 := b3.size
    clear hr3 ho3 b3 hd3 PC
    obtain ⟨V4, hV4⟩ : ∃ V4, V4 = w3.alloc (.cells #[.int .i64 e3, .int .i64 f3] 47) := ⟨_, rfl⟩
    have bV4 : Below w3.heap.size w3 V4 := by subst hV4; (repeat' (first | exact Below.refl _ _ | assumption | refine bdrewN ?_ _ | refine Below.drew ?_ | refine bal ?_ _ | refine bthen ?_ (by assumption)))
    have zV4 : V4.heap.size = w3.heap.size + 1 := by subst hV4; simp
    have F4 := hid (F3.out.bel bV4)
    have B4 := hid (B3.out.trans (bV4.mono B3.out.size))
    have P4 := hid (P3.out.grow bV4)
    have Q4 := hid (Q3.out.bel bV4)
    have O4 := hid (O3.out.grow bV4)
    have GC := hid (groups_c a3 c3 T V4 O4.out.sl)
    clear bV4 F3 B3 P3 Q3 O3 F2 B2 O2 Q2
    go_upto_region 5 with fail
    rw [← hV4]; clear hV4 y0 y1
    go_wp2_with fail
    refine GC.out.mono ?_
    rintro _ w5 ⟨rfl, b5⟩
    have F5 := hid (F4.out.bel b5)
    have B5 := hid (B4.out.trans (b5.mono B4.out.size))
    have P5 := hid (P4.out.grow b5)
    have Q5 := hid (Q4.out.bel b5)
    have zw5 := b5.size
    obtain ⟨G, hG⟩ : ∃ G, G = (gsL (rns T)).length := ⟨_, rfl⟩
    rw [← hG]
    have HG := hid hG
    clear hG b5 F4 B4 P4 Q4 GC O4
    obtain ⟨V6, hV6⟩ : ∃ V6, V6 = w5.alloc (.cells #[.slice a1 L.length c1, .int .i64 G, .bool fold] 87) := ⟨_, rfl⟩
    have bV6 : Below w5.heap.size w5 V6 := by subst hV6; (repeat' (first | exact Below.refl _ _ | assumption | refine bdrewN ?_ _ | refine Below.drew ?_ | refine bal ?_ _ | refine bthen ?_ (by assumption)))
    have zV6 : V6.heap.size = w5.heap.size + 1 := by subst hV6; simp
    have F6 := hid (F5.out.bel bV6)
    have B6 := hid (B5.out.trans (bV6.mono B5.out.size))
    have P6 := hid (P5.out.grow bV6)
    have Q6 := hid (Q5.out.bel bV6)
    have M6 : Hid (Mt V6 w5.heap.size a1 c1 L G fold) := by
      refine hid ⟨?_, ?_, ?_, P6.out.sl, P6.out.cap, fun q hq => (Q6.out.own q.key (List.mem_map_of_mem hq)).sl⟩
      · rw [hV6]; exact cell_alloc_new _ _ _ 0
      · rw [hV6]; exact cell_alloc_new _ _ _ 1
      · rw [hV6]; exact cell_alloc_new _ _ _ 2
    have f0 := F5.out.c0
    have f1 := F5.out.c1
    have f2 := F5.out.fz 0
    have f3' := F5.out.fz 1
    have z0 := B6.out.size
    have z1 := F5.out.lt
    clear bV6 F5 B5 P5 Q5
    have hcom : ((w5.setCell ⟨w.heap.size, 0, none⟩ (.int .i64 0)).setCell ⟨w.heap.size, 1, none⟩ (.int .i64 0)).alloc (.cells #[.slice a1 L.length c1, .int .i64 G, .bool fold] 87) = (V6.setCell ⟨w.heap.size, 0, none⟩ (.int .i64 0)).setCell ⟨w.heap.size, 1, none⟩ (.int .i64 0) := by
      rw [hV6, World.setCell_alloc_past _ _ _ _ (hn := z1), World.setCell_alloc_past _ _ _ _ (hn := by simpa using z1)]
    have HCom := hid hcom
    clear hcom hV6
    go_wp2_with fail
    rw [HCom.out]
    refine ret_45 Tryz.results18 rfl rfl rfl (FtC.put F6.out 0 0) ?_
    refine ⟨(B6.out.setCell (by exact Nat.le_refl _) _).setCell (by exact Nat.le_refl _) _, .inr ⟨w5.heap.size, a1, c1, L, G, ⟨?_, ?_, ?_, HLl.out, ?_, by omega, by rw [HG.out, HT.out], fun ad ha => ?_, fun q hq ad ha => ?_⟩, rfl⟩⟩
    · refine M6.out.kr (r := w.heap.size) (((Kpt.refl (fun j => j = w.heap.size) V6).setCell (p := ⟨w.heap.size, 0, none⟩) rfl _).setCell (p := ⟨w.heap.size, 1, none⟩) rfl _) (by omega) (fun ad ha => ?_) (fun q hq ad ha => ?_)
      · have := (P6.out.lt (k := ad.block) ⟨ad, ha, rfl⟩).1; omega
      · have := (Q6.out.lt (q := q.key) (List.mem_map_of_mem hq) (k := ad.block) ⟨ad, ha, rfl⟩).1; omega
    all_goals
      rcases CS.out with ⟨e', f', h1, h2⟩ | ⟨l, g, h1, h2, h3, h4, h5, -, -, h6, -⟩
      · have h3 := HX.out
        rw [h1] at h3
        simp at h3
        exact absurd he2.out (by rw [h3.2.1]; exact h2)
      · have h7 := HX.out
        rw [h6] at h7
        have h8 : pr = codeW l := by simp at h7; exact h7.1
        have h9 : rns T = l := by rw [HT.out, h1]
        have h10 : G = g := by rw [HG.out, h9, h5]; simp [upto]
        first
          | (rw [HIn.out, h8, h6])
          | (rw [HIn.out, h8, h10]; exact code_made h2 h3 h5)
          | omega
          | (have := (P6.out.lt (k := ad.block) ⟨ad, ha, rfl⟩).1; omega)
          | (have := (Q6.out.lt (q := q.key) (List.mem_map_of_mem hq) (k := ad.block) ⟨ad, ha, rfl⟩).1; omega)
  · have b1 : (e != 0) = true := by simpa using he
    have he2 := hid he
    have m0 := F2.out.c0
    have m1 := F2.out.c1
    have m2 := F2.out.fz 0
    have m3 := F2.out.fz 1
    clear he
    go_upto_region 3 with fail
    go_region
    all_goals
      go_wp2_with fail
      refine ret_45 Tryz.results18 rfl rfl rfl (FtC.put (e := 0) (f := 0) (w := V2.drew) ?_ e f) ?_
      · exact F2.out.same rfl
      · refine ⟨(B2.out.drew.setCell (by exact Nat.le_refl _) _).setCell (by exact Nat.le_refl _) _, .inl ⟨e, f, ?_, he2.out, rfl⟩⟩
        rcases CS.out with ⟨e', f', h1, h2⟩ | ⟨l, g, -, -, -, -, -, -, -, h1, -⟩
        · rw [h1] at HX ⊢
          obtain ⟨h3, h4, h5⟩ := (by simpa using HX.out : pr = [] ∧ e = e' ∧ f = f')
          rw [h4, h5]
        · have h2 := HX.out
          rw [h1] at h2
          simp at h2
          exact absurd h2.2.1 he2.out
end Go.Proofs.YtefgjicegbhcaaaGreat
namespace Go.Proofs.YtefgjicegbhcaaaGreat
open Go.RowKit ReM

/-- a slice of int among others -/
structure Lt where
  a : Option Addr
  l : List Int
  c : Nat
instance : Inhabited Lt := ⟨⟨none, [], 0⟩⟩
def encLt : Enc Lt where
  k := 1
  v := fun q => [.slice q.a q.l.length q.c]
  cap := 2199023255552
  pos := by decide
  len := fun _ => rfl
  one := fun x u h => by simp at h; subst h; rfl
theorem rec_lt {w : World} {b o : Nat} {m : Lt} (h : Rec1 encLt w b o m) : w.cell? ⟨b, o, none⟩ = some (.slice m.a m.l.length m.c) := h 0 _ rfl
theorem Tryz.infoLt : (Tryz.prog.info? 28).map (fun i => (i.zero, i.size, i.bytes)) = some (some (.slice none 0 0), 1, 24) := by kernel_rfl
theorem Tryz.tyLt : Ty Tryz.prog encLt 60 28 where
  und := by kernel_rfl
  info := ⟨_, _, Tryz.infoLt, rfl, by decide⟩
  elem := by kernel_rfl
  size := fun w => by kernel_rfl
  max := by decide
abbrev QO (w : World) (base : Nat) (a : Option Addr) (c : Nat) (Q : List Lt) : Prop := ROwn encLt 28 w base a c Q
def Lts (w : World) (B : Nat) (Q : List Lt) : Prop := ∀ q, q ∈ Q → I.Own w B q.a q.c q.l
theorem Lts.bel {w w' : World} {B : Nat} {Q : List Lt} (h : Lts w B Q) (b : Below w.heap.size w w') : Lts w' B Q := fun q hq => (h q hq).grow b
theorem Lts.beside {w w' : World} {B B2 : Nat} {Q Q2 : List Lt} (h : Lts w B Q) {a : Option Addr} {c : Nat} (ho : QO w B2 a c Q2) (k : Kpt (Blk a) w w') : Lts w' B Q := fun q hq =>
  (h q hq).same fun ad ha hl => k.block _ hl fun ⟨ae, he, hb⟩ => own_types (h q hq).1 ho.1 (by decide) (k := ad.block) (by rw [ha]; rfl) (by rw [he, ← hb]; rfl)
def AllP (w : World) (x : Fx) (e' : Ending) (w' : World) : Prop :=
  ∃ a c Q, e' = .returned (.slice a Q.length c) ∧ QO w' w.heap.size a c Q ∧ Lts w' w.heap.size Q ∧ Hid (AllR x.mc (zz x) 0 (Q.map Lt.l)) ∧ Below w.heap.size w w' ∧ Q.length ≤ 1001
set_option maxRecDepth 20000 in
set_option maxHeartbeats 16000000 in
theorem all_c10 (w : World) (x : Fx) (f : FxOk w x) (hM : Made (inss x.L) x.G) :
    Calls Tryz.prog 26 #[.pointer (some ⟨x.M, 0, none⟩), .slice x.ta x.t.length x.tc] w (AllP w x) := by
  obtain ⟨n, hn⟩ : ∃ n, n = x.t.length := ⟨_, rfl⟩
  have Hn := hid hn
  have HF := hid f
  have HM := hid hM
  have hn1 : n ≤ 1000 := by rw [hn]; exact f.tl
  rw [← hn]
  clear hn f hM
  go_enter Tryz.func26, Tryz.ntmps26
  go_wp2_with fail
  go_loopg [5, 6, 7, 8] (n + 1) (fun g qv fv _ _ wr => ∃ (f : Nat) (az : Option Addr) (cz : Nat) (Q : List Lt), g = n + 1 - f ∧ qv = .slice az Q.length cz ∧ fv = .int .i64 f ∧ f ≤ n + 1 ∧ Q.length ≤ f ∧
    Hid (QO wr w.heap.size az cz Q) ∧ Hid (Lts wr w.heap.size Q) ∧ Hid (∀ l, AllR x.mc (zz x) f l → AllR x.mc (zz x) 0 (Q.map Lt.l ++ l)) ∧ Hid (Below w.heap.size w wr))
  case atStart => exact ⟨0, none, 0, [], rfl, rfl, rfl, by omega, Nat.le_refl _, hid (ROwn.nil _ _), hid (fun q h => by cases h), hid fun l h => h, hid (Below.refl _ _)⟩
  case round =>
    obtain ⟨f, az, cz, Q, rfl, rfl, rfl, hf, hQ, HO, HL, HA, HB⟩ := hrel
    by_cases hfn : f ≤ n
    · have FC := find_c wr x (HF.out.bel HB.out) HM.out.ok f (by rw [← Hn.out]; exact hfn)
      rw [← Hn.out] at FC
      have HFC := hid FC
      clear FC
      go_wp2_with fail
      refine HFC.out.mono ?_
      rintro _ w1 ⟨b1, hor⟩
      have B1 := hid b1
      have O1 := hid (HO.out.grow b1)
      have L1 := hid (HL.out.bel b1)
      clear b1 HFC
      rcases hor with ⟨hno, rfl⟩ | ⟨r, g, c, hyes, rfl, ho⟩
      · have HN := hid hno
        clear hno
        go_wp2_with fail
        go_ret
        refine ⟨az, cz, Q, rfl, O1.out.grow (by (repeat' (first | exact Below.refl _ _ | assumption | refine bdrewN ?_ _ | refine Below.drew ?_ | refine Below.setCell ?_ (Nat.le_refl _) _ | refine bal ?_ _ | refine bthen ?_ (by assumption)))), L1.out.bel (by (repeat' (first | exact Below.refl _ _ | assumption | refine bdrewN ?_ _ | refine Below.drew ?_ | refine Below.setCell ?_ (Nat.le_refl _) _ | refine bal ?_ _ | refine bthen ?_ (by assumption)))), ?_, bthen HB.out (bthen B1.out (by (repeat' (first | exact Below.refl _ _ | assumption | refine bdrewN ?_ _ | refine Below.drew ?_ | refine Below.setCell ?_ (Nat.le_refl _) _ | refine bal ?_ _ | refine bthen ?_ (by assumption))))), by omega⟩
        have := HA.out [] (.done HN.out)
        rw [List.append_nil] at this
        exact this
      · have HY := hid hyes
        have HOr := hid ho
        obtain ⟨b, u, hb1, hb2, h1, -, -⟩ := FindR.at HM.out hyes
        have hl := h1.len
        have hr0 := h1.fst
        have hr1 := h1.snd
        rw [← Hn.out] at hr1
        clear hyes ho u h1
        have g0 := HOr.out.sl.at (i := 0) (by omega)
        obtain ⟨gb, go, hge, hgc⟩ := g0
        cases hge
        have k0 := hgc 0 (by omega)
        have k1 := hgc 1 (by omega)
        rw [Nat.zero_add] at k0 k1
        rw [hr0] at k0
        obtain ⟨q, hq⟩ : ∃ q : Nat, gt r 1 = q := ⟨(gt r 1).toNat, by omega⟩
        rw [hq] at k1 hr1
        have Hq := hid hq
        have Hr0 := hid hr0
        have Hl := hid hl
        have hlg : ∃ lr, lr = r.length := ⟨_, rfl⟩
        obtain ⟨lr, hlr⟩ := hlg
        have Hlr := hid hlr
        rw [← hlr] at hl ⊢
        have i0 : (0 : Int) < (lr : Int) := by omega
        have i1 : (1 : Int) < (lr : Int) := by omega
        have i0' : 0 < lr := by omega
        have i1' : 1 < lr := by omega
        have hbn : b ≤ n := by rw [Hn.out]; exact hb2
        have hbq : b ≤ q ∧ q ≤ n := by omega
        have nb : ¬ Blk az g := fun ⟨ad, ha, hb⟩ => own_types HOr.out.1 O1.out.1 (by decide) (k := g) rfl (by rw [ha, ← hb]; rfl)
        have KG := hid (fun w' (k : Kpt (Blk az) w1 w') => show w'.cell? ⟨g, 0, none⟩ = some (.int .i64 (b : Int)) ∧ w'.cell? ⟨g, 1, none⟩ = some (.int .i64 (q : Int)) ∧ I.Own w' w.heap.size (some ⟨g, 0, none⟩) c r ∧ Lts w' w.heap.size Q from
          ⟨k.cell k0 nb, k.cell k1 nb, (HOr.out.same fun ad ha hl => k.block _ hl (by cases ha; exact nb)).base_le HB.out.size, L1.out.beside O1.out k⟩)
        have HQ5 := hid (show Q.length ≤ 1001 from by omega)
        clear hgc hq hr0 hlr hr1 hl k0 k1 nb
        go_wp2_with ((at_builtin; go_loud (refine wpL_rapp Tryz.tyLt rfl (.tmp 19) (.tmp 21) rfl w.heap.size az (some ⟨w1.heap.size, 0, none⟩) Q.length 1 cz 1 Q [⟨some ⟨g, 0, none⟩, r, c⟩] rfl (by first | rfl | simp | omega) (O1.out.grow (by (repeat' (first | exact Below.refl _ _ | assumption | refine bdrewN ?_ _ | refine Below.drew ?_ | refine Below.setCell ?_ (Nat.le_refl _) _ | refine bal ?_ _ | refine bthen ?_ (by assumption))))) rfl (by first | rfl | simp | omega) (RSl.lit (E := encLt) w1 ⟨some ⟨g, 0, none⟩, r, c⟩ 28 w1.heap.size rfl #[.slice (some ⟨g, 0, none⟩) lr c] (by rw [Hlr.out]; rfl) (by decide)) (by have := HQ5.out; show _ ≤ 2199023255552; simp; omega) (by have := HB.out.size; have := B1.out.size; simp; omega) ?_); intro a2 c2 w2 L2 Hl2 ho2 hb2 hk2 hA2; have HA2 := hid hA2; clear hA2; have Ho2 := hid ho2; clear ho2; have Hk2 := hid hk2; clear hk2; have hz2 := hb2.size); have kg := KG.out w2 (Kpt.tr (by (repeat' (first | exact Kpt.refl _ _ | assumption | refine Kpt.drew ?_ | refine Kpt.alloc ?_ _))) Hk2.out); obtain ⟨g0, g1, gO, gL⟩ := kg)
        have B2 := hid (Below.trans (bal (bthen HB.out B1.out) _) hb2)
        have GO := hid gO
        have GL := hid gL
        have HLl := hid (show L2.length = Q.length + 1 from by rw [Hl2.out]; simp)
        clear gO gL KG O1 L1 HO HL hb2 hz2
        have fin : ∀ (w3 : World) (f' : Nat), Below w2.heap.size w2 w3 → f' = nextF r → f < f' → f' ≤ n + 1 → (∃ (f : Nat) (az : Option Addr) (cz : Nat) (Q : List Lt), n + 1 - f' = n + 1 - f ∧ (Value.slice a2 L2.length c2) = .slice az Q.length cz ∧ (Value.int .i64 (f' : Int)) = .int .i64 f ∧ f ≤ n + 1 ∧ Q.length ≤ f ∧
            Hid (QO w3 w.heap.size az cz Q) ∧ Hid (Lts w3 w.heap.size Q) ∧ Hid (∀ l, AllR x.mc (zz x) f l → AllR x.mc (zz x) 0 (Q.map Lt.l ++ l)) ∧ Hid (Below w.heap.size w w3)) := fun w3 f' hb he hlt hle => by
          refine ⟨f', a2, c2, L2, rfl, rfl, rfl, hle, by have := HLl.out; omega, hid (Ho2.out.grow hb), hid (fun q' hq' => ?_), hid fun l h => ?_, hid (B2.out.trans (hb.mono B2.out.size))⟩
          · rw [Hl2.out] at hq'
            rcases List.mem_append.1 hq' with hq' | hq'
            · exact (GL.out.bel hb) q' hq'
            · rw [List.mem_singleton.1 hq']; exact GO.out.grow hb
          · rw [Hl2.out, List.map_append, List.append_assoc]
            refine HA.out _ (.more HY.out ?_)
            rw [← he]; exact h
        have Fin := hid fin
        clear fin
        by_cases hbq0 : b = q
        · have c0 : ((b : Int) == (q : Int)) = true := by rw [beq_iff_eq]; omega
          have c1 : (b == q) = true := by simpa using hbq0
          have hnx : Hid (q + 1 = nextF r) := hid (by unfold nextF; rw [Hr0.out, Hq.out, if_pos (by omega)]; omega)
          have hlt : f < q + 1 := by omega
          have wz : IntKind.i64.wrap ((q : Int) + 1) = ((q + 1 : Nat) : Int) := by rw [IntKind.wrap_i64]; omega
          clear hbq0
          go_upto_region 8 with fail
          go_quiet (fail)
          go_wp2_with fail
          go_roundg (n + 1 - (q + 1))
          case measure => omega
          case rel =>
            obtain ⟨f0, az0, cz0, Q0, h1, h2, h3, h4⟩ := Fin.out (w2.drewN nq) (q + 1) (by (repeat' (first | exact Below.refl _ _ | assumption | refine bdrewN ?_ _ | refine Below.drew ?_ | refine Below.setCell ?_ (Nat.le_refl _) _ | refine bal ?_ _ | refine bthen ?_ (by assumption)))) hnx.out hlt (by omega)
            exact ⟨f0, az0, cz0, Q0, h1, h2, (by rw [← h3]; go_num), h4⟩
        · have c0 : ((b : Int) == (q : Int)) = false := by rw [beq_eq_false_iff_ne]; omega
          have c1 : (b == q) = false := by simpa using hbq0
          have hnx : Hid (q = nextF r) := hid (by unfold nextF; rw [Hr0.out, Hq.out, if_neg (by omega)]; omega)
          have hlt : f < q := by omega
          clear hbq0
          go_upto_region 8 with fail
          go_quiet (fail)
          go_wp2_with fail
          go_roundg (n + 1 - q)
          case measure => omega
          case rel => exact Fin.out (w2.drewN nq) q (by (repeat' (first | exact Below.refl _ _ | assumption | refine bdrewN ?_ _ | refine Below.drew ?_ | refine Below.setCell ?_ (Nat.le_refl _) _ | refine bal ?_ _ | refine bthen ?_ (by assumption)))) hnx.out hlt (by omega)
    · obtain rfl : f = n + 1 := by omega
      have FC := hid (find_far wr x.M x.ta x.tc n ((n + 1 : Nat) : Int) (.inr (by omega)) hn1)
      go_wp2_with fail
      refine FC.out.mono ?_
      rintro _ _ ⟨rfl, rfl⟩
      go_wp2_with fail
      go_ret
      refine ⟨az, cz, Q, rfl, HO.out.grow (by (repeat' (first | exact Below.refl _ _ | assumption | refine bdrewN ?_ _ | refine Below.drew ?_ | refine Below.setCell ?_ (Nat.le_refl _) _ | refine bal ?_ _ | refine bthen ?_ (by assumption)))), HL.out.bel (by (repeat' (first | exact Below.refl _ _ | assumption | refine bdrewN ?_ _ | refine Below.drew ?_ | refine Below.setCell ?_ (Nat.le_refl _) _ | refine bal ?_ _ | refine bthen ?_ (by assumption)))), ?_, bthen HB.out (by (repeat' (first | exact Below.refl _ _ | assumption | refine bdrewN ?_ _ | refine Below.drew ?_ | refine Below.setCell ?_ (Nat.le_refl _) _ | refine bal ?_ _ | refine bthen ?_ (by assumption)))), by omega⟩
      have := HA.out [] (.done (.out (by show x.t.length < _; rw [← Hn.out]; omega)))
      rw [List.append_nil] at this
      exact this
end Go.Proofs.YtefgjicegbhcaaaGreat
namespace Go.Proofs.YtefgjicegbhcaaaGreat
open Go.RowKit ReM

/-- a matcher beside a text: what a search is made for -/
theorem New1.fx {w0 w : World} {p : List Int} {fold : Bool} {M : Nat} {pa : Option Addr} {pc : Nat} {L : List Im} {G : Nat} (h : New1 w0 w p fold M pa pc L G) {w' : World} (b : Below w.heap.size w w') {ta : Option Addr} {tc : Nat} {t : List Int} (ht : Sl w' ta t) (hc : t.length ≤ tc) (hl : t.length ≤ 1000) :
    FxOk w' ⟨M, pa, pc, L, G, fold, ta, tc, t⟩ := ⟨h.mt.bel b, ht, hc, hl, h.Ll, h.G9⟩
theorem pk_G {w0 w : World} {fold : Bool} {M : Nat} {pa : Option Addr} {pc : Nat} {L : List Im} {G : Nat} (h : New1 w0 w [97, 43] fold M pa pc L G) : inss L = pK := by
  have := h.prog
  rw [comp_pk] at this
  simpa using this
theorem new_G {w0 w : World} {p : List Int} {fold : Bool} {M : Nat} {pa : Option Addr} {pc : Nat} {L : List Im} {G : Nat} (h : New1 w0 w p fold M pa pc L G) : 0 < (inss L).length := h.made.ok.pos
set_option maxRecDepth 20000 in
set_option maxHeartbeats 16000000 in
theorem known10_c (w : World) : Calls Tryz.prog 8 #[] w fun e' w' => e' = .returned (.bool true) ∧ Below w.heap.size w w' := by
  obtain ⟨V, hV⟩ : ∃ V, V = w.alloc (.cells #[.int .i32 97, .int .i32 43] 21) := ⟨_, rfl⟩
  have sV : Sl V (some ⟨w.heap.size, 0, none⟩) [97, 43] := by subst hV; exact (Sl.lit' _ [97, 43] _ _ (by simp) (by simp) (by simp [rng]) _ rfl)
  have bV : Below w.heap.size w V := by subst hV; (repeat' (first | exact Below.refl _ _ | assumption | refine bdrewN ?_ _ | refine Below.drew ?_ | refine bal ?_ _ | refine bthen ?_ (by assumption)))
  have zV : V.heap.size = w.heap.size + 1 := by subst hV; simp
  have C1 := hid (new_c (some ⟨w.heap.size, 0, none⟩) 2 [97, 43] false V sV (by simp))
  have BV := hid bV
  clear bV
  go_enter Tryz.func8, Tryz.ntmps8
  go_wp2_with fail
  rw [← hV]; clear hV sV
  refine C1.out.mono ?_
  rintro _ w1 ⟨b1, hor⟩
  have B1 := hid (BV.out.trans (b1.mono (by omega)))
  clear b1 C1
  rcases hor with ⟨e, f, h1, h2, -⟩ | ⟨M, pa, pc, L, G, hN, rfl⟩
  · rw [comp_pk] at h1
    simp only [Prod.mk.injEq] at h1
    exact absurd h1.2.1.symm h2
  have hG : G = 0 := by rw [hN.grp]; kernel_rfl
  subst hG
  have hP := pk_G hN
  have HN := hid hN
  have HP := hid hP
  have zN := hN.new
  clear hN hP zN
  obtain ⟨V2, hV2⟩ : ∃ V2, V2 = w1.alloc (.cells #[.int .i64 0, .int .i64 0] 47) := ⟨_, rfl⟩
  have F2 : FtC V2 w1.heap.size 0 0 := by rw [hV2]; exact FtC.new _ _ _ _ _ rfl
  have bV2 : Below w1.heap.size w1 V2 := by rw [hV2]; (repeat' (first | exact Below.refl _ _ | assumption | refine bdrewN ?_ _ | refine Below.drew ?_ | refine bal ?_ _ | refine bthen ?_ (by assumption)))
  have BB2 := hid bV2
  have B2 := hid (B1.out.trans (bV2.mono B1.out.size))
  have y0 := F2.c0
  clear bV2
  go_upto_region 2 with fail
  rw [← hV2]; clear hV2 B1
  obtain ⟨V3, hV3⟩ : ∃ V3, V3 = V2.alloc (.cells #[.int .i32 98, .int .i32 97, .int .i32 97] 21) := ⟨_, rfl⟩
  have sV3 : Sl V3 (some ⟨V2.heap.size, 0, none⟩) [98, 97, 97] := by subst hV3; exact (Sl.lit' _ [98, 97, 97] _ _ (by simp) (by simp) (by simp [rng]) _ rfl)
  have bV3 : Below V2.heap.size V2 V3 := by subst hV3; (repeat' (first | exact Below.refl _ _ | assumption | refine bdrewN ?_ _ | refine Below.drew ?_ | refine bal ?_ _ | refine bthen ?_ (by assumption)))
  have BB3 := hid (BB2.out.trans (bV3.mono BB2.out.size))
  have B3 := hid (B2.out.trans (bV3.mono B2.out.size))
  have C2 := hid (find_c V3 ⟨M, pa, pc, L, 0, false, some ⟨V2.heap.size, 0, none⟩, 3, [98, 97, 97]⟩ (HN.out.fx BB3.out sV3 (by simp) (by simp)) HN.out.made.ok 0 (by simp))
  clear bV3
  go_wp2_with fail
  rw [← hV3]; clear hV3 sV3 y0 B2
  refine C2.out.mono ?_
  rintro _ w4 ⟨b4, hor⟩
  have BB4 := hid (BB3.out.trans (b4.mono BB3.out.size))
  have B4 := hid (B3.out.trans (b4.mono B3.out.size))
  clear b4 C2
  rcases hor with ⟨hno, -⟩ | ⟨r, g, c, hyes, rfl, ho⟩
  · change FindR (mch (inss L) [98, 97, 97] false) [-1, -1] 0 none at hno
    rw [HP.out] at hno
    have := hno.one find_k1
    cases this
  obtain rfl : r = [1, 3] := by
    change FindR (mch (inss L) [98, 97, 97] false) [-1, -1] 0 (some r) at hyes
    rw [HP.out] at hyes
    have := hyes.one find_k1
    simpa using this
  have HO4 := hid ho
  clear hyes ho B3 BB3
  obtain ⟨V5, hV5⟩ : ∃ V5, V5 = w4.alloc (.cells #[.int .i32 97, .int .i32 98, .int .i32 97] 21) := ⟨_, rfl⟩
  have sV5 : Sl V5 (some ⟨w4.heap.size, 0, none⟩) [97, 98, 97] := by subst hV5; exact (Sl.lit' _ [97, 98, 97] _ _ (by simp) (by simp) (by simp [rng]) _ rfl)
  have bV5 : Below w4.heap.size w4 V5 := by subst hV5; (repeat' (first | exact Below.refl _ _ | assumption | refine bdrewN ?_ _ | refine Below.drew ?_ | refine bal ?_ _ | refine bthen ?_ (by assumption)))
  have BB5 := hid (BB4.out.trans (bV5.mono BB4.out.size))
  have B5 := hid (B4.out.trans (bV5.mono B4.out.size))
  have HO5 := hid (HO4.out.grow bV5)
  have C3 := hid (all_c10 V5 ⟨M, pa, pc, L, 0, false, some ⟨w4.heap.size, 0, none⟩, 3, [97, 98, 97]⟩ (HN.out.fx BB5.out sV5 (by simp) (by simp)) HN.out.made)
  clear bV5 HO4
  go_wp2_with fail
  rw [← hV5]; clear hV5 sV5 B4
  refine C3.out.mono ?_
  rintro _ w6 ⟨qa, qc, Q, rfl, hq, hl, hA, b6, -⟩
  have BB6 := hid (BB5.out.trans (b6.mono BB5.out.size))
  have B6 := hid (B5.out.trans (b6.mono B5.out.size))
  have HO6 := hid (HO5.out.grow b6)
  have HQ6 := hid hq
  have HL6 := hid hl
  have hQ : Q.map Lt.l = [[0, 1], [2, 3]] := by
    have := hA.out
    change AllR (mch (inss L) [97, 98, 97] false) [-1, -1] 0 (Q.map Lt.l) at this
    rw [HP.out] at this
    exact this.one all_k
  have HQ := hid hQ
  clear b6 C3 HO5 B5 BB5 hq hl hA hQ BB4
  obtain ⟨V7, hV7⟩ : ∃ V7, V7 = w6.alloc (.cells #[.int .i32 40] 21) := ⟨_, rfl⟩
  have sV7 : Sl V7 (some ⟨w6.heap.size, 0, none⟩) [40] := by subst hV7; exact (Sl.lit' _ [40] _ _ (by simp) (by simp) (by simp [rng]) _ rfl)
  have bV7 : Below w6.heap.size w6 V7 := by subst hV7; (repeat' (first | exact Below.refl _ _ | assumption | refine bdrewN ?_ _ | refine Below.drew ?_ | refine bal ?_ _ | refine bthen ?_ (by assumption)))
  have BB7 := hid (BB6.out.trans (bV7.mono BB6.out.size))
  have B7 := hid (B6.out.trans (bV7.mono B6.out.size))
  have HO7 := hid (HO6.out.grow bV7)
  have HQ7 := hid (HQ6.out.grow bV7)
  have HL7 := hid (HL6.out.bel bV7)
  have C4 := hid (new_c (some ⟨w6.heap.size, 0, none⟩) 1 [40] true V7 sV7 (by simp))
  clear bV7 HO6 HQ6 HL6
  go_wp2_with fail
  rw [← hV7]; clear hV7 sV7 B6 BB6
  refine C4.out.mono ?_
  rintro _ w8 ⟨b8, hor⟩
  have BB8 := hid (BB7.out.trans (b8.mono BB7.out.size))
  have B8 := hid (B7.out.trans (b8.mono B7.out.size))
  have HO8 := hid (HO7.out.grow b8)
  have HQ8 := hid (HQ7.out.grow b8)
  have HL8 := hid (HL7.out.bel b8)
  clear b8 C4 HO7 HQ7 HL7 B7 BB7
  rcases hor.symm with ⟨M2, pa2, pc2, L2, G2, hN2, -⟩ | ⟨e, f, h1, h2, rfl⟩
  · have h3 := hN2.prog
    rw [comp_par] at h3
    simp at h3
  rw [comp_par] at h1
  obtain ⟨rfl, rfl⟩ : e = 5 ∧ f = 1 := by simp only [Prod.mk.injEq, true_and] at h1; exact ⟨h1.1.symm, h1.2.symm⟩
  clear h1 h2
  obtain ⟨V9, hV9⟩ : ∃ V9, V9 = w8.alloc (.cells #[.int .i64 5, .int .i64 1] 47) := ⟨_, rfl⟩
  have F9 : FtC V9 w8.heap.size 5 1 := by rw [hV9]; exact FtC.new _ _ _ _ _ rfl
  have bV9 : Below w8.heap.size w8 V9 := by rw [hV9]; (repeat' (first | exact Below.refl _ _ | assumption | refine bdrewN ?_ _ | refine Below.drew ?_ | refine bal ?_ _ | refine bthen ?_ (by assumption)))
  have BB9 := hid (BB8.out.trans (bV9.mono BB8.out.size))
  have B9 := hid (B8.out.trans (bV9.mono B8.out.size))
  have HO9 := hid (HO8.out.grow bV9)
  have HQ9 := hid (HQ8.out.grow bV9)
  have HL9 := hid (HL8.out.bel bV9)
  have C5 := hid (find_nil V9 none 0 0 0)
  clear bV9 HO8 HQ8 HL8 B8 BB8
  go_upto_region 8 with fail
  rw [← hV9]; clear hV9
  go_wp2_with fail
  refine C5.out.mono ?_
  rintro _ _ ⟨rfl, rfl⟩
  clear C5
  obtain ⟨q0, q1, rfl⟩ : ∃ q0 q1, Q = [q0, q1] := by
    have h := congrArg List.length HQ.out
    match Q, h with
    | [q0, q1], _ => exact ⟨q0, q1, rfl⟩
  obtain ⟨a1, l1, c1⟩ := q1
  obtain rfl : l1 = [2, 3] := by have := HQ.out; simp at this; exact this.2
  have s1 := (HL9.out ⟨a1, [2, 3], c1⟩ (by simp)).sl
  obtain ⟨qb, qo, rfl, hqc⟩ := HQ9.out.sl.at (i := 1) (by simp)
  have k1 := rec_lt (hqc 1 (by simp))
  change World.cell? _ ⟨qb, qo + 1 * 1, none⟩ = some (.slice a1 2 c1) at k1
  rw [Nat.one_mul] at k1
  have f0 := F9.c0
  obtain ⟨V10, hV10⟩ : ∃ V10, V10 = V9.alloc (.cells #[.int .i64 1, .int .i64 3] 3) := ⟨_, rfl⟩
  have sV10 : I.Sl V10 (some ⟨V9.heap.size, 0, none⟩) [1, 3] := by subst hV10; exact (I.Sl.lit' _ [1, 3] _ _ (by simp) (by simp) (by simp [I.rng]) _ rfl)
  have bV10 : Below V9.heap.size V9 V10 := by subst hV10; (repeat' (first | exact Below.refl _ _ | assumption | refine bdrewN ?_ _ | refine Below.drew ?_ | refine bal ?_ _ | refine bthen ?_ (by assumption)))
  have C6 := hid (sameInts_c (some ⟨g, 0, none⟩) (some ⟨V9.heap.size, 0, none⟩) c 2 [1, 3] [1, 3] V10 (HO9.out.grow bV10).sl sV10)
  have B10 := hid bV10
  have S1 := hid s1
  clear hqc s1 HQ9 HL9 HO9
  go_wp2_with fail
  rw [← hV10]; clear hV10 sV10
  refine C6.out.mono ?_
  rintro _ _ ⟨rfl, n6, rfl⟩
  rw [eqM_self]
  have k1' : (V10.drewN n6).cell? ⟨qb, qo + 1, none⟩ = some (.slice a1 2 c1) := (bV10.cell (World.block_lt_of_cell? V9 _ k1)).trans k1
  have f0' : (V10.drewN n6).cell? ⟨w8.heap.size, 0, none⟩ = some (.int .i64 5) := (bV10.cell (World.block_lt_of_cell? V9 _ f0)).trans f0
  have B11 := hid (show Below V9.heap.size V9 (V10.drewN n6) from bdrewN B10.out n6)
  clear C6 k1 f0 F9 bV10
  generalize V10.drewN n6 = V11 at k1' f0' B11 ⊢
  obtain ⟨V12, hV12⟩ : ∃ V12, V12 = V11.alloc (.cells #[.int .i64 2, .int .i64 3] 3) := ⟨_, rfl⟩
  have sV12 : I.Sl V12 (some ⟨V11.heap.size, 0, none⟩) [2, 3] := by subst hV12; exact (I.Sl.lit' _ [2, 3] _ _ (by simp) (by simp) (by simp [I.rng]) _ rfl)
  have bV12 : Below V11.heap.size V11 V12 := by subst hV12; (repeat' (first | exact Below.refl _ _ | assumption | refine bdrewN ?_ _ | refine Below.drew ?_ | refine bal ?_ _ | refine bthen ?_ (by assumption)))
  have B12 := hid (B11.out.trans (bV12.mono B11.out.size))
  have C7 := hid (sameInts_c a1 (some ⟨V11.heap.size, 0, none⟩) c1 2 [2, 3] [2, 3] V12 (S1.out.bel B12.out) sV12)
  go_wp2_with fail
  rw [← hV12]; clear hV12 sV12
  refine C7.out.mono ?_
  rintro _ _ ⟨rfl, n7, rfl⟩
  rw [eqM_self]
  have f0'' : (V12.drewN n7).cell? ⟨w8.heap.size, 0, none⟩ = some (.int .i64 5) := (bV12.cell (World.block_lt_of_cell? V11 _ f0')).trans f0'
  have B13 := hid (show Below V9.heap.size V9 (V12.drewN n7) from bdrewN B12.out n7)
  have M13 := hid ((HN.out.mt.bel BB9.out).bel B13.out)
  clear C7 f0' k1' bV12 B12 B11 S1 B10
  generalize V12.drewN n7 = V13 at f0'' B13 M13 ⊢
  have C8 := hid (mgroups_c V13 M 0 M13.out.c1)
  have C9 := hid (mgroups_nil V13)
  have hB := hid (B9.out.trans (B13.out.mono B9.out.size))
  clear BB9 B9 B13 M13 HN HP HQ
  go_wp2_with fail
  refine C8.out.mono ?_
  rintro _ _ ⟨rfl, rfl⟩
  go_wp2_with fail
  refine C9.out.mono ?_
  rintro _ _ ⟨rfl, rfl⟩
  go_wp2_with fail
  go_ret
  exact ⟨rfl, hB.out⟩
end Go.Proofs.YtefgjicegbhcaaaGreat
