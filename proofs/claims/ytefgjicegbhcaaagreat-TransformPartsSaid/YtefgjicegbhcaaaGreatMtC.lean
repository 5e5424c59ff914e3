/- Layer 10 as plain facts: every program that is made can be run (PgOk); save 0 and save 1 stand in it once each; where a match lies. Layer 10 as plain facts: where a match lies, what it records; the matches one behind the other. Layer 10 as plain functions: the machine run (for closed patterns and texts). -/
import Derived.Test.YtefgjicegbhcaaaGreatMtA
import Derived.Test.YtefgjicegbhcaaaGreatPgY
namespace Go.Proofs.YtefgjicegbhcaaaGreat
open ReM
namespace ReM
def Qi (q : Ins) : Prop := 0 ≤ q.op ∧ q.op ≤ 5 ∧ (q.op = 3 → 2 ≤ q.x)
def Qs (b : List Ins) : Prop := ∀ q, q ∈ b → Qi q
theorem Qs.nil : Qs [] := fun q h => by cases h
theorem Qs.app {a b : List Ins} (h : Qs a) (k : Qs b) : Qs (a ++ b) := fun q hq => by
  rcases List.mem_append.1 hq with hq | hq
  · exact h q hq
  · exact k q hq
theorem Qs.cons {x : Ins} {b : List Ins} (h : Qi x) (k : Qs b) : Qs (x :: b) := fun q hq => by
  rcases List.mem_cons.1 hq with rfl | hq
  · exact h
  · exact k q hq
theorem Qs.one {x : Ins} (h : Qi x) : Qs [x] := Qs.nil.cons h
theorem Qs.sh {b : List Ins} (h : Qs b) (n : Nat) : Qs (shI n b) := fun q hq => by
  obtain ⟨p, hp, rfl⟩ := List.mem_map.1 hq
  have := h p hp
  obtain ⟨op, x, y, nt, st⟩ := p
  simp only [Qi, shI1] at this ⊢
  refine ⟨this.1, this.2.1, fun e => ?_⟩
  rw [if_neg (by omega)]
  exact this.2.2 e
theorem Qs.cat {bs : List (List Ins)} (h : ∀ b, b ∈ bs → Qs b) : Qs (catB bs) := by
  induction bs with
  | nil => exact Qs.nil
  | cons b bs ih => exact (h b (by simp)).app ((ih fun c hc => h c (List.mem_cons_of_mem _ hc)).sh _)
theorem Qs.alt (E : Nat) {bs : List (List Ins)} (h : ∀ b, b ∈ bs → Qs b) : ∀ n, Qs (altC E n bs) := by
  induction bs with
  | nil => intro n; exact Qs.nil
  | cons b bs ih =>
    intro n
    cases bs with
    | nil => exact (h b (by simp)).sh n
    | cons c bs =>
      refine Qs.cons (by simp [Qi, iSplit]) (((h b (by simp)).sh _).app (Qs.cons (by simp [Qi, iJump]) (ih (fun d hd => h d (List.mem_cons_of_mem _ hd)) _)))
theorem q_spl (z : Bool) (a b : Int) : Qi (spl z a b) := by cases z <;> simp [Qi, spl, iSplit]
theorem Qs.loop {b : List Ins} (h : Qs b) (z : Bool) : Qs (loopB b z) := Qs.cons (q_spl _ _ _) ((h.sh 1).app (Qs.one (by simp [Qi, iJump])))
theorem Qs.optc {b : List Ins} (h : Qs b) {sp : Nat → Ins} (hs : ∀ n, Qi (sp n)) (m : Nat) : ∀ n, Qs (optC sp b n m) := by
  induction m with
  | zero => intro n; exact Qs.nil
  | succ m ih => intro n; exact Qs.cons (hs n) ((h.sh _).app (ih _))
theorem Qs.group {b : List Ins} (h : Qs b) {no : Int} (h0 : 0 ≤ no) : Qs (groupB b no) := by
  unfold groupB
  split
  · exact h
  · refine Qs.cons ?_ ((h.sh 1).app (Qs.one ?_)) <;> simp [Qi, iSave] <;> omega
theorem blk_q (k : Nat) : ∀ t : List Rn, (∀ x, x ∈ t → x.kind = 5 → 0 ≤ x.lo) → Qs (blk k t) := by
  induction k with
  | zero => intro t _; exact Qs.nil
  | succ k ih =>
    intro t h
    cases t with
    | nil => exact Qs.nil
    | cons x cs =>
      have hcs := ih cs fun y hy => h y (List.mem_cons_of_mem _ hy)
      have hm : ∀ b, b ∈ (partsL cs).map (blk k) → Qs b := fun b hb => by
        obtain ⟨c, hc, rfl⟩ := List.mem_map.1 hb
        exact ih c fun y hy => h y (List.mem_cons_of_mem _ (((partsF_mem cs.length cs).2 c hc).2 y hy))
      unfold blk
      dsimp only
      split
      · exact Qs.cat hm
      split
      · exact Qs.alt _ hm 0
      split
      · exact Qs.one (by simp [Qi, iSet])
      split
      · exact Qs.one (by simp [Qi, iStart])
      split
      · exact Qs.one (by simp [Qi, iEnd])
      split
      · rename_i h5; exact hcs.group (h x (by simp) h5)
      split
      · refine Qs.cat fun b hb => ?_
        rcases List.mem_append.1 hb with hb | hb
        · rw [(List.mem_replicate.1 hb).2]; exact hcs
        · rw [List.mem_singleton.1 hb]
          split
          · exact hcs.loop _
          · exact Qs.optc hcs (fun n => q_spl _ _ _) _ 0
      · exact Qs.nil
/-- what stands in a program that is made -/
structure Made (P : List Ins) (G : Nat) : Prop where
  ok : PgOk P G
  first : igt P 0 = iSave 0
  last : ∀ i, i < P.length → (igt P i).op = 6 → i + 1 = P.length
  pre : igt P (P.length - 2) = iSave 1
  two : 3 ≤ P.length
  only : ∀ i, i < P.length → (igt P i).op = 3 → (igt P i).x = 0 → i = 0
  into : ∀ i, i < P.length → ((igt P i).op = 4 → 1 ≤ (igt P i).x ∧ 1 ≤ (igt P i).y ∧ (igt P i).x + 2 ≤ P.length ∧ (igt P i).y + 2 ≤ P.length) ∧ ((igt P i).op = 5 → 1 ≤ (igt P i).x ∧ (igt P i).x + 2 ≤ P.length)
theorem code_made {l : List Rn} {g : Nat} (hn : NodAt 0 l) (hL : Los l) (hg : gsL l = upto 0 g) : Made (codeW l) g := by
  have hlo := lo_le hg hL
  have hG : ∀ x, x ∈ l → x.kind = 5 → 0 ≤ x.lo ∧ x.lo ≤ (g : Int) := hlo
  have hb := blk_tg g l.length 0 l (Nat.le_refl _) hn hG
  have hq := (blk_q l.length l fun x hx h5 => (hlo x hx h5).1).sh 1
  obtain ⟨b, hbb⟩ : ∃ b, b = shI 1 (blk l.length l) := ⟨_, rfl⟩
  have hbl : b.length = (blk l.length l).length := by rw [hbb, shI_len]
  rw [← hbb] at hq
  have hcode : codeW l = iSave 0 :: (b ++ [iSave 1, iMatch]) := by rw [hbb]; rfl
  have hlen : (codeW l).length = b.length + 3 := by rw [hcode]; simp
  have ht : TgL g 1 (b.length + 1) 1 b := by
    have := hb.at 1 (lo := 1) (hi := b.length + 1) (Nat.le_refl _) (by omega)
    rwa [← hbb] at this
  have hmid : ∀ i, i < b.length → igt (codeW l) (i + 1) = igt b i := fun i hi => by
    rw [hcode]
    unfold igt
    rw [List.getD_eq_getElem?_getD, List.getElem?_cons_succ, List.getElem?_append_left hi, ← List.getD_eq_getElem?_getD]
  have h0 : igt (codeW l) 0 = iSave 0 := code_first l
  have h1 : igt (codeW l) (b.length + 1) = iSave 1 := by
    rw [hcode]; unfold igt
    rw [List.getD_eq_getElem?_getD, List.getElem?_cons_succ, List.getElem?_append_right (Nat.le_refl _), Nat.sub_self]; rfl
  have h2 : igt (codeW l) (b.length + 2) = iMatch := by
    rw [hcode]; unfold igt
    rw [List.getD_eq_getElem?_getD, List.getElem?_cons_succ, List.getElem?_append_right (by omega), Nat.add_sub_cancel_left]; rfl
  have hmem : ∀ i, i < b.length → igt b i ∈ b := fun i hi => by
    unfold igt; rw [List.getD_eq_getElem?_getD, List.getElem?_eq_getElem hi]; exact List.getElem_mem hi
  have hT : ∀ i, i < b.length → TgI g 1 (b.length + 1) (1 + i) (igt b i) := fun i hi => ht.get i hi
  have cases_ : ∀ i, i < (codeW l).length → i = 0 ∨ (∃ j, i = j + 1 ∧ j < b.length) ∨ i = b.length + 1 ∨ i = b.length + 2 := fun i hi => by
    rw [hlen] at hi
    rcases Nat.eq_zero_or_pos i with h | h
    · exact .inl h
    · by_cases h3 : i - 1 < b.length
      · exact .inr (.inl ⟨i - 1, by omega, h3⟩)
      · omega
  refine ⟨⟨by omega, fun i hi => ?_, fun i hi => ?_, fun i hi => ?_, fun i hi => ?_, fun i hi => ?_, fun i hi => ?_⟩, h0, fun i hi => ?_, ?_, by omega, fun i hi => ?_, fun i hi => ?_⟩
  · rcases cases_ i hi with rfl | ⟨j, rfl, hj⟩ | rfl | rfl
    · rw [h0]; simp [iSave]
    · rw [hmid j hj]; have := hq _ (hmem j hj); unfold Qi at this; omega
    · rw [h1]; simp [iSave]
    · rw [h2]; simp [iMatch]
  · rcases cases_ i hi with rfl | ⟨j, rfl, hj⟩ | rfl | rfl
    · intro _; omega
    · intro _; omega
    · intro _; omega
    · rw [h2]; intro h; simp [iMatch] at h
  · rcases cases_ i hi with rfl | ⟨j, rfl, hj⟩ | rfl | rfl
    · rw [h0]; intro h; simp [iSave] at h
    · rw [hmid j hj]; intro h; have := (hT j hj).1 h; omega
    · rw [h1]; intro h; simp [iSave] at h
    · rw [h2]; intro h; simp [iMatch] at h
  · rcases cases_ i hi with rfl | ⟨j, rfl, hj⟩ | rfl | rfl
    · rw [h0]; intro h; simp [iSave] at h
    · rw [hmid j hj]; intro h; have := (hT j hj).2.1 h; omega
    · rw [h1]; intro h; simp [iSave] at h
    · rw [h2]; intro h; simp [iMatch] at h
  · rcases cases_ i hi with rfl | ⟨j, rfl, hj⟩ | rfl | rfl
    · rw [h0]; intro _; simp [iSave]; omega
    · rw [hmid j hj]; intro h; exact (hT j hj).2.2.1 h
    · rw [h1]; intro _; simp [iSave]; omega
    · rw [h2]; intro h; simp [iMatch] at h
  · rcases cases_ i hi with rfl | ⟨j, rfl, hj⟩ | rfl | rfl
    · rw [h0]; intro h; simp [iSave] at h
    · rw [hmid j hj]; intro h; exact ((hT j hj).2.2.2 h).2
    · rw [h1]; intro h; simp [iSave] at h
    · rw [h2]; intro h; simp [iMatch] at h
  · rcases cases_ i hi with rfl | ⟨j, rfl, hj⟩ | rfl | rfl
    · rw [h0]; intro h; simp [iSave] at h
    · rw [hmid j hj]; intro h; have := (hq _ (hmem j hj)).2.1; omega
    · rw [h1]; intro h; simp [iSave] at h
    · intro _; omega
  · rw [hlen, show b.length + 3 - 2 = b.length + 1 by omega]; exact h1
  · rcases cases_ i hi with rfl | ⟨j, rfl, hj⟩ | rfl | rfl
    · intro _ _; rfl
    · rw [hmid j hj]; intro h h'; have := (hq _ (hmem j hj)).2.2 h; omega
    · rw [h1]; intro _ h; simp [iSave] at h
    · rw [h2]; intro h; simp [iMatch] at h
  · rcases cases_ i hi with rfl | ⟨j, rfl, hj⟩ | rfl | rfl
    · rw [h0]; exact ⟨fun h => by simp [iSave] at h, fun h => by simp [iSave] at h⟩
    · rw [hmid j hj]; exact ⟨fun h => by have := (hT j hj).1 h; omega, fun h => by have := (hT j hj).2.1 h; omega⟩
    · rw [h1]; exact ⟨fun h => by simp [iSave] at h, fun h => by simp [iSave] at h⟩
    · rw [h2]; exact ⟨fun h => by simp [iMatch] at h, fun h => by simp [iMatch] at h⟩
end ReM
end Go.Proofs.YtefgjicegbhcaaaGreat
namespace Go.Proofs.YtefgjicegbhcaaaGreat
open ReM
namespace ReM
/-- what holds of each path of a try that begins at b -/
structure On (P : List Ins) (G n b : Nat) (p : Pa) : Prop where
  i : p.i < P.length
  lo : b ≤ p.a
  hi : p.a ≤ n
  len : p.r.length = 2 * G + 2
  at0 : p.i = 0 → p.a = b
  fst : 0 < p.i → gt p.r 0 = b
  all : ∀ k, k < p.r.length → gt p.r k = -1 ∨ ((b : Int) ≤ gt p.r k ∧ gt p.r k ≤ p.a)
  snd : p.i + 1 = P.length → gt p.r 1 = p.a
theorem gt_set_self {l : List Int} {i : Nat} (h : i < l.length) (x : Int) : gt (l.set i x) i = x := by
  unfold gt; rw [List.getD_eq_getElem?_getD, List.getElem?_set_self h]; rfl
theorem gt_set_ne {l : List Int} {i k : Nat} (h : i ≠ k) (x : Int) : gt (l.set i x) k = gt l k := by
  unfold gt; rw [List.getD_eq_getElem?_getD, List.getElem?_set_ne h, ← List.getD_eq_getElem?_getD]
theorem On.succ {P : List Ins} {G b : Nat} {s : List Int} {fold : Bool} (M : Made P G) {p : Pa} (h : On P G s.length b p) {q : Pa} (hq : q ∈ succs (mch P s fold) p) : On P G s.length b q := by
  obtain ⟨i, a, r⟩ := p
  obtain ⟨h1, h2, h3, h4, h5, h6, h7, h8⟩ := h
  dsimp only at h1 h2 h3 h4 h5 h6 h7 h8
  have h2l := M.two
  have hne0 : (igt P i).op ≠ 3 → 0 < i := fun hn => by
    rcases Nat.eq_zero_or_pos i with rfl | h
    · rw [M.first] at hn; simp [iSave] at hn
    · exact h
  have hpre : (igt P i).op ≠ 3 → i + 2 ≠ P.length := fun hn e => by
    have : i = P.length - 2 := by omega
    rw [this, M.pre] at hn; simp [iSave] at hn
  have hnx : (igt P i).op ≠ 6 → i + 1 < P.length := M.ok.next i h1
  unfold succs at hq
  change q ∈ (if (igt P i).op = 0 then (if (mch P s fold).ok i a then [(⟨i + 1, a + 1, r⟩ : Pa)] else [])
    else if (igt P i).op = 1 then (if a = 0 then [⟨i + 1, a, r⟩] else [])
    else if (igt P i).op = 2 then (if a = s.length then [⟨i + 1, a, r⟩] else [])
    else if (igt P i).op = 3 then [⟨i + 1, a, r.set (igt P i).x.toNat (a : Int)⟩]
    else if (igt P i).op = 4 then [⟨(igt P i).x.toNat, a, r⟩, ⟨(igt P i).y.toNat, a, r⟩]
    else if (igt P i).op = 5 then [⟨(igt P i).x.toNat, a, r⟩]
    else []) at hq
  have plain : ∀ a', (igt P i).op ≠ 3 → (igt P i).op ≠ 6 → a ≤ a' → a' ≤ s.length → On P G s.length b ⟨i + 1, a', r⟩ := fun a' k3 k6 ha hl =>
    ⟨hnx k6, by show b ≤ a'; omega, hl, h4, (fun e => by cases e), fun _ => h6 (hne0 k3), (fun k hk => by
      rcases h7 k hk with e | ⟨e1, e2⟩
      · exact .inl e
      · exact .inr ⟨e1, by show gt r k ≤ (a' : Int); omega⟩), fun e => absurd e (by have := hpre k3; show ¬ (i + 1 + 1 = _); omega)⟩
  have jump : ∀ x : Int, (igt P i).op ≠ 3 → 1 ≤ x → x + 2 ≤ P.length → On P G s.length b ⟨x.toNat, a, r⟩ := fun x k3 hx hl =>
    ⟨by show x.toNat < _; omega, h2, h3, h4, (fun e => by exfalso; change x.toNat = 0 at e; omega), fun _ => h6 (hne0 k3), h7, fun e => by exfalso; change x.toNat + 1 = _ at e; omega⟩
  split at hq
  · rename_i h0
    split at hq
    · rename_i hok
      rw [List.mem_singleton.1 hq]
      have : a < s.length := by
        change (decide (a < s.length) && _) = true at hok
        rw [Bool.and_eq_true] at hok
        exact of_decide_eq_true hok.1
      exact plain (a + 1) (by omega) (by omega) (by omega) (by omega)
    · cases hq
  split at hq
  · split at hq
    · rw [List.mem_singleton.1 hq]; exact plain a (by omega) (by omega) (Nat.le_refl _) h3
    · cases hq
  split at hq
  · split at hq
    · rw [List.mem_singleton.1 hq]; exact plain a (by omega) (by omega) (Nat.le_refl _) h3
    · cases hq
  split at hq
  · rename_i h0
    rw [List.mem_singleton.1 hq]
    have hs := M.ok.save i h1 h0
    obtain ⟨x, hx⟩ : ∃ x : Nat, (igt P i).x = x := ⟨(igt P i).x.toNat, by omega⟩
    rw [hx, Int.toNat_natCast]
    rw [hx] at hs
    have hxl : x < r.length := by omega
    refine ⟨hnx (by omega), h2, h3, by rw [List.length_set]; exact h4, (fun e => by cases e), fun _ => ?_, fun k hk => ?_, fun e => ?_⟩
    · show gt (r.set x a) 0 = b
      rcases Nat.eq_zero_or_pos i with rfl | hi
      · have : x = 0 := by rw [M.first] at hx; simp [iSave] at hx; omega
        subst this
        rw [gt_set_self hxl, h5 rfl]
      · have : x ≠ 0 := fun e => by have := M.only i h1 h0 (by rw [hx, e]; rfl); omega
        rw [gt_set_ne this]; exact h6 hi
    · show gt (r.set x a) k = -1 ∨ _
      by_cases hk2 : x = k
      · subst hk2
        rw [gt_set_self hxl]
        exact .inr ⟨by omega, Int.le_refl _⟩
      · rw [gt_set_ne hk2]
        exact h7 k (by rw [List.length_set] at hk; exact hk)
    · show gt (r.set x a) 1 = a
      change i + 1 + 1 = P.length at e
      have hi : i = P.length - 2 := by omega
      have : x = 1 := by rw [hi, M.pre] at hx; simp [iSave] at hx; omega
      subst this
      exact gt_set_self hxl _
  split at hq
  · rename_i h0
    have hs := (M.into i h1).1 h0
    rcases List.mem_cons.1 hq with rfl | hq
    · exact jump _ (by omega) hs.1 hs.2.2.1
    · rw [List.mem_singleton.1 hq]; exact jump _ (by omega) hs.2.1 hs.2.2.2
  split at hq
  · rename_i h0
    have hs := (M.into i h1).2 h0
    rw [List.mem_singleton.1 hq]; exact jump _ (by omega) hs.1 hs.2
  · cases hq
theorem Run.on_all {P : List Ins} {G b : Nat} {s : List Int} {fold : Bool} (M : Made P G) {S S' : List Pa} {v v' : Vis} (h : Run (mch P s fold) S v S' v') : (∀ p, p ∈ S → On P G s.length b p) → ∀ p, p ∈ S' → On P G s.length b p := by
  induction h with
  | refl => exact fun h => h
  | old _ _ ih => exact fun k => ih fun p hp => k p (List.mem_cons_of_mem _ hp)
  | new _ _ _ ih =>
    intro k
    refine ih fun p hp => ?_
    rcases List.mem_append.1 hp with hp | hp
    · exact (k _ (by simp)).succ M hp
    · exact k p (List.mem_cons_of_mem _ hp)
/-- what a match records -/
structure Hit1 (G n b : Nat) (r : List Int) : Prop where
  len : r.length = 2 * G + 2
  fst : gt r 0 = b
  snd : (b : Int) ≤ gt r 1 ∧ gt r 1 ≤ n
  all : ∀ k, k < r.length → gt r k = -1 ∨ ((b : Int) ≤ gt r k ∧ gt r k ≤ gt r 1)
theorem Hits.one1 {P : List Ins} {G b : Nat} {s : List Int} {fold : Bool} (M : Made P G) (hb : b ≤ s.length) {v : Vis} {r : List Int} (h : Hits (mch P s fold) (List.replicate (2 * G + 2) (-1)) b v r) : Hit1 G s.length b r := by
  obtain ⟨p, S, v', h1, -, h3, rfl⟩ := h
  have h0 : On P G s.length b ⟨0, b, List.replicate (2 * G + 2) (-1)⟩ := by
    refine ⟨M.ok.pos, Nat.le_refl _, hb, by simp, fun _ => rfl, (fun h => by cases h), fun k hk => .inl ?_, fun e => ?_⟩
    · have hk' : k < 2 * G + 2 := by simpa using hk
      unfold gt; rw [List.getD_eq_getElem?_getD, List.getElem?_replicate, if_pos hk']; rfl
    · have := M.two; change 0 + 1 = _ at e; omega
  have hp := Run.on_all M h1 (fun q hq => by rw [List.mem_singleton.1 hq]; exact h0) p (by simp)
  have hl := M.last p.i hp.i h3
  have h2 := M.two
  have e1 := hp.snd hl
  refine ⟨hp.len, hp.fst (by omega), ?_, fun k hk => ?_⟩
  · rw [e1]; have := hp.lo; have := hp.hi; omega
  · rw [e1]; exact hp.all k hk
/-- the least place -/
theorem FindR.at {P : List Ins} {G : Nat} {s : List Int} {fold : Bool} (M : Made P G) {from_ : Nat} {r : List Int} (h : FindR (mch P s fold) (List.replicate (2 * G + 2) (-1)) from_ (some r)) : ∃ b u, from_ ≤ b ∧ b ≤ s.length ∧ Hit1 G s.length b r ∧ Shut (mch P s fold) u ∧ Hits (mch P s fold) (List.replicate (2 * G + 2) (-1)) b u r := by
  obtain ⟨b, u, h1, h2, h3, h4, -⟩ := Finds.hits h (shut_none _) r rfl
  exact ⟨b, u, h1, h2, Hits.one1 M h2 h4, h3, h4⟩
/-- from each place up to the match, the same -/
theorem FindR.same {P : List Ins} {G : Nat} {s : List Int} {fold : Bool} (M : Made P G) {from_ k : Nat} {r : List Int} {o : Option (List Int)} (h : FindR (mch P s fold) (List.replicate (2 * G + 2) (-1)) from_ (some r)) (h1 : from_ ≤ k) (h2 : (k : Int) ≤ gt r 0)
    (g : FindR (mch P s fold) (List.replicate (2 * G + 2) (-1)) k o) : o = some r := by
  obtain ⟨b, u, h3, h4, h5, h6, h7⟩ := h.at M
  have hb := h5.fst
  obtain ⟨b', u', k3, k4, k5, k6, k7⟩ := Finds.hits h (shut_none _) r rfl
  have hbb : b' = b := by
    have := (Hits.one1 M k4 k6).fst
    omega
  subst hbb
  exact Finds.from g (shut_none _) (by omega) k4 k5 k6 fun j j1 j2 => k7 j (by omega) j2
/-- the matches one behind the other -/
def nextF (r : List Int) : Nat := if gt r 0 = gt r 1 then (gt r 1).toNat + 1 else (gt r 1).toNat
inductive AllR (m : Mc) (z : List Int) : Nat → List (List Int) → Prop
  | done {a : Nat} : FindR m z a none → AllR m z a []
  | more {a : Nat} {r : List Int} {l : List (List Int)} : FindR m z a (some r) → AllR m z (nextF r) l → AllR m z a (r :: l)
end ReM
end Go.Proofs.YtefgjicegbhcaaaGreat
namespace Go.Proofs.YtefgjicegbhcaaaGreat
open ReM
namespace ReM
def exec (m : Mc) : Nat → List Pa → Vis → Option (Option (List Int) × Vis)
  | 0, _, _ => none
  | _ + 1, [], v => some (none, v)
  | k + 1, p :: S, v => if v p.i p.a = true then exec m k S v else if (igt m.P p.i).op = 6 then some (some p.r, v) else exec m k (succs m p ++ S) (mark v p.i p.a)
theorem exec_none {m : Mc} : ∀ (k : Nat) (S : List Pa) (v v' : Vis), exec m k S v = some (none, v') → Run m S v [] v' := by
  intro k
  induction k with
  | zero => intro S v v' h; cases h
  | succ k ih =>
    intro S v v' h
    cases S with
    | nil => simp only [exec, Option.some.injEq, Prod.mk.injEq, true_and] at h; subst h; exact .refl _ _
    | cons p S =>
      unfold exec at h
      split at h
      · rename_i hv; exact .old hv (ih _ _ _ h)
      · rename_i hv
        split at h
        · cases h
        · rename_i h6; exact .new (by simpa using hv) h6 (ih _ _ _ h)
theorem exec_some {m : Mc} : ∀ (k : Nat) (S : List Pa) (v v' : Vis) (r : List Int), exec m k S v = some (some r, v') → ∃ p T v2, Run m S v (p :: T) v2 ∧ v2 p.i p.a = false ∧ (igt m.P p.i).op = 6 ∧ p.r = r := by
  intro k
  induction k with
  | zero => intro S v v' r h; cases h
  | succ k ih =>
    intro S v v' r h
    cases S with
    | nil => simp [exec] at h
    | cons p S =>
      unfold exec at h
      split at h
      · rename_i hv
        obtain ⟨q, T, v2, h1, h2⟩ := ih _ _ _ _ h
        exact ⟨q, T, v2, .old hv h1, h2⟩
      · rename_i hv
        split at h
        · rename_i h6
          simp only [Option.some.injEq, Prod.mk.injEq] at h
          exact ⟨p, S, v, .refl _ _, by simpa using hv, h6, h.1⟩
        · rename_i h6
          obtain ⟨q, T, v2, h1, h2⟩ := ih _ _ _ _ h
          exact ⟨q, T, v2, .new (by simpa using hv) h6 h1, h2⟩
def findX (m : Mc) (z : List Int) : Nat → Nat → Vis → Option (Option (List Int))
  | 0, _, _ => none
  | k + 1, a, v => if m.n < a then some none else match exec m 1000 [⟨0, a, z⟩] v with
    | none => none
    | some (some r, _) => some (some r)
    | some (none, v') => findX m z k (a + 1) v'
theorem findX_finds {m : Mc} {z : List Int} : ∀ (k a : Nat) (v : Vis) (o : Option (List Int)), findX m z k a v = some o → Finds m z a v o := by
  intro k
  induction k with
  | zero => intro a v o h; cases h
  | succ k ih =>
    intro a v o h
    unfold findX at h
    split at h
    · rename_i hlt
      simp only [Option.some.injEq] at h
      subst h
      exact .out hlt
    · rename_i hlt
      split at h
      · cases h
      · rename_i r v' he
        simp only [Option.some.injEq] at h
        subst h
        exact .hit (by omega) (exec_some _ _ _ _ _ he)
      · rename_i v' he
        exact .miss (by omega) (exec_none _ _ _ _ he) (ih _ _ _ h)
theorem AllR.one {m : Mc} {z : List Int} {a : Nat} {l1 : List (List Int)} (h : AllR m z a l1) : ∀ {l2}, AllR m z a l2 → l1 = l2 := by
  induction h with
  | done h =>
    intro l2 k
    cases k with
    | done => rfl
    | more k _ => have := FindR.one h k; cases this
  | more h _ ih =>
    intro l2 k
    cases k with
    | done k => have := FindR.one h k; cases this
    | more k k2 =>
      have := FindR.one h k
      cases this
      rw [ih k2]
def pK : List Ins := (compW [97, 43]).1
theorem comp_pk : compW [97, 43] = (pK, 0, 0) := by kernel_rfl
theorem comp_par : compW [40] = ([], 5, 1) := by kernel_rfl
theorem find_k1 : FindR (mch pK [98, 97, 97] false) [-1, -1] 0 (some [1, 3]) := findX_finds 10 0 none_ _ (by kernel_rfl)
theorem find_k2 : FindR (mch pK [97, 98, 97] false) [-1, -1] 0 (some [0, 1]) := findX_finds 10 0 none_ _ (by kernel_rfl)
theorem find_k3 : FindR (mch pK [97, 98, 97] false) [-1, -1] 1 (some [2, 3]) := findX_finds 10 1 none_ _ (by kernel_rfl)
theorem find_k4 : FindR (mch pK [97, 98, 97] false) [-1, -1] 3 none := findX_finds 10 3 none_ _ (by kernel_rfl)
theorem all_k : AllR (mch pK [97, 98, 97] false) [-1, -1] 0 [[0, 1], [2, 3]] := .more find_k2 (.more find_k3 (.done find_k4))
end ReM
end Go.Proofs.YtefgjicegbhcaaaGreat
