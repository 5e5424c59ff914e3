/- Treaps as trees: split, merge, a mark put in by a split: what they leave is by order and a heap. -/
import Derived.Test.YtaondjklclpdkaaTrpN
namespace Go.Proofs.Ytaondjklclpdkaa
open Go.RowKit

/-! ## split, merge: what they leave -/
theorem putM_at {A B : List Mk} {m : Mk} (hA : ∀ x, x ∈ A → ahd x m) (hB : ∀ x, x ∈ B → ¬ ahd x m) : putM (A ++ B) m = A ++ m :: B := by
  induction A with
  | nil =>
    cases B with
    | nil => rfl
    | cons y B => rw [List.nil_append, putM_cons_neg (hB y (by simp)), List.nil_append]
  | cons x A ih =>
    rw [List.cons_append, putM_cons_pos (hA x (by simp)), ih fun y hy => hA y (by simp [hy]), List.cons_append]
def spl (m : Mk) : Tr → Tr × Tr
  | .nil => (.nil, .nil)
  | .node l x r => if ahd x m then (.node l x (spl m r).1, (spl m r).2) else ((spl m l).1, .node (spl m l).2 x r)
theorem spl_ord (m : Mk) (t : Tr) : (spl m t).1.ord ++ (spl m t).2.ord = t.ord := by
  induction t with
  | nil => rfl
  | node l x r ihl ihr =>
    simp only [spl]
    split
    · simp only [Tr.ord, List.append_assoc, List.cons_append]; rw [ihr]
    · simp only [Tr.ord, ← List.append_assoc]; rw [ihl]
theorem spl_sub (m : Mk) (t : Tr) : (∀ x, x ∈ (spl m t).1.ord → x ∈ t.ord) ∧ (∀ x, x ∈ (spl m t).2.ord → x ∈ t.ord) := by
  rw [← spl_ord m t]
  exact ⟨fun x hx => by simp [hx], fun x hx => by simp [hx]⟩
theorem spl_side {m : Mk} {t : Tr} (ho : Ord t.ord) : (∀ x, x ∈ (spl m t).1.ord → ahd x m) ∧ (∀ x, x ∈ (spl m t).2.ord → ¬ ahd x m) := by
  induction t with
  | nil => simp [spl, Tr.ord]
  | node l x r ihl ihr =>
    unfold Ord at ho
    simp only [Tr.ord] at ho
    rw [List.pairwise_append, List.pairwise_cons] at ho
    obtain ⟨hl, ⟨hx, hr⟩, hlr⟩ := ho
    simp only [spl]
    split
    · rename_i h
      refine ⟨fun y hy => ?_, (ihr hr).2⟩
      simp only [Tr.ord, List.mem_append, List.mem_cons] at hy
      rcases hy with hy | rfl | hy
      · exact ahd_trans (hlr y hy x (by simp)) h
      · exact h
      · exact (ihr hr).1 y hy
    · rename_i h
      refine ⟨(ihl hl).1, fun y hy => ?_⟩
      simp only [Tr.ord, List.mem_append, List.mem_cons] at hy
      rcases hy with hy | rfl | hy
      · exact (ihl hl).2 y hy
      · exact h
      · exact fun k => h (ahd_trans (hx y hy) k)
theorem spl_heap {m : Mk} {t : Tr} (h : t.heap) : (spl m t).1.heap ∧ (spl m t).2.heap := by
  induction t with
  | nil => exact ⟨trivial, trivial⟩
  | node l x r ihl ihr =>
    obtain ⟨h1, h2, hl, hr⟩ := h
    simp only [spl]
    split
    · exact ⟨⟨h1, fun y hy => h2 y ((spl_sub m r).1 y hy), hl, (ihr hr).1⟩, (ihr hr).2⟩
    · exact ⟨(ihl hl).1, ⟨fun y hy => h1 y ((spl_sub m l).2 y hy), h2, (ihl hl).2, hr⟩⟩
def Tr.size : Tr → Nat
  | .nil => 0
  | .node l _ r => l.size + 1 + r.size
theorem Tr.size_ord (t : Tr) : t.ord.length = t.size := by
  induction t with
  | nil => rfl
  | node l x r ihl ihr => simp [Tr.ord, Tr.size, ihl, ihr]; omega
def mrg : Tr → Tr → Tr
  | .nil, b => b
  | a, .nil => a
  | .node l x r, .node l' y r' => if ovr x y then .node l x (mrg r (.node l' y r')) else .node (mrg (.node l x r) l') y r'
termination_by a b => a.size + b.size
decreasing_by all_goals simp only [Tr.size]; omega
theorem mrg_nil (b : Tr) : mrg .nil b = b := by unfold mrg; rfl
theorem mrg_nil' (a : Tr) : mrg a .nil = a := by cases a <;> (unfold mrg; rfl)
theorem mrg_pos {l r l' r' : Tr} {x y : Mk} (h : ovr x y) : mrg (.node l x r) (.node l' y r') = .node l x (mrg r (.node l' y r')) := by rw [mrg]; rw [if_pos h]
theorem mrg_neg {l r l' r' : Tr} {x y : Mk} (h : ¬ ovr x y) : mrg (.node l x r) (.node l' y r') = .node (mrg (.node l x r) l') y r' := by rw [mrg]; rw [if_neg h]
theorem mrg_ord (a b : Tr) : (mrg a b).ord = a.ord ++ b.ord := by
  induction a generalizing b with
  | nil => rw [mrg_nil]; rfl
  | node l x r ihl ihr =>
    induction b with
    | nil => rw [mrg_nil']; simp [Tr.ord]
    | node l' y r' ihl' ihr' =>
      by_cases h : ovr x y
      · rw [mrg_pos h, Tr.ord, ihr]; simp [Tr.ord]
      · rw [mrg_neg h, Tr.ord, ihl']; simp [Tr.ord]
theorem mrg_heap {a b : Tr} (ha : a.heap) (hb : b.heap) (hd : ∀ x, x ∈ a.ord → ∀ y, y ∈ b.ord → x.id ≠ y.id) : (mrg a b).heap := by
  induction a generalizing b with
  | nil => rw [mrg_nil]; exact hb
  | node l x r ihl ihr =>
    induction b with
    | nil => rw [mrg_nil']; exact ha
    | node l' y r' ihl' ihr' =>
      obtain ⟨a1, a2, a3, a4⟩ := ha
      obtain ⟨b1, b2, b3, b4⟩ := hb
      by_cases h : ovr x y
      · rw [mrg_pos h]
        refine ⟨a1, fun z hz => ?_, a3, ihr a4 ⟨b1, b2, b3, b4⟩ fun u hu v hv => hd u (by simp [Tr.ord, hu]) v hv⟩
        rw [mrg_ord] at hz
        simp only [Tr.ord, List.mem_append, List.mem_cons] at hz
        rcases hz with hz | hz | rfl | hz
        · exact a2 z hz
        · exact ovr_trans h (b1 z hz)
        · exact h
        · exact ovr_trans h (b2 z hz)
      · have hyx : ovr y x := (ovr_total (hd x (by simp [Tr.ord]) y (by simp [Tr.ord]))).resolve_left h
        rw [mrg_neg h]
        refine ⟨fun z hz => ?_, b2, ihl' b3 (fun u hu v hv => hd u hu v (by simp [Tr.ord, hv])), b4⟩
        rw [mrg_ord] at hz
        simp only [Tr.ord, List.mem_append, List.mem_cons] at hz
        rcases hz with (hz | rfl | hz) | hz
        · exact ovr_trans hyx (a1 z hz)
        · exact hyx
        · exact ovr_trans hyx (a2 z hz)
        · exact b1 z hz
/-! ## a mark put in: down to where it lies above, the rest split -/
def insS (m : Mk) : Tr → Tr
  | .nil => .node .nil m .nil
  | .node l x r => if ovr m x then .node (spl m (.node l x r)).1 m (spl m (.node l x r)).2 else if ahd m x then .node (insS m l) x r else .node l x (insS m r)
theorem insS_mem {m : Mk} {t : Tr} {y : Mk} : y ∈ (insS m t).ord ↔ y = m ∨ y ∈ t.ord := by
  induction t with
  | nil => simp [insS, Tr.ord]
  | node l x r ihl ihr =>
    simp only [insS]
    split
    · have h := spl_ord m (.node l x r)
      rw [← h]
      simp only [Tr.ord, List.mem_append, List.mem_cons]
      constructor
      · rintro (h | h | h)
        · exact .inr (.inl h)
        · exact .inl h
        · exact .inr (.inr h)
      · rintro (h | h | h)
        · exact .inr (.inl h)
        · exact .inl h
        · exact .inr (.inr h)
    · split
      · simp only [Tr.ord, List.mem_append, List.mem_cons, ihl]
        constructor
        · rintro ((h | h) | h)
          · exact .inl h
          · exact .inr (.inl h)
          · exact .inr (.inr h)
        · rintro (h | h | h)
          · exact .inl (.inl h)
          · exact .inl (.inr h)
          · exact .inr h
      · simp only [Tr.ord, List.mem_append, List.mem_cons, ihr]
        constructor
        · rintro (h | h | h | h)
          · exact .inr (.inl h)
          · exact .inr (.inr (.inl h))
          · exact .inl h
          · exact .inr (.inr (.inr h))
        · rintro (h | h | h | h)
          · exact .inr (.inr (.inl h))
          · exact .inl h
          · exact .inr (.inl h)
          · exact .inr (.inr (.inr h))
theorem insS_heap {m : Mk} {t : Tr} (h : t.heap) (hn : ∀ x, x ∈ t.ord → x.id ≠ m.id) : (insS m t).heap := by
  induction t with
  | nil => exact ⟨by simp [Tr.ord], by simp [Tr.ord], trivial, trivial⟩
  | node l x r ihl ihr =>
    have hh := h
    obtain ⟨h1, h2, hl, hr⟩ := h
    simp only [insS]
    split
    · rename_i hm
      have hall : ∀ y, y ∈ (Tr.node l x r).ord → ovr m y := by
        intro y hy
        simp only [Tr.ord, List.mem_append, List.mem_cons] at hy
        rcases hy with hy | rfl | hy
        · exact ovr_trans hm (h1 y hy)
        · exact hm
        · exact ovr_trans hm (h2 y hy)
      exact ⟨fun y hy => hall y ((spl_sub m _).1 y hy), fun y hy => hall y ((spl_sub m _).2 y hy), (spl_heap hh).1, (spl_heap hh).2⟩
    · rename_i hm
      have hxm : ovr x m := (ovr_total (hn x (by simp [Tr.ord]))).resolve_right hm
      split
      · refine ⟨fun y hy => ?_, h2, ihl hl fun y hy => hn y (by simp [Tr.ord, hy]), hr⟩
        rcases insS_mem.1 hy with rfl | hy
        · exact hxm
        · exact h1 y hy
      · refine ⟨h1, fun y hy => ?_, hl, ihr hr fun y hy => hn y (by simp [Tr.ord, hy])⟩
        rcases insS_mem.1 hy with rfl | hy
        · exact hxm
        · exact h2 y hy
theorem insS_ord {m : Mk} {t : Tr} (ho : Ord t.ord) (hn : ∀ x, x ∈ t.ord → x.id ≠ m.id) : (insS m t).ord = putM t.ord m := by
  induction t with
  | nil => rfl
  | node l x r ihl ihr =>
    have ho' := ho
    unfold Ord at ho
    simp only [Tr.ord] at ho
    rw [List.pairwise_append, List.pairwise_cons] at ho
    obtain ⟨hl, ⟨hx, hr⟩, hlr⟩ := ho
    simp only [insS]
    split
    · have h1 := spl_side (m := m) ho'
      have h2 := spl_ord m (.node l x r)
      rw [← h2, putM_at h1.1 h1.2]; rfl
    · split
      · rename_i h
        rw [Tr.ord, ihl hl fun y hy => hn y (by simp [Tr.ord, hy])]
        have e : ∀ (B : List Mk), putM (B ++ x :: r.ord) m = putM B m ++ x :: r.ord := by
          intro B
          induction B with
          | nil => rw [List.nil_append, putM_cons_neg (ahd_asymm h)]; rfl
          | cons z B ih =>
            by_cases hz : ahd z m
            · rw [List.cons_append, putM_cons_pos hz, putM_cons_pos hz, ih]; rfl
            · rw [List.cons_append, putM_cons_neg hz, putM_cons_neg hz]; rfl
        rw [Tr.ord, e]
      · rename_i h
        have hxm : ahd x m := (ahd_total (hn x (by simp [Tr.ord]))).resolve_right h
        rw [Tr.ord, ihr hr fun y hy => hn y (by simp [Tr.ord, hy])]
        have e : ∀ (A : List Mk), (∀ z, z ∈ A → ahd z m) → putM (A ++ x :: r.ord) m = A ++ x :: putM r.ord m := by
          intro A hA
          induction A with
          | nil => rw [List.nil_append, putM_cons_pos hxm]; rfl
          | cons z A ih => rw [List.cons_append, putM_cons_pos (hA z (by simp)), ih fun y hy => hA y (by simp [hy])]; rfl
        rw [Tr.ord, e l.ord fun z hz => ahd_trans (hlr z hz x (by simp)) hxm]
/-! ## a mark taken out: its two trees merged -/
def delS (m : Mk) : Tr → Tr
  | .nil => .nil
  | .node l x r => if x.id = m.id then mrg l r else if ahd m x then .node (delS m l) x r else .node l x (delS m r)
theorem delS_sub {m : Mk} {t : Tr} {y : Mk} (h : y ∈ (delS m t).ord) : y ∈ t.ord := by
  induction t with
  | nil => exact h
  | node l x r ihl ihr =>
    simp only [delS] at h
    split at h
    · rw [mrg_ord] at h
      simp only [Tr.ord, List.mem_append, List.mem_cons]
      rcases List.mem_append.1 h with h | h
      · exact .inl h
      · exact .inr (.inr h)
    · split at h
      · simp only [Tr.ord, List.mem_append, List.mem_cons] at h ⊢
        rcases h with h | h
        · exact .inl (ihl h)
        · exact .inr h
      · simp only [Tr.ord, List.mem_append, List.mem_cons] at h ⊢
        rcases h with h | h | h
        · exact .inl h
        · exact .inr (.inl h)
        · exact .inr (.inr (ihr h))
theorem delS_heap {m : Mk} {t : Tr} (h : t.heap) (hi : Ids t.ord) : (delS m t).heap := by
  induction t with
  | nil => exact h
  | node l x r ihl ihr =>
    obtain ⟨h1, h2, hl, hr⟩ := h
    unfold Ids at hi
    simp only [Tr.ord] at hi
    rw [List.pairwise_append, List.pairwise_cons] at hi
    obtain ⟨il, ⟨ix, ir⟩, ilr⟩ := hi
    simp only [delS]
    split
    · exact mrg_heap hl hr fun u hu v hv => ilr u hu v (by simp [hv])
    · split
      · exact ⟨fun y hy => h1 y (delS_sub hy), h2, ihl hl il, hr⟩
      · exact ⟨h1, fun y hy => h2 y (delS_sub hy), hl, ihr hr ir⟩
theorem delS_ord {m : Mk} {t : Tr} {A B : List Mk} (ho : Ord t.ord) (hi : Ids t.ord) (he : t.ord = A ++ m :: B) : (delS m t).ord = A ++ B := by
  induction t generalizing A B with
  | nil => simp [Tr.ord] at he
  | node l x r ihl ihr =>
    have ho' := ho
    have hi' := hi
    unfold Ids at hi
    unfold Ord at ho
    simp only [Tr.ord] at hi ho
    rw [List.pairwise_append, List.pairwise_cons] at hi ho
    obtain ⟨il, ⟨ix, ir⟩, ilr⟩ := hi
    obtain ⟨ol, ⟨ox, or⟩, olr⟩ := ho
    rcases split_at (A := A) (B := B) (L := l.ord) (R := r.ord) (x := m) (m := x) (by rw [← he]; rfl) with ⟨rfl, rfl, rfl⟩ | ⟨B', e1, rfl⟩ | ⟨A', e1, rfl⟩
    · simp only [delS, if_true]; rw [mrg_ord]
    · have hm : m ∈ l.ord := by rw [e1]; simp
      have hne : ¬ x.id = m.id := fun h => ilr m hm x (by simp) h.symm
      have hah : ahd m x := olr m hm x (by simp)
      simp only [delS]
      rw [if_neg hne, if_pos hah, Tr.ord, ihl ol il e1]
      simp
    · have hm : m ∈ r.ord := by rw [e1]; simp
      have hne : ¬ x.id = m.id := ix m hm
      have hah : ¬ ahd m x := ahd_asymm (ox m hm)
      simp only [delS]
      rw [if_neg hne, if_neg hah, Tr.ord, ihr or ir e1]
      simp
/-! ## a mark put in as a leaf, and turned up -/
def rotR : Tr → Tr
  | .node (.node a y b) x c => .node a y (.node b x c)
  | t => t
def rotL : Tr → Tr
  | .node a x (.node b y c) => .node (.node a x b) y c
  | t => t
theorem rotR_ord (t : Tr) : (rotR t).ord = t.ord := by
  cases t with
  | nil => rfl
  | node l x r => cases l <;> simp [rotR, Tr.ord]
theorem rotL_ord (t : Tr) : (rotL t).ord = t.ord := by
  cases t with
  | nil => rfl
  | node l x r => cases r <;> simp [rotL, Tr.ord]
/-- is the top of the tree above the mark? -/
def tops (x : Mk) : Tr → Prop
  | .nil => False
  | .node _ y _ => ovr y x
instance (x : Mk) (t : Tr) : Decidable (tops x t) := by cases t <;> unfold tops <;> infer_instance
def insR (m : Mk) : Tr → Tr
  | .nil => .node .nil m .nil
  | .node l x r =>
    if ahd m x then (if tops x (insR m l) then rotR (.node (insR m l) x r) else .node (insR m l) x r)
    else (if tops x (insR m r) then rotL (.node l x (insR m r)) else .node l x (insR m r))
/-- the way that the search goes, whatever is turned -/
def insP (m : Mk) : Tr → List Mk
  | .nil => [m]
  | .node l x r => if ahd m x then insP m l ++ x :: r.ord else l.ord ++ x :: insP m r
theorem insR_insP (m : Mk) (t : Tr) : (insR m t).ord = insP m t := by
  induction t with
  | nil => rfl
  | node l x r ihl ihr =>
    simp only [insR, insP]
    split
    · split
      · rw [rotR_ord, Tr.ord, ihl]
      · rw [Tr.ord, ihl]
    · split
      · rw [rotL_ord, Tr.ord, ihr]
      · rw [Tr.ord, ihr]
theorem insP_put {m : Mk} {t : Tr} (ho : Ord t.ord) (hn : ∀ x, x ∈ t.ord → x.id ≠ m.id) : insP m t = putM t.ord m := by
  induction t with
  | nil => rfl
  | node l x r ihl ihr =>
    unfold Ord at ho
    simp only [Tr.ord] at ho
    rw [List.pairwise_append, List.pairwise_cons] at ho
    obtain ⟨hl, ⟨hx, hr⟩, hlr⟩ := ho
    simp only [insP]
    split
    · rename_i h
      rw [ihl hl fun y hy => hn y (by simp [Tr.ord, hy])]
      have e : ∀ (B : List Mk), putM (B ++ x :: r.ord) m = putM B m ++ x :: r.ord := by
        intro B
        induction B with
        | nil => rw [List.nil_append, putM_cons_neg (ahd_asymm h)]; rfl
        | cons z B ih =>
          by_cases hz : ahd z m
          · rw [List.cons_append, putM_cons_pos hz, putM_cons_pos hz, ih]; rfl
          · rw [List.cons_append, putM_cons_neg hz, putM_cons_neg hz]; rfl
      rw [Tr.ord, e]
    · rename_i h
      have hxm : ahd x m := (ahd_total (hn x (by simp [Tr.ord]))).resolve_right h
      rw [ihr hr fun y hy => hn y (by simp [Tr.ord, hy])]
      have e : ∀ (A : List Mk), (∀ z, z ∈ A → ahd z m) → putM (A ++ x :: r.ord) m = A ++ x :: putM r.ord m := by
        intro A hA
        induction A with
        | nil => rw [List.nil_append, putM_cons_pos hxm]; rfl
        | cons z A ih => rw [List.cons_append, putM_cons_pos (hA z (by simp)), ih fun y hy => hA y (by simp [hy])]; rfl
      rw [Tr.ord, e l.ord fun z hz => ahd_trans (hlr z hz x (by simp)) hxm]
theorem insR_ord {m : Mk} {t : Tr} (ho : Ord t.ord) (hn : ∀ x, x ∈ t.ord → x.id ≠ m.id) : (insR m t).ord = putM t.ord m := (insR_insP m t).trans (insP_put ho hn)
theorem insP_mem {m : Mk} {t : Tr} {y : Mk} : y ∈ insP m t ↔ y = m ∨ y ∈ t.ord := by
  induction t with
  | nil => simp [insP, Tr.ord]
  | node l x r ihl ihr =>
    simp only [insP]
    split
    · simp only [Tr.ord, List.mem_append, List.mem_cons, ihl]
      constructor
      · rintro ((h | h) | h)
        · exact .inl h
        · exact .inr (.inl h)
        · exact .inr (.inr h)
      · rintro (h | h | h)
        · exact .inl (.inl h)
        · exact .inl (.inr h)
        · exact .inr h
    · simp only [Tr.ord, List.mem_append, List.mem_cons, ihr]
      constructor
      · rintro (h | h | h | h)
        · exact .inr (.inl h)
        · exact .inr (.inr (.inl h))
        · exact .inl h
        · exact .inr (.inr (.inr h))
      · rintro (h | h | h | h)
        · exact .inr (.inr (.inl h))
        · exact .inl h
        · exact .inr (.inl h)
        · exact .inr (.inr (.inr h))
theorem top_mem {x : Mk} {t : Tr} (ht : t.heap) (h : ¬ tops x t) (hn : ∀ y, y ∈ t.ord → y.id ≠ x.id) : ∀ y, y ∈ t.ord → ovr x y := by
  cases t with
  | nil => simp [Tr.ord]
  | node l z r =>
    obtain ⟨h1, h2, _, _⟩ := ht
    have hxz : ovr x z := (ovr_total (hn z (by simp [Tr.ord]))).resolve_left h
    intro y hy
    simp only [Tr.ord, List.mem_append, List.mem_cons] at hy
    rcases hy with hy | rfl | hy
    · exact ovr_trans hxz (h1 y hy)
    · exact hxz
    · exact ovr_trans hxz (h2 y hy)
theorem insR_heap {m : Mk} {t : Tr} (h : t.heap) (hi : Ids t.ord) (hn : ∀ x, x ∈ t.ord → x.id ≠ m.id) : (insR m t).heap := by
  induction t with
  | nil => exact ⟨by simp [Tr.ord], by simp [Tr.ord], trivial, trivial⟩
  | node l x r ihl ihr =>
    obtain ⟨h1, h2, hl, hr⟩ := h
    unfold Ids at hi
    simp only [Tr.ord] at hi
    rw [List.pairwise_append, List.pairwise_cons] at hi
    obtain ⟨il, ⟨ix, ir⟩, ilr⟩ := hi
    have hxm := hn x (by simp [Tr.ord])
    have kl := ihl hl il fun y hy => hn y (by simp [Tr.ord, hy])
    have kr := ihr hr ir fun y hy => hn y (by simp [Tr.ord, hy])
    have ml : ∀ y, y ∈ (insR m l).ord ↔ y = m ∨ y ∈ l.ord := fun y => by rw [insR_insP]; exact insP_mem
    have mr : ∀ y, y ∈ (insR m r).ord ↔ y = m ∨ y ∈ r.ord := fun y => by rw [insR_insP]; exact insP_mem
    simp only [insR]
    split
    · split
      · rename_i ht
        cases hL : insR m l with
        | nil => rw [hL] at ht; exact absurd ht (by simp [tops])
        | node a y b =>
          rw [hL] at ht kl ml
          have ht' : ovr y x := ht
          obtain ⟨ka, kb, ha, hb⟩ := kl
          have hym : y = m := by
            rcases (ml y).1 (by simp [Tr.ord]) with e | e
            · exact e
            · exact absurd ht' (ovr_asymm (h1 y e))
          subst hym
          have hbx : ∀ z, z ∈ b.ord → ovr x z := by
            intro z hz
            rcases (ml z).1 (by simp [Tr.ord, hz]) with e | e
            · subst e; exact absurd (kb z hz) (fun k => ovr_asymm k k)
            · exact h1 z e
          refine ⟨ka, fun z hz => ?_, ha, hbx, h2, hb, hr⟩
          simp only [Tr.ord, List.mem_append, List.mem_cons] at hz
          rcases hz with hz | rfl | hz
          · exact kb z hz
          · exact ht'
          · exact ovr_trans ht' (h2 z hz)
      · rename_i ht
        refine ⟨top_mem kl ht fun y hy => ?_, h2, kl, hr⟩
        rcases (ml y).1 hy with rfl | e
        · exact hxm.symm
        · exact ilr y e x (by simp)
    · split
      · rename_i ht
        cases hR : insR m r with
        | nil => rw [hR] at ht; exact absurd ht (by simp [tops])
        | node b y c =>
          rw [hR] at ht kr mr
          have ht' : ovr y x := ht
          obtain ⟨kb, kc, hb, hc⟩ := kr
          have hym : y = m := by
            rcases (mr y).1 (by simp [Tr.ord]) with e | e
            · exact e
            · exact absurd ht' (ovr_asymm (h2 y e))
          subst hym
          have hbx : ∀ z, z ∈ b.ord → ovr x z := by
            intro z hz
            rcases (mr z).1 (by simp [Tr.ord, hz]) with e | e
            · subst e; exact absurd (kb z hz) (fun k => ovr_asymm k k)
            · exact h2 z e
          refine ⟨fun z hz => ?_, kc, ⟨h1, hbx, hl, hb⟩, hc⟩
          simp only [Tr.ord, List.mem_append, List.mem_cons] at hz
          rcases hz with hz | rfl | hz
          · exact ovr_trans ht' (h1 z hz)
          · exact ht'
          · exact kb z hz
      · rename_i ht
        refine ⟨h1, top_mem kr ht fun y hy => ?_, hl, kr⟩
        rcases (mr y).1 hy with rfl | e
        · exact hxm.symm
        · exact (ix y e).symm

end Go.Proofs.Ytaondjklclpdkaa
