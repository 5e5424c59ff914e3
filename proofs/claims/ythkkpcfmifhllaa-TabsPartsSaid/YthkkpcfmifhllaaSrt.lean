/- A stable sort by insertion and by merges in place, on lists of numbers: what a part of a list holds, a turn of two neighbours, orders, merges. -/
import Derived.Test.YthkkpcfmifhllaaInts
namespace Go.Proofs.Ythkkpcfmifhllaa

theorem gt_set (l : List Int) (i : Nat) (x : Int) (p : Nat) : gt (l.set i x) p = if p = i ∧ i < l.length then x else gt l p := by
  unfold gt
  simp only [List.getD, List.getElem?_set]
  by_cases h : i = p
  · subst h
    by_cases hl : i < l.length
    · simp [hl]
    · simp [hl]
  · rw [if_neg h, if_neg (fun h2 => h h2.1.symm)]
/-- M is L but within [a, b), where it holds the same numbers -/
structure Seg (a b : Nat) (L M : List Int) : Prop where
  len : M.length = L.length
  out : ∀ p, p < a ∨ b ≤ p → gt M p = gt L p
  fwd : ∀ p, a ≤ p → p < b → ∃ q, a ≤ q ∧ q < b ∧ gt M p = gt L q
  bwd : ∀ p, a ≤ p → p < b → ∃ q, a ≤ q ∧ q < b ∧ gt L p = gt M q
theorem Seg.refl (a b : Nat) (L : List Int) : Seg a b L L := ⟨rfl, fun _ _ => rfl, fun p h1 h2 => ⟨p, h1, h2, rfl⟩, fun p h1 h2 => ⟨p, h1, h2, rfl⟩⟩
theorem Seg.trans {a b : Nat} {L M N : List Int} (h : Seg a b L M) (k : Seg a b M N) : Seg a b L N := by
  refine ⟨k.len.trans h.len, fun p hp => (k.out p hp).trans (h.out p hp), fun p h1 h2 => ?_, fun p h1 h2 => ?_⟩
  · obtain ⟨q, q1, q2, q3⟩ := k.fwd p h1 h2
    obtain ⟨r, r1, r2, r3⟩ := h.fwd q q1 q2
    exact ⟨r, r1, r2, q3.trans r3⟩
  · obtain ⟨q, q1, q2, q3⟩ := h.bwd p h1 h2
    obtain ⟨r, r1, r2, r3⟩ := k.bwd q q1 q2
    exact ⟨r, r1, r2, q3.trans r3⟩
theorem Seg.widen {a b a' b' : Nat} {L M : List Int} (h : Seg a b L M) (ha : a' ≤ a) (hb : b ≤ b') : Seg a' b' L M := by
  refine ⟨h.len, fun p hp => h.out p (by omega), fun p h1 h2 => ?_, fun p h1 h2 => ?_⟩
  · by_cases hp : a ≤ p ∧ p < b
    · obtain ⟨q, q1, q2, q3⟩ := h.fwd p hp.1 hp.2
      exact ⟨q, by omega, by omega, q3⟩
    · exact ⟨p, h1, h2, h.out p (by omega)⟩
  · by_cases hp : a ≤ p ∧ p < b
    · obtain ⟨q, q1, q2, q3⟩ := h.bwd p hp.1 hp.2
      exact ⟨q, by omega, by omega, q3⟩
    · exact ⟨p, h1, h2, (h.out p (by omega)).symm⟩
theorem Seg.mem {a b : Nat} {L M : List Int} (h : Seg a b L M) (hb : b ≤ L.length) (x : Int) : x ∈ M ↔ x ∈ L := by
  constructor
  · intro hx
    obtain ⟨p, hp, rfl⟩ := List.mem_iff_getElem.1 hx
    rw [← gt_get hp]
    by_cases hc : a ≤ p ∧ p < b
    · obtain ⟨q, _, q2, q3⟩ := h.fwd p hc.1 hc.2
      rw [q3]; exact gt_mem (by omega)
    · rw [h.out p (by omega)]; exact gt_mem (by have := h.len; omega)
  · intro hx
    obtain ⟨p, hp, rfl⟩ := List.mem_iff_getElem.1 hx
    rw [← gt_get hp]
    by_cases hc : a ≤ p ∧ p < b
    · obtain ⟨q, _, q2, q3⟩ := h.bwd p hc.1 hc.2
      rw [q3]; exact gt_mem (by have := h.len; omega)
    · rw [← h.out p (by omega)]; exact gt_mem (by have := h.len; omega)
/-- M is L with its places read through f -/
def Via (f : Nat → Nat) (L M : List Int) : Prop := M.length = L.length ∧ ∀ p, gt M p = gt L (f p)
theorem Via.seg {f f' : Nat → Nat} {a b : Nat} {L M : List Int} (h : Via f L M) (ho : ∀ p, p < a ∨ b ≤ p → f p = p) (hf : ∀ p, a ≤ p → p < b → a ≤ f p ∧ f p < b) (hg : ∀ p, a ≤ p → p < b → a ≤ f' p ∧ f' p < b ∧ f (f' p) = p) : Seg a b L M :=
  ⟨h.1, fun p hp => by rw [h.2, ho p hp], fun p h1 h2 => ⟨f p, (hf p h1 h2).1, (hf p h1 h2).2, h.2 p⟩, fun p h1 h2 => ⟨f' p, (hg p h1 h2).1, (hg p h1 h2).2.1, by rw [h.2, (hg p h1 h2).2.2]⟩⟩
theorem Via.comp {f g h : Nat → Nat} {L M N : List Int} (a : Via f L M) (b : Via g M N) (e : ∀ p, f (g p) = h p) : Via h L N := ⟨b.1.trans a.1, fun p => by rw [b.2, a.2, e]⟩
theorem Via.refl {f : Nat → Nat} (L : List Int) (e : ∀ p, f p = p) : Via f L L := ⟨rfl, fun p => by rw [e]⟩
/-- two places turned -/
def swI (i j p : Nat) : Nat := if p = i then j else if p = j then i else p
def swL (L : List Int) (i j : Nat) : List Int := (L.set i (gt L j)).set j (gt L i)
theorem swL_via {L : List Int} {i j : Nat} (hi : i < L.length) (hj : j < L.length) : Via (swI i j) L (swL L i j) := by
  refine ⟨by simp [swL], fun p => ?_⟩
  unfold swL swI
  rw [gt_set, gt_set]
  simp only [List.length_set, hi, hj, and_true]
  by_cases h1 : p = j
  · rw [if_pos h1]
    by_cases h2 : p = i
    · rw [if_pos h2]; congr 1; omega
    · rw [if_neg h2, if_pos h1]
  · rw [if_neg h1]
    by_cases h2 : p = i
    · rw [if_pos h2, if_pos h2]
    · rw [if_neg h2, if_neg h2, if_neg h1]
/-- two runs of n turned -/
def srI (a b n p : Nat) : Nat := if a ≤ p ∧ p < a + n then p - a + b else if b ≤ p ∧ p < b + n then p - b + a else p
theorem srI_step {a b k : Nat} (h : a + k < b) (p : Nat) : srI a b k (swI (a + k) (b + k) p) = srI a b (k + 1) p := by
  unfold srI swI
  by_cases h1 : p = a + k
  · rw [if_pos h1, if_neg (by omega), if_neg (by omega), if_pos (by omega)]; omega
  · by_cases h2 : p = b + k
    · rw [if_neg h1, if_pos h2, if_neg (by omega), if_neg (by omega), if_neg (by omega), if_pos (by omega)]; omega
    · rw [if_neg h1, if_neg h2]
      by_cases h3 : a ≤ p ∧ p < a + k
      · rw [if_pos h3, if_pos (by omega)]
      · rw [if_neg h3]
        by_cases h4 : b ≤ p ∧ p < b + k
        · rw [if_pos h4, if_neg (by omega), if_pos (by omega)]
        · rw [if_neg h4, if_neg (by omega), if_neg (by omega)]
/-- [a, m) and [m, b) in the other order -/
def roI (a m b p : Nat) : Nat := if a ≤ p ∧ p < a + (b - m) then p + (m - a) else if a + (b - m) ≤ p ∧ p < b then p - (b - m) else p
theorem roI_more {m i j : Nat} (hi : j < i) (hm : i ≤ m) (p : Nat) : srI (m - i) m j (roI (m - (i - j)) m (m + j) p) = roI (m - i) m (m + j) p := by
  by_cases h1 : m - i ≤ p ∧ p < m - i + j
  · have e : roI (m - (i - j)) m (m + j) p = p := by unfold roI; rw [if_neg (by omega), if_neg (by omega)]
    rw [e]; unfold srI roI; rw [if_pos h1, if_pos (by omega)]; omega
  · by_cases h2 : m - i + j ≤ p ∧ p < m - i + j + j
    · have e : roI (m - (i - j)) m (m + j) p = p + (i - j) := by unfold roI; rw [if_pos (by omega)]; omega
      rw [e]; unfold srI roI; rw [if_neg (by omega), if_pos (by omega), if_neg (by omega), if_pos (by omega)]; omega
    · by_cases h3 : m - i + j + j ≤ p ∧ p < m + j
      · have e : roI (m - (i - j)) m (m + j) p = p - j := by unfold roI; rw [if_neg (by omega), if_pos (by omega)]; omega
        rw [e]; unfold srI roI; rw [if_neg (by omega), if_neg (by omega), if_neg (by omega), if_pos (by omega)]; omega
      · have e : roI (m - (i - j)) m (m + j) p = p := by unfold roI; rw [if_neg (by omega), if_neg (by omega)]
        rw [e]; unfold srI roI; rw [if_neg (by omega), if_neg (by omega), if_neg (by omega), if_neg (by omega)]
theorem roI_less {m i j : Nat} (hi : i < j) (hm : i ≤ m) (p : Nat) : srI (m - i) (m + j - i) i (roI (m - i) m (m + (j - i)) p) = roI (m - i) m (m + j) p := by
  by_cases h1 : m - i ≤ p ∧ p < m - i + (j - i)
  · have e : roI (m - i) m (m + (j - i)) p = p + i := by unfold roI; rw [if_pos (by omega)]; omega
    rw [e]; unfold srI roI; rw [if_neg (by omega), if_neg (by omega), if_pos (by omega)]; omega
  · by_cases h2 : m - i + (j - i) ≤ p ∧ p < m + (j - i)
    · have e : roI (m - i) m (m + (j - i)) p = p - (j - i) := by unfold roI; rw [if_neg (by omega), if_pos (by omega)]; omega
      rw [e]; unfold srI roI; rw [if_pos (by omega)]
      by_cases h4 : p < m - i + j
      · rw [if_pos (by omega)]; omega
      · rw [if_neg (by omega), if_pos (by omega)]; omega
    · by_cases h3 : m + (j - i) ≤ p ∧ p < m + j
      · have e : roI (m - i) m (m + (j - i)) p = p := by unfold roI; rw [if_neg (by omega), if_neg (by omega)]
        rw [e]; unfold srI roI; rw [if_neg (by omega), if_pos (by omega), if_neg (by omega), if_pos (by omega)]; omega
      · have e : roI (m - i) m (m + (j - i)) p = p := by unfold roI; rw [if_neg (by omega), if_neg (by omega)]
        rw [e]; unfold srI roI; rw [if_neg (by omega), if_neg (by omega), if_neg (by omega), if_neg (by omega)]
theorem roI_same {m i : Nat} (hm : i ≤ m) (p : Nat) : srI (m - i) m i p = roI (m - i) m (m + i) p := by
  unfold srI roI
  by_cases h1 : m - i ≤ p ∧ p < m
  · rw [if_pos (by omega), if_pos (by omega)]; omega
  · by_cases h2 : m ≤ p ∧ p < m + i
    · rw [if_neg (by omega), if_pos (by omega), if_neg (by omega), if_pos (by omega)]; omega
    · rw [if_neg (by omega), if_neg (by omega), if_neg (by omega), if_neg (by omega)]
theorem roI_up {a k : Nat} (h : a ≤ k) (p : Nat) : roI a (a + 1) (k + 1) (swI k (k + 1) p) = roI a (a + 1) (k + 2) p := by
  by_cases h1 : p = k
  · have e : swI k (k + 1) p = k + 1 := by unfold swI; rw [if_pos h1]
    rw [e]; unfold roI; rw [if_neg (by omega), if_neg (by omega), if_pos (by omega)]; omega
  · by_cases h2 : p = k + 1
    · have e : swI k (k + 1) p = k := by unfold swI; rw [if_neg h1, if_pos h2]
      rw [e]; unfold roI; rw [if_neg (by omega), if_pos (by omega), if_neg (by omega), if_pos (by omega)]; omega
    · have e : swI k (k + 1) p = p := by unfold swI; rw [if_neg h1, if_neg h2]
      rw [e]; unfold roI
      by_cases h3 : a ≤ p ∧ p < k
      · rw [if_pos (by omega), if_pos (by omega)]
      · rw [if_neg (by omega), if_neg (by omega), if_neg (by omega), if_neg (by omega)]
theorem roI_down {k m : Nat} (h : k < m) (p : Nat) : roI (k + 1) m (m + 1) (swI (k + 1) k p) = roI k m (m + 1) p := by
  by_cases h1 : p = k + 1
  · have e : swI (k + 1) k p = k := by unfold swI; rw [if_pos h1]
    rw [e]; unfold roI; rw [if_neg (by omega), if_neg (by omega), if_neg (by omega), if_pos (by omega)]; omega
  · by_cases h2 : p = k
    · have e : swI (k + 1) k p = k + 1 := by unfold swI; rw [if_neg h1, if_pos h2]
      rw [e]; unfold roI; rw [if_pos (by omega), if_pos (by omega)]; omega
    · have e : swI (k + 1) k p = p := by unfold swI; rw [if_neg h1, if_neg h2]
      rw [e]; unfold roI
      by_cases h3 : k + 2 ≤ p ∧ p < m + 1
      · rw [if_neg (by omega), if_pos (by omega), if_neg (by omega), if_pos (by omega)]
      · rw [if_neg (by omega), if_neg (by omega), if_neg (by omega), if_neg (by omega)]
theorem roI_none (a m p : Nat) : roI a m m p = p := by
  unfold roI
  by_cases h : a ≤ p ∧ p < m
  · rw [if_neg (by omega), if_pos (by omega)]; omega
  · rw [if_neg (by omega), if_neg (by omega)]
theorem roI_none' (m b p : Nat) : roI m m b p = p := by
  unfold roI
  by_cases h : m ≤ p ∧ p < b
  · rw [if_pos (by omega)]; omega
  · rw [if_neg (by omega), if_neg (by omega)]
theorem roI_seg {a m b : Nat} {L M : List Int} (h : Via (roI a m b) L M) (ha : a ≤ m) (hb : m ≤ b) : Seg a b L M := by
  refine h.seg (f' := fun p => if p < m then p + (b - m) else p - (m - a)) (fun p hp => ?_) (fun p h1 h2 => ?_) (fun p h1 h2 => ?_)
  · unfold roI; rw [if_neg (by omega), if_neg (by omega)]
  · unfold roI
    by_cases hp : p < a + (b - m)
    · rw [if_pos ⟨h1, hp⟩]; omega
    · rw [if_neg (by omega), if_pos (by omega)]; omega
  · by_cases hp : p < m
    · rw [if_pos hp]; unfold roI
      rw [if_neg (by omega), if_pos (by omega)]; omega
    · rw [if_neg hp]; unfold roI
      rw [if_pos (by omega)]; omega
/-! ## orders -/
/-- ahead by the key, equals by their number -/
def Ahd (K : Int → Int) (x y : Int) : Prop := K x < K y ∨ (K x = K y ∧ x < y)
theorem Ahd.trans {K : Int → Int} {x y z : Int} (h : Ahd K x y) (k : Ahd K y z) : Ahd K x z := by unfold Ahd at *; omega
theorem Ahd.or {K : Int → Int} {x y : Int} (h : ¬ Ahd K x y) (hn : x < y) : Ahd K y x := by unfold Ahd at *; omega
theorem ahd_le {K : Int → Int} {x y : Int} (h : x < y) : Ahd K x y ↔ ¬ K y < K x := by unfold Ahd; omega
theorem ahd_lt {K : Int → Int} {x y : Int} (h : x < y) : Ahd K y x ↔ K y < K x := by unfold Ahd; omega
/-- [a, b) is in order -/
def Srt (K : Int → Int) (a b : Nat) (L : List Int) : Prop := ∀ p q, a ≤ p → p < q → q < b → Ahd K (gt L p) (gt L q)
/-- each number of [a, b) is less than each of [c, d) -/
def Lss (a b c d : Nat) (L : List Int) : Prop := ∀ p q, a ≤ p → p < b → c ≤ q → q < d → gt L p < gt L q
theorem Srt.of_seg {K : Int → Int} {a b a' b' : Nat} {L M : List Int} (h : Srt K a b L) (s : Seg a' b' L M) (ho : b ≤ a' ∨ b' ≤ a) : Srt K a b M := fun p q h1 h2 h3 => by
  rw [s.out p (by omega), s.out q (by omega)]; exact h p q h1 h2 h3
theorem Lss.of_in {a b c d a' b' : Nat} {L M : List Int} (h : Lss a b c d L) (s : Seg a' b' L M) (hab : (a ≤ a' ∧ b' ≤ b) ∨ (b' ≤ a ∨ b ≤ a')) (hcd : (c ≤ a' ∧ b' ≤ d) ∨ (b' ≤ c ∨ d ≤ a')) : Lss a b c d M := by
  intro p q h1 h2 h3 h4
  have hp : ∃ p0, a ≤ p0 ∧ p0 < b ∧ gt M p = gt L p0 := by
    by_cases hc : a' ≤ p ∧ p < b'
    · obtain ⟨q, q1, q2, q3⟩ := s.fwd p hc.1 hc.2; exact ⟨q, by omega, by omega, q3⟩
    · exact ⟨p, h1, h2, s.out p (by omega)⟩
  have hq : ∃ q0, c ≤ q0 ∧ q0 < d ∧ gt M q = gt L q0 := by
    by_cases hc : a' ≤ q ∧ q < b'
    · obtain ⟨r, q1, q2, q3⟩ := s.fwd q hc.1 hc.2; exact ⟨r, by omega, by omega, q3⟩
    · exact ⟨q, h3, h4, s.out q (by omega)⟩
  obtain ⟨p0, p1, p2, p3⟩ := hp
  obtain ⟨q0, q1, q2, q3⟩ := hq
  rw [p3, q3]; exact h p0 q0 p1 p2 q1 q2
/-- what a merge asks: both runs in order, the first one's numbers less -/
structure Pre (K : Int → Int) (a m b : Nat) (L : List Int) : Prop where
  one : Srt K a m L
  two : Srt K m b L
  less : Lss a m m b L
/-! ## a merge -/
/-- the parts change places: [a, s) [m, e) ahead, [s, m) [e, b) behind -/
structure Cut (K : Int → Int) (a s m e b : Nat) (L : List Int) : Prop where
  pre : Pre K a m b L
  h1 : a ≤ s
  h2 : s ≤ m
  h3 : m ≤ e
  h4 : e ≤ b
  up : ∀ p q, a ≤ p → p < s → e ≤ q → q < b → Ahd K (gt L p) (gt L q)
  dn : ∀ p q, m ≤ p → p < e → s ≤ q → q < m → Ahd K (gt L p) (gt L q)
theorem roI_1 {a m b p : Nat} (h : p < a) : roI a m b p = p := by unfold roI; rw [if_neg (by omega), if_neg (by omega)]
theorem roI_2 {a m b p : Nat} (h : a ≤ p) (h2 : p < a + (b - m)) : roI a m b p = p + (m - a) := by unfold roI; rw [if_pos ⟨h, h2⟩]
theorem roI_3 {a m b p : Nat} (h : a + (b - m) ≤ p) (h2 : p < b) : roI a m b p = p - (b - m) := by unfold roI; rw [if_neg (by omega), if_pos ⟨h, h2⟩]
theorem roI_4 {a m b p : Nat} (h : b ≤ p) (_h1 : a ≤ m) (_h2 : m ≤ b) : roI a m b p = p := by unfold roI; rw [if_neg (by omega), if_neg (by omega)]
section
variable {K : Int → Int} {a s m e b : Nat} {L M : List Int}
theorem Cut.low (h : Cut K a s m e b L) (v : Via (roI s m e) L M) : Pre K a s (s + (e - m)) M := by
  obtain ⟨⟨p1, p2, p3⟩, h1, h2, h3, h4, _, _⟩ := h
  refine ⟨fun p q g1 g2 g3 => ?_, fun p q g1 g2 g3 => ?_, fun p q g1 g2 g3 g4 => ?_⟩
  · rw [v.2, v.2, roI_1 (by omega), roI_1 g3]; exact p1 p q g1 g2 (by omega)
  · rw [v.2, v.2, roI_2 (by omega) (by omega), roI_2 (by omega) g3]; exact p2 _ _ (by omega) (by omega) (by omega)
  · rw [v.2, v.2, roI_1 (by omega), roI_2 g3 g4]; exact p3 _ _ g1 (by omega) (by omega) (by omega)
theorem Cut.high (h : Cut K a s m e b L) (v : Via (roI s m e) L M) : Pre K (s + (e - m)) e b M := by
  obtain ⟨⟨p1, p2, p3⟩, h1, h2, h3, h4, _, _⟩ := h
  refine ⟨fun p q g1 g2 g3 => ?_, fun p q g1 g2 g3 => ?_, fun p q g1 g2 g3 g4 => ?_⟩
  · rw [v.2, v.2, roI_3 (by omega) (by omega), roI_3 (by omega) g3]; exact p1 _ _ (by omega) (by omega) (by omega)
  · rw [v.2, v.2, roI_4 (by omega) h2 h3, roI_4 (by omega) h2 h3]; exact p2 p q (by omega) g2 g3
  · rw [v.2, v.2, roI_3 g1 g2, roI_4 g3 h2 h3]; exact p3 _ _ (by omega) (by omega) (by omega) g4
/-- all of the lower part is ahead of all of the upper one -/
theorem Cut.mid (h : Cut K a s m e b L) (v : Via (roI s m e) L M) : ∀ p q, a ≤ p → p < s + (e - m) → s + (e - m) ≤ q → q < b → Ahd K (gt M p) (gt M q) := by
  obtain ⟨⟨p1, p2, p3⟩, h1, h2, h3, h4, hu, hd⟩ := h
  intro p q g1 g2 g3 g4
  rw [v.2, v.2]
  by_cases c1 : p < s
  · rw [roI_1 c1]
    by_cases c2 : q < e
    · rw [roI_3 g3 c2]; exact p1 _ _ g1 (by omega) (by omega)
    · rw [roI_4 (by omega) h2 h3]; exact hu _ _ g1 c1 (by omega) g4
  · rw [roI_2 (by omega) g2]
    by_cases c2 : q < e
    · rw [roI_3 g3 c2]; exact hd _ _ (by omega) (by omega) (by omega) (by omega)
    · rw [roI_4 (by omega) h2 h3]; exact p2 _ _ (by omega) (by omega) g4
theorem Cut.done {M2 M3 : List Int} (h : Cut K a s m e b L) (v : Via (roI s m e) L M) (h2 : Seg a (s + (e - m)) M M2) (s2 : Srt K a (s + (e - m)) M2) (h3 : Seg (s + (e - m)) b M2 M3) (s3 : Srt K (s + (e - m)) b M3) :
    Seg a b L M3 ∧ Srt K a b M3 := by
  have hm := h.mid v
  obtain ⟨_, g1, g2, g3, g4, _, _⟩ := h
  refine ⟨(((roI_seg v g2 g3).widen g1 g4).trans (h2.widen (Nat.le_refl _) (by omega))).trans (h3.widen (by omega) (Nat.le_refl _)), fun p q k1 k2 k3 => ?_⟩
  by_cases c1 : s + (e - m) ≤ p
  · exact s3 p q c1 k2 k3
  · by_cases c2 : q < s + (e - m)
    · rw [h3.out p (by omega), h3.out q (by omega)]; exact s2 p q k1 k2 c2
    · obtain ⟨p0, a1, a2, a3⟩ := h2.fwd p k1 (by omega)
      obtain ⟨q0, b1, b2, b3⟩ := h3.fwd q (by omega) k3
      rw [h3.out p (by omega), a3, b3, h2.out q0 (by omega)]
      exact hm p0 q0 a1 a2 b1 b2
end
end Go.Proofs.Ythkkpcfmifhllaa
