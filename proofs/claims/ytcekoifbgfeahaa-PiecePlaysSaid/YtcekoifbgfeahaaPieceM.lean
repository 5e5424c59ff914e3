/- Piece tables as plain lists: pieces, what stands between two places, a splice. -/
import Derived.Test.YtcekoifbgfeahaaSignsM
namespace Go.Proofs.Ytcekoifbgfeahaa
open Go.RowKit

structure Pc where
  add : Bool
  fr : Nat
  n : Nat
deriving DecidableEq

def tot : List Pc → Nat
  | [] => 0
  | p :: r => p.n + tot r
theorem tot_app (l r : List Pc) : tot (l ++ r) = tot l + tot r := by
  induction l with
  | nil => simp [tot]
  | cons p l ih => simp [tot, ih]; omega
def prt : List Pc → Nat → Nat → List Pc
  | [], _, _ => []
  | p :: r, f, t => (if f < min t p.n then [⟨p.add, p.fr + f, min t p.n - f⟩] else []) ++ prt r (f - p.n) (t - p.n)
theorem prt_app (l r : List Pc) (f t : Nat) : prt (l ++ r) f t = prt l f t ++ prt r (f - tot l) (t - tot l) := by
  induction l generalizing f t with
  | nil => simp [prt, tot]
  | cons p l ih => simp only [List.cons_append, prt, ih, tot, List.append_assoc, Nat.sub_sub]
def pst2 : List Pc → Nat → List Pc
  | [], _ => []
  | p :: r, a => (if min a p.n < p.n then [⟨p.add, p.fr + min a p.n, p.n - min a p.n⟩] else []) ++ pst2 r (a - p.n)
theorem prt_post (l : List Pc) (a t : Nat) (h : tot l ≤ t) : prt l a t = pst2 l a := by
  induction l generalizing a t with
  | nil => rfl
  | cons p l ih =>
    simp only [tot] at h
    simp only [prt, pst2, ih (a - p.n) (t - p.n) (by omega)]
    congr 1
    rw [Nat.min_eq_right (show p.n ≤ t by omega)]
    by_cases h1 : a < p.n
    · rw [if_pos h1, if_pos (by omega), Nat.min_eq_left (by omega)]
    · rw [if_neg h1, if_neg (by omega)]
theorem pst2_pst2 (l : List Pc) (a c : Nat) : pst2 (pst2 l a) c = pst2 l (a + c) := by
  induction l generalizing a c with
  | nil => rfl
  | cons p l ih =>
    simp only [pst2]
    by_cases h1 : a < p.n
    · rw [if_pos (by omega)]
      simp only [List.cons_append, List.nil_append, pst2, ih, Nat.min_eq_left (Nat.le_of_lt h1)]
      rw [show a - p.n + (c - (p.n - a)) = a + c - p.n by omega]
      congr 1
      by_cases h2 : a + c < p.n
      · rw [if_pos (by omega), if_pos (by omega)]
        simp only [List.cons.injEq, Pc.mk.injEq, and_true, true_and]; omega
      · rw [if_neg (by omega), if_neg (by omega)]
    · rw [if_neg (by omega), if_neg (by omega)]
      simp only [List.nil_append, ih]
      congr 1; omega
theorem pst2_snoc (l : List Pc) (p : Pc) (a : Nat) : pst2 (l ++ [p]) a = pst2 l a ++ (if min (a - tot l) p.n < p.n then [⟨p.add, p.fr + min (a - tot l) p.n, p.n - min (a - tot l) p.n⟩] else []) := by
  induction l generalizing a with
  | nil => by_cases h : min a p.n < p.n <;> simp [pst2, tot, h]
  | cons q l ih =>
    show _ ++ pst2 (l ++ [p]) (a - q.n) = (_ ++ pst2 l (a - q.n)) ++ _
    rw [ih, Nat.sub_sub, List.append_assoc]
    rfl
theorem prt0_snoc (l : List Pc) (p : Pc) (a : Nat) : prt (l ++ [p]) 0 a = prt l 0 a ++ (if 0 < min (a - tot l) p.n then [⟨p.add, p.fr, min (a - tot l) p.n⟩] else []) := by
  rw [prt_app]; simp [prt]

/-- a table: the original text, the added one, the pieces -/
structure St where
  o : List Int
  a : List Int
  p : List Pc
def src (o a : List Int) (p : Pc) : List Int := if p.add = true then a else o
def txt (o a : List Int) : List Pc → List Int
  | [] => []
  | p :: r => ((src o a p).drop p.fr).take p.n ++ txt o a r
theorem txt_app (o a : List Int) (l r : List Pc) : txt o a (l ++ r) = txt o a l ++ txt o a r := by
  induction l with
  | nil => rfl
  | cons p l ih => simp [txt, ih]
/-- pieces that lie in their texts -/
def Lies (o a : List Int) (l : List Pc) : Prop := ∀ p ∈ l, 1 ≤ p.n ∧ p.fr + p.n ≤ (src o a p).length
theorem Lies.cons {o a : List Int} {p : Pc} {l : List Pc} (h : Lies o a (p :: l)) : (1 ≤ p.n ∧ p.fr + p.n ≤ (src o a p).length) ∧ Lies o a l := ⟨h p (by simp), fun q hq => h q (by simp [hq])⟩
theorem Lies.app {o a : List Int} {l r : List Pc} (h : Lies o a l) (h2 : Lies o a r) : Lies o a (l ++ r) := by
  intro p hp; rcases List.mem_append.1 hp with hp | hp
  · exact h p hp
  · exact h2 p hp
theorem txt_len {o a : List Int} {l : List Pc} (h : Lies o a l) : (txt o a l).length = tot l := by
  induction l with
  | nil => rfl
  | cons p l ih =>
    obtain ⟨h1, h2⟩ := h.cons
    simp [txt, tot, ih h2]; omega
theorem prt_lies {o a : List Int} {l : List Pc} (h : Lies o a l) (f t : Nat) : Lies o a (prt l f t) := by
  induction l generalizing f t with
  | nil => intro p hp; simp [prt] at hp
  | cons p l ih =>
    obtain ⟨h1, h2⟩ := h.cons
    refine Lies.app ?_ (ih h2 _ _)
    split
    · intro q hq; simp at hq; subst hq; simp only [src] at h1 ⊢; omega
    · intro q hq; simp at hq
theorem prt_txt {o a : List Int} {l : List Pc} (h : Lies o a l) (f t : Nat) : txt o a (prt l f t) = ((txt o a l).take t).drop f := by
  induction l generalizing f t with
  | nil => simp [prt, txt]
  | cons p l ih =>
    obtain ⟨h1, h2⟩ := h.cons
    simp only [prt, txt, txt_app, ih h2]
    have hl : (((src o a p).drop p.fr).take p.n).length = p.n := by simp; omega
    rw [List.take_append, List.drop_append, List.length_take, hl]
    by_cases h3 : t ≤ p.n
    · rw [show t - p.n = 0 by omega]
      simp only [List.take_zero, List.drop_nil, List.append_nil]
      split
      · simp only [txt, List.append_nil]
        rw [List.take_take, List.drop_take, List.drop_drop]
        simp [src]
      · simp only [txt]
        rw [List.drop_eq_nil_of_le]
        simp; omega
    · rw [show min t p.n = p.n by omega, show f - p.n = f - p.n from rfl]
      congr 1
      rw [List.take_of_length_le (by rw [hl]; omega)]
      split
      · simp only [txt, List.append_nil]
        rw [List.drop_take, List.drop_drop]
        simp [src]
      · simp only [txt]
        rw [List.drop_eq_nil_of_le]
        simp; omega
theorem prt_tot {o a : List Int} {l : List Pc} (h : Lies o a l) (f t : Nat) : tot (prt l f t) = min t (tot l) - f := by
  rw [← txt_len (prt_lies h f t), prt_txt h, List.length_drop, List.length_take, txt_len h]
/-- the added text may grow -/
theorem Lies.grow {o a : List Int} {l : List Pc} (h : Lies o a l) (b : List Int) : Lies o (a ++ b) l := by
  intro p hp; have := h p hp; refine ⟨this.1, ?_⟩; unfold src at this ⊢; split <;> simp_all; omega
theorem txt_grow {o a : List Int} {l : List Pc} (h : Lies o a l) (b : List Int) : txt o (a ++ b) l = txt o a l := by
  induction l with
  | nil => rfl
  | cons p l ih =>
    obtain ⟨h1, h2⟩ := h.cons
    simp only [txt, ih h2]
    congr 1
    unfold src at h1 ⊢
    split
    · rename_i hp; simp only [hp, if_true] at h1
      rw [List.drop_append_of_le_length (by omega), List.take_append_of_le_length (by rw [List.length_drop]; omega)]
    · rfl
/-- pieces that end where the added text does grow, else there is one more -/
def grw (l : List Pc) (k n : Nat) : List Pc :=
  if n = 0 then l else
  match l.getLast? with
  | none => l ++ [⟨true, k, n⟩]
  | some q => if q.add = true ∧ q.fr + q.n = k then l.dropLast ++ [⟨true, q.fr, q.n + n⟩] else l ++ [⟨true, k, n⟩]
def spl (s : St) (at_ cut : Nat) (put : List Int) : St :=
  { o := s.o, a := s.a ++ put, p := grw (prt s.p 0 at_) s.a.length put.length ++ prt s.p (at_ + cut) (tot s.p) }
theorem grw_lies {o a : List Int} {l : List Pc} (h : Lies o a l) (put : List Int) : Lies o (a ++ put) (grw l a.length put.length) := by
  unfold grw
  split
  · exact h.grow _
  · rename_i hn
    have hone : Lies o (a ++ put) [⟨true, a.length, put.length⟩] := by intro p hp; simp at hp; subst hp; simp [src]; omega
    split
    · exact (h.grow _).app hone
    · rename_i q hq
      split
      · rename_i hc
        have hd : Lies o (a ++ put) l.dropLast := fun p hp => (h.grow put) p (List.dropLast_subset l hp)
        refine hd.app ?_
        intro p hp; simp at hp; subst hp; simp [src]; omega
      · exact (h.grow _).app hone
theorem getLast_split {l : List Pc} {q : Pc} (h : l.getLast? = some q) : l = l.dropLast ++ [q] := by
  have hne : l ≠ [] := by intro e; subst e; simp at h
  have := List.dropLast_concat_getLast hne
  rw [List.getLast?_eq_some_getLast hne] at h
  simp at h; rw [h] at this; exact this.symm
theorem grw_txt {o a : List Int} {l : List Pc} (h : Lies o a l) (put : List Int) : txt o (a ++ put) (grw l a.length put.length) = txt o a l ++ put := by
  unfold grw
  split
  · rename_i hn; have : put = [] := by simpa using hn
    subst this; simp
  · rename_i hn
    have hone : txt o (a ++ put) (l ++ [⟨true, a.length, put.length⟩]) = txt o a l ++ put := by
      rw [txt_app, txt_grow h]; simp [txt, src]
    split
    · exact hone
    · rename_i q hq
      split
      · rename_i hc
        have hs := getLast_split hq
        have hl : Lies o a l.dropLast := fun p hp => h p (List.dropLast_subset l hp)
        have hq1 := h q (by rw [hs]; simp)
        simp only [src, hc.1, if_true] at hq1
        rw [txt_app, txt_grow hl]
        conv => rhs; rw [hs, txt_app]
        simp only [txt, src, hc.1, if_true, List.append_nil, List.append_assoc]
        congr 1
        rw [List.drop_append_of_le_length (by omega), List.take_append]
        simp only [List.length_drop]
        rw [show q.n + put.length - (a.length - q.fr) = put.length by omega, List.take_length]
        congr 1
        rw [List.take_of_length_le (by simp; omega), List.take_of_length_le (by simp; omega)]
      · exact hone
theorem grw_tot (l : List Pc) (k n : Nat) : tot (grw l k n) = tot l + n := by
  unfold grw
  split
  · omega
  · split
    · simp [tot_app, tot]
    · rename_i q hq
      split
      · have hs := getLast_split hq
        conv => rhs; rw [hs]
        simp [tot_app, tot]; omega
      · simp [tot_app, tot]
theorem grw_len (l : List Pc) (k n : Nat) : (grw l k n).length ≤ l.length + 1 := by
  unfold grw; repeat' split
  all_goals simp

/-- what a table keeps -/
structure Wf (s : St) : Prop where
  o : s.o.length ≤ 1000
  a : s.a.length ≤ 20000
  lies : Lies s.o s.a s.p
  tot : tot s.p ≤ 1000
theorem len_le_tot {o a : List Int} {l : List Pc} (h : Lies o a l) : l.length ≤ tot l := by
  induction l with
  | nil => simp
  | cons p l ih =>
    obtain ⟨h1, h2⟩ := h.cons
    have := ih h2
    simp only [Go.Proofs.Ytcekoifbgfeahaa.tot, List.length_cons]; omega
theorem Wf.len {s : St} (h : Wf s) : s.p.length ≤ 1000 := Nat.le_trans (len_le_tot h.lies) h.tot
theorem Wf.fr {s : St} (h : Wf s) {p : Pc} (hp : p ∈ s.p) : 1 ≤ p.n ∧ p.n ≤ 20000 ∧ p.fr ≤ 20000 ∧ p.fr + p.n ≤ 20000 := by
  have h1 := h.lies p hp
  have := h.o; have := h.a
  unfold src at h1
  split at h1 <;> omega
def fits (s : St) (at_ cut : Nat) (put : List Int) : Prop := at_ + cut ≤ tot s.p ∧ put.length + (tot s.p - cut) ≤ 1000 ∧ s.a.length + put.length ≤ 20000
theorem Wf.spl {s : St} (h : Wf s) {at_ cut : Nat} {put : List Int} (hf : fits s at_ cut put) : Wf (spl s at_ cut put) := by
  obtain ⟨h1, h2, h3⟩ := hf
  refine ⟨h.o, ?_, ?_, ?_⟩
  · simp [Go.Proofs.Ytcekoifbgfeahaa.spl]; omega
  · exact (grw_lies (prt_lies h.lies _ _) _).app ((prt_lies h.lies _ _).grow _)
  · simp only [Go.Proofs.Ytcekoifbgfeahaa.spl, tot_app, grw_tot, prt_tot h.lies]; omega
def St.t (s : St) : List Int := txt s.o s.a s.p
theorem spl_txt {s : St} (h : Wf s) (at_ cut : Nat) (put : List Int) : (spl s at_ cut put).t = s.t.take at_ ++ put ++ s.t.drop (at_ + cut) := by
  simp only [St.t, spl, txt_app]
  rw [grw_txt (prt_lies h.lies _ _), txt_grow (prt_lies h.lies _ _), prt_txt h.lies, prt_txt h.lies, List.drop_zero, List.take_of_length_le (i := tot s.p) (by rw [txt_len h.lies]; exact Nat.le_refl _)]
theorem spl_tot {s : St} (h : Wf s) {at_ cut : Nat} {put : List Int} (hf : fits s at_ cut put) : tot (spl s at_ cut put).p = tot s.p - cut + put.length := by
  simp only [spl, tot_app, grw_tot, prt_tot h.lies]
  have := hf.1
  omega
end Go.Proofs.Ytcekoifbgfeahaa
