/- Layer 3's law: PieceTyped. -/
import Derived.Test.YtogodddkbnkeiaaLv
namespace Go.Proofs.Ytogodddkbnkeiaa
open Go.RowKit

theorem prt_full {l : List Pc} (h : ∀ p ∈ l, 1 ≤ p.n) (t : Nat) (ht : tot l ≤ t) : prt l 0 t = l := by
  induction l generalizing t with
  | nil => rfl
  | cons p l ih =>
    have hp := h p (by simp)
    simp only [tot] at ht
    simp only [prt, Nat.zero_sub]
    rw [ih (fun q hq => h q (by simp [hq])) (t - p.n) (by omega), if_pos (by omega), Nat.min_eq_right (by omega)]
    simp
theorem prt_none (l : List Pc) (f t : Nat) (hf : tot l ≤ f) : prt l f t = [] := by
  induction l generalizing f t with
  | nil => rfl
  | cons p l ih =>
    simp only [tot] at hf
    simp only [prt]
    rw [ih (f - p.n) (t - p.n) (by omega), if_neg (by omega)]; rfl
theorem prt_zero (l : List Pc) (f : Nat) : prt l f 0 = [] := by
  induction l generalizing f with
  | nil => rfl
  | cons p l ih =>
    simp only [prt, Nat.zero_sub, ih]
    rw [if_neg (by omega)]; rfl
theorem st0_tot (l : List Int) : tot (st0 l).p = l.length := by
  by_cases he : l = []
  · simp [st0, he, tot]
  · simp [st0, he, tot]
theorem st0_len (l : List Int) : (st0 l).p.length ≤ 1 := by
  by_cases he : l = [] <;> simp [st0, he]
theorem st0_add {l : List Int} : ∀ p ∈ (st0 l).p, p.add = false := by
  intro p hp
  by_cases he : l = []
  · simp [st0, he] at hp
  · simp [st0, he] at hp; subst hp; rfl
theorem prt_add {l : List Pc} (h : ∀ p ∈ l, p.add = false) (f t : Nat) : ∀ p ∈ prt l f t, p.add = false := by
  induction l generalizing f t with
  | nil => intro p hp; simp [prt] at hp
  | cons q l ih =>
    intro p hp
    simp only [prt, List.mem_append] at hp
    rcases hp with hp | hp
    · split at hp
      · simp at hp; subst hp; exact h q (by simp)
      · simp at hp
    · exact ih (fun r hr => h r (by simp [hr])) _ _ p hp
/-- a word typed into a text of one piece -/
def typ (s : List Int) (a : Nat) (v : List Int) : St := ⟨s, v, prt (st0 s).p 0 a ++ ([⟨true, 0, v.length⟩] ++ prt (st0 s).p a s.length)⟩
section
variable {s : List Int} (hs : s.length ≤ 1000) {a : Nat} (ha : a ≤ s.length)
include hs ha
theorem typ_pre : tot (prt (st0 s).p 0 a) = a ∧ (∀ p ∈ prt (st0 s).p 0 a, 1 ≤ p.n) := by
  have hl := (st0_wf hs).lies
  refine ⟨?_, fun p hp => (prt_lies hl 0 a p hp).1⟩
  have := prt_tot hl 0 a
  rw [st0_tot] at this; omega
theorem typ_suf : tot (prt (st0 s).p a s.length) = s.length - a ∧ (∀ p ∈ prt (st0 s).p a s.length, 1 ≤ p.n) := by
  have hl := (st0_wf hs).lies
  refine ⟨?_, fun p hp => (prt_lies hl a s.length p hp).1⟩
  have := prt_tot hl a s.length
  rw [st0_tot] at this; omega
omit hs ha in
theorem typ_first (x : Int) : spl (st0 s) a 0 [x] = typ s a [x] := by
  have e1 : (st0 s).a = [] := rfl
  have e2 : (st0 s).o = s := rfl
  simp only [spl, typ, e1, e2, List.nil_append, List.length_nil, Nat.add_zero, st0_tot]
  congr 1
  rw [← List.append_assoc]
  congr 1
  unfold grw
  rw [if_neg (by simp)]
  split
  · rfl
  · rename_i q hq
    have hq2 : q.add = false := prt_add st0_add 0 a q (List.mem_of_getLast? hq)
    rw [if_neg (by simp [hq2])]
theorem typ_part0 {v : List Int} (hv : v ≠ []) : prt (typ s a v).p 0 (a + v.length) = prt (st0 s).p 0 a ++ [⟨true, 0, v.length⟩] := by
  have hn : 0 < v.length := by rcases v with _ | ⟨x, r⟩; exact absurd rfl hv; simp
  obtain ⟨p1, p2⟩ := typ_pre hs ha
  simp only [typ]
  rw [prt_app, prt_app, prt_full p2 _ (by omega), p1]
  have e : prt [⟨true, 0, v.length⟩] (0 - a) (a + v.length - a) = [⟨true, 0, v.length⟩] := by
    rw [Nat.zero_sub]; exact prt_full (by intro p hp; simp at hp; subst hp; exact hn) _ (by simp [tot] <;> omega)
  rw [e]
  have e2 : a + v.length - a - tot [(⟨true, 0, v.length⟩ : Pc)] = 0 := by simp [tot] <;> omega
  rw [e2, prt_zero, List.append_nil]
theorem typ_part1 (v : List Int) : prt (typ s a v).p (a + v.length) (tot (typ s a v).p) = prt (st0 s).p a s.length := by
  obtain ⟨p1, p2⟩ := typ_pre hs ha
  obtain ⟨q1, q2⟩ := typ_suf hs ha
  have ht : tot (typ s a v).p = a + (v.length + (s.length - a)) := by simp [typ, tot_app, tot, p1, q1]
  rw [ht]
  simp only [typ]
  rw [prt_app, prt_app, prt_none _ _ _ (by omega), prt_none _ _ _ (by simp [tot, p1]), p1, List.nil_append, List.nil_append]
  have e2 : a + v.length - a - tot [(⟨true, 0, v.length⟩ : Pc)] = 0 := by simp [tot] <;> omega
  have e3 : a + (v.length + (s.length - a)) - a - tot [(⟨true, 0, v.length⟩ : Pc)] = s.length - a := by simp [tot] <;> omega
  rw [e2, e3, prt_full q2 _ (by omega)]
theorem typ_next {v : List Int} (hv : v ≠ []) (x : Int) : spl (typ s a v) (a + v.length) 0 [x] = typ s a (v ++ [x]) := by
  simp only [spl, Nat.add_zero]
  rw [typ_part0 hs ha hv, typ_part1 hs ha v]
  have e1 : (typ s a v).a = v := rfl
  have e2 : (typ s a v).o = s := rfl
  have hl : (prt (st0 s).p 0 a ++ [(⟨true, 0, v.length⟩ : Pc)]).length = (prt (st0 s).p 0 a).length + 1 := by simp
  have hpg : pg (prt (st0 s).p 0 a ++ [(⟨true, 0, v.length⟩ : Pc)]) (prt (st0 s).p 0 a).length = ⟨true, 0, v.length⟩ := by simp [pg]
  rw [e1, e2, grw_last hl _ _ (by simp), hpg, if_pos ⟨rfl, by simp⟩]
  simp [typ]
theorem typ_cut (v : List Int) (hv : v ≠ []) : spl (typ s a v) a v.length [] = ⟨s, v, prt (st0 s).p 0 a ++ prt (st0 s).p a s.length⟩ := by
  obtain ⟨p1, p2⟩ := typ_pre hs ha
  have e0 : prt (typ s a v).p 0 a = prt (st0 s).p 0 a := by
    simp only [typ]
    rw [prt_app, prt_full p2 _ (by omega), p1, Nat.sub_self, prt_zero, List.append_nil]
  simp only [spl]
  rw [e0, typ_part1 hs ha v]
  simp [typ, grw]
theorem typ_tot (v : List Int) : tot (typ s a v).p = s.length + v.length := by
  obtain ⟨p1, _⟩ := typ_pre hs ha
  obtain ⟨q1, _⟩ := typ_suf hs ha
  simp [typ, tot_app, tot, p1, q1]; omega
end
/-- how many added pieces, and how long the last one -/
def cm (l : List Pc) : Nat × Nat := l.foldl (fun s p => if p.add = true then (s.1 + 1, p.n) else s) (0, 0)
theorem cm_snoc_yes (l : List Pc) (p : Pc) (h : p.add = true) : cm (l ++ [p]) = ((cm l).1 + 1, p.n) := by simp [cm, List.foldl_append, h]
theorem cm_snoc_no (l : List Pc) (p : Pc) (h : p.add = false) : cm (l ++ [p]) = cm l := by simp [cm, List.foldl_append, h]
theorem fold_no {l : List Pc} (h : ∀ p ∈ l, p.add = false) (z : Nat × Nat) : l.foldl (fun s p => if p.add = true then (s.1 + 1, p.n) else s) z = z := by
  induction l generalizing z with
  | nil => rfl
  | cons p l ih =>
    rw [List.foldl_cons, if_neg (by simp [h p (by simp)]), ih (fun q hq => h q (by simp [hq]))]
theorem cm_st0 (s : List Int) : cm (st0 s).p = (0, 0) := fold_no st0_add _
theorem cm_typ (s : List Int) (a : Nat) (v : List Int) : cm (typ s a v).p = (1, v.length) := by
  simp only [cm, typ, List.foldl_append, List.foldl_cons, List.foldl_nil]
  rw [fold_no (prt_add st0_add 0 a)]
  exact fold_no (prt_add st0_add a s.length) (1, v.length)
/-- a part of a slice, and the block it lies in -/
theorem slice_mid_at {w : World} {a : Option Addr} {l : List Int} (h : Sl w a l) (n m c : Nat) (hnm : n ≤ m) (hm : m ≤ l.length) (hlc : l.length ≤ c) :
    ∃ a' c' D, Hid (D = (l.take m).drop n) ∧ Sl w a' D ∧ D.length ≤ c' ∧ (∀ ad, a' = some ad → ∃ ae, a = some ae ∧ ae.block = ad.block) ∧ ∀ w', (Instr.slice 22 (.slice a l.length c) (some (.int .i64 n)) (some (.int .i64 m)) none).run Try.prog w' = .ok (.slice a' D.length c') w' := by
  refine ⟨_, c - n, _, rfl, h.cut n m c hnm hm hlc, by simp; omega, ?_, fun w' => ?_⟩
  · intro ad had
    split at had
    · exact ⟨ad, had, rfl⟩
    · cases a with
      | none => cases had
      | some ae =>
        simp only [Option.map_some, Option.some.injEq] at had
        refine ⟨ae, rfl, ?_⟩
        rw [← had]; unfold Addr.add; split <;> rfl
  · rw [run_slice_lh _ _ _ _ _ Try.elemIs32 .i64 .i64 n m (by omega) (by omega) (by omega)]
    simp [Try.sizeIs32, Result.andThen, sliced, Nat.min_eq_left hm]
end Go.Proofs.Ytogodddkbnkeiaa
