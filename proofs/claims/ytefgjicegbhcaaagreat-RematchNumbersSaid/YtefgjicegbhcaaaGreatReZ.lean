/- Layer 8, lists: a repeat and an atom by places (reps_ix, atomP). -/
import Derived.Test.YtefgjicegbhcaaaGreatReY
namespace Go.Proofs.YtefgjicegbhcaaaGreat
open Go.RowKit ReM

def finI (p : List Int) (a : List Rn) (g : Nat) (lo hi : Int) (j : Nat) : Rg :=
  if nx p j = 63 then .ok (nRep lo hi true :: lower a) (p.drop (j + 1)) g else .ok (nRep lo hi false :: lower a) (p.drop j) g
def repsI (p : List Int) (a : List Rn) (g : Nat) (j : Nat) : Rg :=
  if nx p j = 43 then finI p a g 1 (-1) (j + 1)
  else if nx p j = 42 then finI p a g 0 (-1) (j + 1)
  else if nx p j = 63 then finI p a g 0 1 (j + 1)
  else if nx p j = 123 then match timesI p j with
    | .ok lo hi j' => finI p a g lo hi j'
    | .bad k => .bad 5 k
  else .ok a (p.drop j) g
theorem fin_is (p : List Int) (a : List Rn) (g : Nat) (lo hi : Int) (j : Nat) :
    (match p.drop j with | 63 :: s2 => Rg.ok (nRep lo hi true :: lower a) s2 g | _ => .ok (nRep lo hi false :: lower a) (p.drop j) g) = finI p a g lo hi j := by
  unfold finI
  rcases Nat.lt_or_ge j p.length with hj | hj
  · rw [drop_nx hj]
    by_cases h : nx p j = 63
    · rw [if_pos h, h]; rfl
    · rw [if_neg h]
      split
      · rename_i hh; exact absurd (List.cons.inj hh).1 h
      · rfl
  · rw [drop_end hj, if_neg (by rw [nx_end hj]; decide)]
theorem reps_ix (p : List Int) (a : List Rn) (g : Nat) (j : Nat) : reps p.length a (p.drop j) g = repsI p a g j := by
  unfold repsI
  rcases Nat.lt_or_ge j p.length with hj | hj
  · have ht := times_ix p j hj
    rw [drop_nx hj] at ht ⊢
    by_cases h1 : nx p j = 43
    · rw [if_pos h1, h1, ← fin_is]; rfl
    rw [if_neg h1]
    by_cases h2 : nx p j = 42
    · rw [if_pos h2, h2, ← fin_is]; rfl
    rw [if_neg h2]
    by_cases h3 : nx p j = 63
    · rw [if_pos h3, h3, ← fin_is]; rfl
    rw [if_neg h3]
    by_cases h4 : nx p j = 123
    · rw [if_pos h4, h4]
      rw [h4] at ht
      have e : reps p.length a (123 :: p.drop (j + 1)) g = (match times p.length (123 :: p.drop (j + 1)) with
          | .ok lo hi s1 => (match s1 with | 63 :: s2 => Rg.ok (nRep lo hi true :: lower a) s2 g | _ => .ok (nRep lo hi false :: lower a) s1 g)
          | .bad i => .bad 5 i) := rfl
      rw [e]
      cases hT : times p.length (123 :: p.drop (j + 1)) with
      | bad i =>
        rw [hT] at ht
        cases hI : timesI p j with
        | bad k => rw [hI] at ht; simp only [RtI] at ht; rw [ht.1]
        | ok _ _ _ => rw [hI] at ht; exact ht.elim
      | ok lo hi s =>
        rw [hT] at ht
        cases hI : timesI p j with
        | bad k => rw [hI] at ht; exact ht.elim
        | ok lo' hi' j' =>
          rw [hI] at ht
          obtain ⟨rfl, rfl, rfl, _⟩ := ht
          exact fin_is _ _ _ _ _ _
    rw [if_neg h4]
    unfold reps
    dsimp only
    split
    · rename_i hh; exact absurd (List.cons.inj hh).1 h2
    · rename_i hh; exact absurd (List.cons.inj hh).1 h1
    · rename_i hh; exact absurd (List.cons.inj hh).1 h3
    · rename_i hh; exact absurd (List.cons.inj hh).1 h4
    · rfl
  · rw [drop_end hj]
    have : nx p j = -1 := nx_end hj
    rw [if_neg (by rw [this]; decide), if_neg (by rw [this]; decide), if_neg (by rw [this]; decide), if_neg (by rw [this]; decide)]
    rfl
theorem times_at {p : List Int} {i j : Nat} {lo hi : Int} (h : timesI p i = .ok lo hi j) (hi' : i < p.length) : i < j ∧ j ≤ p.length := by
  have ht := times_ix p i hi'
  rw [h] at ht
  cases hT : times p.length (p.drop i) with
  | bad k => rw [hT] at ht; exact ht.elim
  | ok lo' hi'' s =>
    rw [hT] at ht
    obtain ⟨_, _, rfl, h2⟩ := ht
    have := times_len hT
    simp only [List.length_drop] at this
    omega
end Go.Proofs.YtefgjicegbhcaaaGreat
