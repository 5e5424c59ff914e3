/- Tokens of a snippet as plain lists (layer 13): kinds of signs, where a token ends, all tokens of a text; what is true of them. -/
import Derived.Test.YtefgjicegbhcaaaRow
import Derived.Test.YtefgjicegbhcaaaSignsL
namespace Go.Proofs.Ytefgjicegbhcaaa
open Go.RowKit

/-- a token -/
structure Tk where
  kd : Int
  fr : Nat
  to : Nat
deriving DecidableEq
instance : Inhabited Tk := ⟨⟨0, 0, 0⟩⟩

def mrk (r : Int) : Bool := decide (r = 36 ∨ r = 123 ∨ r = 125 ∨ r = 58 ∨ r = 124 ∨ r = 44 ∨ r = 47 ∨ r = 92)
def bgn (r : Int) : Bool := decide ((97 ≤ r ∧ r ≤ 122) ∨ (65 ≤ r ∧ r ≤ 90) ∨ r = 95)
def dgi (r : Int) : Bool := decide (48 ≤ r ∧ r ≤ 57)
def gos (r : Int) : Bool := decide ((97 ≤ r ∧ r ≤ 122) ∨ (65 ≤ r ∧ r ≤ 90) ∨ r = 95 ∨ (48 ≤ r ∧ r ≤ 57))
/-- the kind of the token that begins with a sign -/
def kno (r : Int) : Int := if dgi r = true then 1 else if bgn r = true then 2 else if mrk r = true then r else 0
/-- does a token of this kind go on with a sign? -/
def tke (k r : Int) : Bool := if k = 2 then gos r else if k = 1 then dgi r else if k = 0 then !mrk r && !gos r else false
theorem kno_cases (r : Int) : (kno r = 1 ∧ dgi r = true) ∨ (kno r = 2 ∧ bgn r = true) ∨ (kno r = r ∧ mrk r = true) ∨ (kno r = 0 ∧ mrk r = false ∧ gos r = false) := by
  unfold kno
  by_cases h1 : dgi r = true
  · rw [if_pos h1]; exact .inl ⟨rfl, h1⟩
  · rw [if_neg h1]
    by_cases h2 : bgn r = true
    · rw [if_pos h2]; exact .inr (.inl ⟨rfl, h2⟩)
    · rw [if_neg h2]
      by_cases h3 : mrk r = true
      · rw [if_pos h3]; exact .inr (.inr (.inl ⟨rfl, h3⟩))
      · rw [if_neg h3]
        refine .inr (.inr (.inr ⟨rfl, by simpa using h3, ?_⟩))
        simp only [dgi, bgn, decide_eq_true_eq] at h1 h2
        simp only [gos, decide_eq_false_iff_not]
        omega
theorem mrk_ge {r : Int} (h : mrk r = true) : 36 ≤ r ∧ r ≤ 125 := by simp only [mrk, decide_eq_true_eq] at h; omega
theorem tke_mrk {k r : Int} (h : mrk r = true) : tke k r = false := by
  simp only [mrk, decide_eq_true_eq] at h
  unfold tke
  split
  · simp only [gos, decide_eq_false_iff_not]; omega
  split
  · simp only [dgi, decide_eq_false_iff_not]; omega
  split
  · have : mrk r = true := by simp only [mrk, decide_eq_true_eq]; exact h
    rw [this]; rfl
  · rfl
theorem tke_big {k : Int} (r : Int) (h : 2 < k) : tke k r = false := by
  unfold tke; rw [if_neg (by omega), if_neg (by omega), if_neg (by omega)]
/-- a token of a kind below 3 goes on with whatever begins one of its kind -/
theorem tke_self {k r : Int} (hk : k ≤ 2) (h : kno r = k) : tke k r = true := by
  rcases kno_cases r with ⟨h1, h2⟩ | ⟨h1, h2⟩ | ⟨h1, h2⟩ | ⟨h1, h2, h3⟩
  · rw [h] at h1; subst h1; unfold tke; rw [if_neg (by decide), if_pos rfl]; exact h2
  · rw [h] at h1; subst h1; unfold tke; rw [if_pos rfl]
    simp only [bgn, decide_eq_true_eq] at h2
    simp only [gos, decide_eq_true_eq]; omega
  · have := mrk_ge h2; omega
  · rw [h] at h1; subst h1; unfold tke; rw [if_neg (by decide), if_neg (by decide), if_pos rfl, h2, h3]; rfl
theorem kno_nn (r : Int) : 0 ≤ kno r := by
  rcases kno_cases r with ⟨h1, _⟩ | ⟨h1, _⟩ | ⟨h1, h2⟩ | ⟨h1, _⟩
  · omega
  · omega
  · have := mrk_ge h2; omega
  · omega
theorem kno_hi {r : Int} (h : 2 < kno r) : kno r = r ∧ mrk r = true := by
  rcases kno_cases r with ⟨h1, _⟩ | ⟨h1, _⟩ | ⟨h1, h2⟩ | ⟨h1, _⟩
  · omega
  · omega
  · exact ⟨h1, h2⟩
  · omega
theorem kno_mrk {r : Int} (h : mrk r = true) : kno r = r := by
  have h0 := h
  simp only [mrk, decide_eq_true_eq] at h0
  unfold kno
  rw [if_neg (by simp only [dgi, decide_eq_true_eq]; omega), if_neg (by simp only [bgn, decide_eq_true_eq]; omega), if_pos h]

/-- how many signs more a token of a kind takes -/
def ext (k : Int) : List Int → Nat
  | [] => 0
  | x :: l => if tke k x = true then ext k l + 1 else 0
theorem ext_le (k : Int) (l : List Int) : ext k l ≤ l.length := by
  induction l with
  | nil => simp [ext]
  | cons x l ih => simp only [ext]; split <;> simp <;> omega
def stp (k : Int) (l : List Int) (t : Nat) : Nat := t + ext k (l.drop t)
theorem stp_ge (k : Int) (l : List Int) (t : Nat) : t ≤ stp k l t := Nat.le_add_right _ _
theorem stp_le (k : Int) (l : List Int) (t : Nat) (h : t ≤ l.length) : stp k l t ≤ l.length := by
  have := ext_le k (l.drop t)
  simp only [List.length_drop] at this
  unfold stp; omega
theorem stp_go {k : Int} {l : List Int} {t : Nat} (h : t < l.length) (hk : tke k (gt l t) = true) : stp k l t = stp k l (t + 1) := by
  unfold stp; rw [drop_cons h]; simp only [ext, hk, if_true]; omega
theorem stp_no {k : Int} {l : List Int} {t : Nat} (h : t < l.length) (hk : tke k (gt l t) = false) : stp k l t = t := by
  unfold stp; rw [drop_cons h]; simp [ext, hk]
theorem stp_end {k : Int} {l : List Int} {t : Nat} (h : l.length ≤ t) : stp k l t = t := by
  unfold stp; rw [List.drop_of_length_le h]; simp [ext]
/-- what stands at a token's end does not go on with it -/
theorem stp_out {k : Int} {l : List Int} : ∀ (n t : Nat), l.length - t = n → stp k l t < l.length → tke k (gt l (stp k l t)) = false := by
  intro n
  induction n with
  | zero => intro t h hs; have := stp_ge k l t; omega
  | succ n ih =>
    intro t h hs
    have ht : t < l.length := by omega
    cases hk : tke k (gt l t) with
    | true => rw [stp_go ht hk] at hs ⊢; exact ih (t + 1) (by omega) hs
    | false => rw [stp_no ht hk]; exact hk

/-- the end of the token that begins at a place -/
def nxt (l : List Int) (t : Nat) : Nat := stp (kno (gt l t)) l (t + 1)
theorem nxt_gt (l : List Int) (t : Nat) : t < nxt l t := stp_ge _ _ _
theorem nxt_le {l : List Int} {t : Nat} (h : t < l.length) : nxt l t ≤ l.length := stp_le _ _ _ h

def tksA (l : List Int) : Nat → Nat → List Tk
  | 0, _ => []
  | f + 1, t => if t < l.length then ⟨kno (gt l t), t, nxt l t⟩ :: tksA l f (nxt l t) else []
theorem tksA_fuel (l : List Int) : ∀ (n t f g : Nat), l.length - t = n → l.length - t ≤ f → l.length - t ≤ g → tksA l f t = tksA l g t := by
  intro n
  induction n using Nat.strongRecOn with
  | _ n ih =>
    intro t f g hn hf hg
    by_cases ht : t < l.length
    · obtain ⟨f, rfl⟩ : ∃ k, f = k + 1 := ⟨f - 1, by omega⟩
      obtain ⟨g, rfl⟩ : ∃ k, g = k + 1 := ⟨g - 1, by omega⟩
      have h1 := nxt_gt l t
      simp only [tksA, if_pos ht]
      rw [ih (l.length - nxt l t) (by omega) (nxt l t) f g rfl (by omega) (by omega)]
    · have h1 : ∀ k, tksA l k t = [] := fun k => by cases k <;> simp [tksA, ht]
      rw [h1, h1]
/-- the tokens from a place on -/
def tkr (l : List Int) (t : Nat) : List Tk := tksA l l.length t
def toks (l : List Int) : List Tk := tkr l 0
theorem tkr_go {l : List Int} {t : Nat} (h : t < l.length) : tkr l t = ⟨kno (gt l t), t, nxt l t⟩ :: tkr l (nxt l t) := by
  unfold tkr
  have h1 := nxt_gt l t
  rw [tksA_fuel l _ t l.length (l.length + 1) rfl (by omega) (by omega)]
  simp only [tksA, if_pos h]
theorem tkr_end {l : List Int} {t : Nat} (h : l.length ≤ t) : tkr l t = [] := by
  unfold tkr; cases hl : l.length <;> simp [tksA]; omega
theorem tkr_len (l : List Int) : ∀ (n t : Nat), l.length - t = n → (tkr l t).length ≤ n := by
  intro n
  induction n using Nat.strongRecOn with
  | _ n ih =>
    intro t hn
    by_cases ht : t < l.length
    · rw [tkr_go ht, List.length_cons]
      have h1 := nxt_gt l t
      have := ih (l.length - nxt l t) (by omega) (nxt l t) rfl
      omega
    · rw [tkr_end (by omega)]; simp
theorem toks_len (l : List Int) : (toks l).length ≤ l.length := tkr_len l _ 0 (by omega)

/-- the first element that is no sign -/
def fsn : List Int → Nat
  | [] => 0
  | x :: l => if sgn x = true then fsn l + 1 else 0
theorem fsn_at {l : List Int} : ∀ {k : Nat}, k < l.length → may (l.take k) = true → sgn (gt l k) = false → fsn l = k := by
  induction l with
  | nil => intro k h; simp at h
  | cons x l ih =>
    intro k hk hm hs
    cases k with
    | zero => simp only [fsn]; rw [if_neg (by simpa [gt] using hs)]
    | succ k =>
      simp only [List.take_succ_cons, may, List.all_cons, Bool.and_eq_true] at hm
      simp only [fsn, hm.1, if_true]
      rw [ih (by simpa using hk) hm.2 (by simpa [gt] using hs)]

/-! ## what is true of the tokens -/
/-- one behind the other, none empty, to the end; what kinds they have; pk: the kind of the one ahead -/
def Cov (l : List Int) : Nat → Int → List Tk → Prop
  | t, _, [] => t = l.length
  | t, pk, x :: L => x.fr = t ∧ t < x.to ∧ x.to ≤ l.length ∧ 0 ≤ x.kd ∧ (2 < x.kd → x.to = t + 1 ∧ x.kd = gt l t) ∧ (x.kd ≤ 2 → x.kd ≠ pk) ∧ Cov l x.to x.kd L
theorem tkr_cov (l : List Int) : ∀ (n t : Nat) (pk : Int), l.length - t = n → t ≤ l.length → (t < l.length → pk ≤ 2 → kno (gt l t) ≠ pk) → Cov l t pk (tkr l t) := by
  intro n
  induction n using Nat.strongRecOn with
  | _ n ih =>
    intro t pk hn hle hpk
    by_cases ht : t < l.length
    · rw [tkr_go ht]
      have h1 := nxt_gt l t
      have h2 := nxt_le ht
      refine ⟨rfl, h1, h2, kno_nn _, fun h => ?_, fun h => ?_, ih (l.length - nxt l t) (by omega) (nxt l t) _ rfl h2 fun h3 h4 h5 => ?_⟩
      · refine ⟨?_, (kno_hi h).1⟩
        show stp (kno (gt l t)) l (t + 1) = t + 1
        by_cases h3 : t + 1 < l.length
        · exact stp_no h3 (tke_big _ h)
        · exact stp_end (by omega)
      · by_cases hp : pk ≤ 2
        · exact hpk ht hp
        · intro e; have e' : kno (gt l t) = pk := e; have h' : kno (gt l t) ≤ 2 := h; omega
      · have h6 := stp_out (k := kno (gt l t)) (l := l) _ (t + 1) rfl h3
        have h7 := tke_self (k := kno (gt l t)) h4 h5
        have h8 : gt l (nxt l t) = gt l (stp (kno (gt l t)) l (t + 1)) := rfl
        rw [h8, h6] at h7; cases h7
    · rw [tkr_end (by omega)]; show t = l.length; omega
theorem toks_cov (l : List Int) : Cov l 0 (-1) (toks l) := tkr_cov l _ 0 (-1) rfl (Nat.zero_le _) fun _ _ h => by have := kno_nn (gt l 0); omega

/-! ## two texts with a sign between -/
theorem stp_left {a b : List Int} {r : Int} (hr : mrk r = true) (k : Int) : ∀ (n t : Nat), a.length - t = n → t ≤ a.length → stp k (a ++ r :: b) t = stp k a t := by
  intro n
  induction n with
  | zero =>
    intro t hn ht
    have e : t = a.length := by omega
    subst e
    rw [stp_end (Nat.le_refl _)]
    refine stp_no (by simp) ?_
    rw [gt_app_right (Nat.le_refl _)]
    simp only [Nat.sub_self]
    exact tke_mrk (by simpa [gt] using hr)
  | succ n ih =>
    intro t hn ht
    have h1 : t < a.length := by omega
    have h2 : t < (a ++ r :: b).length := by simp; omega
    have e : gt (a ++ r :: b) t = gt a t := gt_app_left h1
    cases hk : tke k (gt a t) with
    | true => rw [stp_go h1 hk, stp_go h2 (by rw [e]; exact hk)]; exact ih (t + 1) (by omega) (by omega)
    | false => rw [stp_no h1 hk, stp_no h2 (by rw [e]; exact hk)]
theorem nxt_left {a b : List Int} {r : Int} (hr : mrk r = true) {t : Nat} (h : t < a.length) : nxt (a ++ r :: b) t = nxt a t := by
  unfold nxt
  rw [gt_app_left h]
  exact stp_left hr _ _ (t + 1) rfl h
theorem tkr_left {a b : List Int} {r : Int} (hr : mrk r = true) : ∀ (n t : Nat), a.length - t = n → t ≤ a.length → tkr (a ++ r :: b) t = tkr a t ++ tkr (a ++ r :: b) a.length := by
  intro n
  induction n using Nat.strongRecOn with
  | _ n ih =>
    intro t hn ht
    by_cases h : t < a.length
    · have h2 : t < (a ++ r :: b).length := by simp; omega
      have h1 := nxt_gt a t
      rw [tkr_go h, tkr_go h2, gt_app_left h, nxt_left hr h, List.cons_append, ih _ (by omega) (nxt a t) rfl (nxt_le h)]
    · have e : t = a.length := by omega
      subst e
      rw [tkr_end (l := a) (Nat.le_refl _)]; rfl
def Tk.by (n : Nat) (x : Tk) : Tk := ⟨x.kd, x.fr + n, x.to + n⟩
theorem stp_right (c b : List Int) (k : Int) : ∀ (n t : Nat), b.length - t = n → stp k (c ++ b) (c.length + t) = c.length + stp k b t := by
  intro n t _
  unfold stp
  rw [show (c ++ b).drop (c.length + t) = b.drop t by rw [List.drop_append]; simp]
  omega
theorem gt_right (c b : List Int) (t : Nat) : gt (c ++ b) (c.length + t) = gt b t := by
  rw [gt_app_right (by omega)]; congr 1; omega
theorem tkr_right (c b : List Int) : ∀ (n t : Nat), b.length - t = n → tkr (c ++ b) (c.length + t) = (tkr b t).map (Tk.by c.length) := by
  intro n
  induction n using Nat.strongRecOn with
  | _ n ih =>
    intro t hn
    by_cases h : t < b.length
    · have h2 : c.length + t < (c ++ b).length := by simp; omega
      have e : nxt (c ++ b) (c.length + t) = c.length + nxt b t := by
        unfold nxt; rw [gt_right, show c.length + t + 1 = c.length + (t + 1) by omega, stp_right c b _ _ (t + 1) rfl]
      have h1 := nxt_gt b t
      rw [tkr_go h, tkr_go h2, e, gt_right, List.map_cons, ih _ (by omega) (nxt b t) rfl]
      simp only [Tk.by, List.cons.injEq, and_true, Tk.mk.injEq, true_and]
      omega
    · rw [tkr_end (by simp; omega), tkr_end (by omega)]; rfl
theorem toks_mid {a b : List Int} {r : Int} (hr : mrk r = true) : toks (a ++ r :: b) = toks a ++ ⟨r, a.length, a.length + 1⟩ :: (toks b).map (Tk.by (a.length + 1)) := by
  unfold toks
  rw [tkr_left hr _ 0 rfl (Nat.zero_le _)]
  have h : a.length < (a ++ r :: b).length := by simp
  have e1 : gt (a ++ r :: b) a.length = r := by rw [gt_app_right (Nat.le_refl _)]; simp [gt]
  have e2 : nxt (a ++ r :: b) a.length = a.length + 1 := by
    unfold nxt; rw [e1]
    by_cases h3 : a.length + 1 < (a ++ r :: b).length
    · exact stp_no h3 (tke_big _ (by rw [kno_mrk hr]; have := mrk_ge hr; omega))
    · exact stp_end (by omega)
  rw [tkr_go h, e1, e2, kno_mrk hr]
  have e3 := tkr_right (a ++ [r]) b _ 0 rfl
  simp only [List.append_assoc, List.singleton_append, List.length_append, List.length_singleton, Nat.add_zero] at e3
  rw [e3]
end Go.Proofs.Ytefgjicegbhcaaa
