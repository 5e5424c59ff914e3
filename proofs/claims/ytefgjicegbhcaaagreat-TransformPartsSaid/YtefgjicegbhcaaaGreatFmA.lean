/- The document's formats as plain functions on lists: parts, a scan, what may be, what is printed; what is printed is scanned as it was. Formats as plain lists: what is printed is scanned as it was; what is scanned may be. -/
import Derived.Test.YtefgjicegbhcaaaGreatSignsM
namespace Go.Proofs.YtefgjicegbhcaaaGreat
open Go.RowKit
namespace FmM
structure Fp where
  kind : Int
  grp : Int
  how : Int
  text : List Int
  els : List Int
deriving Inhabited
def escO (c : Int) : Bool := c == 92 || c == 36 || c == 125 || c == 47
def escI (c : Int) : Bool := escO c || c == 58
def esc (i : Bool) (c : Int) : Bool := escO c || (i && c == 58)
def hd (l : List Int) (k : Nat) : Int := l.getD k (-1)
def dig (c : Int) : Bool := decide (48 ≤ c ∧ c ≤ 57)
/-- a text inside a part, up to what ends it -/
def words (stop : Int) : List Int → Option (List Int × List Int)
  | [] => none
  | [c] => if c = stop then some ([], []) else none
  | c :: d :: r => if c = stop then some ([], d :: r)
    else if c = 92 ∧ escI d = true then (words stop r).map (fun x => (d :: x.1, x.2))
    else (words stop (d :: r)).map (fun x => (c :: x.1, x.2))
def number (l : List Int) : Option (Int × List Int) :=
  if dig (hd l 0) = true then
    if dig (hd l 1) = true then
      if dig (hd l 2) = true then none else some (10 * (hd l 0 - 48) + (hd l 1 - 48), l.drop 2)
    else some (hd l 0 - 48, l.drop 1)
  else none
def name (how : Nat) : List Int := match how with
  | 1 => [117, 112, 99, 97, 115, 101]
  | 2 => [100, 111, 119, 110, 99, 97, 115, 101]
  | 3 => [99, 97, 112, 105, 116, 97, 108, 105, 122, 101]
  | 4 => [112, 97, 115, 99, 97, 108, 99, 97, 115, 101]
  | 5 => [99, 97, 109, 101, 108, 99, 97, 115, 101]
  | _ => []
def isPre (a l : List Int) : Bool := decide (l.take a.length = a)
def caseN (n : Int) (l : List Int) : Option (Fp × List Int) :=
  if isPre (name 1 ++ [125]) l then some (⟨1, n, 1, [], []⟩, l.drop 7)
  else if isPre (name 2 ++ [125]) l then some (⟨1, n, 2, [], []⟩, l.drop 9)
  else if isPre (name 3 ++ [125]) l then some (⟨1, n, 3, [], []⟩, l.drop 11)
  else if isPre (name 4 ++ [125]) l then some (⟨1, n, 4, [], []⟩, l.drop 11)
  else if isPre (name 5 ++ [125]) l then some (⟨1, n, 5, [], []⟩, l.drop 10)
  else none
/-- behind the number and the : of a part -/
def choice (n : Int) (l : List Int) : Option (Fp × List Int) :=
  if hd l 0 = 47 then caseN n (l.drop 1)
  else if hd l 0 = 43 then (words 125 (l.drop 1)).map fun x => (⟨2, n, 0, x.1, []⟩, x.2)
  else if hd l 0 = 63 then (words 58 (l.drop 1)).bind fun x => (words 125 x.2).map fun y => (⟨4, n, 0, x.1, y.1⟩, y.2)
  else if hd l 0 = 45 then (words 125 (l.drop 1)).map fun x => (⟨3, n, 0, [], x.1⟩, x.2)
  else (words 125 l).map fun x => (⟨3, n, 0, [], x.1⟩, x.2)
/-- a part, behind its $ -/
def part (l : List Int) : Option (Fp × List Int) :=
  match number l with
  | some x => some (⟨1, x.1, 0, [], []⟩, x.2)
  | none => if hd l 0 = 123 then
      match number (l.drop 1) with
      | none => none
      | some x => if hd x.2 0 = 125 then some (⟨1, x.1, 0, [], []⟩, x.2.drop 1)
        else if hd x.2 0 = 58 then choice x.1 (x.2.drop 1) else none
    else none
/-- parts, and text behind them -/
def wt (acc : List Fp) (txt : List Int) : List Fp := if txt = [] then acc else acc ++ [⟨0, 0, 0, txt, []⟩]
def scanK : Nat → List Fp → List Int → List Int → Option (List Fp × List Int)
  | 0, _, _, _ => none
  | _ + 1, _, _, [] => none
  | k + 1, acc, txt, c :: r =>
    if c = 47 then some (wt acc txt, c :: r)
    else if c = 36 then
      match part r with
      | some x => scanK k (wt acc txt ++ [x.1]) [] x.2
      | none => scanK k acc (txt ++ [36]) r
    else if c = 92 ∧ escO (hd r 0) = true then scanK k acc (txt ++ [hd r 0]) (r.drop 1)
    else scanK k acc (txt ++ [c]) r
def scan (l : List Int) : Option (List Fp × List Int) := scanK (l.length + 1) [] [] l

/-! ### how much is left -/
theorem words_len (stop : Int) : ∀ (n : Nat) (l : List Int), l.length ≤ n → ∀ x, words stop l = some x → x.2.length < l.length := by
  intro n
  induction n with
  | zero => intro l hl x h; cases l with
    | nil => simp [words] at h
    | cons a l => simp at hl
  | succ n ih =>
    intro l hl x h
    match l, hl, h with
    | [], _, h => simp [words] at h
    | [c], _, h =>
      simp only [words] at h; split at h
      · cases h; simp
      · cases h
    | c :: d :: r, hl, h =>
      simp only [words] at h
      split at h
      · cases h; simp
      · split at h
        · obtain ⟨y, hy, rfl⟩ := Option.map_eq_some_iff.1 h
          have := ih r (by simp at hl; omega) y hy
          simp; omega
        · obtain ⟨y, hy, rfl⟩ := Option.map_eq_some_iff.1 h
          have := ih (d :: r) (by simp at hl ⊢; omega) y hy
          simp at this ⊢; omega
theorem hd_nonneg {l : List Int} {k : Nat} (h : hd l k ≠ -1) : k < l.length := by
  rcases Nat.lt_or_ge k l.length with h1 | h1
  · exact h1
  · exfalso; apply h; simp [hd, List.getD, List.getElem?_eq_none h1]
theorem dig_lt {l : List Int} {k : Nat} (h : dig (hd l k) = true) : k < l.length := hd_nonneg (by intro e; rw [e] at h; simp [dig] at h)
theorem number_len {l : List Int} {x : Int × List Int} (h : number l = some x) : x.2.length < l.length := by
  unfold number at h
  split at h
  · rename_i h0
    have := dig_lt h0
    split at h
    · rename_i h1
      have := dig_lt h1
      split at h
      · cases h
      · cases h; simp; omega
    · cases h; simp; omega
  · cases h
theorem number_rng {l : List Int} {x : Int × List Int} (h : number l = some x) : 0 ≤ x.1 ∧ x.1 ≤ 99 := by
  unfold number at h
  split at h
  · rename_i h0
    simp only [dig, decide_eq_true_eq] at h0
    split at h
    · rename_i h1
      simp only [dig, decide_eq_true_eq] at h1
      split at h
      · cases h
      · cases h; dsimp only; omega
    · cases h; dsimp only; omega
  · cases h
theorem pre_len {a l : List Int} (h : isPre a l = true) : a.length ≤ l.length := by
  have h1 : l.take a.length = a := of_decide_eq_true h
  have := congrArg List.length h1
  simp at this; omega
theorem caseN_len {n : Int} {l : List Int} {x : Fp × List Int} (h : caseN n l = some x) : x.2.length < l.length := by
  unfold caseN at h
  repeat' split at h
  all_goals first
    | (rename_i hp; have := pre_len hp; cases h; simp [name] at this ⊢; omega)
    | (cases h)
theorem choice_len {n : Int} {l : List Int} {x : Fp × List Int} (h : choice n l = some x) : x.2.length < l.length := by
  unfold choice at h
  split at h
  · have := caseN_len h; simp at this; omega
  · split at h
    · obtain ⟨y, hy, rfl⟩ := Option.map_eq_some_iff.1 h
      have := words_len _ _ _ (Nat.le_refl _) _ hy; simp at this ⊢; omega
    · split at h
      · obtain ⟨y, hy, h⟩ := Option.bind_eq_some_iff.1 h
        obtain ⟨z, hz, rfl⟩ := Option.map_eq_some_iff.1 h
        have := words_len _ _ _ (Nat.le_refl _) _ hy
        have := words_len _ _ _ (Nat.le_refl _) _ hz
        simp at *; omega
      · split at h
        · obtain ⟨y, hy, rfl⟩ := Option.map_eq_some_iff.1 h
          have := words_len _ _ _ (Nat.le_refl _) _ hy; simp at this ⊢; omega
        · obtain ⟨y, hy, rfl⟩ := Option.map_eq_some_iff.1 h
          have := words_len _ _ _ (Nat.le_refl _) _ hy; simp at this ⊢; omega
theorem part_len {l : List Int} {x : Fp × List Int} (h : part l = some x) : x.2.length < l.length := by
  unfold part at h
  split at h
  · rename_i y hy
    have := number_len hy; cases h; exact this
  · split at h
    · split at h
      · cases h
      · rename_i y hy
        have := number_len hy
        split at h
        · cases h; simp at this ⊢; omega
        · split at h
          · have := choice_len h; simp at *; omega
          · cases h
    · cases h
/-- rounds enough: more do not matter -/
theorem scanK_more : ∀ (k m : Nat) (acc : List Fp) (txt l : List Int), l.length < k → l.length < m → scanK k acc txt l = scanK m acc txt l := by
  intro k
  induction k with
  | zero => intro m acc txt l h; omega
  | succ k ih =>
    intro m acc txt l h1 h2
    obtain ⟨m, rfl⟩ : ∃ j, m = j + 1 := ⟨m - 1, by omega⟩
    cases l with
    | nil => rfl
    | cons c r =>
      simp only [List.length_cons] at h1 h2
      simp only [scanK]
      split
      · rfl
      · split
        · cases hp : part r with
          | none => exact ih _ _ _ _ (by omega) (by omega)
          | some x =>
            have := part_len hp
            exact ih _ _ _ _ (by omega) (by omega)
        · split
          · exact ih _ _ _ _ (by simp; omega) (by simp; omega)
          · exact ih _ _ _ _ (by omega) (by omega)
/-- a scan from any state, rounds enough -/
def scanF (acc : List Fp) (txt l : List Int) : Option (List Fp × List Int) := scanK (l.length + 1) acc txt l
theorem scanF_nil (acc : List Fp) (txt : List Int) : scanF acc txt [] = none := rfl
theorem scanF_end (acc : List Fp) (txt r : List Int) : scanF acc txt (47 :: r) = some (wt acc txt, 47 :: r) := by simp [scanF, scanK]
theorem scanF_part {acc : List Fp} {txt r : List Int} {x : Fp × List Int} (h : part r = some x) : scanF acc txt (36 :: r) = scanF (wt acc txt ++ [x.1]) [] x.2 := by
  have := part_len h
  simp only [scanF, scanK, h, List.length_cons]
  rw [if_neg (by decide), if_pos trivial]
  exact scanK_more _ _ _ _ _ (by omega) (by omega)
theorem scanF_dollar {acc : List Fp} {txt r : List Int} (h : part r = none) : scanF acc txt (36 :: r) = scanF acc (txt ++ [36]) r := by
  simp only [scanF, scanK, h, List.length_cons]
  rw [if_neg (by decide), if_pos trivial]
theorem scanF_esc {acc : List Fp} {txt r : List Int} (h : escO (hd r 0) = true) : scanF acc txt (92 :: r) = scanF acc (txt ++ [hd r 0]) (r.drop 1) := by
  simp only [scanF, scanK, List.length_cons]
  rw [if_neg (by decide), if_neg (by decide), if_pos ⟨trivial, h⟩]
  exact scanK_more _ _ _ _ _ (by simp; omega) (by simp)
theorem scanF_sign {acc : List Fp} {txt r : List Int} {c : Int} (h1 : c ≠ 47) (h2 : c ≠ 36) (h3 : ¬ (c = 92 ∧ escO (hd r 0) = true)) : scanF acc txt (c :: r) = scanF acc (txt ++ [c]) r := by
  simp only [scanF, scanK, List.length_cons]
  rw [if_neg h1, if_neg h2, if_neg h3]
end FmM
end Go.Proofs.YtefgjicegbhcaaaGreat
namespace Go.Proofs.YtefgjicegbhcaaaGreat
open Go.RowKit
namespace FmM
/-- signs with a backslash ahead of some -/
def mkd (i : Bool) : List Int → List Int
  | [] => []
  | c :: r => if esc i c = true then 92 :: c :: mkd i r else c :: mkd i r
theorem mkd_app (i : Bool) (a b : List Int) : mkd i (a ++ b) = mkd i a ++ mkd i b := by
  induction a with
  | nil => rfl
  | cons c a ih => simp only [List.cons_append, mkd]; split <;> simp [ih]
theorem mkd_len (i : Bool) (a : List Int) : (mkd i a).length ≤ 2 * a.length := by
  induction a with
  | nil => simp [mkd]
  | cons c a ih => simp only [mkd]; split <;> simp <;> omega
def digs (n : Int) : List Int := if n < 10 then [n + 48] else [n / 10 + 48, n % 10 + 48]
def print1 (f : Fp) : List Int :=
  if f.kind = 0 then mkd false f.text
  else 36 :: 123 :: (digs f.grp ++ ((
    if f.kind = 1 then (if f.how = 0 then [] else [58, 47] ++ name f.how.toNat)
    else if f.kind = 2 then [58, 43] ++ mkd true f.text
    else if f.kind = 3 then [58, 45] ++ mkd true f.els
    else [58, 63] ++ (mkd true f.text ++ ([58] ++ mkd true f.els))) ++ [125]))
def print (l : List Fp) : List Int := l.flatMap print1
/-- what a part may be -/
def may1 (f : Fp) : Bool :=
  decide (0 ≤ f.grp ∧ f.grp ≤ 99) && (may f.text && (may f.els &&
    (if f.kind = 0 then decide (f.grp = 0 ∧ f.how = 0 ∧ f.text ≠ [] ∧ f.els = [])
     else if f.kind = 1 then decide (0 ≤ f.how ∧ f.how ≤ 5 ∧ f.text = [] ∧ f.els = [])
     else if f.kind = 2 then decide (f.how = 0 ∧ f.els = [])
     else if f.kind = 3 then decide (f.how = 0 ∧ f.text = [])
     else if f.kind = 4 then decide (f.how = 0)
     else false)))
/-- parts in a row; t: the one ahead is a text -/
def mayR : Bool → List Fp → Bool
  | _, [] => true
  | t, f :: l => may1 f && (!(t && decide (f.kind = 0)) && mayR (decide (f.kind = 0)) l)
def mayF (l : List Fp) : Bool := mayR false l

/-! ## what is printed is scanned -/
theorem esc_words {c : Int} (h : esc true c = true) : escI c = true := by simpa [esc, escI] using h
theorem words_mkd (stop : Int) (hs : stop = 125 ∨ stop = 58) (t r : List Int) : words stop (mkd true t ++ stop :: r) = some (t, r) := by
  have hstop : esc true stop = true := by rcases hs with rfl | rfl <;> rfl
  have h92 : (92 : Int) ≠ stop := by rcases hs with rfl | rfl <;> decide
  induction t with
  | nil =>
    simp only [mkd, List.nil_append]
    cases r with
    | nil => simp [words]
    | cons d r => simp [words]
  | cons c t ih =>
    simp only [mkd]
    split
    · rename_i hc
      simp only [List.cons_append, words]
      rw [if_neg h92, if_pos ⟨trivial, esc_words hc⟩, ih]; rfl
    · rename_i hc
      have h1 : c ≠ stop := by intro e; subst e; exact hc hstop
      have h2 : c ≠ 92 := by intro e; subst e; exact hc rfl
      have hne : mkd true t ++ stop :: r ≠ [] := by simp
      obtain ⟨d, q, hq⟩ : ∃ d q, mkd true t ++ stop :: r = d :: q := by
        cases h : mkd true t ++ stop :: r with
        | nil => exact absurd h hne
        | cons d q => exact ⟨d, q, rfl⟩
      simp only [List.cons_append]
      rw [hq] at ih ⊢
      simp only [words]
      rw [if_neg h1, if_neg (fun h => h2 h.1), ih]; rfl
theorem dig_no {c : Int} (h : c < 48) : dig c = false := by simp [dig]; omega
theorem number_digs {n : Int} (h0 : 0 ≤ n) (h1 : n ≤ 99) {d : Int} (r : List Int) (hd0 : dig d = false) : number (digs n ++ d :: r) = some (n, d :: r) := by
  unfold digs
  split
  · rename_i h
    have a : dig (n + 48) = true := by simp [dig]; omega
    simp only [number, hd, List.cons_append, List.nil_append, List.getD_cons_zero, List.getD_cons_succ, a, hd0, if_true]
    simp
  · rename_i h
    have a : dig (n / 10 + 48) = true := by simp [dig]; omega
    have b : dig (n % 10 + 48) = true := by simp [dig]; omega
    simp only [number, hd, List.cons_append, List.nil_append, List.getD_cons_zero, List.getD_cons_succ, a, b, hd0, if_true]
    simp; omega
theorem number_brace (l : List Int) : number (123 :: l) = none := by
  have a : dig 123 = false := by decide
  simp [number, hd, a]
theorem hd0 (c : Int) (l : List Int) : hd (c :: l) 0 = c := rfl
theorem part_of {n : Int} (h0 : 0 ≤ n) (h1 : n ≤ 99) (r : List Int) : part (123 :: (digs n ++ 58 :: r)) = choice n r := by
  have a : dig 58 = false := by decide
  unfold part
  rw [number_brace]
  simp only [hd0, if_true, List.drop_succ_cons, List.drop_zero, number_digs h0 h1 r a]
  rfl
theorem part_group {n : Int} (h0 : 0 ≤ n) (h1 : n ≤ 99) (r : List Int) : part (123 :: (digs n ++ 125 :: r)) = some (⟨1, n, 0, [], []⟩, r) := by
  have a : dig 125 = false := by decide
  unfold part
  rw [number_brace]
  simp only [hd0, if_true, List.drop_succ_cons, List.drop_zero, number_digs h0 h1 r a]
theorem part_case {n : Int} (h : Nat) (h1 : 1 ≤ h ∧ h ≤ 5) (r : List Int) : choice n (47 :: (name h ++ 125 :: r)) = some (⟨1, n, h, [], []⟩, r) := by
  unfold choice
  rw [hd0, if_pos rfl, List.drop_succ_cons, List.drop_zero]
  rcases (show h = 1 ∨ h = 2 ∨ h = 3 ∨ h = 4 ∨ h = 5 by omega) with rfl | rfl | rfl | rfl | rfl <;> simp [caseN, isPre, name]
/-- a part that is printed is read -/
theorem part_print {f : Fp} (h : may1 f = true) (hk : f.kind ≠ 0) (r : List Int) : ∃ q, print1 f = 36 :: q ∧ part (q ++ r) = some (f, r) := by
  obtain ⟨k, g, how, t, e⟩ := f
  simp only [may1, Bool.and_eq_true, decide_eq_true_eq] at h
  obtain ⟨⟨g0, g1⟩, ht, he, h⟩ := h
  unfold print1
  dsimp only at *
  rw [if_neg hk] at h ⊢
  refine ⟨_, rfl, ?_⟩
  simp only [List.append_assoc, List.cons_append, List.nil_append]
  split at h
  · rename_i e1; subst e1
    simp only [decide_eq_true_eq] at h
    obtain ⟨a1, a2, rfl, rfl⟩ := h
    by_cases hz : how = 0
    · subst hz
      simp only [if_true, List.nil_append]
      exact part_group g0 g1 r
    · rw [if_pos rfl, if_neg hz]
      simp only [List.cons_append]
      rw [part_of g0 g1]
      have := part_case (n := g) how.toNat (by omega) r
      rw [show ((how.toNat : Nat) : Int) = how by omega] at this
      exact this
  · rename_i n1
    rw [if_neg n1]
    split at h
    · rename_i e1; subst e1
      simp only [decide_eq_true_eq] at h
      obtain ⟨rfl, rfl⟩ := h
      simp only [if_true, List.cons_append]
      rw [part_of g0 g1]
      simp only [choice, hd0, List.drop_succ_cons, List.drop_zero]
      rw [if_neg (by decide), if_pos trivial, words_mkd 125 (.inl rfl)]; rfl
    · rename_i n2
      rw [if_neg n2]
      split at h
      · rename_i e1; subst e1
        simp only [decide_eq_true_eq] at h
        obtain ⟨rfl, rfl⟩ := h
        simp only [if_true, List.cons_append]
        rw [part_of g0 g1]
        simp only [choice, hd0, List.drop_succ_cons, List.drop_zero]
        rw [if_neg (by decide), if_neg (by decide), if_neg (by decide), if_pos trivial, words_mkd 125 (.inl rfl)]; rfl
      · rename_i n3
        rw [if_neg n3]
        split at h
        · rename_i e1; subst e1
          simp only [decide_eq_true_eq] at h
          subst h
          simp only [List.cons_append, List.append_assoc]
          rw [part_of g0 g1]
          simp only [choice, hd0, List.drop_succ_cons, List.drop_zero]
          rw [if_neg (by decide), if_neg (by decide), if_pos trivial, words_mkd 58 (.inr rfl)]
          simp only [Option.bind_some, words_mkd 125 (.inl rfl)]; rfl
        · cases h
/-- a text that is printed is read as text -/
theorem scan_text (acc : List Fp) (t r : List Int) : ∀ txt, scanF acc txt (mkd false t ++ r) = scanF acc (txt ++ t) r := by
  induction t with
  | nil => intro txt; simp [mkd]
  | cons c t ih =>
    intro txt
    simp only [mkd]
    split
    · rename_i hc
      have h : escO (hd (c :: (mkd false t ++ r)) 0) = true := by simpa [esc, hd0] using hc
      simp only [List.cons_append]
      rw [scanF_esc h, hd0, List.drop_succ_cons, List.drop_zero, ih, List.append_assoc]; rfl
    · rename_i hc
      have h := hc
      simp only [esc, escO, Bool.false_and, Bool.or_false, Bool.or_eq_true, beq_iff_eq, not_or] at h
      simp only [List.cons_append]
      rw [scanF_sign h.2 h.1.1.2 (fun x => h.1.1.1 x.1), ih, List.append_assoc]; rfl
theorem wt_nil (acc : List Fp) : wt acc [] = acc := rfl
theorem scan_print (l : List Fp) (r : List Int) : ∀ acc txt, mayR (!txt.isEmpty) l = true → scanF acc txt (print l ++ 47 :: r) = some (wt acc txt ++ l, 47 :: r) := by
  induction l with
  | nil => intro acc txt _; simp only [print, List.flatMap_nil, List.nil_append, List.append_nil]; exact scanF_end _ _ _
  | cons f l ih =>
    intro acc txt h
    simp only [mayR, Bool.and_eq_true] at h
    obtain ⟨hf, ht, hl⟩ := h
    have e : print (f :: l) ++ 47 :: r = print1 f ++ (print l ++ 47 :: r) := by simp [print]
    rw [e]
    by_cases hk : f.kind = 0
    · have h0 : txt = [] := by
        cases txt with
        | nil => rfl
        | cons a b => simp [hk] at ht
      subst h0
      have hp : print1 f = mkd false f.text := by unfold print1; rw [if_pos hk]
      rw [hp, scan_text]
      obtain ⟨k, g, how, t, e⟩ := f
      dsimp only at hk; subst hk
      simp only [may1, if_true, Bool.and_eq_true, decide_eq_true_eq] at hf
      obtain ⟨_, _, _, rfl, rfl, hne, rfl⟩ := hf
      simp only [decide_true] at hl
      have ht' : (!(([] : List Int) ++ t).isEmpty) = true := by cases t with
        | nil => exact absurd rfl hne
        | cons a b => rfl
      rw [ih acc ([] ++ t) (by rw [ht']; exact hl)]
      simp only [List.nil_append, wt, if_neg hne, if_true, List.append_assoc]; rfl
    · obtain ⟨q, hq, hpart⟩ := part_print hf hk (print l ++ 47 :: r)
      rw [hq, List.cons_append, scanF_part hpart]
      have hz : decide (f.kind = 0) = false := by simpa using hk
      rw [hz] at hl
      dsimp only
      rw [ih (wt acc txt ++ [f]) [] (by simpa using hl), wt_nil]
      simp
theorem scan_back (l : List Fp) (r : List Int) (h : mayF l = true) : scan (print l ++ 47 :: r) = some (l, 47 :: r) := by
  have := scan_print l r [] [] h
  rw [wt_nil, List.nil_append] at this
  exact this

/-! ## what is scanned may be -/
theorem may_cons (a : Int) (l : List Int) : may (a :: l) = (sgn a && may l) := by simp [may]
theorem may_append (a b : List Int) : may (a ++ b) = (may a && may b) := by simp [may]
theorem may_drop {l : List Int} (h : may l = true) (n : Nat) : may (l.drop n) = true := by
  simp only [may, List.all_eq_true] at h ⊢
  intro x hx; exact h x (List.mem_of_mem_drop hx)
theorem words_may (stop : Int) : ∀ (n : Nat) (l : List Int), l.length ≤ n → may l = true → ∀ x, words stop l = some x → may x.1 = true ∧ may x.2 = true := by
  intro n
  induction n with
  | zero => intro l hl hm x h; cases l with
    | nil => simp [words] at h
    | cons a l => simp at hl
  | succ n ih =>
    intro l hl hm x h
    match l, hl, hm, h with
    | [], _, _, h => simp [words] at h
    | [c], _, hm, h =>
      simp only [words] at h; split at h
      · cases h; exact ⟨rfl, rfl⟩
      · cases h
    | c :: d :: r, hl, hm, h =>
      simp only [may_cons, Bool.and_eq_true] at hm
      simp only [words] at h
      split at h
      · cases h; exact ⟨rfl, by simp [may_cons, hm]⟩
      · split at h
        · obtain ⟨y, hy, rfl⟩ := Option.map_eq_some_iff.1 h
          have := ih r (by simp at hl; omega) hm.2.2 y hy
          simp [may_cons, hm, this]
        · obtain ⟨y, hy, rfl⟩ := Option.map_eq_some_iff.1 h
          have := ih (d :: r) (by simp at hl ⊢; omega) (by simp [may_cons, hm]) y hy
          simp [may_cons, hm, this]
theorem number_may {l : List Int} {x : Int × List Int} (h : number l = some x) (hm : may l = true) : may x.2 = true := by
  unfold number at h
  repeat' split at h
  all_goals first | (cases h; done) | (cases h; exact may_drop hm _)
theorem may1_grp {n how : Int} (h : 0 ≤ n ∧ n ≤ 99) (hh : 0 ≤ how ∧ how ≤ 5) : may1 ⟨1, n, how, [], []⟩ = true := by
  simp [may1, may, h, hh]
theorem caseN_may {n : Int} {l : List Int} {x : Fp × List Int} (hn : 0 ≤ n ∧ n ≤ 99) (hm : may l = true) (h : caseN n l = some x) : (may1 x.1 = true ∧ x.1.kind ≠ 0) ∧ may x.2 = true := by
  unfold caseN at h
  repeat' split at h
  all_goals first | (cases h; done) | (cases h; exact ⟨⟨may1_grp hn (by decide), by dsimp only; decide⟩, may_drop hm _⟩)
theorem choice_may {n : Int} {l : List Int} {x : Fp × List Int} (hn : 0 ≤ n ∧ n ≤ 99) (hm : may l = true) (h : choice n l = some x) : (may1 x.1 = true ∧ x.1.kind ≠ 0) ∧ may x.2 = true := by
  unfold choice at h
  split at h
  · exact caseN_may hn (may_drop hm _) h
  · split at h
    · obtain ⟨y, hy, rfl⟩ := Option.map_eq_some_iff.1 h
      have := words_may _ _ _ (Nat.le_refl _) (may_drop hm _) _ hy
      exact ⟨⟨by simp [may1, hn, this]; rfl, by dsimp only; decide⟩, this.2⟩
    · split at h
      · obtain ⟨y, hy, h⟩ := Option.bind_eq_some_iff.1 h
        obtain ⟨z, hz, rfl⟩ := Option.map_eq_some_iff.1 h
        have a := words_may _ _ _ (Nat.le_refl _) (may_drop hm _) _ hy
        have b := words_may _ _ _ (Nat.le_refl _) a.2 _ hz
        exact ⟨⟨by simp [may1, hn, a, b], by dsimp only; decide⟩, b.2⟩
      · split at h
        · obtain ⟨y, hy, rfl⟩ := Option.map_eq_some_iff.1 h
          have := words_may _ _ _ (Nat.le_refl _) (may_drop hm _) _ hy
          exact ⟨⟨by simp [may1, hn, this]; rfl, by dsimp only; decide⟩, this.2⟩
        · obtain ⟨y, hy, rfl⟩ := Option.map_eq_some_iff.1 h
          have := words_may _ _ _ (Nat.le_refl _) hm _ hy
          exact ⟨⟨by simp [may1, hn, this]; rfl, by dsimp only; decide⟩, this.2⟩
theorem part_may {l : List Int} {x : Fp × List Int} (hm : may l = true) (h : part l = some x) : (may1 x.1 = true ∧ x.1.kind ≠ 0) ∧ may x.2 = true := by
  unfold part at h
  split at h
  · rename_i y hy
    cases h
    exact ⟨⟨may1_grp (number_rng hy) (by decide), by dsimp only; decide⟩, number_may hy hm⟩
  · split at h
    · split at h
      · cases h
      · rename_i y hy
        have a := number_rng hy
        have b := number_may hy (may_drop hm _)
        split at h
        · cases h; exact ⟨⟨may1_grp a (by decide), by dsimp only; decide⟩, may_drop b _⟩
        · split at h
          · exact choice_may a (may_drop b _) h
          · cases h
    · cases h
/-- parts that end in no text -/
def endsP (acc : List Fp) : Prop := ∀ f, acc.getLast? = some f → f.kind ≠ 0
theorem mayR_app (l : List Fp) (f : Fp) : ∀ t, mayR t (l ++ [f]) = (mayR t l && (may1 f && !((match l.getLast? with | none => t | some g => decide (g.kind = 0)) && decide (f.kind = 0)))) := by
  induction l with
  | nil => intro t; simp [mayR]
  | cons g l ih =>
    intro t
    simp only [List.cons_append, mayR, ih]
    cases l with
    | nil => simp [Bool.and_assoc]
    | cons h l =>
      obtain ⟨y, hy⟩ : ∃ y, (h :: l).getLast? = some y := ⟨_, List.getLast?_eq_some_getLast (by simp)⟩
      rw [List.getLast?_cons_cons, hy]
      simp only [Bool.and_assoc]
theorem mayF_wt {acc : List Fp} {txt : List Int} (h : mayF acc = true) (he : endsP acc) (ht : may txt = true) : mayF (wt acc txt) = true := by
  unfold wt
  split
  · exact h
  · rename_i hne
    have h' : mayR false acc = true := h
    simp only [mayF, mayR_app, h', Bool.true_and]
    have : may1 ⟨0, 0, 0, txt, []⟩ = true := by simp [may1, ht, hne]; rfl
    rw [this, Bool.true_and]
    cases hl : acc.getLast? with
    | none => rfl
    | some g => have := he g hl; simp [this]
theorem mayF_part {acc : List Fp} {f : Fp} (h : mayF acc = true) (h1 : may1 f = true) (hk : f.kind ≠ 0) : mayF (acc ++ [f]) = true := by
  have h' : mayR false acc = true := h
  simp [mayF, mayR_app, h', h1, hk]
theorem endsP_snoc (acc : List Fp) {f : Fp} (hk : f.kind ≠ 0) : endsP (acc ++ [f]) := by
  intro g hg; simp at hg; subst hg; exact hk
theorem scanK_may : ∀ (k : Nat) (acc : List Fp) (txt l : List Int), mayF acc = true → endsP acc → may txt = true → may l = true → ∀ x, scanK k acc txt l = some x → mayF x.1 = true ∧ ∃ r, x.2 = 47 :: r := by
  intro k
  induction k with
  | zero => intro acc txt l _ _ _ _ x h; simp [scanK] at h
  | succ k ih =>
    intro acc txt l ha he ht hl x h
    cases l with
    | nil => simp [scanK] at h
    | cons c r =>
      simp only [may_cons, Bool.and_eq_true] at hl
      simp only [scanK] at h
      split at h
      · rename_i hc; cases h; exact ⟨mayF_wt ha he ht, r, by rw [hc]⟩
      · split at h
        · cases hp : part r with
          | none => rw [hp] at h; exact ih _ _ _ ha he (by rw [may_append, ht]; decide) hl.2 _ h
          | some y =>
            rw [hp] at h
            have := part_may hl.2 hp
            exact ih _ _ _ (mayF_part (mayF_wt ha he ht) this.1.1 this.1.2) (endsP_snoc _ this.1.2) rfl this.2 _ h
        · split at h
          · rename_i hc
            refine ih _ _ _ ha he ?_ (may_drop hl.2 _) _ h
            rw [may_append, ht, Bool.true_and]
            cases r with
            | nil => simp [hd, escO] at hc
            | cons d r => simp only [may_cons, Bool.and_eq_true] at hl; simp [may, hd0, hl]
          · refine ih _ _ _ ha he ?_ hl.2 _ h
            rw [may_append, ht, Bool.true_and]; simp [may, hl]
theorem scan_may {l : List Int} (h : may l = true) {x : List Fp × List Int} (hs : scan l = some x) : mayF x.1 = true ∧ ∃ r, x.2 = 47 :: r :=
  scanK_may _ [] [] l rfl (by intro f hf; simp at hf) rfl h x hs
/-- what is printed are signs -/
theorem mkd_may (i : Bool) {t : List Int} (h : may t = true) : may (mkd i t) = true := by
  induction t with
  | nil => rfl
  | cons c t ih =>
    simp only [may_cons, Bool.and_eq_true] at h
    simp only [mkd]; split <;> simp [may_cons, h, ih h.2] <;> decide
theorem digs_may {n : Int} (h : 0 ≤ n ∧ n ≤ 99) : may (digs n) = true := by
  unfold digs; split <;> simp [may, sgn] <;> omega
theorem name_may (k : Nat) : may (name k) = true := by
  unfold name; split <;> decide
theorem print1_may {f : Fp} (h : may1 f = true) : may (print1 f) = true := by
  simp only [may1, Bool.and_eq_true, decide_eq_true_eq] at h
  obtain ⟨hg, ht, he, h⟩ := h
  have a := mkd_may true ht
  have b := mkd_may true he
  have c := digs_may hg
  unfold print1
  split
  · exact mkd_may false ht
  · have h1 : sgn 36 = true := by decide
    have h3 : sgn 123 = true := by decide
    have h2 : may [125] = true := by decide
    simp only [may_cons, may_append, c, h1, h2, h3, Bool.true_and, Bool.and_true]
    split
    · split
      · rfl
      · simp only [may_append, name_may, Bool.and_true]; decide
    · split
      · simp only [may_append, a, Bool.and_true]; decide
      · split
        · simp only [may_append, b, Bool.and_true]; decide
        · simp only [may_append, a, b, Bool.and_true, Bool.true_and]; decide
theorem print_may {l : List Fp} (h : ∀ f ∈ l, may1 f = true) : may (print l) = true := by
  induction l with
  | nil => rfl
  | cons f l ih =>
    have : print (f :: l) = print1 f ++ print l := by simp [print]
    rw [this, may_append, print1_may (h f (by simp)), ih (fun g hg => h g (by simp [hg]))]; rfl
theorem mayR_all : ∀ (l : List Fp) (t : Bool), mayR t l = true → ∀ f ∈ l, may1 f = true := by
  intro l
  induction l with
  | nil => intro t _ f hf; cases hf
  | cons g l ih =>
    intro t h f hf
    simp only [mayR, Bool.and_eq_true] at h
    rcases List.mem_cons.1 hf with rfl | hf
    · exact h.1
    · exact ih _ h.2.2 f hf
end FmM
end Go.Proofs.YtefgjicegbhcaaaGreat
