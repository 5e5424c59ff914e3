/- Layer 8 as plain functions: how a pattern is read (altP, rowP, itemP, grpP by rounds; classL, times, reps; parse), as the document's own reader does it. C: which signs stand for themselves behind a backslash, and the lower case. Held against the document's reader at 1500 drawn patterns (round 7). -/
import Derived.Test.YtefgjicegbhcaaaGreatCore
namespace Go.Proofs.YtefgjicegbhcaaaGreat
namespace ReM
/-! ## patterns as trees -/
/-- a node of the list -/
structure Rn where
  kind : Int
  deep : Int
  lo : Int
  hi : Int
  lazy : Bool
  not : Bool
  set : List Int
deriving DecidableEq, Inhabited
def low1 (x : Rn) : Rn := { x with deep := x.deep + 1 }
def lower (l : List Rn) : List Rn := l.map low1
def nRow : Rn := ⟨0, 0, 0, 0, false, false, []⟩
def nAlt : Rn := ⟨1, 0, 0, 0, false, false, []⟩
def nSet (n : Bool) (l : List Int) : Rn := ⟨2, 0, 0, 0, false, n, l⟩
def nStart : Rn := ⟨3, 0, 0, 0, false, false, []⟩
def nEnd : Rn := ⟨4, 0, 0, 0, false, false, []⟩
def nGroup (k : Int) : Rn := ⟨5, 0, k, 0, false, false, []⟩
def nRep (lo hi : Int) (z : Bool) : Rn := ⟨6, 0, lo, hi, z, false, []⟩
/-! ## what a reading leaves: what was read, what is left, the groups so far; or the first fault, by what is left there -/
inductive Rd (α : Type) where
  | ok : α → List Int → Nat → Rd α
  | bad : Int → Int → Rd α
def dig (r : Int) : Bool := decide (48 ≤ r ∧ r ≤ 57)
/-- classes of signs that may follow a backslash as themselves: ClassOther, ClassBlank -/
structure Cls where
  self : Int → Bool
  low : Int → Int
/-- what a backslash and a sign mean: the ranges, all but these; none: wrong -/
def mean (C : Cls) (r : Int) : Option (List Int × Bool) :=
  let l := C.low r
  let n := decide (r ≠ l)
  if l = 100 ∧ r < 128 then some ([48, 57], n)
  else if l = 119 ∧ r < 128 then some ([97, 122, 65, 90, 48, 57, 95, 95], n)
  else if l = 115 ∧ r < 128 then some ([32, 32, 9, 9, 10, 10], n)
  else if r = 110 then some ([10, 10], false)
  else if r = 116 then some ([9, 9], false)
  else if C.self r then some ([r, r], false)
  else none
/-- a member of a class at i: its ranges, is it one sign, what is left -/
inductive Mb where
  | ok : List Int → Bool → List Int → Mb
  | bad : Int → Mb
def one (l : List Int) : Bool := match l with | [a, b] => decide (a = b) | _ => false
def member (C : Cls) (i : Int) : List Int → Mb
  | [] => .bad i
  | r :: s =>
    if r = 92 then
      match s with
      | [] => .bad (i + 1)
      | q :: s2 => match mean C q with
        | some (l, false) => .ok l (one l) s2
        | _ => .bad (i + 1)
    else if r = 93 then .bad i
    else .ok [r, r] true s
/-- does a member of one sign begin here? -/
def single (C : Cls) : List Int → Bool
  | [] => false
  | r :: s =>
    if r = 93 then false
    else if r = 92 then
      match s with
      | [] => false
      | q :: _ => match mean C q with
        | some (l, false) => one l
        | _ => false
    else true
end ReM
namespace ReM
def at_ (n : Nat) (s : List Int) : Int := (n : Int) - s.length
inductive Rg where
  | ok : List Rn → List Int → Nat → Rg
  | bad : Int → Int → Rg
/-- a class behind its '[' and '^': its ranges, what is left behind its ']' -/
inductive Rc where
  | ok : List Int → List Int → Rc
  | bad : Int → Rc
def fst (l : List Int) : Int := l.headD 0
def classL (C : Cls) (n : Nat) : Nat → List Int → List Int → Rc
  | 0, _, _ => .bad 0
  | k + 1, acc, s =>
    match member C (at_ n s) s with
    | .bad i => .bad i
    | .ok m o s1 =>
      match (if o then (match s1 with | 45 :: s2 => if single C s2 then some s2 else none | _ => none) else none) with
      | none => match s1 with
        | 93 :: s3 => .ok (acc ++ m) s3
        | _ => classL C n k (acc ++ m) s1
      | some s2 => match member C (at_ n s2) s2 with
        | .bad i => .bad i
        | .ok m2 _ s3 =>
          if fst m2 < fst m then .bad (at_ n s)
          else match s3 with
            | 93 :: s4 => .ok (acc ++ [fst m, fst m2]) s4
            | _ => classL C n k (acc ++ [fst m, fst m2]) s3
/-- a repeat's { ..: low, high (-1: none), what is left behind its } -/
inductive Rt where
  | ok : Int → Int → List Int → Rt
  | bad : Int → Rt
def times (n : Nat) (s0 : List Int) : Rt :=
  match s0 with
  | _ :: r :: s1 =>
    if dig r then
      match s1 with
      | 125 :: s2 => .ok (r - 48) (r - 48) s2
      | 44 :: 125 :: s2 => .ok (r - 48) (-1) s2
      | 44 :: q :: s2 =>
        if dig q then
          match s2 with
          | 125 :: s3 => if q < r then .bad (at_ n s0) else .ok (r - 48) (q - 48) s3
          | _ => .bad (at_ n s2)
        else .bad (at_ n (q :: s2))
      | 44 :: [] => .bad (at_ n [])
      | _ => .bad (at_ n s1)
    else .bad (at_ n (r :: s1))
  | _ => .bad (at_ n [])
/-- the repeat behind an atom, if there is one -/
def reps (n : Nat) (a : List Rn) (s : List Int) (g : Nat) : Rg :=
  let fin (lo hi : Int) (s1 : List Int) : Rg := match s1 with
    | 63 :: s2 => .ok (nRep lo hi true :: lower a) s2 g
    | _ => .ok (nRep lo hi false :: lower a) s1 g
  match s with
  | 42 :: s1 => fin 0 (-1) s1
  | 43 :: s1 => fin 1 (-1) s1
  | 63 :: s1 => fin 0 1 s1
  | 123 :: _ => match times n s with
    | .ok lo hi s1 => fin lo hi s1
    | .bad i => .bad 5 i
  | _ => .ok a s g
def meta4 (r : Int) : Bool := r == 42 || r == 43 || r == 63 || r == 123
mutual
def altP (C : Cls) (n : Nat) : Nat → List Int → Nat → Nat → Rg
  | 0, _, _, _ => .bad 0 0
  | k + 1, s, g, d => match rowP C n k [] s g d with
    | .bad c i => .bad c i
    | .ok r s1 g1 => match s1 with
      | 124 :: s2 => altsP C n k (nAlt :: lower (nRow :: r)) s2 g1 d
      | _ => .ok (nRow :: r) s1 g1
/-- the further alternatives, behind a | -/
def altsP (C : Cls) (n : Nat) : Nat → List Rn → List Int → Nat → Nat → Rg
  | 0, _, _, _, _ => .bad 0 0
  | k + 1, acc, s, g, d => match rowP C n k [] s g d with
    | .bad c i => .bad c i
    | .ok r s1 g1 => match s1 with
      | 124 :: s2 => altsP C n k (acc ++ lower (nRow :: r)) s2 g1 d
      | _ => .ok (acc ++ lower (nRow :: r)) s1 g1
/-- a row's items, one deeper -/
def rowP (C : Cls) (n : Nat) : Nat → List Rn → List Int → Nat → Nat → Rg
  | 0, _, _, _, _ => .bad 0 0
  | k + 1, acc, s, g, d =>
    match s with
    | [] => .ok acc s g
    | r :: _ =>
      if r = 124 ∨ r = 41 then .ok acc s g
      else match itemP C n k s g d with
        | .bad c i => .bad c i
        | .ok it s1 g1 => rowP C n k (acc ++ lower it) s1 g1 d
def itemP (C : Cls) (n : Nat) : Nat → List Int → Nat → Nat → Rg
  | 0, _, _, _ => .bad 0 0
  | k + 1, s, g, d =>
    match s with
    | [] => .bad 0 0
    | r :: s1 =>
      if r = 94 then .ok [nStart] s1 g
      else if r = 36 then .ok [nEnd] s1 g
      else if r = 46 then reps n [nSet true [10, 10]] s1 g
      else if r = 40 then
        if 12 ≤ d then .bad 6 (at_ n s)
        else match s1 with
          | 63 :: s2 => match s2 with
            | 58 :: s3 => grpP C n k 0 s3 g d
            | _ => .bad 5 (at_ n s2)
          | _ => if 9 ≤ g then .bad 3 (at_ n s) else grpP C n k ((g : Int) + 1) s1 (g + 1) d
      else if r = 91 then
        match (match s1 with | 94 :: s2 => (true, s2) | _ => (false, s1)) with
        | (neg, s2) => match classL C n k [] s2 with
          | .bad i => .bad 5 i
          | .ok l s3 => reps n [nSet neg l] s3 g
      else if r = 92 then
        match s1 with
        | [] => .bad 5 (at_ n s1)
        | q :: s2 => match mean C q with
          | none => .bad 5 (at_ n s1)
          | some (l, neg) => reps n [nSet neg l] s2 g
      else if meta4 r then .bad 5 (at_ n s)
      else reps n [nSet false [r, r]] s1 g
/-- a group behind its '(' or '(?:', with its repeat -/
def grpP (C : Cls) (n : Nat) : Nat → Int → List Int → Nat → Nat → Rg
  | 0, _, _, _, _ => .bad 0 0
  | k + 1, no, s, g, d => match altP C n k s g (d + 1) with
    | .bad c i => .bad c i
    | .ok l s1 g1 => match s1 with
      | 41 :: s2 => reps n (nGroup no :: lower l) s2 g1
      | _ => .bad 5 (at_ n s1)
end
/-- the whole: the tree, or the fault -/
def parse (C : Cls) (p : List Int) : List Rn × Int × Int :=
  match altP C p.length (4 * p.length + 8) p 0 0 with
  | .bad c i => ([], c, i)
  | .ok l s _ => match s with
    | [] => (l, 0, 0)
    | _ => ([], 5, at_ p.length s)
end ReM
end Go.Proofs.YtefgjicegbhcaaaGreat
