/- Variables: their names, what they tell, which environments there may be. Lists alone. -/
import Derived.Test.YtijhkpbnalnpbaaDoorDig
namespace Go.Proofs.YtijhkpbnalnpbaaDoor

/-- the names of the table, in its order -/
def nameL : Nat → List Int
  | 0 => [84, 77, 95, 83, 69, 76, 69, 67, 84, 69, 68, 95, 84, 69, 88, 84]
  | 1 => [84, 77, 95, 67, 85, 82, 82, 69, 78, 84, 95, 76, 73, 78, 69]
  | 2 => [84, 77, 95, 67, 85, 82, 82, 69, 78, 84, 95, 87, 79, 82, 68]
  | 3 => [84, 77, 95, 76, 73, 78, 69, 95, 73, 78, 68, 69, 88]
  | 4 => [84, 77, 95, 76, 73, 78, 69, 95, 78, 85, 77, 66, 69, 82]
  | 5 => [84, 77, 95, 70, 73, 76, 69, 78, 65, 77, 69]
  | 6 => [84, 77, 95, 70, 73, 76, 69, 78, 65, 77, 69, 95, 66, 65, 83, 69]
  | 7 => [84, 77, 95, 68, 73, 82, 69, 67, 84, 79, 82, 89]
  | 8 => [84, 77, 95, 70, 73, 76, 69, 80, 65, 84, 72]
  | 9 => [67, 76, 73, 80, 66, 79, 65, 82, 68]
  | 10 => [67, 85, 82, 82, 69, 78, 84, 95, 89, 69, 65, 82]
  | 11 => [67, 85, 82, 82, 69, 78, 84, 95, 89, 69, 65, 82, 95, 83, 72, 79, 82, 84]
  | 12 => [67, 85, 82, 82, 69, 78, 84, 95, 77, 79, 78, 84, 72]
  | 13 => [67, 85, 82, 82, 69, 78, 84, 95, 68, 65, 84, 69]
  | 14 => [67, 85, 82, 82, 69, 78, 84, 95, 72, 79, 85, 82]
  | 15 => [67, 85, 82, 82, 69, 78, 84, 95, 77, 73, 78, 85, 84, 69]
  | 16 => [67, 85, 82, 82, 69, 78, 84, 95, 83, 69, 67, 79, 78, 68]
  | 17 => [67, 85, 82, 82, 69, 78, 84, 95, 77, 79, 78, 84, 72, 95, 78, 65, 77, 69]
  | 18 => [67, 85, 82, 82, 69, 78, 84, 95, 77, 79, 78, 84, 72, 95, 78, 65, 77, 69, 95, 83, 72, 79, 82, 84]
  | 19 => [67, 85, 82, 82, 69, 78, 84, 95, 68, 65, 89, 95, 78, 65, 77, 69]
  | 20 => [67, 85, 82, 82, 69, 78, 84, 95, 68, 65, 89, 95, 78, 65, 77, 69, 95, 83, 72, 79, 82, 84]
  | 21 => [82, 65, 78, 68, 79, 77]
  | 22 => [82, 65, 78, 68, 79, 77, 95, 72, 69, 88]
  | 23 => [85, 85, 73, 68]
  | _ => []
/-- what a row of the table tells -/
def teN : Nat → Nat
  | 0 => 0
  | 1 => 1
  | 2 => 2
  | 3 => 3
  | 4 => 4
  | 5 => 5
  | 6 => 6
  | 7 => 7
  | 8 => 8
  | 9 => 9
  | 10 => 10
  | 11 => 11
  | 12 => 12
  | 13 => 12
  | 14 => 12
  | 15 => 12
  | 16 => 12
  | 17 => 13
  | 18 => 14
  | 19 => 15
  | 20 => 16
  | 21 => 17
  | 22 => 18
  | 23 => 19
  | _ => 0
/-- of which part of the clock -/
def paN : Nat → Nat
  | 12 => 1
  | 13 => 2
  | 14 => 3
  | 15 => 4
  | 16 => 5
  | 17 => 1
  | 18 => 1
  | 19 => 6
  | 20 => 6
  | _ => 0
def moL : Nat → List Int
  | 0 => [74, 97, 110, 117, 97, 114, 121]
  | 1 => [70, 101, 98, 114, 117, 97, 114, 121]
  | 2 => [77, 97, 114, 99, 104]
  | 3 => [65, 112, 114, 105, 108]
  | 4 => [77, 97, 121]
  | 5 => [74, 117, 110, 101]
  | 6 => [74, 117, 108, 121]
  | 7 => [65, 117, 103, 117, 115, 116]
  | 8 => [83, 101, 112, 116, 101, 109, 98, 101, 114]
  | 9 => [79, 99, 116, 111, 98, 101, 114]
  | 10 => [78, 111, 118, 101, 109, 98, 101, 114]
  | 11 => [68, 101, 99, 101, 109, 98, 101, 114]
  | _ => []
def dyL : Nat → List Int
  | 0 => [83, 117, 110, 100, 97, 121]
  | 1 => [77, 111, 110, 100, 97, 121]
  | 2 => [84, 117, 101, 115, 100, 97, 121]
  | 3 => [87, 101, 100, 110, 101, 115, 100, 97, 121]
  | 4 => [84, 104, 117, 114, 115, 100, 97, 121]
  | 5 => [70, 114, 105, 100, 97, 121]
  | 6 => [83, 97, 116, 117, 114, 100, 97, 121]
  | _ => []
/-- single bytes as a string -/
def bStr (l : List Int) : ByteArray := ⟨(l.map fun r => UInt8.ofNat r.toNat).toArray⟩
theorem bStr_str {l : List Int} (h : asc l = true) : Str (bStr l) l := ⟨asc_may h, by rw [asc_utf h]; simp [bStr]⟩
theorem str_bStr {s : ByteArray} {l : List Int} (h : Str s l) (ha : asc l = true) : s = bStr l := by
  have := h.eq
  rw [asc_utf ha] at this
  obtain ⟨d⟩ := s
  simp only [bStr]
  congr 1
  rw [← this]
theorem names_asc : ∀ k, k < 24 → asc (nameL k) = true ∧ (nameL k).length ≤ 24 ∧ 0 < (nameL k).length := by decide
/-- which row has this name -/
def rowOf (l : List Int) : Option Nat := (List.range 24).find? fun k => decide (nameL k = l)
theorem rowOf_some {l : List Int} {k : Nat} (h : rowOf l = some k) : k < 24 ∧ nameL k = l := by
  have h1 := List.find?_some h
  have h2 := List.mem_of_find?_eq_some h
  exact ⟨List.mem_range.1 h2, of_decide_eq_true h1⟩
theorem rowOf_none {l : List Int} (h : rowOf l = none) (k : Nat) (hk : k < 24) : nameL k ≠ l := by
  have := List.find?_eq_none.1 h k (List.mem_range.2 hk)
  simpa using this
theorem names_diff : ∀ j k, j < 24 → k < 24 → nameL j = nameL k → j = k := by
  have h : ((List.range 24).all fun j => (List.range 24).all fun k => !(nameL j == nameL k) || j == k) = true := by decide +kernel
  intro j k hj hk e
  have h1 := List.all_eq_true.1 h j (List.mem_range.2 hj)
  have h2 := List.all_eq_true.1 h1 k (List.mem_range.2 hk)
  rw [e] at h2
  simpa using h2
theorem rowOf_name {k : Nat} (hk : k < 24) : rowOf (nameL k) = some k := by
  cases h : rowOf (nameL k) with
  | none => exact absurd rfl (rowOf_none h k hk)
  | some j => obtain ⟨h1, h2⟩ := rowOf_some h; rw [names_diff j k h1 hk h2]

/-! ## environments -/
/-- an environment: six texts, the index, the clock, the draws; where they lie -/
structure En where
  a0 : Option Addr
  t0 : List Int
  c0 : Nat
  a1 : Option Addr
  t1 : List Int
  c1 : Nat
  a2 : Option Addr
  t2 : List Int
  c2 : Nat
  a3 : Option Addr
  t3 : List Int
  c3 : Nat
  a4 : Option Addr
  t4 : List Int
  c4 : Nat
  a5 : Option Addr
  t5 : List Int
  c5 : Nat
  ix : Int
  k0 : Int
  k1 : Int
  k2 : Int
  k3 : Int
  k4 : Int
  k5 : Int
  k6 : Int
  da : Option Addr
  dl : List Int
  dc : Nat
def bti (n a b : Int) : Bool := decide (a ≤ n ∧ n ≤ b)
def txE (t : List Int) : Bool := decide (t.length ≤ 100) && may t
def ckE (k0 k1 k2 k3 k4 k5 k6 : Int) : Bool := bti k0 0 9999 && (bti k1 1 12 && (bti k2 1 31 && (bti k3 0 23 && (bti k4 0 59 && (bti k5 0 59 && bti k6 0 6)))))
def drE (d : List Int) : Bool := decide (d.length ≤ 40) && d.all fun n => bti n 0 16777215
def txsE (t0 t1 t2 t3 t4 t5 : List Int) : Bool := txE t0 && (txE t1 && (txE t2 && (txE t3 && (txE t4 && txE t5))))
def mayE (m : En) : Bool := txsE m.t0 m.t1 m.t2 m.t3 m.t4 m.t5 && (bti m.ix 0 9999 && (ckE m.k0 m.k1 m.k2 m.k3 m.k4 m.k5 m.k6 && drE m.dl))
/-- a draw; behind the last one zeros -/
def drw (m : En) (u : Nat) : Nat := (gt m.dl u).toNat
def itoaL (n : Nat) : List Int := digs 10 (Lib.nDigits n) n
def hexesL (m : En) (u : Nat) : Nat → List Int
  | 0 => []
  | k + 1 => hexesL m u k ++ digs 16 6 (drw m (u + k))
/-- what a row of the table tells in an environment, from a draw on -/
def tellL (m : En) (u : Nat) : Nat → List Int
  | 0 => m.t0
  | 1 => m.t1
  | 2 => m.t2
  | 3 => itoaL m.ix.toNat
  | 4 => itoaL (m.ix.toNat + 1)
  | 5 => m.t3
  | 6 => baseL m.t3
  | 7 => m.t4
  | 8 => m.t4 ++ [47] ++ m.t3
  | 9 => m.t5
  | 10 => digs 10 4 m.k0.toNat
  | 11 => digs 10 2 (m.k0.toNat % 100)
  | 12 => digs 10 2 m.k1.toNat
  | 13 => digs 10 2 m.k2.toNat
  | 14 => digs 10 2 m.k3.toNat
  | 15 => digs 10 2 m.k4.toNat
  | 16 => digs 10 2 m.k5.toNat
  | 17 => moL (m.k1.toNat - 1)
  | 18 => (moL (m.k1.toNat - 1)).take 3
  | 19 => dyL m.k6.toNat
  | 20 => (dyL m.k6.toNat).take 3
  | 21 => digs 10 6 (drw m u % 1000000)
  | 22 => digs 16 6 (drw m u)
  | _ => uuidL (hexesL m u 5)
/-- how many draws it takes -/
def takesN : Nat → Nat
  | 21 => 1
  | 22 => 1
  | 23 => 5
  | _ => 0
/-- is there an answer? -/
def okV (m : En) (l : List Int) (used : Int) : Option Nat := if mayE m && bti used 0 1000 then rowOf l else none
end Go.Proofs.YtijhkpbnalnpbaaDoor
