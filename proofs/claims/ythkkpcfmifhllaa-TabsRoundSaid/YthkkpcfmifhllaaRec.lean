/- A slice of records as an argument, whatever the record: opened by what one of its records reads as. -/
import Derived.Test.YthkkpcfmifhllaaInts
import Derived.Deep.Slices
import Derived.Deep.Fields
namespace Go.Proofs.Ythkkpcfmifhllaa
open Go.RowKit Go.ChangeShapes Go.WideShapes Go.ChangeAt Go.Deep

section
variable {H : Type} {enc : TypeId × Value → H}
/-- the records' cells in memory -/
def RecAt {α : Type} (k : Nat) (cv : α → List Value) (W : World) (a : Option Addr) (l : List α) : Prop :=
  l = [] ∨ ∃ b off, a = some ⟨b, off, none⟩ ∧ ∀ (i : Nat) (hi : i < l.length) (j : Nat) (u : Value), (cv l[i])[j]? = some u → W.cell? ⟨b, off + i * k + j, none⟩ = some u
theorem open_recs {α : Type} [Inhabited α] {T E : TypeId} {k : Nat} {cv : α → List Value} {OK : α → Prop} {W : World} {base : Nat} {v : Value} {d : DataW H} {p : List MemPlace}
    (hT : Try.prog.underlying T = some (.slice E)) (hk : Try.prog.cellsOf E = k) (hkp : 0 < k)
    (hone : ∀ (fuel : Nat) (cs : List Value) (x : DataW H × List MemPlace), DataW.trod enc Try.prog W 0 (fun _ => true) true fuel E cs = some x → ∃ m : α, cs = cv m ∧ OK m)
    (hv : Value.okWide Try.prog W .any base T v) (h : DataW.Trod enc Try.prog W 0 (fun _ => true) true T v d p) :
    ∃ (a : Option Addr) (l : List α) (c : Nat), v = .slice a l.length c ∧ l.length ≤ c ∧ (d = .nil ∧ c = 0 ∨ ∃ es sp, d = .slice es sp ∧ es.length + sp.length = c) ∧ (∀ m, m ∈ l → OK m) ∧ RecAt k cv W a l := by
  obtain ⟨a0, len, cap, rfl⟩ := okWide_slice hT hv
  obtain ⟨fuel, hf⟩ := h
  rcases open_slice hT hf with ⟨hcs, hx⟩ | ⟨a, len', cap', m, n, D, Pl, hcs, hb, hl, hm, hmm, hx, hi⟩
  · simp only [Value.cells, List.cons.injEq, and_true, Value.slice.injEq] at hcs
    obtain ⟨rfl, rfl, rfl⟩ := hcs
    simp only [Prod.mk.injEq] at hx
    exact ⟨none, [], 0, rfl, by simp, .inl ⟨hx.1, rfl⟩, (fun m hm => by cases hm), .inl rfl⟩
  · simp only [Value.cells, List.cons.injEq, and_true, Value.slice.injEq] at hcs
    obtain ⟨rfl, rfl, rfl⟩ := hcs
    simp only [if_true] at hmm
    subst hmm
    simp only [Prod.mk.injEq] at hx
    have hall : ∀ i, i < len → ∃ e : α, OK e ∧ ∃ b off, a = ⟨b, off, none⟩ ∧ ∀ (j : Nat) (u : Value), (cv e)[j]? = some u → W.cell? ⟨b, off + i * k + j, none⟩ = some u := by
      intro i hil
      obtain ⟨cs', hc, ht⟩ := hi i (by omega)
      obtain ⟨M, rfl, hS⟩ := hone _ _ _ ht
      rw [hk] at hc
      obtain ⟨_, hcl, hat⟩ := World.cells?_some hc
      refine ⟨M, hS, ?_⟩
      have hsp : a.spot = none := by
        obtain ⟨cs0, hc0, _⟩ := hi 0 (by omega)
        rw [hk] at hc0
        obtain ⟨_, hcl0, hat0⟩ := World.cells?_some hc0
        have := hat0 0 (by omega)
        rw [List.getElem?_eq_getElem (by omega)] at this
        obtain ⟨b, o, sp⟩ := a
        cases sp with
        | none => rfl
        | some s =>
          simp only [Nat.zero_mul, Addr.add, if_true, World.cell?] at this
          split at this <;> simp_all
      obtain ⟨b, o, sp⟩ := a
      simp only at hsp; subst hsp
      have hadd : ∀ o n, (⟨b, o, none⟩ : Addr).add n = ⟨b, o + n, none⟩ := fun o n => by unfold Addr.add; split <;> simp_all
      refine ⟨b, o, rfl, fun j u hu => ?_⟩
      have hj : j < k := by
        have := (List.getElem?_eq_some_iff.1 hu).1
        omega
      have q := hat j hj
      rw [hadd, hadd, hu] at q
      exact q
    obtain ⟨f, hfc⟩ := choose_lt hall
    refine ⟨some a, (List.range len).map f, m, by simp, by simpa using hl, .inr ⟨_, _, hx.1, by simp; omega⟩, ?_, ?_⟩
    · intro x hxm
      obtain ⟨i, hi, rfl⟩ := List.mem_map.1 hxm
      exact (hfc i (List.mem_range.1 hi)).1
    · by_cases h0 : len = 0
      · left; subst h0; rfl
      · obtain ⟨_, b, off, rfl, _⟩ := hfc 0 (by omega)
        refine .inr ⟨b, off, rfl, fun i hi j u hu => ?_⟩
        have hil : i < len := by simpa using hi
        obtain ⟨_, b', off', he, h3⟩ := hfc i hil
        simp only [Addr.mk.injEq, and_true] at he
        obtain ⟨rfl, rfl⟩ := he
        exact h3 j u (by simpa using hu)
/-- the reach pays a slice of records, n bytes each -/
theorem recs_sized {T E : TypeId} {n : Nat} (hT : Try.prog.underlying T = some (.slice E)) (hn : Try.prog.bytesOf E = n) {ts : List TypeId} {ds : List (DataW H)} {d : DataW H} {c : Nat} (hsz : (DataW.weightsEach Try.prog ts ds).all (· ≤ reachBytes) = true)
    (j : Nat) (ht : ts[j]? = some T) (hd : ds[j]? = some d) (h : d = .nil ∧ c = 0 ∨ ∃ es sp, d = .slice es sp ∧ es.length + sp.length = c) : c * n ≤ 140737488351232 := by
  rcases h with ⟨_, rfl⟩ | ⟨es, sp, rfl, hc⟩
  · simp
  · have := sized_slice hsz ht hd hT
    rw [hn] at this
    simp only [reachBytes] at this
    rw [← hc]
    omega
end
end Go.Proofs.Ythkkpcfmifhllaa
