/- Slices of deeds that a law makes: owned, appended to. -/
import Derived.Test.YtaondjklclpdkaaMko
namespace Go.Proofs.Ytaondjklclpdkaa
open Go.RowKit

def dflat (l : List Td) : List Value := l.flatMap tdv
def dgt (l : List Td) (i : Nat) : Td := l.getD i default
theorem dgt_get {l : List Td} {i : Nat} (h : i < l.length) : dgt l i = l[i] := by simp [dgt, List.getD, List.getElem?_eq_getElem h]
theorem tdv_len (d : Td) : (tdv d).length = 5 := rfl
theorem dflat_len (l : List Td) : (dflat l).length = l.length * 5 := by
  induction l with
  | nil => rfl
  | cons p l ih => simp only [dflat, List.flatMap_cons, List.length_append] at ih ⊢; rw [ih, tdv_len]; simp; omega
theorem dflat_app (l r : List Td) : dflat (l ++ r) = dflat l ++ dflat r := by simp [dflat]
theorem dflat_at (l : List Td) {i : Nat} (h : i < l.length) {j : Nat} (hj : j < 5) : (dflat l)[i * 5 + j]? = (tdv l[i])[j]? := by
  induction l generalizing i with
  | nil => simp at h
  | cons p l ih =>
    cases i with
    | zero =>
      simp only [dflat, List.flatMap_cons, Nat.zero_mul, Nat.zero_add]
      rw [List.getElem?_append_left (by rw [tdv_len]; omega)]; rfl
    | succ i =>
      have hi : i < l.length := by simpa using h
      have := ih hi
      simp only [dflat, List.flatMap_cons] at this ⊢
      rw [List.getElem?_append_right (by rw [tdv_len]; omega)]
      rw [show (i + 1) * 5 + j - (tdv p).length = i * 5 + j by rw [tdv_len]; omega, this]
      simp
theorem dflat_one (l : List Td) (u : Value) (h : u ∈ dflat l) : u.oneCell' = true := by
  simp only [dflat, List.mem_flatMap] at h
  obtain ⟨p, _, hp⟩ := h
  simp [tdv, mkv] at hp
  rcases hp with rfl | rfl | rfl | rfl | rfl <;> rfl
def DOwn (w : World) (base : Nat) (a : Option Addr) (c : Nat) (l : List Td) : Prop :=
  w.ownsRow base 35 5 (.slice a l.length c) l.length (dflat l) ∧ ∀ d, d ∈ l → TdIr d
theorem DOwn.nil (w : World) (base : Nat) : DOwn w base none 0 [] := ⟨World.ownsRow_nil _ _ _ _, fun d hd => by cases hd⟩
theorem DOwn.shape {w : World} {base : Nat} {a : Option Addr} {c : Nat} {l : List Td} (h : DOwn w base a c l) :
    (a = none ∧ c = 0 ∧ l = []) ∨ ∃ g, a = some ⟨g, 0, none⟩ ∧ base ≤ g ∧ g < w.heap.size ∧ l.length ≤ c := by
  obtain ⟨⟨_, h | ⟨g, cap, cur, hv, hg, hh, hn, _⟩⟩, _⟩ := h
  · simp at h; exact .inl ⟨h.1.1, h.1.2.2, h.2⟩
  · simp only [Value.slice.injEq, true_and] at hv
    refine .inr ⟨g, hv.1, hg, (Array.getElem?_eq_some_iff.1 hh).1, by omega⟩
theorem DOwn.sl {w : World} {base : Nat} {a : Option Addr} {c : Nat} {l : List Td} (h : DOwn w base a c l) : TSl w a l := by
  refine ⟨?_, h.2⟩
  rcases h.shape with ⟨_, _, h0⟩ | ⟨g, rfl, _, _, _⟩
  · exact .inl h0
  · have hc := h.1.cells (g := g) rfl
    have hadd : ∀ j, (⟨g, 0, none⟩ : Addr).add j = ⟨g, j, none⟩ := fun j => by unfold Addr.add; split <;> simp_all
    refine .inr ⟨g, 0, rfl, fun i hi => ?_⟩
    have k0 := hc (i * 5 + 0) _ (by rw [dflat_at l hi (by omega)]; rfl)
    have k1 := hc (i * 5 + 1) _ (by rw [dflat_at l hi (by omega)]; rfl)
    have k2 := hc (i * 5 + 2) _ (by rw [dflat_at l hi (by omega)]; rfl)
    have k3 := hc (i * 5 + 3) _ (by rw [dflat_at l hi (by omega)]; rfl)
    have k4 := hc (i * 5 + 4) _ (by rw [dflat_at l hi (by omega)]; rfl)
    rw [hadd] at k0 k1 k2 k3 k4
    simp only [Nat.zero_add, Nat.add_zero] at k0 k1 k2 k3 k4 ⊢
    exact ⟨k0, by simpa [Nat.add_assoc] using k1, by simpa [Nat.add_assoc] using k2, by simpa [Nat.add_assoc] using k3, by simpa [Nat.add_assoc] using k4⟩
theorem DOwn.same {w w' : World} {base : Nat} {a : Option Addr} {c : Nat} {l : List Td} (h : DOwn w base a c l) (hb : ∀ ad, a = some ad → ad.block < w.heap.size → w'.heap[ad.block]? = w.heap[ad.block]?) : DOwn w' base a c l := by
  obtain ⟨⟨h1, h2⟩, h3⟩ := h
  refine ⟨⟨h1, ?_⟩, h3⟩
  rcases h2 with h2 | ⟨g, cap, cur, hv, hg, hh, r⟩
  · exact .inl h2
  · simp only [Value.slice.injEq, true_and] at hv
    refine .inr ⟨g, cap, cur, by simp [hv], hg, ?_, r⟩
    rw [hb _ hv.1 (Array.getElem?_eq_some_iff.1 hh).1]; exact hh
theorem DOwn.grow {w w' : World} {base : Nat} {a : Option Addr} {c : Nat} {l : List Td} (h : DOwn w base a c l) (hb : Below w.heap.size w w') : DOwn w' base a c l := h.same fun _ _ hlt => hb.block _ hlt
theorem DOwn.lt {w : World} {base : Nat} {a : Option Addr} {c : Nat} {l : List Td} (h : DOwn w base a c l) {k : Nat} (hk : Blk a k) : base ≤ k ∧ k < w.heap.size := by
  obtain ⟨ad, rfl, rfl⟩ := hk
  rcases h.shape with ⟨h0, _⟩ | ⟨g, h0, hg, hl, _⟩
  · cases h0
  · simp only [Option.some.injEq] at h0; subst h0; exact ⟨hg, hl⟩
theorem TSl.lit (w : World) (d : Td) (e : TypeId) (b : Nat) (hb : b = w.heap.size) (cs : Array Value) (hcs : cs = (tdv d).toArray) (hd : TdIr d) : TSl (w.alloc (.cells cs e)) (some ⟨b, 0, none⟩) [d] := by
  subst hb
  refine ⟨.inr ⟨_, _, rfl, fun i hi => ?_⟩, fun x hx => by simp at hx; subst hx; exact hd⟩
  obtain rfl : i = 0 := by simpa using hi
  refine ⟨?_, ?_, ?_, ?_, ?_⟩ <;> (rw [cell_alloc_new, hcs]; simp [tdv, mkv])
theorem Try.infoTd : (Try.prog.info? 35).map (fun i => (i.zero, i.size, i.bytes)) = some (some (.agg #[.int .i64 0, .int .i64 0, .int .i64 0, .int .i64 0, .int .i64 0]), 5, 40) := by kernel_rfl
theorem wpL_dapp {w : World} {ops : Array Oper} {rest : List Oper} {o : Oper} {at_ : Act} {Q : Exit → Act → World → Prop} (hgd : o.guard = none) (s x : Operand)
    (ho : o.op = .call { callee := .builtin .append, args := #[s, x], argTypes := #[22, 22] })
    (base : Nat) (a : Option Addr) (b2 : Nat) (n c c2 : Nat) (l : List Td) (d : Td) (hs : at_.eval s = .slice a n c) (hn : n = l.length) (hown : DOwn w base a c l)
    (hx : at_.eval x = .slice (some ⟨b2, 0, none⟩) 1 c2) (h2 : TSl w (some ⟨b2, 0, none⟩) [d]) (hb : l.length ≤ 1000) (hbase : base ≤ w.heap.size)
    (h : ∀ a' c' w' L, Hid (L = l ++ [d]) → DOwn w' base a' c' L → Below base w w' →
      wpList Try.prog ops Q rest (at_.put o.dst (.slice a' L.length c')) w') : wpList Try.prog ops Q (o :: rest) at_ w := by
  refine wpList_plain hgd fun K hK => ?_
  subst hn
  obtain ⟨i0, hi, hz0, hz1, hz2⟩ := info_parts Try.infoTd
  refine wp_append_own_at s x 22 ho base 35 i0 (.agg #[.int .i64 0, .int .i64 0, .int .i64 0, .int .i64 0, .int .i64 0]) 5 40 Try.underlying22 hi hz0 hz1 hz2 rfl (by decide) (.slice a l.length c) l.length (dflat l) hs hown.1
    ⟨b2, 0, none⟩ 1 c2 (tdv d) hx (tdv_len d) ?_ (fun u hu => dflat_one [d] u (by simpa [dflat] using hu)) (by unfold maxLen; omega) (by omega) hbase ?_
  · intro j u hu
    obtain ⟨b, off, he, hc⟩ := h2.at (i := 0) (by simp)
    simp only [Option.some.injEq, Addr.mk.injEq, and_true] at he
    obtain ⟨rfl, rfl⟩ := he
    obtain ⟨c0, c1, c2', c3, c4⟩ := hc 0 (by simp)
    have hj : j < 5 := (List.getElem?_eq_some_iff.1 hu).1
    have hadd : (⟨b2, 0, none⟩ : Addr).add j = ⟨b2, j, none⟩ := by unfold Addr.add; split <;> simp_all
    rw [hadd]
    simp only [Nat.zero_mul, Nat.add_zero, Nat.zero_add, List.getElem_cons_zero] at c0 c1 c2' c3 c4
    rcases (show j = 0 ∨ j = 1 ∨ j = 2 ∨ j = 3 ∨ j = 4 by omega) with rfl | rfl | rfl | rfl | rfl
    · simp [tdv, mkv] at hu; rw [c0, hu]
    · simp [tdv, mkv] at hu; rw [c1, hu]
    · simp [tdv, mkv] at hu; rw [c2', hu]
    · simp [tdv, mkv] at hu; rw [c3, hu]
    · simp [tdv, mkv] at hu; rw [c4, hu]
  · intro v' w' hown' hgrow hat
    have hr : ∀ k, (Value.slice a l.length c).ownBlock = some k → base ≤ k := fun k hk => (hown.1.lt k hk).1
    have hbel : Below base w w' := (Below.refl _ _).grown hgrow hbase hr
    have hsh : ∃ a' c', v' = .slice a' (l.length + 1) c' := by
      rcases hown'.2 with ⟨rfl, h0⟩ | ⟨g, cap, cur, rfl, _⟩
      · exact ⟨none, 0, by rw [h0]⟩
      · exact ⟨_, _, rfl⟩
    obtain ⟨a', c', rfl⟩ := hsh
    have := h a' c' w' _ rfl ⟨by simpa [List.length_append, dflat_app, dflat] using hown', fun x hx => by
      rcases List.mem_append.1 hx with hx | hx
      · exact hown.2 x hx
      · simp at hx; subst hx; exact h2.ok x (by simp)⟩ hbel
    exact hK _ _ (by simpa [List.length_append] using this)
end Go.Proofs.Ytaondjklclpdkaa
