/- The document's own set in memory: Find, put, take. -/
import Derived.Test.YtaondjklclpdkaaTsa
import Derived.Test.YtaondjklclpdkaaTrb
import Derived.Test.YtaondjklclpdkaaTrk
import Derived.Deep.RegionLaw
namespace Go.Proofs.Ytaondjklclpdkaa
open Go.RowKit

/-- the document's set in memory, as a list -/
structure RefC (w : World) (r : Nat) (a : Option Addr) (c : Nat) (l : List Mk) : Prop where
  cell : w.cell? ⟨r, 0, none⟩ = some (.slice a l.length c)
  free : w.frozen? ⟨r, 0, none⟩ = false
  cap : l.length ≤ c
  sl : MSl w a l
  off : ∀ ad, a = some ad → ad.block ≠ r ∧ ad.block < w.heap.size
def RefL (w : World) (G : Nat → Prop) (r : Nat) (l : List Mk) : Prop := ∃ a c, G r ∧ (∀ ad, a = some ad → G ad.block) ∧ RefC w r a c l
theorem RefC.lt {w : World} {r c : Nat} {a : Option Addr} {l : List Mk} (h : RefC w r a c l) : r < w.heap.size := World.block_lt_of_cell? w _ h.cell
theorem RefC.same {w w' : World} {r c : Nat} {a : Option Addr} {l : List Mk} (h : RefC w r a c l) (hs : w.heap.size ≤ w'.heap.size) (h1 : w'.heap[r]? = w.heap[r]?) (h2 : ∀ ad, a = some ad → w'.heap[ad.block]? = w.heap[ad.block]?) : RefC w' r a c l :=
  ⟨by rw [World.cell?_of_block (w := w) (w' := w') (a := ⟨r, 0, none⟩) h1]; exact h.cell, by rw [World.frozen?_of_block (w := w) (w' := w') (a := ⟨r, 0, none⟩) h1]; exact h.free, h.cap, h.sl.same fun ad ha _ => h2 ad ha, fun ad ha => ⟨(h.off ad ha).1, Nat.lt_of_lt_of_le (h.off ad ha).2 hs⟩⟩
theorem RefC.bel {w w' : World} {r c : Nat} {a : Option Addr} {l : List Mk} (h : RefC w r a c l) (hb : Below w.heap.size w w') : RefC w' r a c l :=
  h.same hb.size (hb.block r h.lt) fun ad ha => hb.block _ (h.off ad ha).2
theorem RefL.mono {w : World} {F G : Nat → Prop} {r : Nat} {l : List Mk} (h : RefL w F r l) (hF : ∀ k, F k → G k) : RefL w G r l := by
  obtain ⟨a, c, h1, h2, h3⟩ := h
  exact ⟨a, c, hF r h1, fun ad ha => hF _ (h2 ad ha), h3⟩
theorem RefL.lt {w : World} {F : Nat → Prop} {r : Nat} {l : List Mk} (h : RefL w F r l) : RefL w (fun k => F k ∧ k < w.heap.size) r l := by
  obtain ⟨a, c, h1, h2, h3⟩ := h
  exact ⟨a, c, ⟨h1, h3.lt⟩, fun ad ha => ⟨h2 ad ha, (h3.off ad ha).2⟩, h3⟩
theorem RefL.kpt {w w' : World} {F G : Nat → Prop} {r : Nat} {l : List Mk} (h : RefL w F r l) (hk : Kpt G w w') (hd : Dis F G) : RefL w' F r l := by
  obtain ⟨a, c, h1, h2, h3⟩ := h
  exact ⟨a, c, h1, h2, h3.same hk.size (hk.block r h3.lt fun hg => hd r h1 hg) fun ad ha => hk.block _ (h3.off ad ha).2 fun hg => hd _ (h2 ad ha) hg⟩
theorem RefL.bel {w w' : World} {F : Nat → Prop} {r : Nat} {l : List Mk} (h : RefL w F r l) (hb : Below w.heap.size w w') : RefL w' F r l := by
  obtain ⟨a, c, h1, h2, h3⟩ := h
  exact ⟨a, c, h1, h2, h3.bel hb⟩
def RLft (w : World) (F : Nat → Prop) (r : Nat) (l : List Mk) (w' : World) : Prop := RefL w' (Gr F w w') r l ∧ Kpt F w w'
theorem RLft.of {w w' : World} {F : Nat → Prop} {s : Nat} {l : List Mk} (h : RefL w F s l) (hb : Below w.heap.size w w') : RLft w F s l w' := ⟨(h.bel hb).mono fun _ hk => .inl hk, Kpt.of hb⟩
theorem RLft.on {a b w' : World} {F : Nat → Prop} {s : Nat} {l : List Mk} (h : RLft b F s l w') (hk : Below a.heap.size a b) : RLft a F s l w' :=
  ⟨h.1.mono (Gr.mono (fun _ hf => .inl hf) hk.size), (Kpt.of hk).tr h.2⟩
/-- behind a turn, another one -/
theorem RLft.then {a b c : World} {F : Nat → Prop} {s : Nat} {l l' : List Mk} (h : RLft a F s l b) (k : ∀ G, RefL b G s l → RLft b G s l' c) : RLft a F s l' c := by
  have k' := k _ h.1
  have h1 := h.2.size
  have h2 := k'.2.size
  refine ⟨k'.1.mono ?_, h.2.trans k'.2⟩
  rintro x ((hx | hx) | hx)
  · exact .inl hx
  · exact .inr ⟨hx.1, by omega⟩
  · exact .inr ⟨by omega, hx.2⟩
/-- a new slice laid under the set -/
theorem RLft.set {w w2 : World} {F : Nat → Prop} {r : Nat} {a a2 : Option Addr} {c c2 : Nat} {l l2 : List Mk} (hr : F r) (h : RefC w r a c l) (hb : Below w.heap.size w w2) (ho : MOwn w2 w.heap.size a2 c2 l2) :
    RLft w F r l2 (w2.setCell ⟨r, 0, none⟩ (.slice a2 l2.length c2)) := by
  have hlt := h.lt
  have h2 := h.bel hb
  have hsz : (w2.setCell ⟨r, 0, none⟩ (.slice a2 l2.length c2)).heap.size = w2.heap.size := by simp
  have hbl : ∀ ad, a2 = some ad → w.heap.size ≤ ad.block ∧ ad.block < w2.heap.size := fun ad ha => ho.lt ⟨ad, ha, rfl⟩
  refine ⟨⟨a2, c2, .inl hr, fun ad ha => .inr ⟨(hbl ad ha).1, by rw [hsz]; exact (hbl ad ha).2⟩, by rw [World.cell?_setCell_same (h := h2.cell)], by rw [World.frozen?_setCell]; exact h2.free, ho.cap, ?_, fun ad ha => ⟨by have := hbl ad ha; omega, by rw [hsz]; exact (hbl ad ha).2⟩⟩, (Kpt.of hb).setCell hr _⟩
  exact ho.sl.same fun ad ha _ => Below.heap_setCell _ _ _ _ (by have := hbl ad ha; show ad.block ≠ r; omega)
/-! ## Find -/
def fndV (l : List Mk) (i : Int) : Int := if pos l i < l.length then pos l i else -1
set_option maxHeartbeats 8000000 in
theorem rfind_c (i : Int) (r : Nat) (a : Option Addr) (c : Nat) (l : List Mk) (w : World) (h : RefC w r a c l) (hl : l.length ≤ 1000) :
    Calls Try.prog 30 #[.pointer (some ⟨r, 0, none⟩), .int .i64 i] w fun e w' => e = .returned (.int .i64 (fndV l i)) ∧ w = w' := by
  have hc := h.cell
  have hsl := h.sl
  have hpl := pos_le l i
  obtain ⟨v, hv⟩ : ∃ v, v = fndV l i := ⟨_, rfl⟩
  rw [← hv]
  have Hv := hid hv
  clear h hv
  go_enter Try.func30, Try.ntmps30
  go_wp2
  go_loopw [5] (fun iv wr => ∃ k : Nat, k ≤ pos l i ∧ iv = .int .i64 k ∧ w = wr) (fun iv _ => l.length - (intOf iv).toNat)
  case atStart => exact ⟨0, by omega, rfl, rfl⟩
  case round =>
    obtain ⟨k, hk, rfl, rfl⟩ := hrel
    by_cases hlt : k < l.length
    · obtain ⟨b, off, rfl, hcs⟩ := hsl.at hlt
      obtain ⟨k0, k1, k2, k3⟩ := hcs k hlt
      clear hcs hsl
      by_cases hki : (mgt l k).id = i
      · have hkp : k = pos l i := by
          rcases Nat.lt_or_ge k (pos l i) with h1 | h1
          · exact absurd hki (pos_ahead h1)
          · omega
        have hv : v = k := by rw [Hv.out]; unfold fndV; rw [if_pos (by omega), ← hkp]
        subst hv
        have ht : ((mgt l k).id == i) = true := by simpa using hki
        clear hkp hki
        go_wp2
        go_ret
        exact ⟨rfl, rfl⟩
      · have hkp : k < pos l i := by
          rcases Nat.lt_or_ge k (pos l i) with h1 | h1
          · exact h1
          · have : k = pos l i := by omega
            subst this
            exact absurd (pos_id hlt) hki
        have ht : ((mgt l k).id == i) = false := by simpa using hki
        have Hkp := hid hkp
        clear hkp hki
        go_wp2
        go_roundw
        case rel => exact ⟨k + 1, Hkp.out, by go_num, by first | rfl | trivial⟩
        case measure => simp [intOf]; omega
    · have hv : v = -1 := by rw [Hv.out]; unfold fndV; rw [if_neg (by omega)]
      subst hv
      go_wp2
      go_ret
      exact ⟨rfl, rfl⟩
/-! ## take -/
set_option maxHeartbeats 8000000 in
theorem rtake_c (k : Nat) (r : Nat) (l : List Mk) (w : World) (F : Nat → Prop) (h : RefL w F r l) (hl : l.length ≤ 1000) (hk : k < l.length) :
    Calls Try.prog 44 #[.pointer (some ⟨r, 0, none⟩), .int .i64 k] w fun e w' => e = .returned (.tuple #[]) ∧ RLft w F r (takM l k) w' := by
  obtain ⟨a, c, hr, hG, hC⟩ := h
  obtain ⟨a1, c1, D1, HD1, s1, q1, run1⟩ := mslice_to hC.sl k c (by omega) hC.cap
  obtain ⟨a2, c2, D2, HD2, s2, q2, run2⟩ := mslice_from hC.sl (k + 1) c (by omega) hC.cap
  push_cast at run2
  have hl1 : D1.length ≤ 1000 := by rw [HD1.out]; simp; omega
  have hl2 : D2.length ≤ 1000 := by rw [HD2.out]; simp; omega
  have S1 : Hid (∀ w', Below w.heap.size w w' → MSl w' a1 D1) := fun w' hb => s1.bel hb
  have S2 : Hid (∀ w', Below w.heap.size w w' → MSl w' a2 D2) := fun w' hb => s2.bel hb
  have hwr : IntKind.i64.wrap ((k : Int) + 1) = (k : Int) + 1 := by rw [IntKind.wrap_i64]; omega
  have hrl := hC.lt
  have KN : Hid (∀ w', Below w.heap.size w w' → w'.cell? ⟨r, 0, none⟩ = some (.slice a l.length c) ∧ w'.frozen? ⟨r, 0, none⟩ = false ∧ r < w'.heap.size) := fun w' hb => ⟨(hC.bel hb).cell, (hC.bel hb).free, (hC.bel hb).lt⟩
  have HC := hid hC
  have Hr := hid (And.intro hr hG)
  have x0 : Below w.heap.size w w.drew := (Below.refl _ _).drew
  have kk := KN.out _ (Below.refl _ w)
  obtain ⟨g0, g1, g2⟩ := kk
  clear hr hG hC s1 s2 hrl
  go_enter Try.func44, Try.ntmps44
  go_region_law
    (first | (((refine step_mapp rfl ((.const (.slice none 0 0))) (.tmp 10) rfl w.heap.size none a1 0 D1.length 0 c1 [] D1 rfl (by first | rfl | simp | omega) (MOwn.nil _ _) rfl (by first | rfl | simp | omega) (S1.out _ (by (repeat' (first | exact Below.refl _ _ | assumption | refine bdrewN ?_ _ | refine Below.drew ?_ | refine bal ?_ _ | refine bthen ?_ (by assumption))))) (by simp; omega) (by simp) ?_); intro a3 c3 w3 L3 Hl3 ho3 hb3 hk3 hA3; have HA3 := hid hA3; clear hA3; have Ho3 := hid ho3; clear ho3; have Hk3 := hid hk3; clear hk3; have hz3 := hb3.size); have x3 : Below w.heap.size w w3 := Below.trans x0 hb3; have kk := KN.out _ x3; obtain ⟨n0, n1, n2⟩ := kk; have hq3 : L3.length ≤ 1000 := (by rw [Hl3.out]; simpa using hl1))
           | (((refine step_mapp rfl (.tmp 11) (.tmp 18) rfl w.heap.size a3 a2 L3.length D2.length c3 c2 L3 D2 rfl (by first | rfl | simp | omega) Ho3.out rfl (by first | rfl | simp | omega) (S2.out _ x3) (by omega) (Nat.le_trans (by simp) x3.size) ?_); intro a4 c4 w4 L4 Hl4 ho4 hb4 hk4 hA4; have HA4 := hid hA4; clear hA4; have Ho4 := hid ho4; clear ho4; have Hk4 := hid hk4; clear hk4; have hz4 := hb4.size); have x4 : Below w.heap.size w w4 := Below.trans x3 hb4; have kk := KN.out _ x4; obtain ⟨p0, p1, p2⟩ := kk))
  all_goals
    clear g0 g1 g2 n0 n1 n2 p0 p1 p2 x0
    go_wp2_with fail
    go_end0
    refine ⟨rfl, ?_⟩
    have e : L4 = takM l k := by rw [Hl4.out, Hl3.out, HD1.out, HD2.out]; rfl
    rw [← e]
    exact RLft.set Hr.out.1 HC.out x4 Ho4.out
end Go.Proofs.Ytaondjklclpdkaa
