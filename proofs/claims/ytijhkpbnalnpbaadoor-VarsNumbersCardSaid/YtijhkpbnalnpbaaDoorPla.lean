/- Package standishkeep: Plain, the tape's one and Pattern. -/
import Derived.Test.YtijhkpbnalnpbaaDoorTape
import Derived.Test.YtijhkpbnalnpbaaDoorPlq
namespace Go.Proofs.YtijhkpbnalnpbaaDoor
open Go.RowKit

/-- a text off the tape: one of some, new -/
def OneE (w : World) (p : Nat) (a : Option Addr) (l : List Int) (c : Nat) (ss : List ByteArray) (e' : Ending) (w' : World) : Prop :=
  ∃ s a2 c2 L, s ∈ ss ∧ e' = .returned (.slice a2 L.length c2) ∧ Hid (L = strL s) ∧ Own w' w.heap.size a2 c2 L ∧ (∃ i, TapeAt w' p a l c i) ∧ Kpt (fun k => k = p) w w'
set_option maxHeartbeats 4000000 in
theorem one_c (ss : List ByteArray) (b n m : Nat) (p : Nat) (a : Option Addr) (l : List Int) (c i : Nat) (w : World) (ht : TapeAt w p a l c i) (hs : I.Sl w a l) (hn : n = ss.length) (h0 : 0 < ss.length) (hl : ss.length ≤ 1000) (hss : ∀ s, s ∈ ss → s.size ≤ 1000) (hb : b ≠ p) (hc : StrAt w b ss) :
    Calls Tryd.prog 16 #[.pointer (some ⟨p, 0, none⟩), .slice (some ⟨b, 0, none⟩) n m] w (OneE w p a l c ss) := by
  subst hn
  have C := hid (next_c p a l c i ss.length w ht hs h0 (by omega))
  have hplt := ht.lt
  have HC := hid hc
  have Hss := hid hss
  clear ht hs hc hss
  go_enter Tryd.func16, Tryd.ntmps16
  go_wp2_with fail
  refine C.out.mono ?_
  rintro _ w1 ⟨v, hv, rfl, ht1, hk1⟩
  have ck := hk1.cell (HC.out v hv) hb
  have hsz := Hss.out _ (List.getElem_mem hv)
  have Hmem := hid (List.getElem_mem hv)
  obtain ⟨s, hse⟩ : ∃ s, s = ss[v] := ⟨_, rfl⟩
  rw [← hse] at ck hsz Hmem
  have K1 := hid hk1
  have T1 := hid ht1
  have hz := hk1.size
  clear hk1 ht1 C HC Hss hse
  go_wp2_with fail
  refine (plain_c s w1 hsz).mono ?_
  rintro _ w2 ⟨a2, c2, L, rfl, hL, ho, hb2⟩
  have Ho := hid ho
  have Hb := hid hb2
  clear ho hb2
  go_wp2_with fail
  go_ret
  obtain ⟨i1, t1⟩ := T1.out
  exact ⟨s, a2, c2, L, Hmem.out, rfl, hL, Ho.out.base_le hz, ⟨i1, t1.below Hb.out (by omega)⟩, K1.out.tr (Kpt.of Hb.out)⟩
theorem one_a (ss : List ByteArray) (cs : Array Value) (T : TypeId) (n m : Nat) (p : Nat) (a : Option Addr) (l : List Int) (c b : Nat) (w : World) (ht : ∃ i, TapeAt w p a l c i) (hS : ∀ w', Below p w w' → I.Sl w' a l) (hb : b = w.heap.size) (hcs : cs = (ss.map Value.string).toArray) (hn : n = ss.length) (h0 : 0 < ss.length) (hl : ss.length ≤ 1000) (hss : ∀ s, s ∈ ss → s.size ≤ 1000) :
    Calls Tryd.prog 16 #[.pointer (some ⟨p, 0, none⟩), .slice (some ⟨b, 0, none⟩) n m] (w.alloc (.cells cs T)) fun e' w' =>
      ∃ s a2 c2 L, s ∈ ss ∧ e' = .returned (.slice a2 L.length c2) ∧ Hid (L = strL s) ∧ Own w' w.heap.size a2 c2 L ∧ (∃ i, TapeAt w' p a l c i) ∧ Kpt (fun k => k = p) w w' := by
  subst hb
  obtain ⟨i, ht⟩ := ht
  have hlt := ht.lt
  have hbl : Below w.heap.size w (w.alloc (.cells cs T)) := (Below.refl _ _).alloc (Nat.le_refl _) _
  refine (one_c ss w.heap.size n m p a l c i _ (ht.below hbl hlt) (hS _ (hbl.mono (by omega))) hn h0 hl hss (by omega) (StrAt.new w ss T cs hcs)).mono ?_
  rintro e w' ⟨s, a2, c2, L, hs, he, hL, ho, hti, hk⟩
  exact ⟨s, a2, c2, L, hs, he, hL, ho.base_le (by simp), hti, (Kpt.of hbl).tr hk⟩
end Go.Proofs.YtijhkpbnalnpbaaDoor
