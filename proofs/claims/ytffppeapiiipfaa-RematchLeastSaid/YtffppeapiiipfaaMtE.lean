/- A text off the tape, beside what was made ahead of it. A slice of bool as a law's argument. -/
import Derived.Test.YtffppeapiiipfaaTape
import Derived.Test.YtffppeapiiipfaaCore
import Derived.Deep.Grids
namespace Go.Proofs.Ytffppeapiiipfaa
open Go.RowKit

theorem Kpt.onb {F : Nat → Prop} {w w2 w3 : World} (h : Kpt F w w2) (b : Below w.heap.size w2 w3) : Kpt F w w3 :=
  ⟨b.os.trans h.os, b.tape.trans h.tape, b.output.trans h.output, Nat.le_trans h.size b.size, fun k hk hn => (b.block k hk).trans (h.block k hk hn)⟩
def TextK (w : World) (p : Nat) (a : Option Addr) (l : List Int) (c m : Nat) (e : Ending) (w' : World) : Prop :=
  ∃ a2 c2 L, e = .returned (.slice a2 L.length c2) ∧ L.length ≤ m ∧ Own w' w.heap.size a2 c2 L ∧ (∃ i, TapeAt w' p a l c i) ∧ Kpt (fun k => k = p) w w'
set_option maxHeartbeats 4000000 in
theorem text_k (p : Nat) (a : Option Addr) (l : List Int) (c i m : Nat) (w : World) (ht : TapeAt w p a l c i) (S : Hid (∀ w', Below p w w' → I.Sl w' a l)) (hm : m ≤ 1000) :
    Calls Try.prog 18 #[.pointer (some ⟨p, 0, none⟩), .int .i64 m] w (TextK w p a l c m) := by
  have hplt := ht.lt
  have HT := hid ht
  clear ht
  go_enter Try.func18, Try.ntmps18
  go_wp2_with fail
  rw [show (m : Int) + 1 = ((m + 1 : Nat) : Int) from by omega]
  refine (next_c p a l c i (m + 1) w HT.out (S.out _ (Below.refl _ _)) (by omega) (by omega)).mono ?_
  rintro e w1 ⟨n, hn, rfl, ⟨i1, ht1⟩, hk1⟩
  have HK1 := hid hk1
  have HT1 := hid ht1
  clear ht1 hk1
  go_wp2_with fail
  go_loopw [5, 6] (fun ov nv wr => ∃ (r : Nat) (a3 : Option Addr) (c3 i3 : Nat) (L : List Int), L.length + r ≤ m ∧ nv = .int .i64 r ∧ ov = .slice a3 L.length c3 ∧ Hid (Own wr w.heap.size a3 c3 L) ∧ Hid (TapeAt wr p a l c i3) ∧ Hid (Kpt (fun k => k = p) w wr)) (fun _ nv _ => (intOf nv).toNat)
  case atStart => exact ⟨n, none, 0, i1, [], by simp; omega, rfl, rfl, Own.nil _ _, HT1, HK1⟩
  case round =>
    obtain ⟨r, a3, c3, i3, L, hLr, rfl, rfl, Ho, HT3, HK⟩ := hrel
    have hplr := HT3.out.lt
    by_cases hr : 0 < r
    · have h1 : decide (0 < r) = true := by simpa using hr
      go_wp2_with fail
      refine (sign_c p a l c i3 wr HT3.out (S.out _ (HK.out.belowp (Nat.le_of_lt hplt)))).mono ?_
      rintro e w2 ⟨x, hx, rfl, ⟨i4, ht4⟩, hk4⟩
      have HK4 := hid (HK.out.tr hk4)
      have Ho4 : Hid (Own w2 w.heap.size a3 c3 L) := Ho.out.same fun ad ha hl => hk4.block _ hl (by
        rcases Ho.out.shape with ⟨h0, _⟩ | ⟨g, h0, hg, _⟩
        · rw [h0] at ha; cases ha
        · rw [h0] at ha; simp at ha; subst ha; simp; omega)
      have HT4 := hid ht4
      have hpl4 := ht4.lt
      have hz4 := HK4.out.size
      clear ht4 hk4
      go_wp2_with (at_builtin; (refine wpL_appn rfl (.tmp 15) (.tmp 18) rfl w.heap.size a3 (some ⟨w2.heap.size, 0, none⟩) L.length 1 c3 1 L [x] rfl (by first | rfl | simp | omega) (Ho4.out.grow (by (repeat' (first | exact Below.refl _ _ | assumption | refine bdrewN ?_ _ | refine Below.drew ?_ | refine bal ?_ _ | refine bthen ?_ (by assumption))))) rfl (by first | rfl | simp | omega) (Sl.lit w2 [x] _ (by simp) (rng_one hx) _ rfl) (by simp; omega) (by simp; omega) ?_); intro a5 c5 w5 L5 Hl5 ho5 hb5 hk5 hA5; have HA5 := hid hA5; clear hA5; have Ho5 := hid ho5; clear ho5; have Hk5 := hid hk5; clear hk5; have hz5 := hb5.size)
      have hLl : L5.length = L.length + 1 := by rw [Hl5.out]; simp
      have HK6 := hid ((HK4.out.alloc _).onb hb5)
      have HT5 : Hid (TapeAt w5 p a l c i4) := (HT4.out.below (B := p + 1) ((Below.refl _ _).alloc (by omega) _) (by omega)).below hb5 (by omega)
      have hL5 : L5.length + (r - 1) ≤ m := by omega
      clear hLl
      go_round
      case rel => exact ⟨r - 1, a5, c5, i4, L5, hL5, by go_num, rfl, Ho5, HT5, HK6⟩
      case measure => simp [intOf]; omega
    · go_wp2_with fail
      go_ret
      exact ⟨a3, c3, L, rfl, by omega, Ho.out, ⟨_, HT3.out⟩, HK.out⟩
end Go.Proofs.Ytffppeapiiipfaa
namespace Go.Proofs.Ytffppeapiiipfaa
open Go.RowKit Go.ChangeShapes Go.WideShapes Go.ChangeAt

def bgt (l : List Bool) (i : Nat) : Bool := l.getD i false
def BSl (w : World) (a : Option Addr) (l : List Bool) : Prop :=
  l.length ≤ 9223372036854775807 ∧ (l = [] ∨ ∃ b off, a = some ⟨b, off, none⟩ ∧ ∀ i, i < l.length → w.cell? ⟨b, off + i, none⟩ = some (.bool (bgt l i)))
theorem BSl.bel {w w' : World} {a : Option Addr} {l : List Bool} (h : BSl w a l) (hb : Below w.heap.size w w') : BSl w' a l := by
  refine ⟨h.1, ?_⟩
  rcases h.2 with h0 | ⟨b, off, ha, hc⟩
  · exact .inl h0
  · exact .inr ⟨b, off, ha, fun i hi => (hb.cell (World.block_lt_of_cell? w _ (hc i hi))).trans (hc i hi)⟩
theorem BSl.at {w : World} {a : Option Addr} {l : List Bool} (h : BSl w a l) {i : Nat} (hi : i < l.length) : ∃ b off, a = some ⟨b, off, none⟩ ∧ ∀ i, i < l.length → w.cell? ⟨b, off + i, none⟩ = some (.bool (bgt l i)) := by
  rcases h.2 with rfl | h
  · simp at hi
  · exact h
section
variable {H : Type} {enc : TypeId × Value → H}
set_option maxRecDepth 20000 in
theorem open_bls {W : World} {base : Nat} {v : Value} {d : DataW H} {p : List MemPlace} (hv : Value.okWide Try.prog W .any base 53 v)
    (h : DataW.Trod enc Try.prog W 0 (fun _ => true) true 53 v d p) :
    ∃ a l c, v = .slice a l.length c ∧ l.length ≤ c ∧ BSl W a l := by
  obtain ⟨a0, len, cap, rfl⟩ := okWide_slice Try.underlying53 hv
  obtain ⟨fuel, hf⟩ := h
  rcases Go.Deep.open_bools Try.underlying53 Try.underlying4 (by kernel_rfl) hf with ⟨hcs, hx⟩ | ⟨a, len', cap', B, hcs, _, hl, hm, hx, hcell⟩
  · simp only [Value.cells, List.cons.injEq, and_true, Value.slice.injEq] at hcs
    obtain ⟨rfl, rfl, rfl⟩ := hcs
    exact ⟨none, [], 0, rfl, by simp, by simp, .inl rfl⟩
  · simp only [Value.cells, List.cons.injEq, and_true, Value.slice.injEq] at hcs
    obtain ⟨rfl, rfl, rfl⟩ := hcs
    have hlen : ((List.range len).map B).length = len := by simp
    refine ⟨some a, (List.range len).map B, cap, by rw [hlen], by omega, by rw [hlen]; unfold maxLen at hm; omega, ?_⟩
    rcases Nat.eq_zero_or_pos len with h0 | hpos
    · left; subst h0; rfl
    · have hsp : a.spot = none := by
        have := hcell 0 (by omega)
        obtain ⟨b, o, sp⟩ := a
        cases sp with
        | none => rfl
        | some s =>
          simp only [Addr.add, if_true, World.cell?] at this
          split at this <;> simp_all
      obtain ⟨b, o, sp⟩ := a
      simp only at hsp; subst hsp
      refine .inr ⟨b, o, rfl, fun i hi => ?_⟩
      rw [hlen] at hi
      have h1 := hcell i (by omega)
      have h2 : (⟨b, o, none⟩ : Addr).add i = ⟨b, o + i, none⟩ := by unfold Addr.add; split <;> simp_all
      rw [h2] at h1
      rw [h1]
      unfold bgt
      rw [List.getD_eq_getElem?_getD, List.getElem?_map, List.getElem?_range hi]; rfl
end
end Go.Proofs.Ytffppeapiiipfaa
