/- Two sets side by side in a law's own memory: the code's and the document's. -/
import Derived.Test.YtaondjklclpdkaaTrs
import Derived.Test.YtaondjklclpdkaaTrp
import Derived.Test.YtaondjklclpdkaaTrr
namespace Go.Proofs.Ytaondjklclpdkaa
open Go.RowKit

theorem one_remove {B : Nat} {w : World} {s : Nat} {l : List Mk} (i : Int) (h : One B w s l) (g : Gd l) {x : Int} {l' : List Mk} (hx : remE l i = x) (hl : remL l i = l') :
    Calls Try.prog 15 #[.pointer (some ⟨s, 0, none⟩), .int .i64 i] w fun e w' => e = .returned (.int .i64 x) ∧ One B w' s l' ∧ Below B w w' := by
  subst hx; subst hl
  obtain ⟨F, h1, h2, h3⟩ := h
  refine (remove_c i s l w F h1 g).mono ?_
  rintro e w' ⟨rfl, k1, k2⟩
  refine ⟨rfl, ⟨_, k1, ?_, Nat.le_trans h3 k2.size⟩, k2.below h2 h3⟩
  rintro k (hk | hk)
  · exact h2 k hk
  · omega
/-- the code's set and the document's, in blocks from B on, none of P's -/
def Two (B : Nat) (P : Nat → Prop) (w : World) (s r : Nat) (l l' : List Mk) : Prop :=
  ∃ F G, SetL w F s l ∧ RefL w G r l' ∧ Dis F G ∧ (∀ k, F k → B ≤ k ∧ ¬ P k) ∧ (∀ k, G k → B ≤ k ∧ ¬ P k) ∧ B ≤ w.heap.size ∧ (∀ k, P k → k < w.heap.size)
theorem Two.bel {B : Nat} {P : Nat → Prop} {w w' : World} {s r : Nat} {l l' : List Mk} (h : Two B P w s r l l') (hb : Below w.heap.size w w') : Two B P w' s r l l' := by
  obtain ⟨F, G, h1, h2, h3, h4, h5, h6, h7⟩ := h
  exact ⟨F, G, h1.bel hb, h2.bel hb, h3, h4, h5, Nat.le_trans h6 hb.size, fun k hk => Nat.lt_of_lt_of_le (h7 k hk) hb.size⟩
theorem Two.none {B : Nat} {P : Nat → Prop} {w : World} {s r : Nat} {l l' : List Mk} (h : Two B P w s r l l') : Two B (fun _ => False) w s r l l' := by
  obtain ⟨F, G, h1, h2, h3, h4, h5, h6, h7⟩ := h
  exact ⟨F, G, h1, h2, h3, fun k hk => ⟨(h4 k hk).1, id⟩, fun k hk => ⟨(h5 k hk).1, id⟩, h6, fun k hk => hk.elim⟩
/-- what is new is none of theirs -/
theorem Two.fresh {B : Nat} {P : Nat → Prop} {w w' : World} {s r : Nat} {l l' : List Mk} (h : Two B P w s r l l') (hb : Below w.heap.size w w') : Two B (fun k => w.heap.size ≤ k ∧ k < w'.heap.size) w' s r l l' := by
  obtain ⟨F, G, h1, h2, h3, h4, h5, h6, h7⟩ := h
  exact ⟨_, _, h1.lt.bel hb, h2.lt.bel hb, fun k a b => h3 k a.1 b.1, fun k hk => ⟨(h4 k hk.1).1, fun hp => by omega⟩, fun k hk => ⟨(h5 k hk.1).1, fun hp => by omega⟩, Nat.le_trans h6 hb.size, fun k hk => hk.2⟩
theorem Two.one {B : Nat} {P : Nat → Prop} {w : World} {s r : Nat} {l l' : List Mk} (h : Two B P w s r l l') : One B w s l := by
  obtain ⟨F, G, h1, h2, h3, h4, h5, h6, h7⟩ := h
  exact ⟨F, h1, fun k hk => (h4 k hk).1, h6⟩
theorem Two.ref {B : Nat} {P : Nat → Prop} {w : World} {s r : Nat} {l l' : List Mk} (h : Two B P w s r l l') : ∃ a c, RefC w r a c l' := by
  obtain ⟨F, G, h1, ⟨a, c, _, _, h2⟩, _⟩ := h
  exact ⟨a, c, h2⟩
/-- a turn of the code's set -/
theorem Two.turnS {B : Nat} {P : Nat → Prop} {w : World} {s r : Nat} {l l' l2 : List Mk} {f : FuncId} {args : Array Value} {v : Value} (h : Two B P w s r l l')
    (hc : ∀ F, SetL w F s l → Calls Try.prog f args w fun e w' => e = .returned v ∧ SLft w F s l2 w') :
    Calls Try.prog f args w fun e w' => e = .returned v ∧ Two B P w' s r l2 l' ∧ Below B w w' ∧ ∀ k, P k → w'.heap[k]? = w.heap[k]? := by
  obtain ⟨F, G, h1, h2, h3, h4, h5, h6, h7⟩ := h
  refine (hc _ h1.lt).mono ?_
  rintro e w' ⟨rfl, k1, k2⟩
  refine ⟨rfl, ⟨_, _, k1, h2.lt.kpt k2 (fun k a b => h3 k b.1 a.1), ?_, ?_, fun k hk => h5 k hk.1, Nat.le_trans h6 k2.size, fun k hk => Nat.lt_of_lt_of_le (h7 k hk) k2.size⟩, k2.below (fun k hk => (h4 k hk.1).1) h6, fun k hk => k2.block k (h7 k hk) fun hf => (h4 k hf.1).2 hk⟩
  · rintro k (hk | hk) hg
    · exact h3 k hk.1 hg.1
    · omega
  · rintro k (hk | hk)
    · exact h4 k hk.1
    · exact ⟨by omega, fun hp => by have := h7 k hp; omega⟩
/-- a turn of the document's set -/
theorem Two.turnR {B : Nat} {P : Nat → Prop} {w : World} {s r : Nat} {l l' l2 : List Mk} {f : FuncId} {args : Array Value} {v : Value} (h : Two B P w s r l l')
    (hc : ∀ F, RefL w F r l' → Calls Try.prog f args w fun e w' => e = .returned v ∧ RLft w F r l2 w') :
    Calls Try.prog f args w fun e w' => e = .returned v ∧ Two B P w' s r l l2 ∧ Below B w w' ∧ ∀ k, P k → w'.heap[k]? = w.heap[k]? := by
  obtain ⟨F, G, h1, h2, h3, h4, h5, h6, h7⟩ := h
  refine (hc _ h2.lt).mono ?_
  rintro e w' ⟨rfl, k1, k2⟩
  refine ⟨rfl, ⟨_, _, h1.lt.kpt k2 (fun k a b => h3 k a.1 b.1), k1, ?_, fun k hk => h4 k hk.1, ?_, Nat.le_trans h6 k2.size, fun k hk => Nat.lt_of_lt_of_le (h7 k hk) k2.size⟩, k2.below (fun k hk => (h5 k hk.1).1) h6, fun k hk => k2.block k (h7 k hk) fun hf => (h5 k hf.1).2 hk⟩
  · rintro k hf (hk | hk)
    · exact h3 k hf.1 hk.1
    · omega
  · rintro k (hk | hk)
    · exact h5 k hk.1
    · exact ⟨by omega, fun hp => by have := h7 k hp; omega⟩
theorem two_add {B : Nat} {P : Nat → Prop} {w : World} {s r : Nat} {l l' : List Mk} (m : Mk) (h : Two B P w s r l l') (g : Gd l) (hi : ir m.id ∧ ir m.pr) {x : Int} {l2 : List Mk} (hx : addE l m = x) (hl : addL l m = l2) :
    Calls Try.prog 14 #[.pointer (some ⟨s, 0, none⟩), (.agg #[.int .i64 m.id, .int .i64 m.fr, .int .i64 m.to, .int .i64 m.pr])] w fun e w' => e = .returned (.int .i64 x) ∧ Two B P w' s r l2 l' ∧ Below B w w' ∧ ∀ k, P k → w'.heap[k]? = w.heap[k]? := by
  subst hx; subst hl
  exact h.turnS fun F hF => add_c m s l w F hF g hi
theorem two_radd {B : Nat} {P : Nat → Prop} {w : World} {s r : Nat} {l l' : List Mk} (m : Mk) (h : Two B P w s r l l') (g : Gd l') {x : Int} {l2 : List Mk} (hx : addE l' m = x) (hl : addL l' m = l2) :
    Calls Try.prog 22 #[.pointer (some ⟨r, 0, none⟩), (.agg #[.int .i64 m.id, .int .i64 m.fr, .int .i64 m.to, .int .i64 m.pr])] w fun e w' => e = .returned (.int .i64 x) ∧ Two B P w' s r l l2 ∧ Below B w w' ∧ ∀ k, P k → w'.heap[k]? = w.heap[k]? := by
  subst hx; subst hl
  exact h.turnR fun F hF => radd_c m r l' w F hF g
theorem two_remove {B : Nat} {P : Nat → Prop} {w : World} {s r : Nat} {l l' : List Mk} (i : Int) (h : Two B P w s r l l') (g : Gd l) {x : Int} {l2 : List Mk} (hx : remE l i = x) (hl : remL l i = l2) :
    Calls Try.prog 15 #[.pointer (some ⟨s, 0, none⟩), .int .i64 i] w fun e w' => e = .returned (.int .i64 x) ∧ Two B P w' s r l2 l' ∧ Below B w w' ∧ ∀ k, P k → w'.heap[k]? = w.heap[k]? := by
  subst hx; subst hl
  exact h.turnS fun F hF => remove_c i s l w F hF g
theorem two_rremove {B : Nat} {P : Nat → Prop} {w : World} {s r : Nat} {l l' : List Mk} (i : Int) (h : Two B P w s r l l') (g : Gd l') {x : Int} {l2 : List Mk} (hx : remE l' i = x) (hl : remL l' i = l2) :
    Calls Try.prog 25 #[.pointer (some ⟨r, 0, none⟩), .int .i64 i] w fun e w' => e = .returned (.int .i64 x) ∧ Two B P w' s r l l2 ∧ Below B w w' ∧ ∀ k, P k → w'.heap[k]? = w.heap[k]? := by
  subst hx; subst hl
  exact h.turnR fun F hF => rremove_c i r l' w F hF g
theorem two_move {B : Nat} {P : Nat → Prop} {w : World} {s r : Nat} {l l' : List Mk} (i f t : Int) (h : Two B P w s r l l') (g : Gd l) {x : Int} {l2 : List Mk} (hx : movE l i f t = x) (hl : movL l i f t = l2) :
    Calls Try.prog 26 #[.pointer (some ⟨s, 0, none⟩), .int .i64 i, .int .i64 f, .int .i64 t] w fun e w' => e = .returned (.int .i64 x) ∧ Two B P w' s r l2 l' ∧ Below B w w' ∧ ∀ k, P k → w'.heap[k]? = w.heap[k]? := by
  subst hx; subst hl
  exact h.turnS fun F hF => move_c i f t s l w F hF g
theorem two_rmove {B : Nat} {P : Nat → Prop} {w : World} {s r : Nat} {l l' : List Mk} (i f t : Int) (h : Two B P w s r l l') (g : Gd l') {x : Int} {l2 : List Mk} (hx : movE l' i f t = x) (hl : movL l' i f t = l2) :
    Calls Try.prog 27 #[.pointer (some ⟨r, 0, none⟩), .int .i64 i, .int .i64 f, .int .i64 t] w fun e w' => e = .returned (.int .i64 x) ∧ Two B P w' s r l l2 ∧ Below B w w' ∧ ∀ k, P k → w'.heap[k]? = w.heap[k]? := by
  subst hx; subst hl
  exact h.turnR fun F hF => rmove_c i f t r l' w F hF g
theorem two_depth {B : Nat} {P : Nat → Prop} {w : World} {s r : Nat} {l l' : List Mk} (i : Int) (h : Two B P w s r l l') (g : Gd l) {x : Int} (hx : depL l i = x) :
    Calls Try.prog 16 #[.pointer (some ⟨s, 0, none⟩), .int .i64 i] w fun e w' => e = .returned (.int .i64 x) ∧ Below w.heap.size w w' := one_depth i h.one g hx
theorem two_rdepth {B : Nat} {P : Nat → Prop} {w : World} {s r : Nat} {l l' : List Mk} (i : Int) (h : Two B P w s r l l') (g : Gd l') {x : Int} (hx : depL l' i = x) :
    Calls Try.prog 24 #[.pointer (some ⟨r, 0, none⟩), .int .i64 i] w fun e w' => e = .returned (.int .i64 x) ∧ Below w.heap.size w w' := by
  subst hx
  obtain ⟨a, c, h'⟩ := h.ref
  exact rdepth_c i r a c l' w h' g
theorem two_rfind {B : Nat} {P : Nat → Prop} {w : World} {s r : Nat} {l l' : List Mk} (i : Int) (h : Two B P w s r l l') (g : Gd l') {x : Int} (hx : fndV l' i = x) :
    Calls Try.prog 30 #[.pointer (some ⟨r, 0, none⟩), .int .i64 i] w fun e w' => e = .returned (.int .i64 x) ∧ w = w' := by
  subst hx
  obtain ⟨a, c, h'⟩ := h.ref
  exact rfind_c i r a c l' w h' (by have := g.len; omega)
/-- a new set of the document's beside a new one of the code's -/
theorem two_new {B : Nat} {w0 w : World} {s : Nat} {e : TypeId} (h : One B w0 s []) (hb : Below w0.heap.size w0 w) (hB : B ≤ w0.heap.size) :
    Two B (fun _ => False) (w.alloc (.cells #[.slice none 0 0] e)) s w.heap.size [] [] := by
  obtain ⟨F, h1, h2, h3⟩ := h
  have hs := hb.size
  have hb1 : Below w.heap.size w (w.alloc (.cells #[.slice none 0 0] e)) := (Below.refl _ _).alloc (Nat.le_refl _) _
  have hc : RefC (w.alloc (.cells #[.slice none 0 0] e)) w.heap.size none 0 [] := by
    refine ⟨?_, ?_, Nat.le_refl _, MSl.nil _ _, fun ad ha => nomatch ha⟩
    · rw [cell_alloc_new]; rfl
    · simp
  have hR : RefL (w.alloc (.cells #[.slice none 0 0] e)) (fun k => k = w.heap.size) w.heap.size [] := ⟨none, 0, rfl, fun ad ha => (nomatch ha), hc⟩
  exact ⟨_, fun k => k = w.heap.size, (h1.bel hb).lt.bel hb1, hR, fun k a b => by omega, fun k hk => ⟨h2 k hk.1, id⟩, fun k hk => ⟨by omega, id⟩, by simp; omega, fun k hk => hk.elim⟩
/-- a box that is none of theirs -/
theorem bx_held {w w' : World} {P : Nat → Prop} {b : Nat} {m : Mk} (h : Bx w b m) (hp : P b) (hk : ∀ k, P k → w'.heap[k]? = w.heap[k]?) : Bx w' b m := by
  have c : ∀ o, w'.cell? ⟨b, o, none⟩ = w.cell? ⟨b, o, none⟩ := fun o => World.cell?_of_block (w := w) (w' := w') (a := ⟨b, o, none⟩) (hk b hp)
  exact ⟨by rw [c]; exact h.1, by rw [c]; exact h.2.1, by rw [c]; exact h.2.2.1, by rw [c]; exact h.2.2.2⟩
theorem band_le (x : Int) (m : Nat) (hm : m < 9223372036854775808) : 0 ≤ bits .and .i64 x m ∧ bits .and .i64 x m ≤ m := by
  have h1 : (BitVec.ofInt 64 x &&& BitVec.ofInt 64 (m : Int)).toNat ≤ m := by
    rw [BitVec.toNat_and]
    refine Nat.le_trans Nat.and_le_right ?_
    rw [BitVec.ofInt_natCast, BitVec.toNat_ofNat]
    exact Nat.mod_le _ _
  have h2 : bits .and .i64 x m = IntKind.i64.wrap ((BitVec.ofInt 64 x &&& BitVec.ofInt 64 (m : Int)).toNat : Int) := rfl
  rw [h2, IntKind.wrap_i64]
  omega
set_option maxHeartbeats 400000 in
theorem index_c (k : Int) (n : Nat) (w : World) (hn : 0 < n) (hn2 : n ≤ 1000000) :
    Calls Try.prog 13 #[.int .i64 k, .int .i64 n] w fun e w' => (∃ i : Nat, i < n ∧ e = .returned (.int .i64 i)) ∧ w = w' := by
  have hb := band_le k 4294967295 (by decide)
  rw [show ((4294967295 : Nat) : Int) = 4294967295 from rfl] at hb
  obtain ⟨m, hm⟩ := Int.eq_ofNat_of_zero_le hb.1
  rw [hm] at hb
  have hx : (bits .and .i64 k 4294967295).tmod n = ((m % n : Nat) : Int) := by rw [hm]; rfl
  have Hx := hid hx
  clear hx
  go_enter Try.func13, Try.ntmps13
  go_wp2
  go_ret
  refine ⟨⟨m % n, Nat.mod_lt _ hn, ret_int ?_⟩, rfl⟩
  first | exact Hx.out | (have := Hx.out; rw [hm] at this; exact this)
end Go.Proofs.Ytaondjklclpdkaa
