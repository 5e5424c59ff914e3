/- Contracts of package piece: New, Copy. -/
import Derived.Test.YtcekoifbgfeahaaPf
namespace Go.Proofs.Ytcekoifbgfeahaa
open Go.RowKit

def st0 (l : List Int) : St := ⟨l, [], if l = [] then [] else [⟨false, 0, l.length⟩]⟩
theorem st0_wf {l : List Int} (h : l.length ≤ 1000) : Wf (st0 l) := by
  refine ⟨h, by simp [st0], ?_, ?_⟩
  · intro p hp
    by_cases he : l = []
    · simp [st0, he] at hp
    · have hpos : 0 < l.length := by rcases l with _ | ⟨x, r⟩; exact absurd rfl he; simp
      simp [st0, he] at hp; subst hp; simp [st0, src]; omega
  · by_cases he : l = []
    · simp [st0, he, tot]
    · simp [st0, he, tot]; omega
theorem st0_txt (l : List Int) : (st0 l).t = l := by
  by_cases he : l = []
  · simp [st0, St.t, he, txt]
  · simp [st0, St.t, he, txt, src]
/-- all new blocks -/
def New (w w' : World) : Nat → Prop := fun k => w.heap.size ≤ k ∧ k < w'.heap.size
/-- a table that is new -/
def Made (w : World) (s : St) (e : Ending) (w' : World) : Prop :=
  ∃ pt, e = .returned (.tuple #[.pointer (some ⟨pt, 0, none⟩), .int .i64 0]) ∧ Tab w' w.heap.size (New w w') pt s ∧ Below w.heap.size w w'
theorem frozen_alloc_new (w : World) (cs : Array Value) (e : TypeId) (i : Nat) : (w.alloc (.cells cs e)).frozen? ⟨w.heap.size, i, none⟩ = false := by simp
theorem own_new {w0 V : World} {a : Option Addr} {c : Nat} {l : List Int} (h : Own V w0.heap.size a c l) : ∀ ad, a = some ad → New w0 V ad.block := by
  intro ad ha
  rcases h.shape with ⟨h0, _⟩ | ⟨g, h0, h1, h2, _⟩
  · rw [h0] at ha; cases ha
  · rw [h0] at ha; simp only [Option.some.injEq] at ha; subst ha; exact ⟨h1, h2⟩
theorem pown_new {w0 V : World} {a : Option Addr} {c : Nat} {l : List Pc} (h : POwn V w0.heap.size a c l) : ∀ ad, a = some ad → New w0 V ad.block := by
  intro ad ha
  rcases h.shape with ⟨h0, _⟩ | ⟨g, h0, h1, h2, _⟩
  · rw [h0] at ha; cases ha
  · rw [h0] at ha; simp only [Option.some.injEq] at ha; subst ha; exact ⟨h1, h2⟩
theorem own_lt {V : World} {B : Nat} {a : Option Addr} {c : Nat} {l : List Int} (h : Own V B a c l) : ∀ ad, a = some ad → ad.block < V.heap.size := by
  intro ad ha
  rcases h.shape with ⟨h0, _⟩ | ⟨g, h0, h1, h2, _⟩
  · rw [h0] at ha; cases ha
  · rw [h0] at ha; simp only [Option.some.injEq] at ha; subst ha; exact h2
theorem own_ge {V : World} {B : Nat} {a : Option Addr} {c : Nat} {l : List Int} (h : Own V B a c l) : ∀ ad, a = some ad → B ≤ ad.block := by
  intro ad ha
  rcases h.shape with ⟨h0, _⟩ | ⟨g, h0, h1, h2, _⟩
  · rw [h0] at ha; cases ha
  · rw [h0] at ha; simp only [Option.some.injEq] at ha; subst ha; exact h1
theorem pown_ge {V : World} {B : Nat} {a : Option Addr} {c : Nat} {l : List Pc} (h : POwn V B a c l) : ∀ ad, a = some ad → B ≤ ad.block := by
  intro ad ha
  rcases h.shape with ⟨h0, _⟩ | ⟨g, h0, h1, h2, _⟩
  · rw [h0] at ha; cases ha
  · rw [h0] at ha; simp only [Option.some.injEq] at ha; subst ha; exact h1
theorem pown_lt {V : World} {B : Nat} {a : Option Addr} {c : Nat} {l : List Pc} (h : POwn V B a c l) : ∀ ad, a = some ad → ad.block < V.heap.size := by
  intro ad ha
  rcases h.shape with ⟨h0, _⟩ | ⟨g, h0, h1, h2, _⟩
  · rw [h0] at ha; cases ha
  · rw [h0] at ha; simp only [Option.some.injEq] at ha; subst ha; exact h2
/-- a new table -/
theorem tab_mk {w0 V : World} {pt : Nat} {s : St} (hw : Wf s) (hp : w0.heap.size ≤ pt) (fz : ∀ i, V.frozen? ⟨pt, i, none⟩ = false) (ao aa ap : Option Addr) (co ca cp : Nat)
    (c0 : V.cell? ⟨pt, 0, none⟩ = some (.slice ao s.o.length co)) (c1 : V.cell? ⟨pt, 1, none⟩ = some (.slice aa s.a.length ca)) (c2 : V.cell? ⟨pt, 2, none⟩ = some (.slice ap s.p.length cp))
    (o0 : Own V w0.heap.size ao co s.o) (o1 : Own V w0.heap.size aa ca s.a) (o2 : POwn V w0.heap.size ap cp s.p)
    (n0 : ∀ ad, ao = some ad → ad.block ≠ pt) (n1 : ∀ ad, aa = some ad → ad.block ≠ pt) (n2 : ∀ ad, ap = some ad → ad.block ≠ pt)
    (d1 : ∀ ad ae, ao = some ad → aa = some ae → ad.block ≠ ae.block) (d2 : ∀ ad ae, ap = some ad → aa = some ae → ad.block ≠ ae.block) : Tab V w0.heap.size (New w0 V) pt s := by
  have hl := World.block_lt_of_cell? V _ c0
  exact ⟨⟨Nat.lt_of_le_of_lt (Nat.zero_le _) hl, fun k hk => hk, ⟨hp, hl⟩, fz, ao, co, aa, ca, ap, cp, c0, c1, c2, o0, o1, o2, fun ad h => ⟨own_new o0 ad h, n0 ad h⟩, fun ad h => ⟨own_new o1 ad h, n1 ad h⟩, fun ad h => ⟨pown_new o2 ad h, n2 ad h⟩, d1, d2⟩, hw⟩
theorem POwn.lit' (w : World) (B : Nat) (p : Pc) (b : Nat) (hb : b = w.heap.size) (hB : B ≤ w.heap.size) (cs : Array Value) (hcs : cs = (pcv p).toArray) :
    POwn (w.alloc (.cells cs 63)) B (some ⟨b, 0, none⟩) 1 [p] := by
  subst hb; subst hcs
  refine ⟨⟨flat_len _, .inr ⟨_, 1, _, rfl, hB, heap_alloc_new _ _, by simp, by decide, by simp [pcv], by simp [flat, pcv]⟩⟩, by simp⟩

set_option maxHeartbeats 1000000 in
theorem new_form (a : Option Addr) (c : Nat) (l : List Int) (w : World) (h : Sl w a l) (hm : may l = false) :
    Calls Try.prog 10 #[.slice a l.length c] w fun e w' => e = .returned (.tuple #[.pointer none, .int .i64 1]) ∧ w = w' := by
  go_enter Try.func10, Try.ntmps10
  go_wp2_with (go_at_call 31; (with_reducible refine (may_c _ _ _ _ h).mono ?_); rintro e w' ⟨rfl, rfl⟩)
  go_ret2
  exact ⟨rfl, rfl⟩
set_option maxHeartbeats 1000000 in
theorem new_full (a : Option Addr) (c : Nat) (l : List Int) (w : World) (h : Sl w a l) (hm : may l = true) (hl : 1000 < l.length) :
    Calls Try.prog 10 #[.slice a l.length c] w fun e w' => e = .returned (.tuple #[.pointer none, .int .i64 3]) ∧ w = w' := by
  have hb := h.len
  go_enter Try.func10, Try.ntmps10
  go_wp2_with (go_at_call 31; (with_reducible refine (may_c _ _ _ _ h).mono ?_); rintro e w' ⟨rfl, rfl⟩)
  go_ret2
  exact ⟨rfl, rfl⟩
set_option maxHeartbeats 1000000 in
theorem new_t (a : Option Addr) (c : Nat) (l : List Int) (w : World) (h : Sl w a l) (hm : may l = true) (hl : l.length ≤ 1000) :
    Calls Try.prog 10 #[.slice a l.length c] w (Made w (st0 l)) := by
  have Hwf := hid (st0_wf hl)
  go_enter Try.func10, Try.ntmps10
  go_wp2_with fail
  refine (may_c _ _ _ _ h).mono ?_
  rintro e w' ⟨rfl, rfl⟩
  go_wp2_with fail
  refine (rcloned_c _ _ _ _ h).mono ?_
  rintro e w1 ⟨a1, c1, rfl, ho, hb⟩
  have Ho := hid ho
  clear ho
  by_cases he : l = []
  · subst he
    go_wp2
    go_ret2
    refine ⟨w1.heap.size, rfl, tab_mk Hwf.out hb.size (fun i => frozen_alloc_new _ _ _ _) a1 none none c1 0 0 (by rw [cell_alloc_new]; rfl) (by rw [cell_alloc_new]; rfl) (by rw [cell_alloc_new]; rfl) (Ho.out.grow (by (repeat' (first | exact Below.refl _ _ | assumption | refine bdrewN ?_ _ | refine Below.drew ?_ | refine bal ?_ _ | refine bthen ?_ (by assumption))))) (Own.nil _ _) (POwn.nil _ _) ?_ (by simp) (by simp) (by simp) (by simp), hb.alloc hb.size _⟩
    intro ad h; have := own_lt Ho.out ad h; omega
  · have hpos : 0 < l.length := by rcases l with _ | ⟨x, r⟩; exact absurd rfl he; simp
    have He := hid he
    clear he
    have hst : Hid ((st0 l).p = [⟨false, 0, l.length⟩]) := by simp [Hid, st0, He.out]
    go_wp2
    go_ret2
    have hsz := hb.size
    refine ⟨w1.heap.size, rfl, tab_mk Hwf.out hb.size ?_ a1 none (some ⟨w1.heap.size + 1, 0, none⟩) c1 0 1 ?_ ?_ ?_ (Ho.out.grow (by (repeat' (first | exact Below.refl _ _ | assumption | refine bdrewN ?_ _ | refine Below.drew ?_ | refine bal ?_ _ | refine bthen ?_ (by assumption))))) (Own.nil _ _) ?_ ?_ (by simp) (by simp) (by simp) (by simp), (hb.alloc hb.size _).alloc (by simp; omega) _⟩
    · intro i; simp
    · simp [st0]
    · simp [st0]
    · rw [hst.out]; simp
    · rw [hst.out]; exact POwn.lit' _ _ _ _ (by simp) (by simp; omega) _ rfl
    · intro ad h; have := own_lt Ho.out ad h; omega
end Go.Proofs.Ytcekoifbgfeahaa
