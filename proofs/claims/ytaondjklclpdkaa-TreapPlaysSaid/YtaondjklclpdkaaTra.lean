/- A treap in memory: one block a node, no block met twice; what a change of one of its two trees leaves. -/
import Derived.Test.YtaondjklclpdkaaMks
import Derived.Test.YtaondjklclpdkaaTrpT
import Derived.Deep.Draws
namespace Go.Proofs.Ytaondjklclpdkaa
open Go.RowKit

/-- the cells of a node -/
structure Nd (w : World) (b : Nat) (m : Mk) (pl pr : Option Addr) : Prop where
  c0 : w.cell? ⟨b, 0, none⟩ = some (.int .i64 m.id)
  c1 : w.cell? ⟨b, 1, none⟩ = some (.int .i64 m.fr)
  c2 : w.cell? ⟨b, 2, none⟩ = some (.int .i64 m.to)
  c3 : w.cell? ⟨b, 3, none⟩ = some (.int .i64 m.pr)
  c4 : w.cell? ⟨b, 4, none⟩ = some (.pointer pl)
  c5 : w.cell? ⟨b, 5, none⟩ = some (.pointer pr)
  f4 : w.frozen? ⟨b, 4, none⟩ = false
  f5 : w.frozen? ⟨b, 5, none⟩ = false
theorem Nd.lt {w : World} {b : Nat} {m : Mk} {pl pr : Option Addr} (h : Nd w b m pl pr) : b < w.heap.size := World.block_lt_of_cell? w _ h.c0
theorem Nd.same {w w' : World} {b : Nat} {m : Mk} {pl pr : Option Addr} (h : Nd w b m pl pr) (he : w'.heap[b]? = w.heap[b]?) : Nd w' b m pl pr := by
  have c : ∀ o, w'.cell? ⟨b, o, none⟩ = w.cell? ⟨b, o, none⟩ := fun o => World.cell?_of_block (w := w) (w' := w') (a := ⟨b, o, none⟩) he
  have f : ∀ o, w'.frozen? ⟨b, o, none⟩ = w.frozen? ⟨b, o, none⟩ := fun o => World.frozen?_of_block (w := w) (w' := w') (a := ⟨b, o, none⟩) he
  exact ⟨by rw [c]; exact h.c0, by rw [c]; exact h.c1, by rw [c]; exact h.c2, by rw [c]; exact h.c3, by rw [c]; exact h.c4, by rw [c]; exact h.c5, by rw [f]; exact h.f4, by rw [f]; exact h.f5⟩
theorem Nd.kpt {w w' : World} {G : Nat → Prop} {b : Nat} {m : Mk} {pl pr : Option Addr} (h : Nd w b m pl pr) (hk : Kpt G w w') (hn : ¬ G b) : Nd w' b m pl pr := h.same (hk.block b h.lt hn)
theorem Nd.bel {w w' : World} {b : Nat} {m : Mk} {pl pr : Option Addr} (h : Nd w b m pl pr) (hb : Below w.heap.size w w') : Nd w' b m pl pr := h.same (hb.block b h.lt)
theorem cell_set_other {w : World} {b o o' : Nat} {v u : Value} (h : w.cell? ⟨b, o', none⟩ = some u) (hn : o ≠ o') : (w.setCell ⟨b, o, none⟩ v).cell? ⟨b, o', none⟩ = some u := by
  rw [World.cell?_setCell_other (h := by intro e; simp only [Addr.mk.injEq, and_true, true_and] at e; exact hn e)]; exact h
theorem Nd.setL {w : World} {b : Nat} {m : Mk} {pl pr : Option Addr} (h : Nd w b m pl pr) (p : Option Addr) : Nd (w.setCell ⟨b, 4, none⟩ (.pointer p)) b m p pr :=
  ⟨cell_set_other h.c0 (by decide), cell_set_other h.c1 (by decide), cell_set_other h.c2 (by decide), cell_set_other h.c3 (by decide), by rw [World.cell?_setCell_same (h := h.c4)], cell_set_other h.c5 (by decide), by rw [World.frozen?_setCell]; exact h.f4, by rw [World.frozen?_setCell]; exact h.f5⟩
theorem Nd.setR {w : World} {b : Nat} {m : Mk} {pl pr : Option Addr} (h : Nd w b m pl pr) (p : Option Addr) : Nd (w.setCell ⟨b, 5, none⟩ (.pointer p)) b m pl p :=
  ⟨cell_set_other h.c0 (by decide), cell_set_other h.c1 (by decide), cell_set_other h.c2 (by decide), cell_set_other h.c3 (by decide), cell_set_other h.c4 (by decide), by rw [World.cell?_setCell_same (h := h.c5)], by rw [World.frozen?_setCell]; exact h.f4, by rw [World.frozen?_setCell]; exact h.f5⟩

/-- the tree behind a pointer, in blocks of F -/
def TrAt (w : World) : (Nat → Prop) → Option Addr → Tr → Prop
  | _, p, .nil => p = none
  | F, p, .node l m r => ∃ (b : Nat) (pl pr : Option Addr) (Fl Fr : Nat → Prop), p = some ⟨b, 0, none⟩ ∧ F b ∧ Nd w b m pl pr ∧
      (∀ k, Fl k → F k ∧ k ≠ b) ∧ (∀ k, Fr k → F k ∧ k ≠ b) ∧ Dis Fl Fr ∧ TrAt w Fl pl l ∧ TrAt w Fr pr r
theorem TrAt.mono {w : World} {F G : Nat → Prop} {p : Option Addr} {t : Tr} (h : TrAt w F p t) (hF : ∀ k, F k → G k) : TrAt w G p t := by
  cases t with
  | nil => exact h
  | node l m r =>
    obtain ⟨b, pl, pr, Fl, Fr, hp, hb, hn, hl, hr, hd, h1, h2⟩ := h
    exact ⟨b, pl, pr, Fl, Fr, hp, hF b hb, hn, fun k hk => ⟨hF k (hl k hk).1, (hl k hk).2⟩, fun k hk => ⟨hF k (hr k hk).1, (hr k hk).2⟩, hd, h1, h2⟩
theorem TrAt.lt {w : World} {F : Nat → Prop} {p : Option Addr} {t : Tr} (h : TrAt w F p t) : TrAt w (fun k => F k ∧ k < w.heap.size) p t := by
  induction t generalizing F p with
  | nil => exact h
  | node l m r ihl ihr =>
    obtain ⟨b, pl, pr, Fl, Fr, hp, hb, hn, hl, hr, hd, h1, h2⟩ := h
    exact ⟨b, pl, pr, _, _, hp, ⟨hb, hn.lt⟩, hn, fun k hk => ⟨⟨(hl k hk.1).1, hk.2⟩, (hl k hk.1).2⟩, fun k hk => ⟨⟨(hr k hk.1).1, hk.2⟩, (hr k hk.1).2⟩, fun k a b => hd k a.1 b.1, ihl h1, ihr h2⟩
theorem TrAt.same {w w' : World} {F : Nat → Prop} {p : Option Addr} {t : Tr} (h : TrAt w F p t) (he : ∀ k, F k → k < w.heap.size → w'.heap[k]? = w.heap[k]?) : TrAt w' F p t := by
  induction t generalizing F p with
  | nil => exact h
  | node l m r ihl ihr =>
    obtain ⟨b, pl, pr, Fl, Fr, hp, hb, hn, hl, hr, hd, h1, h2⟩ := h
    exact ⟨b, pl, pr, Fl, Fr, hp, hb, hn.same (he b hb hn.lt), hl, hr, hd, ihl h1 fun k hk => he k (hl k hk).1, ihr h2 fun k hk => he k (hr k hk).1⟩
theorem TrAt.kpt {w w' : World} {F G : Nat → Prop} {p : Option Addr} {t : Tr} (h : TrAt w F p t) (hk : Kpt G w w') (hd : Dis F G) : TrAt w' F p t :=
  h.same fun k hf hl => hk.block k hl fun hg => hd k hf hg
theorem TrAt.bel {w w' : World} {F : Nat → Prop} {p : Option Addr} {t : Tr} (h : TrAt w F p t) (hb : Below w.heap.size w w') : TrAt w' F p t := h.same fun k _ hl => hb.block k hl
theorem TrAt.drew {w : World} {F : Nat → Prop} {p : Option Addr} {t : Tr} (h : TrAt w F p t) : TrAt w.drew F p t := h.bel (Below.refl _ _).drew
theorem TrAt.drewN {w : World} {F : Nat → Prop} {p : Option Addr} {t : Tr} (h : TrAt w F p t) (n : Nat) : TrAt (w.drewN n) F p t := h.bel (bdrewN (Below.refl _ _) n)
theorem TrAt.nil_iff {w : World} {F : Nat → Prop} {p : Option Addr} {t : Tr} (h : TrAt w F p t) : p = none ↔ t = .nil := by
  cases t with
  | nil => exact iff_of_true h rfl
  | node l m r =>
    obtain ⟨b, pl, pr, Fl, Fr, hp, _⟩ := h
    exact iff_of_false (fun e => by rw [hp] at e; cases e) (fun e => by cases e)
/-- what a function that turns a tree leaves: the tree behind the pointer p', the rest as it was -/
def Lft (w : World) (F : Nat → Prop) (p : Option Addr) (t : Tr) (w' : World) : Prop := TrAt w' (Gr F w w') p t ∧ Kpt F w w'
theorem Gr.mono {F G : Nat → Prop} {a b w' : World} (hF : ∀ k, F k → G k ∨ (a.heap.size ≤ k ∧ k < w'.heap.size)) (hs : a.heap.size ≤ b.heap.size) : ∀ k, Gr F b w' k → Gr G a w' k := by
  rintro k (h | h)
  · exact hF k h
  · exact .inr ⟨by omega, h.2⟩
/-- seen from an earlier world -/
theorem Lft.back {a b w' : World} {F G : Nat → Prop} {p : Option Addr} {t : Tr} (h : Lft b F p t w') (hk : Kpt G a b) (hF : ∀ k, F k → Gr G a b k) : Lft a G p t w' := by
  have hs := hk.size
  have hs2 := h.2.size
  refine ⟨h.1.mono (Gr.mono (fun k hf => ?_) hs), hk.trans (h.2.mono hF)⟩
  rcases hF k hf with h | h
  · exact .inl h
  · exact .inr ⟨h.1, by omega⟩
theorem Lft.on {a b w' : World} {F : Nat → Prop} {p : Option Addr} {t : Tr} (h : Lft b F p t w') (hk : Below a.heap.size a b) : Lft a F p t w' := h.back (Kpt.of hk) fun _ hf => .inl hf
theorem Lft.refl {w : World} {F : Nat → Prop} {p : Option Addr} {t : Tr} (h : TrAt w F p t) : Lft w F p t w := ⟨h.mono fun _ hk => .inl hk, Kpt.refl _ _⟩
theorem Lft.of {w w' : World} {F : Nat → Prop} {p : Option Addr} {t : Tr} (h : TrAt w F p t) (hb : Below w.heap.size w w') : Lft w F p t w' := ⟨(h.bel hb).mono fun _ hk => .inl hk, Kpt.of hb⟩
/-- a node whose left tree was turned, the new one laid under it -/
theorem Lft.nodeL {w w2 : World} {F Fl Fr : Nat → Prop} {b : Nat} {x : Mk} {pl pr p' : Option Addr} {l' r : Tr} (hb : F b) (hn : Nd w b x pl pr) (hl : ∀ k, Fl k → F k ∧ k ≠ b) (hr : ∀ k, Fr k → F k ∧ k ≠ b) (hd : Dis Fl Fr)
    (h2 : TrAt w Fr pr r) (h : Lft w Fl p' l' w2) : Lft w F (some ⟨b, 0, none⟩) (.node l' x r) (w2.setCell ⟨b, 4, none⟩ (.pointer p')) := by
  obtain ⟨ht, hk⟩ := h
  have hlt := hn.lt
  have hs := hk.size
  have nb : ¬ Fl b := fun hf => (hl b hf).2 rfl
  have hn2 := hn.kpt hk nb
  have hset : ∀ k, k ≠ b → (w2.setCell ⟨b, 4, none⟩ (.pointer p')).heap[k]? = w2.heap[k]? := fun k hk => Below.heap_setCell _ _ _ _ hk
  have hsz : (w2.setCell ⟨b, 4, none⟩ (.pointer p')).heap.size = w2.heap.size := by simp
  refine ⟨⟨b, p', pr, Gr Fl w w2, fun k => Fr k ∧ k < w.heap.size, rfl, .inl hb, hn2.setL p', ?_, ?_, ?_, ?_, ?_⟩, ?_⟩
  · rintro k (hk | hk)
    · exact ⟨.inl (hl k hk).1, (hl k hk).2⟩
    · exact ⟨.inr ⟨hk.1, by rw [hsz]; exact hk.2⟩, by omega⟩
  · exact fun k hk => ⟨.inl (hr k hk.1).1, (hr k hk.1).2⟩
  · rintro k (hk | hk) hr
    · exact hd k hk hr.1
    · omega
  · refine ht.same fun k hk _ => hset k ?_
    rcases hk with hk | hk
    · exact (hl k hk).2
    · omega
  · exact (h2.lt.kpt hk fun k a c => hd k c a.1).same fun k hk _ => hset k (hr k hk.1).2
  · refine (hk.mono fun k hk => (hl k hk).1).setCell hb _
theorem Lft.nodeR {w w2 : World} {F Fl Fr : Nat → Prop} {b : Nat} {x : Mk} {pl pr p' : Option Addr} {l r' : Tr} (hb : F b) (hn : Nd w b x pl pr) (hl : ∀ k, Fl k → F k ∧ k ≠ b) (hr : ∀ k, Fr k → F k ∧ k ≠ b) (hd : Dis Fl Fr)
    (h1 : TrAt w Fl pl l) (h : Lft w Fr p' r' w2) : Lft w F (some ⟨b, 0, none⟩) (.node l x r') (w2.setCell ⟨b, 5, none⟩ (.pointer p')) := by
  obtain ⟨ht, hk⟩ := h
  have hlt := hn.lt
  have hs := hk.size
  have nb : ¬ Fr b := fun hf => (hr b hf).2 rfl
  have hn2 := hn.kpt hk nb
  have hset : ∀ k, k ≠ b → (w2.setCell ⟨b, 5, none⟩ (.pointer p')).heap[k]? = w2.heap[k]? := fun k hk => Below.heap_setCell _ _ _ _ hk
  have hsz : (w2.setCell ⟨b, 5, none⟩ (.pointer p')).heap.size = w2.heap.size := by simp
  refine ⟨⟨b, pl, p', fun k => Fl k ∧ k < w.heap.size, Gr Fr w w2, rfl, .inl hb, hn2.setR p', ?_, ?_, ?_, ?_, ?_⟩, ?_⟩
  · exact fun k hk => ⟨.inl (hl k hk.1).1, (hl k hk.1).2⟩
  · rintro k (hk | hk)
    · exact ⟨.inl (hr k hk).1, (hr k hk).2⟩
    · exact ⟨.inr ⟨hk.1, by rw [hsz]; exact hk.2⟩, by omega⟩
  · rintro k hl (hk | hk)
    · exact hd k hl.1 hk
    · omega
  · exact (h1.lt.kpt hk fun k a c => hd k a.1 c).same fun k hk _ => hset k (hl k hk.1).2
  · refine ht.same fun k hk _ => hset k ?_
    rcases hk with hk | hk
    · exact (hr k hk).2
    · omega
  · refine (hk.mono fun k hk => (hr k hk).1).setCell hb _
/-- a new node over two trees -/
theorem TrAt.new {w : World} {F G : Nat → Prop} {pl pr : Option Addr} {l r : Tr} {m : Mk} {e : TypeId} (h1 : TrAt w F pl l) (h2 : TrAt w G pr r) (hd : Dis F G) :
    TrAt (w.alloc (.cells #[.int .i64 m.id, .int .i64 m.fr, .int .i64 m.to, .int .i64 m.pr, .pointer pl, .pointer pr] e)) (fun k => F k ∨ G k ∨ k = w.heap.size) (some ⟨w.heap.size, 0, none⟩) (.node l m r) := by
  have hb : Below w.heap.size w (w.alloc (.cells #[.int .i64 m.id, .int .i64 m.fr, .int .i64 m.to, .int .i64 m.pr, .pointer pl, .pointer pr] e)) := (Below.refl _ _).alloc (Nat.le_refl _) _
  refine ⟨w.heap.size, pl, pr, fun k => F k ∧ k < w.heap.size, fun k => G k ∧ k < w.heap.size, rfl, .inr (.inr rfl), ?_, fun k hk => ⟨.inl hk.1, by omega⟩, fun k hk => ⟨.inr (.inl hk.1), by omega⟩, fun k a b => hd k a.1 b.1, h1.lt.bel hb, h2.lt.bel hb⟩
  constructor
  · rw [cell_alloc_new]; rfl
  · rw [cell_alloc_new]; rfl
  · rw [cell_alloc_new]; rfl
  · rw [cell_alloc_new]; rfl
  · rw [cell_alloc_new]; rfl
  · rw [cell_alloc_new]; rfl
  · simp
  · simp
end Go.Proofs.Ytaondjklclpdkaa
