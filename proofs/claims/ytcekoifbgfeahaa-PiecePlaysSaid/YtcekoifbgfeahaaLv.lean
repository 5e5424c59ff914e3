/- A table that lives in a law's own memory: what its calls leave. -/
import Derived.Test.YtcekoifbgfeahaaLt
namespace Go.Proofs.Ytcekoifbgfeahaa
open Go.RowKit

/-- a table in blocks from B on; all below W's end is as it was -/
structure Lv (W : World) (B : Nat) (w : World) (pt : Nat) (s : St) : Prop where
  hB : W.heap.size ≤ B
  bel : Below W.heap.size W w
  tab : ∃ F, Tab w B F pt s
theorem Lv.le {W w : World} {B pt : Nat} {s : St} (h : Lv W B w pt s) : B ≤ w.heap.size := by
  obtain ⟨F, ht⟩ := h.tab
  have := ht.lt _ ht.ptF; omega
theorem Lv.wf {W w : World} {B pt : Nat} {s : St} (h : Lv W B w pt s) : Wf s := by obtain ⟨F, ht⟩ := h.tab; exact ht.wf
theorem Lv.on {W w w' : World} {B pt : Nat} {s : St} (h : Lv W B w pt s) (hb : Below w.heap.size w w') : Lv W B w' pt s := by
  obtain ⟨F, ht⟩ := h.tab
  exact ⟨h.hB, bthen h.bel hb, F, ht.bel hb⟩
theorem Lv.new {W w w1 : World} {pt : Nat} {s : St} (hb : Below W.heap.size W w) (ht : Tab w1 w.heap.size (New w w1) pt s) (h1 : Below w.heap.size w w1) : Lv W w.heap.size w1 pt s :=
  ⟨hb.size, bthen hb h1, _, ht⟩
/-- a splice; w0: where the table was seen last -/
theorem Lv.splice {W w0 w : World} {B pt : Nat} {s : St} (h : Lv W B w0 pt s) (hb : Below w0.heap.size w0 w) (at_ cut : Int) (ax : Option Addr) (cx : Nat) (put : List Int) (hp : Sl w ax put)
    (ho : ∀ ad, ax = some ad → ad.block < B ∨ w0.heap.size ≤ ad.block) (hc : -9223372036854775808 ≤ cut ∧ cut ≤ 9223372036854775807) {x : Int} {s' : St} (hx : splE s at_ cut put = x) (hs : splS s at_ cut put = s') :
    Calls Try.prog 34 #[.pointer (some ⟨pt, 0, none⟩), .int .i64 at_, .int .i64 cut, .slice ax put.length cx] w fun e w' => e = .returned (.int .i64 x) ∧ Lv W B w' pt s' ∧ Below B w w' := by
  have hle := h.le
  obtain ⟨F, ht⟩ := h.tab
  refine (splice_is B F pt s at_ cut ax cx put w (ht.bel hb) (Nat.le_trans hle hb.size) hp (.inr ?_) hc hx hs).mono ?_
  · intro ad ha hf
    have := ht.lt _ hf
    rcases ho ad ha with h1 | h1 <;> omega
  · rintro e w' ⟨rfl, ht', hk⟩
    have hbl : Below B w w' := hk.below (fun k hf => (ht.lt k hf).1) (Nat.le_trans hle hb.size)
    exact ⟨rfl, ⟨h.hB, (bthen h.bel hb).trans (hbl.mono h.hB), _, ht'⟩, hbl⟩
theorem Lv.len {W w : World} {B pt : Nat} {s : St} (h : Lv W B w pt s) :
    Calls Try.prog 37 #[.pointer (some ⟨pt, 0, none⟩)] w fun e w' => e = .returned (.int .i64 (tot s.p)) ∧ Below w.heap.size w w' := by
  obtain ⟨F, ht⟩ := h.tab
  exact len_t B F pt s w ht
theorem Lv.added {W w : World} {B pt : Nat} {s : St} (h : Lv W B w pt s) :
    Calls Try.prog 36 #[.pointer (some ⟨pt, 0, none⟩)] w fun e w' => e = .returned (.int .i64 s.a.length) ∧ w = w' := by
  obtain ⟨F, ht⟩ := h.tab
  exact added_t B F pt s w ht
theorem Lv.pieces {W w : World} {B pt : Nat} {s : St} (h : Lv W B w pt s) :
    Calls Try.prog 35 #[.pointer (some ⟨pt, 0, none⟩)] w (PMakes w s.p) := by
  obtain ⟨F, ht⟩ := h.tab
  exact pieces_t B F pt s w ht
theorem Lv.text {W w : World} {B pt : Nat} {s : St} (h : Lv W B w pt s) :
    Calls Try.prog 39 #[.pointer (some ⟨pt, 0, none⟩)] w (Makes w s.t) := by
  obtain ⟨F, ht⟩ := h.tab
  exact text_t B F pt s w ht
/-- a splice that is accepted -/
theorem spl_ok {s : St} {a c : Nat} {put : List Int} (hf : fits s a c put) (hm : may put = true) (hne : ¬(c = 0 ∧ put = [])) : splE s a c put = 0 ∧ splS s a c put = spl s a c put := by
  obtain ⟨h1, h2, h3⟩ := hf
  have e : splE s a c put = 0 := splE_ok (by simp [wth]; omega) hm (by simp [ovr]; omega)
  refine ⟨e, ?_⟩
  simp only [splS, e, true_and]
  rw [if_pos (fun h => hne ⟨by omega, h.2⟩)]
  simp
theorem spl_alen (s : St) (a c : Nat) (put : List Int) : (spl s a c put).a.length = s.a.length + put.length := by simp [spl]

theorem mades_eq (n : Nat) : madeCells #[.int .i32 0] n = ((List.replicate n (0 : Int)).map (Value.int .i32)).toArray := by
  apply Array.ext
  · simp [madeCells]
  · intro i h1 h2
    simp [madeCells, Nat.mod_one]
theorem Sl.made (w : World) (n : Nat) (e : TypeId) (hn : n ≤ 100000) : Sl (w.alloc (.cells (madeCells #[.int .i32 0] n) e)) (some ⟨w.heap.size, 0, none⟩) (List.replicate n 0) :=
  Sl.lit' w _ e _ rfl (by simp; omega) (by intro x hx; have := List.eq_of_mem_replicate hx; subst this; omega) _ (mades_eq n)
theorem may_zero (n : Nat) : may (List.replicate n 0) = true := by
  simp only [may, List.all_eq_true]
  intro x hx
  have := List.eq_of_mem_replicate hx; subst this; rfl
theorem may_take {l : List Int} (h : may l = true) (n : Nat) : may (l.take n) = true := by
  simp only [may, List.all_eq_true] at h ⊢
  exact fun x hx => h x (List.mem_of_mem_take hx)
theorem Try.infoI32' : (Try.prog.info? 21).map (fun i => (i.zero, i.size, i.bytes)) = some (some (.int .i32 0), 1, 4) := Try.infoI32
end Go.Proofs.Ytcekoifbgfeahaa
