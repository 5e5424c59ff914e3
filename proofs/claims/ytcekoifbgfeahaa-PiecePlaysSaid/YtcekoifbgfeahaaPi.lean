/- Contracts of package piece: Splice. -/
import Derived.Test.YtcekoifbgfeahaaPh
namespace Go.Proofs.Ytcekoifbgfeahaa
open Go.RowKit

/-- does a splice overfill? -/
def ovr (s : St) (cut : Int) (put : List Int) : Bool := decide ((put.length : Int) > 1000 - (tot s.p - cut) ∨ (put.length : Int) > 20000 - s.a.length)
/-- the error that a splice tells -/
def splE (s : St) (at_ cut : Int) (put : List Int) : Int :=
  if wth (tot s.p) at_ cut = false then 2 else if may put = false then 1 else if ovr s cut put = true then 3 else 0
/-- the table behind it -/
def splS (s : St) (at_ cut : Int) (put : List Int) : St :=
  if splE s at_ cut put = 0 ∧ ¬(cut = 0 ∧ put = []) then spl s at_.toNat cut.toNat put else s
def Spliced (w : World) (B : Nat) (F : Nat → Prop) (pt : Nat) (s : St) (at_ cut : Int) (put : List Int) (e : Ending) (w' : World) : Prop :=
  e = .returned (.int .i64 (splE s at_ cut put)) ∧ Tab w' B (Gr F w w') pt (splS s at_ cut put) ∧ Kpt F w w'
theorem Tab.gr {w w' : World} {B : Nat} {F : Nat → Prop} {pt : Nat} {s : St} (h : Tab w B F pt s) (hB : B ≤ w.heap.size) (hb : Below w.heap.size w w') : Tab w' B (Gr F w w') pt s :=
  (h.bel hb).more (fun _ h => .inl h) (by
    rintro k (hf | ⟨h1, h2⟩)
    · have := h.lt k hf; have := hb.size; omega
    · omega)
theorem splE_wth {s : St} {a c : Int} {put : List Int} (h : wth (tot s.p) a c = false) : splE s a c put = 2 := by simp [splE, h]
theorem splE_may {s : St} {a c : Int} {put : List Int} (h : wth (tot s.p) a c = true) (h2 : may put = false) : splE s a c put = 1 := by simp [splE, h, h2]
theorem splE_ovr {s : St} {a c : Int} {put : List Int} (h : wth (tot s.p) a c = true) (h2 : may put = true) (h3 : ovr s c put = true) : splE s a c put = 3 := by simp [splE, h, h2, h3]
theorem splE_ok {s : St} {a c : Int} {put : List Int} (h : wth (tot s.p) a c = true) (h2 : may put = true) (h3 : ovr s c put = false) : splE s a c put = 0 := by simp [splE, h, h2, h3]
theorem splS_bad {s : St} {a c : Int} {put : List Int} (h : splE s a c put ≠ 0) : splS s a c put = s := by simp [splS, h]

set_option maxHeartbeats 1000000 in
theorem splice_nil (a c : Int) (x : Value) (w : World) : Calls Try.prog 34 #[.pointer none, .int .i64 a, .int .i64 c, x] w fun e w' => e = .returned (.int .i64 8) ∧ w = w' := by
  go_enter Try.func34, Try.ntmps34
  go_wp2
  go_ret
  exact ⟨rfl, rfl⟩
set_option maxHeartbeats 2000000 in
theorem splice_bad (B : Nat) (F : Nat → Prop) (pt : Nat) (s : St) (at_ cut : Int) (ax : Option Addr) (cx : Nat) (put : List Int) (w : World) (h : Tab w B F pt s) (hB : B ≤ w.heap.size) (hp : Sl w ax put)
    (hc : -9223372036854775808 ≤ cut ∧ cut ≤ 9223372036854775807) (hb : splE s at_ cut put ≠ 0) :
    Calls Try.prog 34 #[.pointer (some ⟨pt, 0, none⟩), .int .i64 at_, .int .i64 cut, .slice ax put.length cx] w (Spliced w B F pt s at_ cut put) := by
  have hh := hid h
  have hsame := hid (splS_bad hb)
  have hlen := h.wf.len
  have htot := h.wf.tot
  have hal := h.wf.a
  have hpl := hp.len
  have fin : Hid (∀ x w', splE s at_ cut put = x → Below w.heap.size w w' → Spliced w B F pt s at_ cut put (.returned (.int .i64 x)) w') := fun x w' hx hb => ⟨by rw [hx], by rw [hsame.out]; exact h.gr hB hb, Kpt.of hb⟩
  obtain ⟨ao, co, aa, ca, ap, cp, c0, c1, c2, -⟩ := h.cells
  have hpt := (h.lt _ h.ptF).2
  clear c0 c2 h
  cases hw : wth (tot s.p) at_ cut with
  | false =>
    have H := hid (splE_wth (put := put) hw)
    go_enter Try.func34, Try.ntmps34
    go_wp2_with (first | (go_at_call 37; (with_reducible refine (len_t B F pt s _ hh.out).mono ?_); rintro e w1 ⟨rfl, hb1⟩) | (go_at_call 57; (with_reducible refine (within_c _ _ _ _ (by omega)).mono ?_); rintro e w' ⟨rfl, rfl⟩))
    go_ret
    exact fin.out _ _ H.out hb1
  | true =>
    cases hm : may put with
    | false =>
      have H := hid (splE_may hw hm)
      go_enter Try.func34, Try.ntmps34
      go_wp2_with (first | (go_at_call 37; (with_reducible refine (len_t B F pt s _ hh.out).mono ?_); rintro e w1 ⟨rfl, hb1⟩) | (go_at_call 57; (with_reducible refine (within_c _ _ _ _ (by omega)).mono ?_); rintro e w' ⟨rfl, rfl⟩) | (go_at_call 31; (with_reducible refine (may_c _ _ _ _ (hp.bel hb1)).mono ?_); rintro e w' ⟨rfl, rfl⟩))
      go_ret
      exact fin.out _ _ H.out hb1
    | true =>
      cases ho : ovr s cut put with
      | false => exact absurd (splE_ok hw hm ho) hb
      | true =>
        have H := hid (splE_ovr hw hm ho)
        have hcut : 0 ≤ at_ ∧ at_ ≤ 1000 ∧ 0 ≤ cut ∧ cut ≤ 1000 ∧ cut ≤ tot s.p := by simp [wth] at hw; omega
        simp only [ovr, decide_eq_true_eq] at ho
        by_cases h1 : (put.length : Int) > 1000 - (tot s.p - cut)
        · go_enter Try.func34, Try.ntmps34
          go_wp2_with (first | (go_at_call 37; (with_reducible refine (len_t B F pt s _ hh.out).mono ?_); rintro e w1 ⟨rfl, hb1⟩) | (go_at_call 57; (with_reducible refine (within_c _ _ _ _ (by omega)).mono ?_); rintro e w' ⟨rfl, rfl⟩) | (go_at_call 31; (with_reducible refine (may_c _ _ _ _ (hp.bel hb1)).mono ?_); rintro e w' ⟨rfl, rfl⟩))
          go_ret
          exact fin.out _ _ H.out hb1
        · have h2 : (put.length : Int) > 20000 - s.a.length := by omega
          clear ho
          go_enter Try.func34, Try.ntmps34
          go_wp2_with (first | (go_at_call 37; (with_reducible refine (len_t B F pt s _ hh.out).mono ?_); rintro e w1 ⟨rfl, hb1⟩; have d1 : w1.cell? ⟨pt, 1, none⟩ = some (.slice aa s.a.length ca) := (by rw [hb1.cell (p := ⟨pt, 1, none⟩) hpt]; exact c1)) | (go_at_call 57; (with_reducible refine (within_c _ _ _ _ (by omega)).mono ?_); rintro e w' ⟨rfl, rfl⟩) | (go_at_call 31; (with_reducible refine (may_c _ _ _ _ (hp.bel hb1)).mono ?_); rintro e w' ⟨rfl, rfl⟩))
          go_ret
          exact fin.out _ _ H.out hb1
end Go.Proofs.Ytcekoifbgfeahaa
