/- The document's own table: Splice. -/
import Derived.Test.YtcekoifbgfeahaaRu
namespace Go.Proofs.Ytcekoifbgfeahaa
open Go.RowKit

theorem Kpt.to {F G : Nat → Prop} {a b c : World} (h : Kpt F a b) (k : Kpt G b c) (hG : ∀ x, x < a.heap.size → G x → F x) : Kpt F a c :=
  ⟨k.os.trans h.os, k.tape.trans h.tape, k.output.trans h.output, Nat.le_trans h.size k.size, fun i hi hn => (k.block i (Nat.lt_of_lt_of_le hi h.size) fun hg => hn (hG i hi hg)).trans (h.block i hi hn)⟩
/-- the pieces are set, whatever block they lie in -/
theorem TabM.setPg {w w5 : World} {B : Nat} {F G : Nat → Prop} {pt : Nat} {s : St} (h : TabM w B F pt s) (hk : Kpt G w w5) (hd : Dis F G) (a5 : Option Addr) (c5 : Nat) (p' : List Pc) (o5 : POwn w5 B a5 c5 p') (n5 : ∀ ad, a5 = some ad → ¬ F ad.block) :
    TabM (w5.setCell ⟨pt, 2, none⟩ (.slice a5 p'.length c5)) B (fun k => F k ∨ Blk a5 k) pt ⟨s.o, s.a, p'⟩ ∧ Kpt (fun k => F k ∨ G k) w (w5.setCell ⟨pt, 2, none⟩ (.slice a5 p'.length c5)) := by
  have h5 := h.kpt hk hd
  obtain ⟨ao, co, aa, ca, ap, cp, c0, c1, c2, o0, o1, o2, f0, f1, f2, d1, d2⟩ := h5.cells
  refine ⟨⟨by simpa using h5.pos, ?_, .inl h.ptF, ?_, ao, co, aa, ca, a5, c5, ?_, ?_, ?_, o0.setOther _ _ fun ad ha => (f0 ad ha).2, o1.setOther _ _ fun ad ha => (f1 ad ha).2, o5.setOther _ _ fun ad ha he => n5 ad ha (he ▸ h.ptF), ?_, ?_, ?_, d1, ?_⟩, (hk.mono fun k hg => .inr hg).setCell (.inl h.ptF) _⟩
  · rintro k (hf | ⟨ad, ha, rfl⟩)
    · have := h5.lt k hf; simpa using this
    · exact ⟨pown_ge o5 ad ha, by simpa using pown_lt o5 ad ha⟩
  · intro i; rw [World.frozen?_setCell]; exact h5.fz i
  · rw [World.cell?_setCell_other (h := by simp)]; exact c0
  · rw [World.cell?_setCell_other (h := by simp)]; exact c1
  · rw [World.cell?_setCell_same (u := .slice ap s.p.length cp)]; exact c2
  · intro ad ha; exact ⟨.inl (f0 ad ha).1, (f0 ad ha).2⟩
  · intro ad ha; exact ⟨.inl (f1 ad ha).1, (f1 ad ha).2⟩
  · intro ad ha; exact ⟨.inr ⟨ad, ha, rfl⟩, fun he => n5 ad ha (he ▸ h.ptF)⟩
  · intro ad ae ha hae he; exact n5 ad ha (he ▸ (f1 ae hae).1)

set_option maxHeartbeats 2000000 in
theorem rsplice_bad (B : Nat) (F : Nat → Prop) (pt : Nat) (s : St) (at_ cut : Int) (ax : Option Addr) (cx : Nat) (put : List Int) (w : World) (h : Tab w B F pt s) (hB : B ≤ w.heap.size) (hp : Sl w ax put)
    (hb : splE s at_ cut put ≠ 0) :
    Calls Try.prog 46 #[.pointer (some ⟨pt, 0, none⟩), .int .i64 at_, .int .i64 cut, .slice ax put.length cx] w (Spliced w B F pt s at_ cut put) := by
  have hh := hid h
  have hsame := hid (splS_bad hb)
  have hlen := h.wf.len
  have htot := h.wf.tot
  have hal := h.wf.a
  have hpl := hp.len
  have fin : Hid (∀ x w', splE s at_ cut put = x → Below w.heap.size w w' → Spliced w B F pt s at_ cut put (.returned (.int .i64 x)) w') := fun x w' hx hb => ⟨by rw [hx], by rw [hsame.out]; exact h.gr hB hb, Kpt.of hb⟩
  have hb1 : Below w.heap.size w w := Below.refl _ _
  obtain ⟨ao, co, aa, ca, ap, cp, c0, c1, c2, -⟩ := h.cells
  have hpt := (h.lt _ h.ptF).2
  clear c0 c2 h
  cases hw : wth (tot s.p) at_ cut with
  | false =>
    have H := hid (splE_wth (put := put) hw)
    go_enter Try.func46, Try.ntmps46
    go_wp2_with (first | (go_at_call 42; (with_reducible refine (rlen_t B F pt s _ hh.out).mono ?_); rintro e w' ⟨rfl, rfl⟩) | (go_at_call 44; (with_reducible refine (rwithin_c _ _ _ _ (by omega)).mono ?_); rintro e w' ⟨rfl, rfl⟩))
    go_ret
    exact fin.out _ _ H.out hb1
  | true =>
    cases hm : may put with
    | false =>
      have H := hid (splE_may hw hm)
      go_enter Try.func46, Try.ntmps46
      go_wp2_with (first | (go_at_call 42; (with_reducible refine (rlen_t B F pt s _ hh.out).mono ?_); rintro e w' ⟨rfl, rfl⟩) | (go_at_call 44; (with_reducible refine (rwithin_c _ _ _ _ (by omega)).mono ?_); rintro e w' ⟨rfl, rfl⟩) | (go_at_call 33; (with_reducible refine (rmay_c _ _ _ _ hp).mono ?_); rintro e w' ⟨rfl, rfl⟩))
      go_ret
      exact fin.out _ _ H.out hb1
    | true =>
      cases ho : ovr s cut put with
      | false => exact absurd (splE_ok hw hm ho) hb
      | true =>
        have H := hid (splE_ovr hw hm ho)
        have hcut : 0 ≤ at_ ∧ at_ ≤ 1000 ∧ 0 ≤ cut ∧ cut ≤ 1000 ∧ cut ≤ tot s.p := by simp [wth] at hw; omega
        simp only [ovr, decide_eq_true_eq] at ho
        by_cases h1 : (put.length : Int) > 1000 - (tot s.p - cut)
        · have e1 : decide (1000 - ((tot s.p : Int) - cut) < (put.length : Int)) = true := by simp; omega
          go_enter Try.func46, Try.ntmps46
          go_wp2_with (first | (go_at_call 42; (with_reducible refine (rlen_t B F pt s _ hh.out).mono ?_); rintro e w' ⟨rfl, rfl⟩) | (go_at_call 44; (with_reducible refine (rwithin_c _ _ _ _ (by omega)).mono ?_); rintro e w' ⟨rfl, rfl⟩) | (go_at_call 33; (with_reducible refine (rmay_c _ _ _ _ hp).mono ?_); rintro e w' ⟨rfl, rfl⟩))
          go_ret
          exact fin.out _ _ H.out hb1
        · have h2 : (put.length : Int) > 20000 - s.a.length := by omega
          have e1 : decide (1000 - ((tot s.p : Int) - cut) < (put.length : Int)) = false := by simp; omega
          have e2 : decide (20000 - (s.a.length : Int) < (put.length : Int)) = true := by simp; omega
          clear ho
          go_enter Try.func46, Try.ntmps46
          go_wp2_with (first | (go_at_call 42; (with_reducible refine (rlen_t B F pt s _ hh.out).mono ?_); rintro e w' ⟨rfl, rfl⟩) | (go_at_call 44; (with_reducible refine (rwithin_c _ _ _ _ (by omega)).mono ?_); rintro e w' ⟨rfl, rfl⟩) | (go_at_call 33; (with_reducible refine (rmay_c _ _ _ _ hp).mono ?_); rintro e w' ⟨rfl, rfl⟩))
          go_ret
          exact fin.out _ _ H.out hb1
set_option maxHeartbeats 2000000 in
theorem rsplice_none (B : Nat) (F : Nat → Prop) (pt : Nat) (s : St) (at_ : Nat) (ax : Option Addr) (cx : Nat) (w : World) (h : Tab w B F pt s) (hat : at_ ≤ tot s.p) :
    Calls Try.prog 46 #[.pointer (some ⟨pt, 0, none⟩), .int .i64 at_, .int .i64 0, .slice ax 0 cx] w fun e w' => e = .returned (.int .i64 0) ∧ Below w.heap.size w w' := by
  have hh := hid h
  have hlen := h.wf.len
  have htot := h.wf.tot
  have hal := h.wf.a
  obtain ⟨ao, co, aa, ca, ap, cp, c0, c1, c2, -⟩ := h.cells
  have hpt := (h.lt _ h.ptF).2
  have hw : wth (tot s.p) at_ 0 = true := by simp [wth]; omega
  have hm : may [] = true := rfl
  have hmc := fun w => rmay_c ax cx [] w (Sl.nil w ax)
  simp only [List.length_nil] at hmc
  have Hmc := hid hmc
  have e1 : decide (1000 - ((tot s.p : Int) - 0) < (0 : Int)) = false := by simp; omega
  have e2 : decide (20000 - (s.a.length : Int) < (0 : Int)) = false := by simp; omega
  clear c0 c2 h hmc
  go_enter Try.func46, Try.ntmps46
  go_wp2_with (first | (go_at_call 42; (with_reducible refine (rlen_t B F pt s _ hh.out).mono ?_); rintro e w' ⟨rfl, rfl⟩) | (go_at_call 44; (with_reducible refine (rwithin_c _ _ _ _ (by omega)).mono ?_); rintro e w' ⟨rfl, rfl⟩) | (go_at_call 33; (with_reducible refine (Hmc.out _).mono ?_); rintro e w' ⟨rfl, rfl⟩))
  go_ret
  exact ⟨rfl, Below.refl _ _⟩
end Go.Proofs.Ytcekoifbgfeahaa
