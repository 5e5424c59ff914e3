/- Layer 3's law: same. -/
import Derived.Test.YtcekoifbgfeahaaLs
namespace Go.Proofs.Ytcekoifbgfeahaa
open Go.RowKit

/-- cells that are there, whatever they hold -/
def Row3 (w : World) (base : Nat) (g c n : Nat) : Prop := ∃ xs, w.ownsRow base 63 3 (.slice (some ⟨g, 0, none⟩) n c) n xs
theorem Row3.cells {w : World} {base g c n : Nat} (h : Row3 w base g c n) {k : Nat} (hk : k < n) :
    (∃ v, w.cell? ⟨g, k * 3, none⟩ = some v) ∧ (∃ v, w.cell? ⟨g, k * 3 + 1, none⟩ = some v) ∧ (∃ v, w.cell? ⟨g, k * 3 + 2, none⟩ = some v) ∧ ∀ i, w.frozen? ⟨g, i, none⟩ = false := by
  obtain ⟨xs, h⟩ := h
  have hx : xs.length = n * 3 := h.1
  refine ⟨?_, ?_, ?_, fun i => h.frozenAt i⟩
  · exact ⟨_, (h.cellAt (k * 3) (by omega)).trans (List.getElem?_eq_getElem (by omega))⟩
  · exact ⟨_, (h.cellAt (k * 3 + 1) (by omega)).trans (List.getElem?_eq_getElem (by omega))⟩
  · exact ⟨_, (h.cellAt (k * 3 + 2) (by omega)).trans (List.getElem?_eq_getElem (by omega))⟩
theorem Row3.set {w : World} {base g c n : Nat} (h : Row3 w base g c n) (j : Nat) (u : Value) : Row3 (w.setCell ⟨g, j, none⟩ u) base g c n := by
  obtain ⟨xs, h⟩ := h
  exact ⟨_, (h.stored j u).1⟩

set_option maxHeartbeats 400000 in
theorem spoilk_c (base : Nat) (a : Option Addr) (c : Nat) (l : List Int) (w : World) (h : Own w base a c l) :
    Calls Try.prog 14 #[.slice a l.length c] w fun e w' => e = .returned (.tuple #[]) ∧ Below base w w' ∧ Kpt (Blk a) w w' := by
  have hl := h.2.2
  go_enter Try.func14, Try.ntmps14
  go_wp2
  go_loopw [2] (fun i wr => ∃ k : Nat, k ≤ l.length ∧ i = .int .i64 k ∧ Own wr base a c (half (fun _ => -9) k l) ∧ Below base w wr ∧ Kpt (Blk a) w wr) (fun i _ => l.length - (intOf i).toNat)
  case atStart => exact ⟨0, Nat.zero_le _, rfl, by rw [half_zero]; exact h, Below.refl _ _, Kpt.refl _ _⟩
  case round =>
    obtain ⟨k, hk, rfl, hk1, hk2, hk3⟩ := hrel
    by_cases hlt : k < l.length
    · have hsh := hk1.shape
      rcases hsh with ⟨_, _, h0⟩ | ⟨g0, rfl, hg1, hg2, hg3⟩
      · have h1 := half_len (fun _ => -9) k l
        rw [h0] at h1; simp at h1; omega
      · obtain ⟨b', o', he, hcell⟩ := hk1.sl.at (i := k) (by rw [half_len]; exact hlt)
        simp only [Option.some.injEq, Addr.mk.injEq, and_true] at he
        obtain ⟨rfl, rfl⟩ := he
        have ck := hcell k (by rw [half_len]; exact hlt)
        rw [half_gt hlt, Nat.zero_add] at ck
        have fk := hk1.free k
        have Hk1 := hid hk1
        have H := hid h
        clear hcell hk1 hg3 h
        go_wp2
        go_roundw
        case rel =>
          refine ⟨k + 1, by omega, by go_num, ?_, hk2.setCell (by simpa using hg1) _, hk3.setCell (p := ⟨g0, k, none⟩) ⟨_, rfl, rfl⟩ _⟩
          rw [← half_set hlt]
          exact Hk1.out.stored k (-9) (by omega)
        case measure => simp [intOf]; omega
    · go_wp2
      go_end0
      exact ⟨rfl, hk2, hk3⟩

set_option maxHeartbeats 8000000 in
theorem same_c (B B2 : Nat) (F G : Nat → Prop) (pt pr : Nat) (s : St) (w : World) (h : Tab w B F pt s) (hr : Tab w B2 G pr s) :
    Calls Try.prog 15 #[.pointer (some ⟨pt, 0, none⟩), .pointer (some ⟨pr, 0, none⟩)] w fun e w' => e = .returned (.bool true) ∧ Below w.heap.size w w' := by
  have HT := hid h
  have HR := hid hr
  obtain ⟨ao, co, aa, ca, ap, cp, r0, r1, r2, -, -, ro2, -⟩ := hr.cells
  have hpr := (hr.lt _ hr.ptF).2
  have hal := h.wf.a
  have hpl := h.wf.len
  have htot := h.wf.tot
  have RP := hid ro2.sl
  clear h hr r0 ro2
  go_enter Try.func15, Try.ntmps15
  go_wp2_with fail
  refine (text_t B F pt s w HT.out).mono ?_
  rintro e w1 ⟨a1, c1, rfl, ho1, hb1⟩
  have HO1 := hid ho1
  have T1 := hid (HT.out.bel hb1)
  clear ho1
  go_wp2_with fail
  refine (pieces_t B F pt s w1 T1.out).mono ?_
  rintro e w2 ⟨a2, c2, rfl, ho2, hb2⟩
  have HO2 := hid ho2
  have hx2 : Below w.heap.size w w2 := bthen hb1 hb2
  have hO12 : Hid (Sl w2 a1 s.t) := (HO1.out.grow hb2).sl
  have HO1' : Hid (Own w2 w.heap.size a1 c1 s.t) := HO1.out.grow hb2
  have ap12 : Hid (∀ ad, a2 = some ad → ¬ Blk a1 ad.block) := by
    rintro ad ha ⟨ae, hae, he⟩
    have x1 := own_lt HO1.out ae hae
    have x2 := pown_ge HO2.out ad ha
    omega
  have K : Hid (∀ w', Below w.heap.size w w' → w'.cell? ⟨pr, 1, none⟩ = some (.slice aa s.a.length ca) ∧ w'.cell? ⟨pr, 2, none⟩ = some (.slice ap s.p.length cp)) := fun w' hb =>
    ⟨by rw [hb.cell (p := ⟨pr, 1, none⟩) hpr]; exact r1, by rw [hb.cell (p := ⟨pr, 2, none⟩) hpr]; exact r2⟩
  have hz1 := hb1.size; have hz2 := hb2.size
  clear ho2 hb1 hb2
  go_wp2
  have hx3 : Below w.heap.size w w2.drew := hx2.drew
  have hy3 : Below w2.heap.size w2 w2.drew := (Below.refl _ _).drew
  have k3 := K.out _ hx3
  obtain ⟨q1, q2⟩ := k3
  go_region_held3 (fun w' => Below w.heap.size w w' ∧ Below w2.heap.size w2 w' ∧ w'.cell? ⟨pr, 1, none⟩ = some (.slice aa s.a.length ca) ∧ w'.cell? ⟨pr, 2, none⟩ = some (.slice ap s.p.length cp)) (first | assumption | exact ⟨by assumption, by assumption, by assumption, by assumption⟩ | (refine ⟨bdrewN (by assumption) _, bdrewN (by assumption) _, ?_, ?_⟩ <;> first | assumption | go_keep) | go_keep)
    (first | (go_at_call 40; refine (rtext_t B2 G pr s _ (HR.out.bel hx3)).mono ?_; rintro e w3 ⟨a3, c3, rfl, ho3, hb3⟩; have HO3 := hid ho3; have hx4 : Below w.heap.size w w3 := bthen hx3 hb3; have hy4 : Below w2.heap.size w2 w3 := bthen hy3 hb3; have kk := K.out _ hx4; obtain ⟨m1, m2⟩ := kk)
               | (go_at_call 30; refine (same_b a1 a3 c1 c3 s.t _ (hO12.out.bel hy4) HO3.out.sl).mono ?_; rintro e w4 ⟨rfl, hb4⟩; have hx5 : Below w.heap.size w w4 := bthen hx4 hb4; have hy5 : Below w2.heap.size w2 w4 := bthen hy4 hb4; have kk := K.out _ hx5; obtain ⟨n1, n2⟩ := kk)
               | (go_at_call 41; refine (samePieces_b a2 ap c2 cp s.p _ ((HO2.out.grow hy5).sl) (RP.out.bel hx5)).mono ?_; rintro e w6 ⟨rfl, hb6⟩; have hx6 : Below w.heap.size w w6 := bthen hx5 hb6; have hy6 : Below w2.heap.size w2 w6 := bthen hy5 hb6; have kk := K.out _ hx6; obtain ⟨o1, o2⟩ := kk)
               | (go_at_call 36; refine (added_t B F pt s _ (HT.out.bel hx6)).mono ?_; rintro e w' ⟨rfl, rfl⟩)
               | (go_at_call 37; refine (len_t B F pt s _ (HT.out.bel hx6)).mono ?_; rintro e w7 ⟨rfl, hb7⟩; have hx7 : Below w.heap.size w w7 := bthen hx6 hb7; have hy7 : Below w2.heap.size w2 w7 := bthen hy6 hb7; have kk := K.out _ hx7; obtain ⟨p1, p2⟩ := kk)
               | (go_at_call 42; refine (rlen_t B2 G pr s _ (HR.out.bel hx7)).mono ?_; rintro e w' ⟨rfl, rfl⟩))
  go_wp2_with fail
  refine (spoilk_c w.heap.size a1 c1 s.t w7 (HO1'.out.grow hy7)).mono ?_
  rintro e w8 ⟨rfl, hb8, hk8⟩
  have hx8 : Below w.heap.size w w8 := hx7.trans hb8
  have HO8 : Hid (POwn w8 w1.heap.size a2 c2 s.p) := (HO2.out.grow hy7).same fun ad ha hl => hk8.block _ hl (ap12.out ad ha)
  clear hb8 hk8
  rcases HO8.out.shape with ⟨rfl, rfl, h0⟩ | ⟨g, rfl, hg1, hg2, hg3⟩
  · have h1 : s.p.length = 0 := by rw [h0]; rfl
    go_wp2
    go_loopw [8, 46] (fun _ i wr => i = .int .i64 0 ∧ Below w.heap.size w wr) (fun _ i _ => 0 - (intOf i).toNat)
    case atStart => exact ⟨rfl, hx8⟩
    case round =>
      obtain ⟨rfl, hb⟩ := hrel
      go_wp2
      go_ret
      exact ⟨rfl, hb⟩
  · have hrow : Hid (Row3 w8 w1.heap.size g c2 s.p.length) := ⟨_, HO8.out.1⟩
    generalize s.p.length = n at hpl hg3 hrow ⊢
    go_wp2
    go_loopw [8, 46] (fun _ i wr => ∃ k : Nat, k ≤ n ∧ i = .int .i64 k ∧ Hid (Row3 wr w1.heap.size g c2 n) ∧ Below w.heap.size w wr) (fun _ i _ => n - (intOf i).toNat)
    case atStart => exact ⟨0, Nat.zero_le _, rfl, hrow, hx8⟩
    case round =>
      obtain ⟨k, hk, rfl, hr, hb⟩ := hrel
      by_cases hlt : k < n
      · obtain ⟨⟨v0, x0⟩, ⟨v1, x1⟩, ⟨v2, x2⟩, hfz⟩ := hr.out.cells hlt
        have f0 := hfz (k * 3)
        have f1 := hfz (k * 3 + 1)
        have f2 := hfz (k * 3 + 2)
        clear hfz
        go_wp2
        go_round
        case rel => exact ⟨k + 1, by omega, by go_num, ((hr.out.set _ _).set _ _).set _ _, ((hb.setCell (by simp; omega) _).setCell (by simp; omega) _).setCell (by simp; omega) _⟩
        case measure => simp [intOf]; omega
      · go_wp2
        go_ret
        exact ⟨rfl, hb⟩
end Go.Proofs.Ytcekoifbgfeahaa
