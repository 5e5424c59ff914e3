/- The document's own table: Splice, Copy, NewTable; a list's splice. -/
import Derived.Test.YtcekoifbgfeahaaRw
namespace Go.Proofs.Ytcekoifbgfeahaa
open Go.RowKit

/-- a splice, whatever the numbers -/
theorem rsplice_t (B : Nat) (F : Nat → Prop) (pt : Nat) (s : St) (at_ cut : Int) (ax : Option Addr) (cx : Nat) (put : List Int) (w : World) (h : Tab w B F pt s) (hB : B ≤ w.heap.size) (hp : Sl w ax put) :
    Calls Try.prog 46 #[.pointer (some ⟨pt, 0, none⟩), .int .i64 at_, .int .i64 cut, .slice ax put.length cx] w (Spliced w B F pt s at_ cut put) := by
  by_cases hb : splE s at_ cut put = 0
  · have hw : wth (tot s.p) at_ cut = true := by
      cases hw : wth (tot s.p) at_ cut with
      | true => rfl
      | false => rw [splE_wth hw] at hb; simp at hb
    have hm : may put = true := by
      cases hm : may put with
      | true => rfl
      | false => rw [splE_may hw hm] at hb; simp at hb
    have ho : ovr s cut put = false := by
      cases ho : ovr s cut put with
      | false => rfl
      | true => rw [splE_ovr hw hm ho] at hb; simp at hb
    simp only [wth, decide_eq_true_eq] at hw
    simp only [ovr, decide_eq_false_iff_not] at ho
    obtain ⟨a, rfl⟩ := Int.eq_ofNat_of_zero_le hw.1
    obtain ⟨c, rfl⟩ := Int.eq_ofNat_of_zero_le hw.2.2.1
    by_cases hne : (c : Int) = 0 ∧ put = []
    · have hs : splS s a c put = s := by simp [splS, hne]
      obtain ⟨h1, rfl⟩ := hne
      obtain rfl : c = 0 := by omega
      refine (rsplice_none B F pt s a ax cx w h (by omega)).mono ?_
      rintro e w' ⟨rfl, hbl⟩
      exact ⟨by rw [hb], by rw [hs]; exact h.gr hB hbl, Kpt.of hbl⟩
    · have hs : splS s a c put = spl s a c put := by simp [splS, hb]; intro h1 h2; exact absurd ⟨by omega, h2⟩ hne
      refine (rsplice_yes B F pt s a c ax cx put w h hB hp ⟨by omega, by omega, by omega⟩ hm hne).mono ?_
      rintro e w' ⟨rfl, ht, hk⟩
      exact ⟨by rw [hb], by rw [hs]; exact ht, hk⟩
  · exact rsplice_bad B F pt s at_ cut ax cx put w h hB hp hb

set_option maxHeartbeats 4000000 in
theorem rcopy_t (B : Nat) (F : Nat → Prop) (pt : Nat) (s : St) (w : World) (h : Tab w B F pt s) :
    Calls Try.prog 45 #[.pointer (some ⟨pt, 0, none⟩)] w (Made1 w s) := by
  obtain ⟨ao, co, aa, ca, ap, cp, c0, c1, c2, o0, o1, o2, -⟩ := h.cells
  have hpt := (h.lt _ h.ptF).2
  have Hwf := hid h.wf
  have q0 := h.wf.o
  have q1 := h.wf.a
  have q2 := h.wf.len
  have S0 : Hid (∀ w', Below w.heap.size w w' → Sl w' ao s.o) := fun w' hb => o0.sl.bel hb
  have S1 : Hid (∀ w', Below w.heap.size w w' → Sl w' aa s.a) := fun w' hb => o1.sl.bel hb
  have S2 : Hid (∀ w', Below w.heap.size w w' → PSl w' ap s.p) := fun w' hb => o2.sl.bel hb
  have K0 : Hid (∀ w', Below w.heap.size w w' → w'.cell? ⟨pt, 0, none⟩ = some (.slice ao s.o.length co) ∧ w'.cell? ⟨pt, 1, none⟩ = some (.slice aa s.a.length ca) ∧ w'.cell? ⟨pt, 2, none⟩ = some (.slice ap s.p.length cp)) :=
    fun w' hb => ⟨by rw [hb.cell (p := ⟨pt, 0, none⟩) hpt]; exact c0, by rw [hb.cell (p := ⟨pt, 1, none⟩) hpt]; exact c1, by rw [hb.cell (p := ⟨pt, 2, none⟩) hpt]; exact c2⟩
  have hb0 : Below w.heap.size w w := Below.refl _ _
  clear o0 o1 o2 h
  go_enter Try.func45, Try.ntmps45
  go_wp2
  have hx0 : Below w.heap.size w w.drew := hb0.drew
  go_region_held3 (fun w' => Below w.heap.size w w' ∧ w'.cell? ⟨pt, 0, none⟩ = some (.slice ao s.o.length co) ∧ w'.cell? ⟨pt, 1, none⟩ = some (.slice aa s.a.length ca) ∧ w'.cell? ⟨pt, 2, none⟩ = some (.slice ap s.p.length cp)) (first | assumption | exact ⟨by assumption, by assumption, by assumption, by assumption⟩ | (refine ⟨bal (by assumption) _, ?_, ?_, ?_⟩ <;> go_keep) | go_keep)
    (first | (((refine step_appn rfl ((.const (.slice none 0 0))) (.tmp 6) rfl w.heap.size none ao 0 s.o.length 0 co [] s.o rfl (by first | rfl | simp | omega) (Own.nil _ _) rfl (by first | rfl | simp | omega) (S0.out _ (by assumption)) (by simp; omega) (by first | exact Nat.le_refl _ | (simp; done) | omega) ?_); intro a1 c1 w1 L1 Hl1 ho1 hb1 hk1 hA1; have HA1 := hid hA1; clear hA1; have Ho1 := hid ho1; clear ho1; have Hk1 := hid hk1; clear hk1; have hz1 := hb1.size); have hx1 : Below w.heap.size w w1 := Below.trans (by assumption) hb1; have kk := K0.out _ hx1; obtain ⟨kk0, kk1, kk2⟩ := kk)
               | (((refine step_appn rfl ((.const (.slice none 0 0))) (.tmp 11) rfl w1.heap.size none aa 0 s.a.length 0 ca [] s.a rfl (by first | rfl | simp | omega) (Own.nil _ _) rfl (by first | rfl | simp | omega) (S1.out _ (by assumption)) (by simp; omega) (Nat.le_refl _) ?_); intro a2 c2 w2 L2 Hl2 ho2 hb2 hk2 hA2; have HA2 := hid hA2; clear hA2; have Ho2 := hid ho2; clear ho2; have Hk2 := hid hk2; clear hk2; have hz2 := hb2.size); have hx2 : Below w.heap.size w w2 := bthen (by assumption) hb2; have kk := K0.out _ hx2; obtain ⟨ll0, ll1, ll2⟩ := kk)
               | (((refine step_papp rfl ((.const (.slice none 0 0))) (.tmp 16) rfl w2.heap.size none ap 0 s.p.length 0 cp [] s.p rfl (by first | rfl | simp | omega) (POwn.nil _ _) rfl (by first | rfl | simp | omega) (S2.out _ (by assumption)) (by simp; omega) (Nat.le_refl _) ?_); intro a3 c3 w3 L3 Hl3 ho3 hb3 hk3 hA3; have HA3 := hid hA3; clear hA3; have Ho3 := hid ho3; clear ho3; have Hk3 := hid hk3; clear hk3; have hz3 := hb3.size); have hx3 : Below w.heap.size w w3 := bthen (by assumption) hb3; have kk := K0.out _ hx3; obtain ⟨mm0, mm1, mm2⟩ := kk))
  have z1 := hx1.size; have z4 := hx2.size
  have HX3 := hid hx3
  have e1' : L1 = s.o := by simpa using Hl1.out
  have e2' : L2 = s.a := by simpa using Hl2.out
  have e3' : L3 = s.p := by simpa using Hl3.out
  subst e1' e2' e3'
  go_wp2
  go_ret
  have e1 := own_lt Ho1.out; have e2 := own_lt Ho2.out; have e3 := pown_lt Ho3.out; have g2 := own_ge Ho2.out; have g3 := pown_ge Ho3.out
  refine ⟨w3.heap.size, rfl, tab_mk Hwf.out HX3.out.size (fun i => frozen_alloc_new _ _ _ _) a1 a2 a3 c1 c2 c3 (by rw [cell_alloc_new]; rfl) (by rw [cell_alloc_new]; rfl) (by rw [cell_alloc_new]; rfl)
    (((Ho1.out.grow (bthen hb2 hb3)).grow ((Below.refl _ _).alloc (Nat.le_refl _) _)).base_le (by simp)) (((Ho2.out.grow hb3).grow ((Below.refl _ _).alloc (Nat.le_refl _) _)).base_le z1) ((Ho3.out.grow ((Below.refl _ _).alloc (Nat.le_refl _) _)).base_le z4) ?_ ?_ ?_ ?_ ?_, bal HX3.out _⟩
  · intro ad h; have := e1 ad h; omega
  · intro ad h; have := e2 ad h; omega
  · intro ad h; have := e3 ad h; omega
  · intro ad ae h h'; have := e1 ad h; have := g2 ae h'; omega
  · intro ad ae h h'; have := g3 ad h; have := e2 ae h'; omega
end Go.Proofs.Ytcekoifbgfeahaa
