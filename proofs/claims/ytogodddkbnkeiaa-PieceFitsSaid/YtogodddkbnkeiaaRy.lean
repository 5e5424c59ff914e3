/- The document's own table: NewTable; a list's splice; changes that fit. -/
import Derived.Test.YtogodddkbnkeiaaRx
namespace Go.Proofs.Ytogodddkbnkeiaa
open Go.RowKit

set_option maxHeartbeats 1000000 in
theorem rnew_form (a : Option Addr) (c : Nat) (l : List Int) (w : World) (h : Sl w a l) (hm : may l = false) :
    Calls Try.prog 11 #[.slice a l.length c] w fun e w' => e = .returned (.tuple #[.pointer none, .int .i64 1]) ∧ w = w' := by
  go_enter Try.func11, Try.ntmps11
  go_wp2_with (go_at_call 34; (with_reducible refine (rmay_c _ _ _ _ h).mono ?_); rintro e w' ⟨rfl, rfl⟩)
  go_ret2
  exact ⟨rfl, rfl⟩
set_option maxHeartbeats 1000000 in
theorem rnew_full (a : Option Addr) (c : Nat) (l : List Int) (w : World) (h : Sl w a l) (hm : may l = true) (hl : 1000 < l.length) :
    Calls Try.prog 11 #[.slice a l.length c] w fun e w' => e = .returned (.tuple #[.pointer none, .int .i64 3]) ∧ w = w' := by
  have hb := h.len
  go_enter Try.func11, Try.ntmps11
  go_wp2_with (go_at_call 34; (with_reducible refine (rmay_c _ _ _ _ h).mono ?_); rintro e w' ⟨rfl, rfl⟩)
  go_ret2
  exact ⟨rfl, rfl⟩
set_option maxHeartbeats 1000000 in
theorem rnew_t (a : Option Addr) (c : Nat) (l : List Int) (w : World) (h : Sl w a l) (hm : may l = true) (hl : l.length ≤ 1000) :
    Calls Try.prog 11 #[.slice a l.length c] w (Made w (st0 l)) := by
  have Hwf := hid (st0_wf hl)
  go_enter Try.func11, Try.ntmps11
  go_wp2_with fail
  refine (rmay_c _ _ _ _ h).mono ?_
  rintro e w' ⟨rfl, rfl⟩
  by_cases he : l = []
  · subst he
    go_wp2_with (at_builtin; (refine wpL_appn rfl ((.const (.slice none 0 0))) (.tmp 11) rfl w.heap.size none a 0 _ 0 c [] [] rfl (by first | rfl | simp | omega) (Own.nil _ _) rfl (by first | rfl | simp | omega) h (by simp) (Nat.le_refl _) ?_); intro a1 c1 w1 L1 Hl1 ho1 hb1 hk1 hA1; have HA1 := hid hA1; clear hA1; have Ho1 := hid ho1; clear ho1; have Hk1 := hid hk1; clear hk1; have hz1 := hb1.size)
    have e1 : L1 = [] := by simpa using Hl1.out
    subst e1
    go_wp2
    go_ret2
    refine ⟨w1.heap.size, rfl, tab_mk Hwf.out hb1.size (fun i => frozen_alloc_new _ _ _ _) a1 none none c1 0 0 (by rw [cell_alloc_new]; rfl) (by rw [cell_alloc_new]; rfl) (by rw [cell_alloc_new]; rfl) (Ho1.out.grow (by (repeat' (first | exact Below.refl _ _ | assumption | refine bdrewN ?_ _ | refine Below.drew ?_ | refine bal ?_ _ | refine bthen ?_ (by assumption))))) (Own.nil _ _) (POwn.nil _ _) ?_ (by simp) (by simp) (by simp) (by simp), hb1.alloc hb1.size _⟩
    intro ad h; have := own_lt Ho1.out ad h; omega
  · have hpos : 0 < l.length := by rcases l with _ | ⟨x, r⟩; exact absurd rfl he; simp
    have He := hid he
    clear he
    have hst : Hid ((st0 l).p = [⟨false, 0, l.length⟩]) := by simp [Hid, st0, He.out]
    go_wp2_with ((at_builtin; (refine wpL_appn rfl ((.const (.slice none 0 0))) (.tmp 11) rfl w.heap.size none a 0 l.length 0 c [] l rfl (by first | rfl | simp | omega) (Own.nil _ _) rfl (by first | rfl | simp | omega) h (by simp; omega) (Nat.le_refl _) ?_); intro a1 c1 w1 L1 Hl1 ho1 hb1 hk1 hA1; have HA1 := hid hA1; clear hA1; have Ho1 := hid ho1; clear ho1; have Hk1 := hid hk1; clear hk1; have hz1 := hb1.size); have e1 : L1.length = l.length := (by rw [Hl1.out]; simp); have E1 : Hid (L1 = l) := hid (by simpa using Hl1.out))
    go_ret2
    obtain rfl := E1.out
    have hsz := hb1.size
    refine ⟨w1.heap.size, rfl, tab_mk Hwf.out hb1.size ?_ a1 none (some ⟨w1.heap.size + 1, 0, none⟩) c1 0 1 ?_ ?_ ?_ (Ho1.out.grow (by (repeat' (first | exact Below.refl _ _ | assumption | refine bdrewN ?_ _ | refine Below.drew ?_ | refine bal ?_ _ | refine bthen ?_ (by assumption))))) (Own.nil _ _) ?_ ?_ (by simp) (by simp) (by simp) (by simp), (hb1.alloc hb1.size _).alloc (by simp; omega) _⟩
    · intro i; simp
    · simp [st0]
    · simp [st0]
    · rw [hst.out]; simp
    · rw [hst.out]; exact POwn.lit' _ _ _ _ (by simp) (by simp; omega) _ rfl
    · intro ad h; have := own_lt Ho1.out ad h; omega
set_option maxHeartbeats 4000000 in
theorem lsplice_c (a ax : Option Addr) (c cx : Nat) (l put : List Int) (at_ cut : Nat) (w : World) (h : Sl w a l) (hp : Sl w ax put) (hc : l.length ≤ c) (hl : l.length ≤ 100000) (hpl : put.length ≤ 100000) (hw : at_ + cut ≤ l.length) :
    Calls Try.prog 24 #[.slice a l.length c, .int .i64 at_, .int .i64 cut, .slice ax put.length cx] w (Makes w (l.take at_ ++ put ++ l.drop (at_ + cut))) := by
  obtain ⟨a1, c1, D1, HD1, s1, hD1, r1⟩ := slice_to h at_ c (by omega) hc
  obtain ⟨a2, c2, D2, HD2, s2, hD2, r2⟩ := slice_from h (at_ + cut) c (by omega) hc
  simp only [Int.natCast_add] at r2
  have hl1 : D1.length ≤ 100000 := by rw [HD1.out]; simp; omega
  have hl2 : D2.length ≤ 100000 := by rw [HD2.out]; simp; omega
  have hwr : IntKind.i64.wrap ((at_ : Int) + (cut : Int)) = (at_ : Int) + (cut : Int) := by rw [IntKind.wrap_i64]; omega
  have S2 : Hid (∀ w', Below w.heap.size w w' → Sl w' a2 D2) := fun w' hb => s2.bel hb
  have hb0 : Below w.heap.size w w := Below.refl _ _
  go_enter Try.func24, Try.ntmps24
  go_wp2
  have hx0 : Below w.heap.size w w.drew := hb0.drew
  have hJ := hid (join_c a1 ax c1 cx D1 put w.drew s1.drew hp.drew (by omega))
  go_region_held3 (fun w' => Below w.heap.size w w') (first | assumption | go_keep)
    (first | (go_at_call 45; refine hJ.out.mono ?_; rintro e w3 ⟨a3, c3, rfl, ho3, hb3⟩; have Ho3 := hid ho3; have hx3 : Below w.heap.size w w3 := bthen (by assumption) hb3; have hj3 : (D1 ++ put).length ≤ 200000 := (by simp; omega))
               | (((refine step_appn rfl (.tmp 13) (.tmp 18) rfl w.heap.size a3 a2 _ D2.length c3 c2 (D1 ++ put) D2 rfl (by first | rfl | simp | omega) (Ho3.out.base_le (by simp)) rfl (by first | rfl | simp | omega) (S2.out _ (by assumption)) (by omega) (by have := hx3.size; assumption) ?_); intro a4 c4 w4 L4 Hl4 ho4 hb4 hk4 hA4; have HA4 := hid hA4; clear hA4; have Ho4 := hid ho4; clear ho4; have Hk4 := hid hk4; clear hk4; have hz4 := hb4.size); have hx4 : Below w.heap.size w w4 := Below.trans (by assumption) hb4))
  go_wp2
  go_ret
  have e4 : L4 = l.take at_ ++ put ++ l.drop (at_ + cut) := by rw [Hl4.out, HD1.out, HD2.out]
  subst e4
  exact ⟨a4, c4, rfl, Ho4.out, hx4⟩
end Go.Proofs.Ytogodddkbnkeiaa
