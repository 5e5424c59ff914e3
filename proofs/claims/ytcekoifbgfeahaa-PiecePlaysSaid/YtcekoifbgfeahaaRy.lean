/- The document's own table: NewTable; a list's splice; changes that fit. -/
import Derived.Test.YtcekoifbgfeahaaRx
namespace Go.Proofs.Ytcekoifbgfeahaa
open Go.RowKit

set_option maxHeartbeats 1000000 in
theorem rnew_form (a : Option Addr) (c : Nat) (l : List Int) (w : World) (h : Sl w a l) (hm : may l = false) :
    Calls Try.prog 11 #[.slice a l.length c] w fun e w' => e = .returned (.tuple #[.pointer none, .int .i64 1]) ∧ w = w' := by
  go_enter Try.func11, Try.ntmps11
  go_wp2_with (go_at_call 33; (with_reducible refine (rmay_c _ _ _ _ h).mono ?_); rintro e w' ⟨rfl, rfl⟩)
  go_ret2
  exact ⟨rfl, rfl⟩
set_option maxHeartbeats 1000000 in
theorem rnew_full (a : Option Addr) (c : Nat) (l : List Int) (w : World) (h : Sl w a l) (hm : may l = true) (hl : 1000 < l.length) :
    Calls Try.prog 11 #[.slice a l.length c] w fun e w' => e = .returned (.tuple #[.pointer none, .int .i64 3]) ∧ w = w' := by
  have hb := h.len
  go_enter Try.func11, Try.ntmps11
  go_wp2_with (go_at_call 33; (with_reducible refine (rmay_c _ _ _ _ h).mono ?_); rintro e w' ⟨rfl, rfl⟩)
  go_ret2
  exact ⟨rfl, rfl⟩
set_option maxHeartbeats 1000000 in
theorem rnew_t (a : Option Addr) (c : Nat) (l : List Int) (w : World) (h : Sl w a l) (hm : may l = true) (hl : l.length ≤ 1000) :
    Calls Try.prog 11 #[.slice a l.length c] w (Made w (st0 l)) := by
  have Hwf := hid (st0_wf hl)
  go_enter Try.func11, Try.ntmps11
  go_wp2_with fail
  refine (rmay_c _ _ _ _ h).mono ?_
  rintro e w' ⟨rfl, rfl⟩
  by_cases he : l = []
  · subst he
    go_wp2_with (at_builtin; (refine wpL_appn rfl ((.const (.slice none 0 0))) (.tmp 11) rfl w.heap.size none a 0 _ 0 c [] [] rfl (by first | rfl | simp | omega) (Own.nil _ _) rfl (by first | rfl | simp | omega) h (by simp) (Nat.le_refl _) ?_); intro a1 c1 w1 L1 Hl1 ho1 hb1 hk1 hA1; have HA1 := hid hA1; clear hA1; have Ho1 := hid ho1; clear ho1; have Hk1 := hid hk1; clear hk1; have hz1 := hb1.size)
    have e1 : L1 = [] := by simpa using Hl1.out
    subst e1
    go_wp2
    go_ret2
    refine ⟨w1.heap.size, rfl, tab_mk Hwf.out hb1.size (fun i => frozen_alloc_new _ _ _ _) a1 none none c1 0 0 (by rw [cell_alloc_new]; rfl) (by rw [cell_alloc_new]; rfl) (by rw [cell_alloc_new]; rfl) (Ho1.out.grow (by (repeat' (first | exact Below.refl _ _ | assumption | refine bdrewN ?_ _ | refine Below.drew ?_ | refine bal ?_ _ | refine bthen ?_ (by assumption))))) (Own.nil _ _) (POwn.nil _ _) ?_ (by simp) (by simp) (by simp) (by simp), hb1.alloc hb1.size _⟩
    intro ad h; have := own_lt Ho1.out ad h; omega
  · have hpos : 0 < l.length := by rcases l with _ | ⟨x, r⟩; exact absurd rfl he; simp
    have He := hid he
    clear he
    have hst : Hid ((st0 l).p = [⟨false, 0, l.length⟩]) := by simp [Hid, st0, He.out]
    go_wp2_with ((at_builtin; (refine wpL_appn rfl ((.const (.slice none 0 0))) (.tmp 11) rfl w.heap.size none a 0 l.length 0 c [] l rfl (by first | rfl | simp | omega) (Own.nil _ _) rfl (by first | rfl | simp | omega) h (by simp; omega) (Nat.le_refl _) ?_); intro a1 c1 w1 L1 Hl1 ho1 hb1 hk1 hA1; have HA1 := hid hA1; clear hA1; have Ho1 := hid ho1; clear ho1; have Hk1 := hid hk1; clear hk1; have hz1 := hb1.size); have e1 : L1.length = l.length := (by rw [Hl1.out]; simp); have E1 : Hid (L1 = l) := hid (by simpa using Hl1.out))
    go_ret2
    obtain rfl := E1.out
    have hsz := hb1.size
    refine ⟨w1.heap.size, rfl, tab_mk Hwf.out hb1.size ?_ a1 none (some ⟨w1.heap.size + 1, 0, none⟩) c1 0 1 ?_ ?_ ?_ (Ho1.out.grow (by (repeat' (first | exact Below.refl _ _ | assumption | refine bdrewN ?_ _ | refine Below.drew ?_ | refine bal ?_ _ | refine bthen ?_ (by assumption))))) (Own.nil _ _) ?_ ?_ (by simp) (by simp) (by simp) (by simp), (hb1.alloc hb1.size _).alloc (by simp; omega) _⟩
    · intro i; simp
    · simp [st0]
    · simp [st0]
    · rw [hst.out]; simp
    · rw [hst.out]; exact POwn.lit' _ _ _ _ (by simp) (by simp; omega) _ rfl
    · intro ad h; have := own_lt Ho1.out ad h; omega
end Go.Proofs.Ytcekoifbgfeahaa
