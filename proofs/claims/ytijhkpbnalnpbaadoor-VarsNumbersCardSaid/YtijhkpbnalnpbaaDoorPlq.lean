/- standishkeep's Plain; strings side by side. -/
import Derived.Test.YtijhkpbnalnpbaaDoorKeepR
namespace Go.Proofs.YtijhkpbnalnpbaaDoor
open Go.RowKit

/-- a string's bytes as signs -/
def strL (s : ByteArray) : List Int := s.data.toList.map fun b => (b.toNat : Int)
theorem strL_len (s : ByteArray) : (strL s).length = s.size := by
  show _ = s.data.size
  simp [strL]
theorem wrap_byte (b : UInt8) : wrap32 (b.toNat : Int) = (b.toNat : Int) := by
  have := b.toNat_lt
  unfold wrap32; omega
theorem strL_at (s : ByteArray) {k : Nat} (h : k < s.size) : gt (strL s) k = ((s[k]'h).toNat : Int) := by
  rw [gt_get (by rw [strL_len]; exact h)]
  simp only [strL, List.getElem_map, Array.getElem_toList]
  rfl
set_option maxHeartbeats 4000000 in
theorem plain_c (s : ByteArray) (w : World) (hs : s.size ≤ 1000) :
    Calls Tryd.prog 12 #[.string s] w fun e' w' => ∃ a c L, e' = .returned (.slice a L.length c) ∧ Hid (L = strL s) ∧ Own w' w.heap.size a c L ∧ Below w.heap.size w w' := by
  go_enter Tryd.func12, Tryd.ntmps12
  go_wp2
  go_loopw [3, 4] (fun v iv wr => ∃ (k : Nat) (a : Option Addr) (c : Nat) (L : List Int), k ≤ s.size ∧ iv = .int .i64 k ∧ v = .slice a L.length c ∧ Hid (L = (strL s).take k) ∧ Hid (Own wr w.heap.size a c L) ∧ Below w.heap.size w wr) (fun _ iv _ => s.size - (intOf iv).toNat)
  case atStart => exact ⟨0, none, 0, [], by omega, rfl, rfl, by simp [Hid], Own.nil _ _, Below.refl _ _⟩
  case round =>
    obtain ⟨k, a, c, L, hk, rfl, rfl, hL, Ho, hb⟩ := hrel
    by_cases hlt : k < s.size
    · have hz := hb.size
      have hLl := hid (show L.length = k by rw [hL.out, List.length_take, strL_len]; omega)
      have hLl2 := Ho.out.2.2
      have hx : -2147483648 ≤ wrap32 ((s[k]'hlt).toNat : Int) ∧ wrap32 ((s[k]'hlt).toNat : Int) ≤ 2147483647 := by
        have h1 := (s[k]'hlt).toNat_lt
        rw [wrap_byte]; omega
      have hnew := hid (show (strL s).take k ++ [wrap32 ((s[k]'hlt).toNat : Int)] = (strL s).take (k + 1) by
        rw [take_succ (by rw [strL_len]; exact hlt), strL_at s hlt, wrap_byte])
      go_wp2_with ((at_builtin; (refine wpL_appn rfl (.tmp 11) (.tmp 16) rfl w.heap.size a (some ⟨wr.heap.size, 0, none⟩) L.length 1 c 1 L [wrap32 ((s[k]'hlt).toNat : Int)] rfl (by first | rfl | simp | omega) (Ho.out.grow (by (repeat' (first | exact Below.refl _ _ | assumption | refine bdrewN ?_ _ | refine Below.drew ?_ | refine bal ?_ _ | refine bthen ?_ (by assumption))))) rfl (by first | rfl | simp | omega) (Sl.lit wr [wrap32 ((s[k]'hlt).toNat : Int)] _ (by simp) (rng_one hx) _ rfl) (by rw [hLl.out]; simp; omega) (by simp; omega) ?_); intro a5 c5 w5 L5 Hl5 ho5 hb5 hk5 hA5; have HA5 := hid hA5; clear hA5; have Ho5 := hid ho5; clear ho5; have Hk5 := hid hk5; clear hk5; have hz5 := hb5.size))
      go_roundw
      case rel => exact ⟨k + 1, a5, c5, L5, by omega, by go_num, rfl, by rw [Hl5.out, hL.out, hnew.out]; rfl, Ho5, (hb.alloc (by omega) _).trans (hb5.mono (Nat.le_refl _))⟩
      case measure => simp [intOf]; omega
    · obtain rfl : k = s.size := by omega
      have hL2 := hid (show L = strL s by rw [hL.out]; exact List.take_of_length_le (by rw [strL_len]; exact Nat.le_refl _))
      go_wp2_with fail
      go_ret
      exact ⟨a, c, L, rfl, hL2, Ho.out, hb⟩
/-- strings side by side -/
def StrAt (w : World) (b : Nat) (ss : List ByteArray) : Prop := ∀ i (h : i < ss.length), w.cell? ⟨b, i, none⟩ = some (.string (ss[i]'h))
theorem StrAt.new (w : World) (ss : List ByteArray) (T : TypeId) (cs : Array Value) (hcs : cs = (ss.map Value.string).toArray) : StrAt (w.alloc (.cells cs T)) w.heap.size ss := by
  intro i h
  rw [cell_alloc_new, hcs]
  simp [List.getElem?_eq_getElem h]
end Go.Proofs.YtijhkpbnalnpbaaDoor
