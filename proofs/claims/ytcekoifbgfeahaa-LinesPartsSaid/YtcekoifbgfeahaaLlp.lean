/- Layer 4's law: parts. -/
import Derived.Test.YtcekoifbgfeahaaLla
namespace Go.Proofs.Ytcekoifbgfeahaa
open Go.RowKit

/-- behind k lines: the next one begins at p, or none is left and p lies behind the text -/
def Nxt (l : List Int) (k p : Nat) : Prop := (k < lcnt l ∧ lst l k = some p) ∨ (k = lcnt l ∧ p = l.length + 1)
theorem nxt_zero (l : List Int) : Nxt l 0 0 := .inl ⟨lcnt_pos l, rfl⟩
theorem nxt_succ {l : List Int} {k p : Nat} (h : lst l k = some p) (hk : k < lcnt l) : Nxt l (k + 1) (nx l p + 1) := by
  rcases Nat.lt_or_ge (k + 1) (lcnt l) with h1 | h1
  · exact .inl ⟨h1, (lst_next h h1).2⟩
  · exact .inr ⟨by omega, by rw [lst_end h (by omega)]⟩

set_option maxHeartbeats 4000000 in
theorem parts_l (a : Option Addr) (c : Nat) (l0 : List Int) (W : World) (h : Sl W a l0) (hlc : l0.length ≤ c) :
    Calls Try.prog 7 #[.slice a l0.length c] W fun e W' => e = .returned (.bool true) ∧ Below W.heap.size W W' := by
  go_enter Try.func7, Try.ntmps7
  go_wp2_with fail
  refine (cut_c a c l0 500 W h hlc (by omega)).mono ?_
  rintro e w' ⟨a, c, l, rfl, hL, h, hlc, rfl⟩
  have hl : l.length ≤ 500 := by rw [hL.out, List.length_take]; omega
  have S := hid (show ∀ w', Below W.heap.size W w' → Sl w' a l from fun w' hb => h.bel hb)
  have Hb := hid (Below.refl W.heap.size W)
  have hn1 := lcnt_le l
  clear h hL
  go_wp2_with fail
  refine (count_c a c l W (S.out _ Hb.out)).mono ?_
  rintro e w' ⟨rfl, rfl⟩
  generalize hn : lcnt l = n at hn1 ⊢
  have HN := hid hn
  clear hn
  go_wp2_with fail
  go_loopw [3, 5] (fun av kv wr => ∃ k p : Nat, k ≤ n ∧ av = .int .i64 p ∧ kv = .int .i64 k ∧ Hid (Nxt l k p) ∧ Below W.heap.size W wr) (fun _ kv _ => n - (intOf kv).toNat)
  case atStart => exact ⟨0, 0, Nat.zero_le _, rfl, rfl, nxt_zero l, Hb.out⟩
  case round =>
    obtain ⟨k, p, hk, rfl, rfl, hx, hb⟩ := hrel
    by_cases hlt : k < n
    · have hp : lst l k = some p := by
        rcases hx.out with ⟨_, h1⟩ | ⟨h1, _⟩
        · exact h1
        · have := HN.out; omega
      have hfl := lst_le hp
      have hnl := nx_le hfl
      have hng := nx_ge l p
      have hlin := (lin_nat l k).trans hp
      have hz := nxt_succ hp (by have := HN.out; omega)
      have E := hid (show lsV l k = p ∧ lsE l k = 0 ∧ lwV l k = nx l p - p by simp [lsV, lsE, lwV, hlin])
      have HP := hid hp
      clear hp hlin
      generalize nx l p = m at *
      have HZ := hid hz
      clear hz
      go_wp2_with fail
      refine (start_c a c l k wr (S.out _ hb)).mono ?_
      rw [E.out.1, E.out.2.1]
      rintro e w1 ⟨rfl, hb1⟩
      have hx1 := bthen hb hb1
      clear hb1
      go_wp2_with fail
      refine (width_c a c l k w1 (S.out _ hx1)).mono ?_
      rw [E.out.2.2, E.out.2.1]
      rintro e w2 ⟨rfl, hb2⟩
      have hx2 := bthen hx1 hb2
      clear hb2
      go_wp2_with fail
      go_round
      case rel => exact ⟨k + 1, m + 1, by omega, by go_num, by go_num, HZ, hx2⟩
      case measure => simp [intOf]; omega
    · obtain rfl : k = n := by omega
      have hp : p = l.length + 1 := by
        rcases hx.out with ⟨h1, _⟩ | ⟨_, h1⟩
        · have := HN.out; omega
        · exact h1
      subst hp
      go_wp2_with fail
      refine (known_l wr).mono ?_
      rintro e w5 ⟨rfl, hb5⟩
      have hx5 := bthen hb hb5
      go_wp2
      go_ret
      exact ⟨rfl, hx5⟩
end Go.Proofs.Ytcekoifbgfeahaa
