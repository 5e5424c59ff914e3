/- Contracts of package lines: find, Start, Width, Offset. -/
import Derived.Test.YtcekoifbgfeahaaLinesM
import Derived.Test.YtcekoifbgfeahaaSignsL
namespace Go.Proofs.Ytcekoifbgfeahaa
open Go.RowKit

theorem ret_ii {a b c d : Int} (h1 : a = b) (h2 : c = d) : Ending.returned (.tuple #[.int .i64 a, .int .i64 c]) = Ending.returned (.tuple #[.int .i64 b, .int .i64 d]) := by rw [h1, h2]
theorem ret_iii {a b c d f g : Int} (h1 : a = b) (h2 : c = d) (h3 : f = g) : Ending.returned (.tuple #[.int .i64 a, .int .i64 c, .int .i64 f]) = Ending.returned (.tuple #[.int .i64 b, .int .i64 d, .int .i64 g]) := by rw [h1, h2, h3]
def Fnd (l : List Int) (line F T : Int) (b : Bool) : Prop :=
  (∃ f, lin l line = some f ∧ F = (f : Nat) ∧ T = (nx l f : Nat) ∧ b = true) ∨ (lin l line = none ∧ F = 0 ∧ T = 0 ∧ b = false)
theorem fnd_yes {l : List Int} {k n f : Nat} {line : Int} (hk : k ≤ l.length) (he : k = l.length ∨ gt l k = 10) (hn : (lsc l k).1 = n) (hf : (lsc l k).2 = f) (hl : line = (n : Int)) : Fnd l line f k true := by
  subst hn; subst hf; subst hl
  exact .inl ⟨_, (lin_nat _ _).trans (lsc_st hk), rfl, by rw [lsc_nx hk he], rfl⟩
theorem fnd_no {l : List Int} {n : Nat} {line : Int} (hn : (lsc l l.length).1 = n) (hl : line < 0 ∨ (n : Int) ≤ line) (hne : (n : Int) ≠ line) : Fnd l line 0 0 false := by
  subst hn
  refine .inr ⟨?_, rfl, rfl, rfl⟩
  unfold lin
  split
  · exact lst_none_le (lst_last l) (by unfold lcnt; omega)
  · rfl

def Finds (w : World) (l : List Int) (line : Int) (e : Ending) (w' : World) : Prop := ∃ F T b, e = .returned (.tuple #[.agg #[.int .i64 F, .int .i64 T], .bool b]) ∧ Fnd l line F T b ∧ Below w.heap.size w w'

set_option maxHeartbeats 1000000 in
theorem find_c (a : Option Addr) (c : Nat) (l : List Int) (line : Int) (w : World) (h : Sl w a l) :
    Calls Try.prog 54 #[.slice a l.length c, .int .i64 line] w (Finds w l line) := by
  have hl := h.len
  have Hb := hid (Below.refl w.heap.size w)
  go_enter Try.func54, Try.ntmps54
  go_wp2
  go_loop [6, 7, 12] (fun nv fv i => ∃ k : Nat, k ≤ l.length ∧ i = .int .i64 k ∧ nv = .int .i64 (lsc l k).1 ∧ fv = .int .i64 (lsc l k).2 ∧ Hid (line < 0 ∨ ((lsc l k).1 : Int) ≤ line)) (fun _ _ i => l.length - (intOf i).toNat)
  case atStart => exact ⟨0, Nat.zero_le _, rfl, rfl, rfl, by unfold Hid; simp [lsc]; omega⟩
  case round =>
    obtain ⟨k, hk, rfl, rfl, rfl, hm⟩ := hrel
    have hle := lsc_le l k
    generalize hn : (lsc l k).1 = n at hle hm ⊢
    generalize hf : (lsc l k).2 = f at hle ⊢
    have Hn := hid hn
    have Hf := hid hf
    clear hn hf
    by_cases hlt : k < l.length
    · obtain ⟨b, o, rfl, hc⟩ := h.at hlt
      have ck := hc k hlt
      have hbl := World.block_lt_of_cell? w _ ck
      have Hs : Hid (gt l k ≠ 10 → lsc l (k + 1) = lsc l k) := fun h => by simp only [lsc, h, if_false]
      have Ht : Hid (gt l k = 10 → lsc l (k + 1) = ((lsc l k).1 + 1, k + 1)) := fun h => by simp only [lsc, h, if_true]
      clear hc
      by_cases h10 : gt l k = 10
      · have h1 : (gt l k != 10) = false := by simp [h10]
        have H10 := hid h10
        clear h10
        by_cases hline : line = (n : Int)
        · subst hline
          go_wp2
          exact bodyPost_ret (v := .tuple #[.agg #[.int .i64 f, .int .i64 k], .bool true]) (by simp [results, Try.results54, go_sem]) rfl ⟨_, _, _, rfl, fnd_yes hk (.inr H10.out) Hn.out Hf.out rfl, by (repeat' (first | exact Below.refl _ _ | assumption | refine bdrewN ?_ _ | refine Below.drew ?_ | refine bal ?_ _ | refine bthen ?_ (by assumption)))⟩
        · have h2 : ((n : Int) == line) = false := by simp; omega
          have Hline := hid hline
          go_wp2
          go_round
          case rel =>
            have e := Ht.out H10.out
            rw [Hn.out] at e
            exact ⟨k + 1, by omega, by go_num, by rw [e]; go_num, by rw [e]; go_num, by unfold Hid at *; rw [e]; simp only; omega⟩
          case measure => simp [intOf]; omega
      · have h1 : (gt l k != 10) = true := by simp [h10]
        have H10 := hid h10
        clear h10
        go_wp2
        go_round
        case rel =>
          have e := Hs.out H10.out
          exact ⟨k + 1, by omega, by go_num, by rw [e, Hn.out], by rw [e, Hf.out], by unfold Hid at *; rw [e, Hn]; exact hm⟩
        case measure => simp [intOf]; omega
    · obtain rfl : k = l.length := by omega
      by_cases hline : line = (n : Int)
      · subst hline
        go_wp2
        exact bodyPost_ret (v := .tuple #[.agg #[.int .i64 f, .int .i64 l.length], .bool true]) (by simp [results, Try.results54, go_sem]) rfl ⟨_, _, _, rfl, fnd_yes (Nat.le_refl _) (.inl rfl) Hn.out Hf.out rfl, by (repeat' (first | exact Below.refl _ _ | assumption | refine bdrewN ?_ _ | refine Below.drew ?_ | refine bal ?_ _ | refine bthen ?_ (by assumption)))⟩
      · have h2 : ((n : Int) == line) = false := by simp; omega
        have Hline := hid hline
        go_wp2
        exact bodyPost_ret (v := .tuple #[.agg #[.int .i64 0, .int .i64 0], .bool false]) (by simp [results, Try.results54, go_sem]) rfl ⟨_, _, _, rfl, fnd_no Hn.out hm.out (by have := Hline.out; omega), by (repeat' (first | exact Below.refl _ _ | assumption | refine bdrewN ?_ _ | refine Below.drew ?_ | refine bal ?_ _ | refine bthen ?_ (by assumption)))⟩

theorem find_yes {a : Option Addr} {c : Nat} {l : List Int} {line : Int} {w : World} {f : Nat} (h : Sl w a l) (hf : lin l line = some f) :
    Calls Try.prog 54 #[.slice a l.length c, .int .i64 line] w fun e w' => e = .returned (.tuple #[.agg #[.int .i64 f, .int .i64 (nx l f)], .bool true]) ∧ Below w.heap.size w w' := by
  refine (find_c a c l line w h).mono ?_
  rintro e w' ⟨F, T, b, rfl, ⟨f', h1, rfl, rfl, rfl⟩ | ⟨h1, -⟩, hb⟩
  · rw [hf] at h1; simp at h1; subst h1; exact ⟨rfl, hb⟩
  · rw [hf] at h1; cases h1
theorem find_none {a : Option Addr} {c : Nat} {l : List Int} {line : Int} {w : World} (h : Sl w a l) (hf : lin l line = none) :
    Calls Try.prog 54 #[.slice a l.length c, .int .i64 line] w fun e w' => e = .returned (.tuple #[.agg #[.int .i64 0, .int .i64 0], .bool false]) ∧ Below w.heap.size w w' := by
  refine (find_c a c l line w h).mono ?_
  rintro e w' ⟨F, T, b, rfl, ⟨f', h1, rfl, rfl, rfl⟩ | ⟨-, rfl, rfl, rfl⟩, hb⟩
  · rw [hf] at h1; cases h1
  · exact ⟨rfl, hb⟩

set_option maxHeartbeats 1000000 in
theorem start_c (a : Option Addr) (c : Nat) (l : List Int) (line : Int) (w : World) (h : Sl w a l) :
    Calls Try.prog 24 #[.slice a l.length c, .int .i64 line] w fun e w' => e = .returned (.tuple #[.int .i64 (lsV l line), .int .i64 (lsE l line)]) ∧ Below w.heap.size w w' := by
  cases hf : lin l line with
  | none =>
    have e1 : lsV l line = 0 := by simp [lsV, hf]
    have e2 : lsE l line = 2 := by simp [lsE, hf]
    rw [e1, e2]
    have Hf := hid hf
    clear e1 e2 hf
    go_enter Try.func24, Try.ntmps24
    go_wp2_with (go_at_call 54; (with_reducible refine (find_none h Hf.out).mono ?_); rintro e w' ⟨rfl, hb⟩)
    go_ret2
    exact ⟨rfl, by (repeat' (first | exact Below.refl _ _ | assumption | refine bdrewN ?_ _ | refine Below.drew ?_ | refine bal ?_ _ | refine bthen ?_ (by assumption)))⟩
  | some f =>
    have e1 : lsV l line = f := by simp [lsV, hf]
    have e2 : lsE l line = 0 := by simp [lsE, hf]
    rw [e1, e2]
    have Hf := hid hf
    clear e1 e2 hf
    go_enter Try.func24, Try.ntmps24
    go_wp2_with (go_at_call 54; (with_reducible refine (find_yes h Hf.out).mono ?_); rintro e w' ⟨rfl, hb⟩)
    go_ret2
    exact ⟨rfl, by (repeat' (first | exact Below.refl _ _ | assumption | refine bdrewN ?_ _ | refine Below.drew ?_ | refine bal ?_ _ | refine bthen ?_ (by assumption)))⟩
theorem lin_len {l : List Int} {k : Int} {f : Nat} (h : lin l k = some f) : f ≤ nx l f ∧ nx l f ≤ l.length := by
  unfold lin at h
  split at h
  · exact ⟨nx_ge _ _, nx_le (lst_le h)⟩
  · cases h
set_option maxHeartbeats 1000000 in
theorem width_c (a : Option Addr) (c : Nat) (l : List Int) (line : Int) (w : World) (h : Sl w a l) :
    Calls Try.prog 25 #[.slice a l.length c, .int .i64 line] w fun e w' => e = .returned (.tuple #[.int .i64 (lwV l line), .int .i64 (lsE l line)]) ∧ Below w.heap.size w w' := by
  have hl := h.len
  cases hf : lin l line with
  | none =>
    have e1 : lwV l line = 0 := by simp [lwV, hf]
    have e2 : lsE l line = 2 := by simp [lsE, hf]
    rw [e1, e2]
    have Hf := hid hf
    clear e1 e2 hf
    go_enter Try.func25, Try.ntmps25
    go_wp2_with (go_at_call 54; (with_reducible refine (find_none h Hf.out).mono ?_); rintro e w' ⟨rfl, hb⟩)
    go_ret2
    exact ⟨rfl, by (repeat' (first | exact Below.refl _ _ | assumption | refine bdrewN ?_ _ | refine Below.drew ?_ | refine bal ?_ _ | refine bthen ?_ (by assumption)))⟩
  | some f =>
    have e1 : lwV l line = nx l f - f := by simp [lwV, hf]
    have e2 : lsE l line = 0 := by simp [lsE, hf]
    rw [e1, e2]
    have Hf := hid hf
    have hn := lin_len hf
    clear e1 e2 hf
    generalize hm : nx l f = m at hn
    have Hm := hid hm
    clear hm
    go_enter Try.func25, Try.ntmps25
    go_wp2_with (go_at_call 54; (with_reducible refine (find_yes h Hf.out).mono ?_); rw [Hm.out]; rintro e w' ⟨rfl, hb⟩)
    go_ret2
    exact ⟨ret_ii (by omega) rfl, by (repeat' (first | exact Below.refl _ _ | assumption | refine bdrewN ?_ _ | refine Below.drew ?_ | refine bal ?_ _ | refine bthen ?_ (by assumption)))⟩
set_option maxHeartbeats 1000000 in
theorem offset_c (a : Option Addr) (c : Nat) (l : List Int) (line col : Int) (w : World) (h : Sl w a l) (hcol : -9223372036854775808 ≤ col ∧ col ≤ 9223372036854775807) :
    Calls Try.prog 23 #[.slice a l.length c, .int .i64 line, .int .i64 col] w fun e w' => e = .returned (.tuple #[.int .i64 (loV l line col), .int .i64 (loE l line col)]) ∧ Below w.heap.size w w' := by
  have hl := h.len
  cases hf : lin l line with
  | none =>
    have e0 : loB l line col = false := by simp [loB, hf]
    have e1 : loV l line col = 0 := by simp [loV, e0]
    have e2 : loE l line col = 2 := by simp [loE, e0]
    rw [e1, e2]
    have Hf := hid hf
    clear e0 e1 e2 hf
    go_enter Try.func23, Try.ntmps23
    go_wp2_with (go_at_call 54; (with_reducible refine (find_none h Hf.out).mono ?_); rintro e w' ⟨rfl, hb⟩)
    go_ret2
    exact ⟨rfl, by (repeat' (first | exact Below.refl _ _ | assumption | refine bdrewN ?_ _ | refine Below.drew ?_ | refine bal ?_ _ | refine bthen ?_ (by assumption)))⟩
  | some f =>
    have hn := lin_len hf
    have e0 : loB l line col = decide (0 ≤ col ∧ col ≤ ((nx l f - f : Nat) : Int)) := by simp [loB, hf, lwV]
    have e3 : lsV l line = f := by simp [lsV, hf]
    have e1 : loV l line col = if 0 ≤ col ∧ col ≤ ((nx l f - f : Nat) : Int) then (f : Int) + col else 0 := by simp only [loV, e0, e3, decide_eq_true_eq]
    have e2 : loE l line col = if 0 ≤ col ∧ col ≤ ((nx l f - f : Nat) : Int) then 0 else 2 := by simp only [loE, e0, decide_eq_true_eq]
    rw [e1, e2]
    have Hf := hid hf
    clear e0 e1 e2 e3 hf
    generalize hm : nx l f = m at hn ⊢
    have Hm := hid hm
    clear hm
    by_cases h0 : 0 ≤ col ∧ col ≤ ((m - f : Nat) : Int)
    · rw [if_pos h0, if_pos h0]
      obtain ⟨k, rfl⟩ := Int.eq_ofNat_of_zero_le h0.1
      have hk : k ≤ m - f := by omega
      clear h0
      go_enter Try.func23, Try.ntmps23
      go_wp2_with (go_at_call 54; (with_reducible refine (find_yes h Hf.out).mono ?_); rw [Hm.out]; rintro e w' ⟨rfl, hb⟩)
      all_goals go_ret2
      all_goals first | omega | exact ⟨ret_ii (by omega) rfl, by (repeat' (first | exact Below.refl _ _ | assumption | refine bdrewN ?_ _ | refine Below.drew ?_ | refine bal ?_ _ | refine bthen ?_ (by assumption)))⟩
    · rw [if_neg h0, if_neg h0]
      go_enter Try.func23, Try.ntmps23
      go_wp2_with (go_at_call 54; (with_reducible refine (find_yes h Hf.out).mono ?_); rw [Hm.out]; rintro e w' ⟨rfl, hb⟩)
      all_goals go_ret2
      all_goals first | omega | exact ⟨rfl, by (repeat' (first | exact Below.refl _ _ | assumption | refine bdrewN ?_ _ | refine Below.drew ?_ | refine bal ?_ _ | refine bthen ?_ (by assumption)))⟩
end Go.Proofs.Ytcekoifbgfeahaa
