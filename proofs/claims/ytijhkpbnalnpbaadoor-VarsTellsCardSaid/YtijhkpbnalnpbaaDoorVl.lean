/- What the code tells of a variable: the parts of the clock, the draws, the name of a file. -/
import Derived.Test.YtijhkpbnalnpbaaDoorVn
namespace Go.Proofs.YtijhkpbnalnpbaaDoor
open Go.RowKit

/-- a call that tells a string and leaves all else but draws and new memory -/
theorem StrE.bthen {w w1 : World} {l : List Int} {e : Ending} {w' : World} (hb : Below w.heap.size w w1) (h : StrE w1 l e w') : StrE w l e w' := by
  obtain ⟨s, he, hs, hk⟩ := h
  exact ⟨s, he, hs, Go.Proofs.YtijhkpbnalnpbaaDoor.bthen hb hk⟩
set_option maxHeartbeats 1000000 in
theorem base_c (s : ByteArray) (l : List Int) (w : World) (hs : Str s l) (hl : l.length ≤ 1000) : Calls Tryd.prog 38 #[.string s] w (StrE w (baseL l)) := by
  have hsz := hs.size_le
  have L := Tryd.strings_LastIndex s ⟨#[46]⟩ (by omega) w
  have e0 : (⟨#[46]⟩ : ByteArray).data.toList = [46] := rfl
  rw [e0, hs.eq, lastIndex_utf hs.may] at L
  have hB : Hid (baseL l = match lastR l l.length with | some (i + 1) => l.take (i + 1) | _ => l) := hid rfl
  cases hr : lastR l l.length with
  | none =>
    rw [hr] at L hB
    replace L := hid L
    go_enter Tryd.func38, Tryd.ntmps38
    go_wp2_with fail
    refine L.out.mono ?_
    rintro e w' ⟨rfl, rfl⟩
    go_wp2
    go_ret
    exact ⟨s, rfl, by rw [hB.out]; exact hs, Below.refl _ _⟩
  | some i =>
    rw [hr] at L hB
    have hil := lastR_lt hr
    cases i with
    | zero =>
      simp only [List.take_zero, utf, List.flatMap_nil, List.length_nil] at L
      replace L := hid L
      go_enter Tryd.func38, Tryd.ntmps38
      go_wp2_with fail
      refine L.out.mono ?_
      rintro e w' ⟨rfl, rfl⟩
      go_wp2
      go_ret
      exact ⟨s, rfl, by rw [hB.out]; exact hs, Below.refl _ _⟩
    | succ i =>
      obtain ⟨m, hm⟩ : ∃ m, (utf (l.take (i + 1))).length = m := ⟨_, rfl⟩
      simp only [hm] at L
      have hml : m ≤ s.size := by
        rw [size_of hs.eq, ← hm]
        conv => rhs; rw [← List.take_append_drop (i + 1) l, utf_app]
        simp
      have hmp : 0 < m := by
        have := utf_len_ge (l.take (i + 1))
        rw [List.length_take] at this
        omega
      have hst : Hid (Str (s.extract 0 m) (baseL l)) := hid (by
        rw [hB.out]
        refine ⟨?_, ?_⟩
        · have := hs.may
          rw [may, List.all_eq_true] at *
          exact fun x hx => this x (List.mem_of_mem_take hx)
        · rw [ByteArray.data_extract, Array.toList_extract, List.extract_eq_take_drop, hs.eq, List.drop_zero, Nat.sub_zero, ← hm]
          conv => lhs; rw [← List.take_append_drop (i + 1) l, utf_app]
          simp)
      have b1 : decide ((0 : Int) < (m : Int)) = true := by simpa using hmp
      replace L := hid L
      clear hm hB
      go_enter Tryd.func38, Tryd.ntmps38
      go_wp2_with fail
      refine L.out.mono ?_
      rintro e w' ⟨rfl, rfl⟩
      go_wp2
      go_ret
      exact ⟨_, rfl, hst.out, Below.refl _ _⟩

theorem mo_at {i : Nat} (h : i < 12) : moA[i]? = some (.string (bStr (moL i))) ∧ asc (moL i) = true ∧ 3 ≤ (moL i).length ∧ (moL i).length ≤ 9 := by
  rcases (show i = 0 ∨ i = 1 ∨ i = 2 ∨ i = 3 ∨ i = 4 ∨ i = 5 ∨ i = 6 ∨ i = 7 ∨ i = 8 ∨ i = 9 ∨ i = 10 ∨ i = 11 by omega) with
    rfl | rfl | rfl | rfl | rfl | rfl | rfl | rfl | rfl | rfl | rfl | rfl <;> exact ⟨by kernel_rfl, by decide, by decide, by decide⟩
theorem dy_at {i : Nat} (h : i < 7) : dyA[i]? = some (.string (bStr (dyL i))) ∧ asc (dyL i) = true ∧ 3 ≤ (dyL i).length ∧ (dyL i).length ≤ 9 := by
  rcases (show i = 0 ∨ i = 1 ∨ i = 2 ∨ i = 3 ∨ i = 4 ∨ i = 5 ∨ i = 6 by omega) with
    rfl | rfl | rfl | rfl | rfl | rfl | rfl <;> exact ⟨by kernel_rfl, by decide, by decide, by decide⟩
theorem Str.take3 {s : ByteArray} {l : List Int} (h : Str s l) (ha : asc l = true) : Str (s.extract 0 3) (l.take 3) := by
  have := h.mid ha 0 3
  simpa using this
/-- what is told of a part of the clock -/
def ckL (te n : Nat) : List Int :=
  if te = 10 then digs 10 4 n else if te = 11 then digs 10 2 (n % 100) else if te = 12 then digs 10 2 n
  else if te = 13 then moL (n - 1) else if te = 14 then (moL (n - 1)).take 3 else if te = 15 then dyL n else (dyL n).take 3
set_option maxHeartbeats 1000000 in
set_option maxRecDepth 100000 in
theorem clockText_c (te n : Nat) (w : World) (hg : Hid (Gl w)) (h : (te = 10 ∧ n < 10000) ∨ (te = 11 ∧ n < 10000) ∨ (te = 12 ∧ n < 100) ∨ ((te = 13 ∨ te = 14) ∧ 1 ≤ n ∧ n ≤ 12) ∨ ((te = 15 ∨ te = 16) ∧ n ≤ 6)) :
    Calls Tryd.prog 43 #[.int .i64 te, .int .i64 n] w (StrE w (ckL te n)) := by
  rcases h with ⟨rfl, h⟩ | ⟨rfl, h⟩ | ⟨rfl, h⟩ | ⟨rfl | rfl, h0, h⟩ | ⟨rfl | rfl, h⟩
  · as_aux_lemma =>
    have P := hid (padded10_c 3 n w (by omega) (by simpa using h) hg)
    go_enter Tryd.func43, Tryd.ntmps43
    go_wp2_with fail
    refine P.out.mono ?_
    rintro e w' ⟨s, rfl, hs, hb⟩
    go_wp2
    go_ret
    exact ⟨s, rfl, hs, hb⟩
  · as_aux_lemma =>
    have P := hid (padded10_c 1 (n % 100) w (by omega) (by have := Nat.mod_lt n (show 0 < 100 by decide); simpa using this) hg)
    have e1 : ((n : Int)).tmod 100 = ((n % 100 : Nat) : Int) := rfl
    generalize hk : n % 100 = k at P e1
    have Hk := hid hk
    clear hk
    go_enter Tryd.func43, Tryd.ntmps43
    go_wp2_with fail
    refine P.out.mono ?_
    rintro e w' ⟨s, rfl, hs, hb⟩
    go_wp2
    go_ret
    exact ⟨s, rfl, by rw [← Hk.out] at hs; exact hs, hb⟩
  · as_aux_lemma =>
    have P := hid (padded10_c 1 n w (by omega) (by simpa using h) hg)
    go_enter Tryd.func43, Tryd.ntmps43
    go_wp2_with fail
    refine P.out.mono ?_
    rintro e w' ⟨s, rfl, hs, hb⟩
    go_wp2
    go_ret
    exact ⟨s, rfl, hs, hb⟩
  · as_aux_lemma =>
    obtain ⟨q1, q2, q3, q4⟩ := mo_at (i := n - 1) (by omega)
    have c1 := (hg.out.mo.cell (n - 1)).trans q1
    have hs := hid (bStr_str q2)
    have e1 : IntKind.i64.wrap ((n : Int) - 1) = ((n - 1 : Nat) : Int) := by rw [IntKind.wrap_i64]; omega
    have e2 : Hid (ckL 13 n = moL (n - 1)) := rfl
    clear q1 q2 q3 q4
    generalize moL (n - 1) = L at c1 hs e2
    generalize bStr L = s at c1 hs
    obtain ⟨i, hi⟩ : ∃ i, n - 1 = i := ⟨_, rfl⟩
    rw [hi] at c1 e1
    have hi12 : i < 12 := by omega
    clear hi
    go_enter Tryd.func43, Tryd.ntmps43
    go_wp2
    go_ret
    exact ⟨s, rfl, by rw [e2.out]; exact hs.out, Below.refl _ _⟩
  · as_aux_lemma =>
    obtain ⟨q1, q2, q3, q4⟩ := mo_at (i := n - 1) (by omega)
    have c1 := (hg.out.mo.cell (n - 1)).trans q1
    have hs := hid ((bStr_str q2).take3 q2)
    have e1 : IntKind.i64.wrap ((n : Int) - 1) = ((n - 1 : Nat) : Int) := by rw [IntKind.wrap_i64]; omega
    have e2 : Hid (ckL 14 n = (moL (n - 1)).take 3) := rfl
    have hz : 3 ≤ (bStr (moL (n - 1))).size := by rw [(bStr_str q2).asc_size q2]; exact q3
    clear q1 q2 q3 q4
    generalize moL (n - 1) = L at c1 hs e2 hz
    generalize bStr L = s at c1 hs hz
    obtain ⟨i, hi⟩ : ∃ i, n - 1 = i := ⟨_, rfl⟩
    rw [hi] at c1 e1
    have hi12 : i < 12 := by omega
    clear hi
    go_enter Tryd.func43, Tryd.ntmps43
    go_wp2
    go_ret
    exact ⟨_, rfl, by rw [e2.out]; exact hs.out, Below.refl _ _⟩
  · as_aux_lemma =>
    obtain ⟨q1, q2, q3, q4⟩ := dy_at (i := n) (by omega)
    have c1 := (hg.out.dy.cell n).trans q1
    have hs := hid (bStr_str q2)
    have e2 : Hid (ckL 15 n = dyL n) := rfl
    clear q1 q2 q3 q4
    generalize dyL n = L at c1 hs e2
    generalize bStr L = s at c1 hs
    go_enter Tryd.func43, Tryd.ntmps43
    go_wp2
    go_ret
    exact ⟨s, rfl, by rw [e2.out]; exact hs.out, Below.refl _ _⟩
  · as_aux_lemma =>
    obtain ⟨q1, q2, q3, q4⟩ := dy_at (i := n) (by omega)
    have c1 := (hg.out.dy.cell n).trans q1
    have hs := hid ((bStr_str q2).take3 q2)
    have e2 : Hid (ckL 16 n = (dyL n).take 3) := rfl
    have hz : 3 ≤ (bStr (dyL n)).size := by rw [(bStr_str q2).asc_size q2]; exact q3
    clear q1 q2 q3 q4
    generalize dyL n = L at c1 hs e2 hz
    generalize bStr L = s at c1 hs hz
    go_enter Tryd.func43, Tryd.ntmps43
    go_wp2
    go_ret
    exact ⟨_, rfl, by rw [e2.out]; exact hs.out, Below.refl _ _⟩
end Go.Proofs.YtijhkpbnalnpbaaDoor
