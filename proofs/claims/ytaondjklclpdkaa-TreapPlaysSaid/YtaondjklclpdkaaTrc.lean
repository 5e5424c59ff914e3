/- What reads a treap: find, count, depth. -/
import Derived.Test.YtaondjklclpdkaaTrb
namespace Go.Proofs.Ytaondjklclpdkaa
open Go.RowKit

/-! ## find -/
/-- what find tells: no mark of the tree has the number, or the node of one that has it -/
def Fnd (w : World) (t : Tr) (i : Int) (q : Option Addr) : Prop :=
  (q = none ∧ ∀ x, x ∈ t.ord → x.id ≠ i) ∨ ∃ (b : Nat) (m : Mk) (pl pr : Option Addr), q = some ⟨b, 0, none⟩ ∧ Nd w b m pl pr ∧ m ∈ t.ord ∧ m.id = i
set_option maxHeartbeats 4000000 in
theorem find_c (i : Int) (t : Tr) : ∀ (w : World) (F : Nat → Prop) (p : Option Addr), TrAt w F p t →
    Calls Try.prog 33 #[.pointer p, .int .i64 i] w fun e w' => ∃ q, e = .returned (.pointer q) ∧ Fnd w t i q ∧ w = w' := by
  induction t with
  | nil =>
    intro w F p h
    obtain rfl : p = none := h
    go_enter Try.func33, Try.ntmps33
    go_wp2
    go_ret
    exact ⟨none, rfl, .inl ⟨rfl, by simp [Tr.ord]⟩, rfl⟩
  | node l m r ihl ihr =>
    intro w F p h
    obtain ⟨b, pl, pr, Fl, Fr, rfl, hb, hn, hl, hr, hd, h1, h2⟩ := h
    have il := hid (ihl w Fl pl h1)
    have ir := hid (ihr w Fr pr h2)
    clear ihl ihr h1 h2
    have n0 := hn.c0
    have n4 := hn.c4
    have n5 := hn.c5
    have Hn := hid hn
    clear hn hd hl hr hb
    by_cases hi : m.id = i
    · subst hi
      go_enter Try.func33, Try.ntmps33
      go_wp2
      go_ret
      exact ⟨_, rfl, .inr ⟨b, m, pl, pr, rfl, Hn.out, by simp [Tr.ord], rfl⟩, rfl⟩
    · have ht : (m.id == i) = false := by simpa using hi
      go_enter Try.func33, Try.ntmps33
      go_wp2_with fail
      refine il.out.mono ?_
      rintro e w' ⟨q, rfl, hq, rfl⟩
      rcases hq with ⟨rfl, hq⟩ | ⟨b2, m2, pl2, pr2, rfl, hn2, hm2, he2⟩
      · have Hq := hid hq
        clear hq
        go_wp2_with fail
        refine ir.out.mono ?_
        rintro e w' ⟨q, rfl, hq2, rfl⟩
        have Hq2 := hid hq2
        clear hq2
        go_wp2
        go_ret
        refine ⟨q, rfl, ?_, rfl⟩
        rcases Hq2.out with ⟨h1, h2⟩ | ⟨b2, m2, pl2, pr2, h1, h2, h3, h4⟩
        · refine .inl ⟨h1, fun x hx => ?_⟩
          simp only [Tr.ord, List.mem_append, List.mem_cons] at hx
          rcases hx with hx | rfl | hx
          · exact Hq.out x hx
          · exact hi
          · exact h2 x hx
        · exact .inr ⟨b2, m2, pl2, pr2, h1, h2, by simp [Tr.ord, h3], h4⟩
      · have H2 := hid hn2
        have H3 := hid he2
        clear hn2 he2
        go_wp2
        go_ret
        exact ⟨_, rfl, .inr ⟨b2, m2, pl2, pr2, rfl, H2.out, by simp [Tr.ord, hm2], H3.out⟩, rfl⟩
set_option maxHeartbeats 8000000 in
/-- find's answer named ahead -/
theorem find_v (i : Int) (t : Tr) : ∀ (w : World) (F : Nat → Prop) (p : Option Addr), TrAt w F p t →
    ∃ q, Fnd w t i q ∧ ∀ w', Below w.heap.size w w' → Calls Try.prog 33 #[.pointer p, .int .i64 i] w' fun e w'' => e = .returned (.pointer q) ∧ w'' = w' := by
  induction t with
  | nil =>
    intro w F p h
    obtain rfl : p = none := h
    refine ⟨none, .inl ⟨rfl, by simp [Tr.ord]⟩, fun w' _ => ?_⟩
    go_enter Try.func33, Try.ntmps33
    go_wp2
    go_ret
    exact ⟨rfl, rfl⟩
  | node l m r ihl ihr =>
    intro w F p h
    obtain ⟨b, pl, pr, Fl, Fr, rfl, hb, hn, hl, hr, hd, h1, h2⟩ := h
    obtain ⟨q1, f1, c1⟩ := ihl w Fl pl h1
    obtain ⟨q2, f2, c2⟩ := ihr w Fr pr h2
    clear ihl ihr h1 h2
    by_cases hi : m.id = i
    · subst hi
      refine ⟨_, .inr ⟨b, m, pl, pr, rfl, hn, by simp [Tr.ord], rfl⟩, fun w' hw => ?_⟩
      have hn' := hn.bel hw
      have n0 := hn'.c0
      clear hn' hn hd hl hr hb f1 f2 c1 c2
      go_enter Try.func33, Try.ntmps33
      go_wp2
      go_ret
      exact ⟨rfl, rfl⟩
    · have ht : (m.id == i) = false := by simpa using hi
      rcases f1 with ⟨rfl, hq⟩ | ⟨b2, m2, pl2, pr2, rfl, hn2, hm2, he2⟩
      · refine ⟨q2, ?_, fun w' hw => ?_⟩
        · rcases f2 with ⟨h1, h2⟩ | ⟨b2, m2, pl2, pr2, h1, h2, h3, h4⟩
          · refine .inl ⟨h1, fun x hx => ?_⟩
            simp only [Tr.ord, List.mem_append, List.mem_cons] at hx
            rcases hx with hx | rfl | hx
            · exact hq x hx
            · exact hi
            · exact h2 x hx
          · exact .inr ⟨b2, m2, pl2, pr2, h1, h2, by simp [Tr.ord, h3], h4⟩
        · have hn' := hn.bel hw
          have n0 := hn'.c0
          have n4 := hn'.c4
          have n5 := hn'.c5
          have C1 := hid (c1 w' hw)
          have C2 := hid (c2 w' hw)
          clear hn' hn hd hl hr hb f2 c1 c2 hq
          go_enter Try.func33, Try.ntmps33
          go_wp2_with fail
          refine C1.out.mono ?_
          rintro e w'' ⟨rfl, rfl⟩
          go_wp2_with fail
          refine C2.out.mono ?_
          rintro e w'' ⟨rfl, rfl⟩
          go_wp2
          go_ret
          exact ⟨rfl, rfl⟩
      · refine ⟨_, .inr ⟨b2, m2, pl2, pr2, rfl, hn2, by simp [Tr.ord, hm2], he2⟩, fun w' hw => ?_⟩
        have hn' := hn.bel hw
        have n0 := hn'.c0
        have n4 := hn'.c4
        have C1 := hid (c1 w' hw)
        clear hn' hn hd hl hr hb f2 c1 c2 hn2 hm2 he2
        go_enter Try.func33, Try.ntmps33
        go_wp2_with fail
        refine C1.out.mono ?_
        rintro e w'' ⟨rfl, rfl⟩
        go_wp2
        go_ret
        exact ⟨rfl, rfl⟩
/-! ## count -/
set_option maxHeartbeats 4000000 in
theorem count_c (t : Tr) : ∀ (w : World) (F : Nat → Prop) (p : Option Addr), TrAt w F p t → t.size ≤ 1099511627776 →
    Calls Try.prog 34 #[.pointer p] w fun e w' => e = .returned (.int .i64 t.size) ∧ ∃ n, w' = w.drewN n := by
  induction t with
  | nil =>
    intro w F p h _
    obtain rfl : p = none := h
    go_enter Try.func34, Try.ntmps34
    go_wp2
    go_ret
    exact ⟨rfl, 0, rfl⟩
  | node l m r ihl ihr =>
    intro w F p h hs
    obtain ⟨b, pl, pr, Fl, Fr, rfl, hb, hn, hl, hr, hd, h1, h2⟩ := h
    simp only [Tr.size] at hs
    have n4 := hn.c4
    have n5 := hn.c5
    clear hn hd hl hr hb
    have il : ∀ n, _ := fun n => ihl (w.drewN n) Fl pl (h1.drewN n) (by omega)
    have ir : ∀ n, _ := fun n => ihr (w.drewN n) Fr pr (h2.drewN n) (by omega)
    have Il := hid il
    have Ir := hid ir
    clear ihl ihr h1 h2 il ir
    go_enter Try.func34, Try.ntmps34
    go_wp2
    go_quiet (first | (go_at_call 34; with_reducible refine Calls.quiet_of (Il.out _))
                      | (go_at_call 34; with_reducible refine Calls.quiet_of (Ir.out _)))
    go_wp2
    go_ret
    exact ⟨by simp only [Tr.size]; exact ret_int (by push_cast; go_num), _, rfl⟩
end Go.Proofs.Ytaondjklclpdkaa
