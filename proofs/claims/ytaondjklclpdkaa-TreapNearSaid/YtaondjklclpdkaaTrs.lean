/- One set in a law's own memory; what every set answers; two rows of marks compared. -/
import Derived.Test.YtaondjklclpdkaaTrm
namespace Go.Proofs.Ytaondjklclpdkaa
open Go.RowKit

/-- a set in blocks from B on -/
def One (B : Nat) (w : World) (s : Nat) (l : List Mk) : Prop := ∃ F, SetL w F s l ∧ (∀ k, F k → B ≤ k) ∧ B ≤ w.heap.size
theorem One.bel {B : Nat} {w w' : World} {s : Nat} {l : List Mk} (h : One B w s l) (hb : Below w.heap.size w w') : One B w' s l := by
  obtain ⟨F, h1, h2, h3⟩ := h
  exact ⟨F, h1.bel hb, h2, Nat.le_trans h3 hb.size⟩
theorem One.lft {B : Nat} {w w' : World} {s : Nat} {l l' : List Mk} (h : ∀ F, SetL w F s l → SLft w F s l' w') (h0 : One B w s l) : One B w' s l' ∧ Below B w w' := by
  obtain ⟨F, h1, h2, h3⟩ := h0
  obtain ⟨k1, k2⟩ := h F h1
  refine ⟨⟨_, k1, ?_, Nat.le_trans h3 k2.size⟩, k2.below h2 h3⟩
  rintro k (hk | hk)
  · exact h2 k hk
  · omega
theorem one_new {B : Nat} {w : World} (hB : B ≤ w.heap.size) : Calls Try.prog 9 #[] w fun e w' => ∃ s, e = .returned (.pointer (some ⟨s, 0, none⟩)) ∧ One B w' s [] ∧ Below w.heap.size w w' := by
  refine (new_c w).mono ?_
  rintro e w' ⟨rfl, h1, h2, h3⟩
  exact ⟨_, rfl, ⟨_, h1, fun k hk => by omega, by omega⟩, h2⟩
theorem one_add {B : Nat} {w : World} {s : Nat} {l : List Mk} (m : Mk) (h : One B w s l) (g : Gd l) (hi : ir m.id ∧ ir m.pr) {x : Int} {l' : List Mk} (hx : addE l m = x) (hl : addL l m = l') :
    Calls Try.prog 14 #[.pointer (some ⟨s, 0, none⟩), (.agg #[.int .i64 m.id, .int .i64 m.fr, .int .i64 m.to, .int .i64 m.pr])] w fun e w' => e = .returned (.int .i64 x) ∧ One B w' s l' ∧ Below B w w' := by
  subst hx; subst hl
  obtain ⟨F, h1, h2, h3⟩ := h
  refine (add_c m s l w F h1 g hi).mono ?_
  rintro e w' ⟨rfl, k1, k2⟩
  refine ⟨rfl, ⟨_, k1, ?_, Nat.le_trans h3 k2.size⟩, k2.below h2 h3⟩
  rintro k (hk | hk)
  · exact h2 k hk
  · omega
theorem one_all {B : Nat} {w : World} {s : Nat} {l : List Mk} (h : One B w s l) (g : Gd l) : Calls Try.prog 18 #[.pointer (some ⟨s, 0, none⟩)] w (MMakes w l) := by
  obtain ⟨F, h1, h2, h3⟩ := h
  exact sall_c s l w F h1 g
theorem one_len {B : Nat} {w : World} {s : Nat} {l : List Mk} (h : One B w s l) (g : Gd l) {x : Int} (hx : (l.length : Int) = x) : Calls Try.prog 23 #[.pointer (some ⟨s, 0, none⟩)] w fun e w' => e = .returned (.int .i64 x) ∧ Below w.heap.size w w' := by
  subst hx
  obtain ⟨F, h1, h2, h3⟩ := h
  exact len_c s l w F h1 g
theorem one_get {B : Nat} {w : World} {s : Nat} {l : List Mk} (i : Int) (h : One B w s l) (g : Gd l) {m : Mk} {b : Bool} (hm : getV l i = m) (hb : decide (pos l i < l.length) = b) :
    Calls Try.prog 28 #[.pointer (some ⟨s, 0, none⟩), .int .i64 i] w fun e w' => e = .returned (.tuple #[(.agg #[.int .i64 m.id, .int .i64 m.fr, .int .i64 m.to, .int .i64 m.pr]), .bool b]) ∧ Below w.heap.size w w' := by
  subst hm; subst hb
  obtain ⟨F, h1, h2, h3⟩ := h
  exact get_c i s l w F h1 g
theorem one_depth {B : Nat} {w : World} {s : Nat} {l : List Mk} (i : Int) (h : One B w s l) (g : Gd l) {x : Int} (hx : depL l i = x) :
    Calls Try.prog 16 #[.pointer (some ⟨s, 0, none⟩), .int .i64 i] w fun e w' => e = .returned (.int .i64 x) ∧ Below w.heap.size w w' := by
  subst hx
  obtain ⟨F, h1, h2, h3⟩ := h
  exact sdepth_c i s l w F h1 g
/-! ## known -/
def kA : Mk := ⟨4, 1, 3, 5⟩
def kB : Mk := ⟨2, 1, 9, 5⟩
theorem ir_small {x : Int} (h : -1000000 ≤ x ∧ x ≤ 1000000) : ir x := by unfold ir; omega
theorem gdK : Gd [kA] ∧ Gd [kB, kA] := by
  have h1 : Gd (addL [] kA) := Gd.nil.add ⟨ir_small (by decide), ir_small (by decide)⟩
  have e1 : addL [] kA = [kA] := by decide
  rw [e1] at h1
  have h2 : Gd (addL [kA] kB) := h1.add ⟨ir_small (by decide), ir_small (by decide)⟩
  have e2 : addL [kA] kB = [kB, kA] := by decide
  rw [e2] at h2
  exact ⟨h1, h2⟩
set_option maxRecDepth 20000 in
set_option maxHeartbeats 8000000 in
theorem known_c (w : World) : Calls Try.prog 11 #[] w fun e w' => e = .returned (.bool true) ∧ Below w.heap.size w w' := by
  obtain ⟨gA, gB⟩ := gdK
  have GA := hid gA
  have GB := hid gB
  clear gA gB
  go_enter Try.func11, Try.ntmps11
  go_wp2_with fail
  refine (one_new (B := w.heap.size) (Nat.le_refl _)).mono ?_
  rintro e w1 ⟨s, rfl, h1, b1⟩
  have O1 := hid h1
  clear h1
  go_wp2_with fail
  refine (one_add kA O1.out Gd.nil ⟨ir_small (by decide), ir_small (by decide)⟩ (x := 0) (l' := [kA]) (by decide) (by decide)).mono ?_
  rintro e w2 ⟨rfl, h2, b2⟩
  have O2 := hid h2
  have x2 := b1.trans b2
  clear h2
  go_wp2_with fail
  refine (one_add kB O2.out GA.out ⟨ir_small (by decide), ir_small (by decide)⟩ (x := 0) (l' := [kB, kA]) (by decide) (by decide)).mono ?_
  rintro e w3 ⟨rfl, h3, b3⟩
  have O3 := hid h3
  have x3 := x2.trans b3
  clear h3
  go_wp2_with fail
  refine (one_all O3.out GB.out).mono ?_
  rintro e w4 ⟨a4, c4, L4, rfl, hL4, ho4, b4⟩
  obtain rfl := hL4.out
  have Ho4 := hid ho4
  have O4 := hid (O3.out.bel b4)
  have x4 := bthen x3 b4
  clear ho4
  go_wp2_with fail
  refine (one_get 4 O4.out GB.out (m := kA) (b := true) (by decide) (by decide)).mono ?_
  rintro e w5 ⟨rfl, b5⟩
  have O5 := hid (O4.out.bel b5)
  have x5 := bthen x4 b5
  have Ho5 := Ho4.out.grow b5
  obtain ⟨bb, off, ha, hcs⟩ := Ho5.sl.at (i := 0) (by decide)
  subst ha
  have q0 := (hcs 0 (by decide)).1
  have hbl : bb < w5.heap.size := World.block_lt_of_cell? w5 _ q0
  simp only [mgt, List.getD, List.getElem?_cons_zero, Option.getD_some, Nat.zero_mul, Nat.add_zero, kB] at q0
  clear hcs Ho5
  dsimp only [kA]
  have e1 : depL [kB, kA] 2 = 1 := by decide
  have e2 : depL [kB, kA] 4 = 2 := by decide
  have e3 : depL [kB, kA] 9 = 0 := by decide
  have O6 := hid (fun (w' : World) (o : Obj) (e : w' = w5.alloc o) => (show One w.heap.size w' s [kB, kA] from by subst e; exact O5.out.bel ((Below.refl _ _).alloc (Nat.le_refl _) o)))
  clear e1 e2 e3
  go_wp2_with fail
  refine (one_depth 2 (O6.out _ _ rfl) GB.out (x := 1) (by decide)).mono ?_
  rintro e w6 ⟨rfl, b6⟩
  have O7 := hid ((O6.out _ _ rfl).bel b6)
  have x6 := bthen (bal x5 _) b6
  clear O6
  go_wp2_with fail
  refine (one_depth 4 O7.out GB.out (x := 2) (by decide)).mono ?_
  rintro e w7 ⟨rfl, b7⟩
  have O8 := hid (O7.out.bel b7)
  have x7 := bthen x6 b7
  go_wp2_with fail
  refine (one_depth 9 O8.out GB.out (x := 0) (by decide)).mono ?_
  rintro e w8 ⟨rfl, b8⟩
  have O9 := hid (O8.out.bel b8)
  have x8 := bthen x7 b8
  go_wp2_with fail
  refine (one_len O9.out GB.out (x := 2) (by decide)).mono ?_
  rintro e w9 ⟨rfl, b9⟩
  have O10 := hid (O9.out.bel b9)
  have x9 := bthen x8 b9
  go_wp2_with fail
  refine (one_add ⟨4, 0, 0, 0⟩ O10.out GB.out ⟨ir_small (by decide), ir_small (by decide)⟩ (x := 1) (l' := [kB, kA]) (by decide) (by decide)).mono ?_
  rintro e w10 ⟨rfl, h10, b10⟩
  have O11 := hid h10
  have x10 := x9.trans b10
  clear h10
  go_wp2_with fail
  refine (one_add ⟨0, 0, -1, 0⟩ O11.out GB.out ⟨ir_small (by decide), ir_small (by decide)⟩ (x := 2) (l' := [kB, kA]) (by decide) (by decide)).mono ?_
  rintro e w11 ⟨rfl, h11, b11⟩
  have x11 := x10.trans b11
  clear h11
  go_wp2_with fail
  refine (remove_nil 1 _).mono ?_
  rintro e w12 ⟨rfl, rfl⟩
  go_wp2_with fail
  refine (len_nil _).mono ?_
  rintro e w13 ⟨rfl, rfl⟩
  go_wp2_with fail
  go_ret
  exact ⟨rfl, x11⟩
/-! ## two rows of marks -/
theorem mk_ne {x y : Mk} (h : x ≠ y) : x.id ≠ y.id ∨ x.fr ≠ y.fr ∨ x.to ≠ y.to ∨ x.pr ≠ y.pr := by
  obtain ⟨a, b, c, d⟩ := x
  obtain ⟨a', b', c', d'⟩ := y
  simp only [ne_eq, Mk.mk.injEq, not_and] at h ⊢
  by_cases h1 : a = a' <;> by_cases h2 : b = b' <;> by_cases h3 : c = c' <;> simp_all
theorem mtake_ne {l1 l2 : List Mk} {k : Nat} (h : mgt l1 k ≠ mgt l2 k) : l1 ≠ l2 := by
  intro e; subst e; exact h rfl
set_option maxHeartbeats 8000000 in
theorem sameMarks_c (a1 a2 : Option Addr) (c1 c2 : Nat) (l1 l2 : List Mk) (w : World) (h1 : MSl w a1 l1) (h2 : MSl w a2 l2) :
    Calls Try.prog 17 #[.slice a1 l1.length c1, .slice a2 l2.length c2] w fun e w' => e = .returned (.bool (decide (l1 = l2))) ∧ ∃ n, w' = w.drewN n := by
  have hl1 := h1.len
  have hl2 := h2.len
  obtain ⟨bv, hbv⟩ : ∃ bv, bv = decide (l1 = l2) := ⟨_, rfl⟩
  rw [← hbv]
  have Hbv := hid hbv
  clear hbv
  go_enter Try.func17, Try.ntmps17
  by_cases hlen : l1.length = l2.length
  · have hl : ((l1.length : Int) != l2.length) = false := by simp [hlen]
    have Hlen := hid hlen; clear hlen
    go_wp2
    go_loopw [13] (fun i wr => ∃ k : Nat, k ≤ l1.length ∧ i = .int .i64 k ∧ Hid (l1.take k = l2.take k) ∧ ∃ n, wr = w.drewN n) (fun i _ => l1.length - (intOf i).toNat)
    case atStart => exact ⟨0, Nat.zero_le _, rfl, hid (by simp), 0, rfl⟩
    case round =>
      obtain ⟨k, hk, rfl, hm, n, rfl⟩ := hrel
      by_cases hlt : k < l1.length
      · have hlt2 : k < l2.length := (by have := Hlen.out; omega)
        obtain ⟨b1, o1, rfl, hc1⟩ := h1.at hlt
        obtain ⟨b2, o2, rfl, hc2⟩ := h2.at hlt2
        obtain ⟨p0, p1, p2, p3⟩ := hc1 k hlt
        obtain ⟨q0, q1, q2, q3⟩ := hc2 k hlt2
        have Hts : Hid (l1.take (k + 1) = l1.take k ++ [mgt l1 k] ∧ l2.take (k + 1) = l2.take k ++ [mgt l2 k]) := ⟨mgt_take hlt, mgt_take hlt2⟩
        clear hc1 hc2
        by_cases he : mgt l1 k = mgt l2 k
        · have He := hid he
          rw [he] at p0 p1 p2 p3
          clear he
          go_wp2
          go_quiet (fail)
          go_wp2
          go_roundw
          case rel => exact ⟨k + 1, by omega, by go_num, hid (by rw [Hts.out.1, Hts.out.2, hm.out, He.out]), by first | exact ⟨_, rfl⟩ | exact drewN_ex _ _ _ | exact drewN_ex2 _ _ _ _⟩
          case measure => simp [intOf]; omega
        · have hf : bv = false := by rw [Hbv.out]; exact decide_eq_false (mtake_ne he)
          subst hf
          have hne := mk_ne he
          clear he
          rcases hne with hx | hx | hx | hx
          · have hx' : ((mgt l1 k).id == (mgt l2 k).id) = false := by simpa using hx
            clear hx
            go_wp2
            go_quiet (fail)
            go_wp2
            go_ret
            exact ⟨rfl, by first | exact ⟨_, rfl⟩ | exact drewN_ex _ _ _ | exact drewN_ex2 _ _ _ _⟩
          · have hx' : ((mgt l1 k).fr == (mgt l2 k).fr) = false := by simpa using hx
            clear hx
            go_wp2
            go_quiet (fail)
            go_wp2
            go_ret
            exact ⟨rfl, by first | exact ⟨_, rfl⟩ | exact drewN_ex _ _ _ | exact drewN_ex2 _ _ _ _⟩
          · have hx' : ((mgt l1 k).to == (mgt l2 k).to) = false := by simpa using hx
            clear hx
            go_wp2
            go_quiet (fail)
            go_wp2
            go_ret
            exact ⟨rfl, by first | exact ⟨_, rfl⟩ | exact drewN_ex _ _ _ | exact drewN_ex2 _ _ _ _⟩
          · have hx' : ((mgt l1 k).pr == (mgt l2 k).pr) = false := by simpa using hx
            clear hx
            go_wp2
            go_quiet (fail)
            go_wp2
            go_ret
            exact ⟨rfl, by first | exact ⟨_, rfl⟩ | exact drewN_ex _ _ _ | exact drewN_ex2 _ _ _ _⟩
      · have e1 : l1.take k = l1 := List.take_of_length_le (by omega)
        have e2 : l2.take k = l2 := List.take_of_length_le (by have := Hlen.out; omega)
        have ht : bv = true := by rw [Hbv.out]; exact decide_eq_true (by have := hm.out; rw [e1, e2] at this; exact this)
        subst ht
        clear e1 e2
        go_wp2
        go_ret
        exact ⟨rfl, _, rfl⟩
  · have hl : ((l1.length : Int) != l2.length) = true := by simp; omega
    have hf : bv = false := by rw [Hbv.out]; exact decide_eq_false (fun h => hlen (by rw [h]))
    subst hf
    go_wp2
    go_ret
    exact ⟨rfl, 0, rfl⟩
end Go.Proofs.Ytaondjklclpdkaa
