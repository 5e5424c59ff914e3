/- Walks of the laws of layer 1. -/
import Derived.Test.YtfjcojkmlbaifaaSignsK
namespace Go.Proofs.Ytfjcojkmlbaifaa
open Go.RowKit

theorem up_yes {r : Int} (h : (97 ≤ r ∧ r ≤ 122) ∨ (224 ≤ r ∧ r ≤ 254 ∧ r ≠ 247)) : up r = r - 32 := (up_eq (.inl ⟨rfl, h⟩)).symm
theorem up_no {r : Int} (h : ¬((97 ≤ r ∧ r ≤ 122) ∨ (224 ≤ r ∧ r ≤ 254 ∧ r ≠ 247))) : up r = r := (up_eq (.inr ⟨rfl, h⟩)).symm
theorem lo_yes {r : Int} (h : (65 ≤ r ∧ r ≤ 90) ∨ (192 ≤ r ∧ r ≤ 222 ∧ r ≠ 215)) : lo r = r + 32 := (lo_eq (.inl ⟨rfl, h⟩)).symm
theorem lo_no {r : Int} (h : ¬((65 ≤ r ∧ r ≤ 90) ∨ (192 ≤ r ∧ r ≤ 222 ∧ r ≠ 215))) : lo r = r := (lo_eq (.inr ⟨rfl, h⟩)).symm
theorem up_lo (r : Int) : up (lo r) = up r := by
  by_cases h : (65 ≤ r ∧ r ≤ 90) ∨ (192 ≤ r ∧ r ≤ 222 ∧ r ≠ 215)
  · rw [lo_yes h, up_yes (by omega), up_no (by omega)]; omega
  · rw [lo_no h]
theorem lo_up (r : Int) : lo (up r) = lo r := by
  by_cases h : (97 ≤ r ∧ r ≤ 122) ∨ (224 ≤ r ∧ r ≤ 254 ∧ r ≠ 247)
  · rw [up_yes h, lo_yes (by omega), lo_no (by omega)]; omega
  · rw [up_no h]
theorem up_up (r : Int) : up (up r) = up r := by
  by_cases h : (97 ≤ r ∧ r ≤ 122) ∨ (224 ≤ r ∧ r ≤ 254 ∧ r ≠ 247)
  · rw [up_yes h, up_no (by omega)]
  · rw [up_no h, up_no h]
theorem lo_lo (r : Int) : lo (lo r) = lo r := by
  by_cases h : (65 ≤ r ∧ r ≤ 90) ∨ (192 ≤ r ∧ r ≤ 222 ∧ r ≠ 215)
  · rw [lo_yes h, lo_no (by omega)]
  · rw [lo_no h, lo_no h]
theorem cls_three {r : Int} (h : (97 ≤ r ∧ r ≤ 122) ∨ (65 ≤ r ∧ r ≤ 90) ∨ (48 ≤ r ∧ r ≤ 57) ∨ r = 95 ∨ (192 ≤ r ∧ r ≤ 255 ∧ r ≠ 215 ∧ r ≠ 247)) : cls r = 3 :=
  (cls_eq (.inr (.inr (.inr (.inl ⟨rfl, h⟩))))).symm
theorem cls_up (r : Int) : cls (up r) = cls r := by
  by_cases h : (97 ≤ r ∧ r ≤ 122) ∨ (224 ≤ r ∧ r ≤ 254 ∧ r ≠ 247)
  · rw [up_yes h, cls_three (by omega), cls_three (by omega)]
  · rw [up_no h]
theorem cls_lo (r : Int) : cls (lo r) = cls r := by
  by_cases h : (65 ≤ r ∧ r ≤ 90) ∨ (192 ≤ r ∧ r ≤ 222 ∧ r ≠ 215)
  · rw [lo_yes h, cls_three (by omega), cls_three (by omega)]
  · rw [lo_no h]

/-- what a law's walk gives -/
def Holds (w : World) (e : Ending) (w' : World) : Prop := e = .returned (.bool true) ∧ Below w.heap.size w w'

set_option maxHeartbeats 1000000 in
theorem cases_w (r : Int) (w : World) (h : -2147483648 ≤ r ∧ r ≤ 2147483647) : Calls Try.prog 5 #[.int .i32 r] w (Holds w) := by
  have e1 := up_lo r
  have e2 := lo_up r
  have e3 := up_up r
  have e4 := lo_lo r
  have e5 := cls_up r
  have e6 := cls_lo r
  have hu := up_rng h
  have hl := lo_rng h
  go_enter Try.func5, Try.ntmps5
  go_wp2_with fail
  refine (upper_c _ _ h).mono ?_; rintro e w' ⟨rfl, rfl⟩
  go_wp2_with fail
  refine (lower_c _ _ h).mono ?_; rintro e w' ⟨rfl, rfl⟩
  go_wp2_with fail
  refine (upper_c _ _ hl).mono ?_; rintro e w' ⟨rfl, rfl⟩
  go_wp2_with fail
  refine (lower_c _ _ hu).mono ?_; rintro e w' ⟨rfl, rfl⟩
  go_wp2_with fail
  refine (upper_c _ _ hu).mono ?_; rintro e w' ⟨rfl, rfl⟩
  go_wp2_with fail
  refine (lower_c _ _ hl).mono ?_; rintro e w' ⟨rfl, rfl⟩
  go_wp2_with (go_at_call 24; (with_reducible refine (class_c _ _).mono ?_); rintro e w' ⟨rfl, rfl⟩)
  refine (known_c _).mono ?_; rintro e w1 ⟨rfl, hbel⟩
  go_wp2
  go_ret
  exact ⟨rfl, hbel⟩

/-! SignsNumbers -/
set_option maxHeartbeats 1000000 in
theorem numbers_w (r : Int) (w : World) (h : -2147483648 ≤ r ∧ r ≤ 2147483647) : Calls Try.prog 9 #[.int .i32 r] w (Holds w) := by
  have e1 : may [r] = sgn r := by simp [may]
  go_enter Try.func9, Try.ntmps9
  go_wp2_with (first | (go_at_call 24; (with_reducible refine (class_c _ _).mono ?_); rintro e w' ⟨rfl, rfl⟩) | (go_at_call 25; (with_reducible refine (rclass_c _ _).mono ?_); rintro e w' ⟨rfl, rfl⟩) | (go_at_call 22; (with_reducible refine (upper_c _ _ h).mono ?_); rintro e w' ⟨rfl, rfl⟩) | (go_at_call 26; (with_reducible refine (rupper_c _ _ h).mono ?_); rintro e w' ⟨rfl, rfl⟩) | (go_at_call 23; (with_reducible refine (lower_c _ _ h).mono ?_); rintro e w' ⟨rfl, rfl⟩) | (go_at_call 27; (with_reducible refine (rlower_c _ _ h).mono ?_); rintro e w' ⟨rfl, rfl⟩))
  refine (may_c _ _ [r] _ (Sl.lit' _ [r] _ _ (by simp) (by simp) (rng_one h) _ rfl)).mono ?_
  rintro e w' ⟨rfl, rfl⟩
  rw [e1]
  go_wp2_with (go_at_call 28; (with_reducible refine (rsign_c _ _).mono ?_); rintro e w' ⟨rfl, rfl⟩)
  go_ret
  exact ⟨by simp, by (repeat' (first | exact Below.refl _ _ | assumption | refine bdrewN ?_ _ | refine Below.drew ?_ | refine bal ?_ _ | refine bthen ?_ (by assumption)))⟩
theorem hold_of {w w1 w' : World} {e : Ending} (hb : Below w.heap.size w w1) (h : Holds w1 e w') : Holds w e w' := ⟨h.1, bthen hb h.2⟩

def edges : List Int := [55294, 55295, 55296, 57343, 57344, 1114110, 1114111, 1114112, 2147483647, -2147483648, 8490, 383]
theorem edges_rng : rng edges := by
  intro x hx; simp [edges] at hx; omega
set_option maxHeartbeats 1000000 in
theorem signsNumbers_w (w : World) : Calls Try.prog 3 #[] w (Holds w) := by
  go_enter Try.func3, Try.ntmps3
  go_wp2
  go_loopw [1] (fun r wr => ∃ n : Int, -3 ≤ n ∧ n ≤ 768 ∧ r = .int .i32 n ∧ Below w.heap.size w wr) (fun r _ => (768 - intOf r).toNat)
  case atStart => exact ⟨-3, by omega, by omega, rfl, Below.refl _ _⟩
  case round =>
    obtain ⟨n, hn1, hn2, rfl, hbel⟩ := hrel
    by_cases hlt : n < 768
    · go_wp2_with (go_at_call 9; refine (numbers_w _ _ (by omega)).mono ?_; rintro e w1 ⟨rfl, hb1⟩)
      go_roundw
      case rel => exact ⟨n + 1, by omega, by omega, by go_num, bthen hbel hb1⟩
      case measure => simp [intOf]; omega
    · go_wp2
      have hs := Sl.lit' wr edges 21 wr.heap.size rfl (by simp [edges]) edges_rng _ rfl
      have hb0 := bal hbel (.cells (edges.map (Value.int .i32)).toArray 21)
      simp only [edges, List.map_cons, List.map_nil] at hs hb0
      generalize wr.alloc (Obj.cells _ 21) = W at *
      have HS := hid hs; clear hs
      go_loopw [13] (fun i wr => ∃ k : Nat, k ≤ 12 ∧ i = .int .i64 k ∧ Below W.heap.size W wr) (fun i _ => 12 - (intOf i).toNat)
      case atStart => exact ⟨0, by omega, rfl, Below.refl _ _⟩
      case round =>
        obtain ⟨k, hk, rfl, hb1⟩ := hrel
        by_cases hlt : k < 12
        · obtain ⟨b0, o0, he, hc⟩ := (HS.out.bel hb1).at (i := k) (by simp; omega)
          simp only [Option.some.injEq, Addr.mk.injEq, and_true] at he
          obtain ⟨rfl, rfl⟩ := he
          have ck := hc k (by simp; omega)
          have hr := rng_gt HS.out.rng (i := k) (by simp; omega)
          rw [Nat.zero_add] at ck
          clear hc
          obtain ⟨x, hx⟩ : ∃ x, x = gt [55294, 55295, 55296, 57343, 57344, 1114110, 1114111, 1114112, 2147483647, -2147483648, 8490, 383] k := ⟨_, rfl⟩
          rw [← hx] at ck hr
          clear hx
          go_wp2_with (go_at_call 9; refine (numbers_w _ _ hr).mono ?_; rintro e w1 ⟨rfl, hb2⟩)
          go_roundw
          case rel => exact ⟨k + 1, by omega, by go_num, bthen hb1 hb2⟩
          case measure => simp [intOf]; omega
        · go_wp2_with (go_at_call 10; refine (known_c _).mono ?_; rintro e w1 ⟨rfl, hb2⟩)
          go_ret
          exact ⟨rfl, bthen hb0 (bthen hb1 hb2)⟩

/-! SignsOrder -/
theorem less_irr (l : List Int) : less l l = false := by
  induction l with
  | nil => rfl
  | cons a l ih => simp [less, ih]
theorem less_tri (a b : List Int) : (less a b, less b a, eqM a b) = (true, false, false) ∨ (less a b, less b a, eqM a b) = (false, true, false) ∨ (less a b, less b a, eqM a b) = (false, false, true) := by
  induction a generalizing b with
  | nil => cases b <;> simp [less, eqM]
  | cons x a ih =>
    cases b with
    | nil => simp [less, eqM]
    | cons y b =>
      by_cases h : x = y
      · subst h
        have := ih b
        simpa [less, eqM] using this
      · have h2 : ¬ y = x := fun e => h e.symm
        by_cases h3 : x < y
        · left; simp [less, eqM, h, h2, h3]; omega
        · right; left; simp [less, eqM, h, h2, h3]; omega
theorem less_trans {a b c : List Int} (h1 : less a b = true) (h2 : less b c = true) : less a c = true := by
  induction a generalizing b c with
  | nil =>
    cases b with
    | nil => simp [less] at h1
    | cons y b => cases c with
      | nil => simp [less] at h2
      | cons z c => rfl
  | cons x a ih =>
    cases b with
    | nil => simp [less] at h1
    | cons y b => cases c with
      | nil => simp [less] at h2
      | cons z c =>
        simp only [less] at h1 h2 ⊢
        by_cases hxy : x = y
        · subst hxy
          rw [if_pos rfl] at h1
          by_cases hyz : x = z
          · subst hyz; rw [if_pos rfl] at h2 ⊢; exact ih h1 h2
          · rw [if_neg hyz] at h2 ⊢; exact h2
        · rw [if_neg hxy] at h1
          by_cases hyz : y = z
          · subst hyz; rw [if_neg hxy]; exact h1
          · rw [if_neg hyz] at h2; simp only [decide_eq_true_eq] at h1 h2
            rw [if_neg (by omega)]; simp; omega
theorem less_more (a : List Int) (x : Int) : less a (a ++ [x]) = true := by
  induction a with
  | nil => rfl
  | cons y a ih => simp [less, ih]
theorem more_less (a : List Int) (x : Int) : less (a ++ [x]) a = false := by
  induction a with
  | nil => rfl
  | cons y a ih => simp [less, ih]
theorem eq_more (a : List Int) (x : Int) : eqM a (a ++ [x]) = false := by simp [eqM]

def cnt (l : List Bool) : Nat := l.countP (· = true)
theorem cnt_tri (a b : List Int) : cnt [less a b, less b a, eqM a b] = 1 := by
  rcases less_tri a b with h | h | h <;> simp only [Prod.mk.injEq] at h <;> obtain ⟨h1, h2, h3⟩ := h <;> simp [cnt, h1, h2, h3]
theorem cnt_take_true {l : List Bool} {k : Nat} (hk : k < l.length) (h : l.getD k false = true) : cnt (l.take (k + 1)) = cnt (l.take k) + 1 := by
  rw [List.take_succ_eq_append_getElem hk]
  simp [List.getD, List.getElem?_eq_getElem hk] at h
  simp [cnt, h]
theorem cnt_take_false {l : List Bool} {k : Nat} (hk : k < l.length) (h : l.getD k false = false) : cnt (l.take (k + 1)) = cnt (l.take k) := by
  rw [List.take_succ_eq_append_getElem hk]
  simp [List.getD, List.getElem?_eq_getElem hk] at h
  simp [cnt, h]
theorem cnt_le (l : List Bool) : cnt l ≤ l.length := List.countP_le_length

set_option maxHeartbeats 2000000 in
theorem order_w (a1 a2 a3 : Option Addr) (c1 c2 c3 : Nat) (l1 l2 l3 : List Int) (x : Int) (w : World) (h1 : Sl w a1 l1) (h2 : Sl w a2 l2) (h3 : Sl w a3 l3)
    (hx : -2147483648 ≤ x ∧ x ≤ 2147483647) (hb : l1.length ≤ 35184372088830) :
    Calls Try.prog 6 #[.slice a1 l1.length c1, .slice a2 l2.length c2, .slice a3 l3.length c3, .int .i32 x] w (Holds w) := by
  have hl1 := h1.len
  go_enter Try.func6, Try.ntmps6
  go_wp2_with (first | (go_at_call 16; refine (less_c _ _ _ _ _ _ _ (by assumption) (by assumption)).mono ?_; rintro e w' ⟨rfl, rfl⟩) | (go_at_call 14; refine (same_c _ _ _ _ _ _ _ h1 h2).mono ?_; rintro e w' ⟨rfl, n0, rfl⟩))
  have hW : Below w.heap.size w ((w.drewN n0).alloc (Obj.cells #[Value.bool (less l1 l2), Value.bool (less l2 l1), Value.bool (eqM l1 l2)] 4)) := by (repeat' (first | exact Below.refl _ _ | assumption | refine bdrewN ?_ _ | refine Below.drew ?_ | refine bal ?_ _ | refine bthen ?_ (by assumption)))
  have hcell : ∀ j, j < 3 → ((w.drewN n0).alloc (Obj.cells #[Value.bool (less l1 l2), Value.bool (less l2 l1), Value.bool (eqM l1 l2)] 4)).cell? ⟨w.heap.size, j, none⟩ = some (.bool ([less l1 l2, less l2 l1, eqM l1 l2].getD j false)) := by
    intro j hj
    have := cell_alloc_new (w.drewN n0) #[Value.bool (less l1 l2), Value.bool (less l2 l1), Value.bool (eqM l1 l2)] 4 j
    rw [show (w.drewN n0).heap.size = w.heap.size from rfl] at this
    rw [this]
    match j, hj with
    | 0, _ => rfl
    | 1, _ => rfl
    | 2, _ => rfl
  have hbl : cnt [less l1 l2, less l2 l1, eqM l1 l2] = 1 := cnt_tri l1 l2
  have hlen : [less l1 l2, less l2 l1, eqM l1 l2].length = 3 := rfl
  have hlt0 : w.heap.size < ((w.drewN n0).alloc (Obj.cells #[Value.bool (less l1 l2), Value.bool (less l2 l1), Value.bool (eqM l1 l2)] 4)).heap.size := by simp
  have Hcell := hid hcell; clear hcell
  generalize (w.drewN n0).alloc (Obj.cells _ 4) = W at *
  obtain ⟨bl, hbl0⟩ : ∃ bl, bl = [less l1 l2, less l2 l1, eqM l1 l2] := ⟨_, rfl⟩
  rw [← hbl0] at Hcell hbl hlen
  have Hbl := hid hbl; have Hlen := hid hlen
  clear hbl hlen hbl0
  have s1 := h1.bel hW
  have s2 := h2.bel hW
  have s3 := h3.bel hW
  go_loopw [9, 24] (fun n i wr => ∃ k m : Nat, k ≤ 3 ∧ m ≤ k ∧ i = .int .i64 k ∧ n = .int .i64 m ∧ Hid (m = cnt (bl.take k)) ∧ wr = W) (fun _ i _ => 3 - (intOf i).toNat)
  case atStart => exact ⟨0, 0, by omega, by omega, rfl, rfl, by simp [Hid, cnt], rfl⟩
  case round =>
    obtain ⟨k, m, hk, hm, rfl, rfl, Hm, rfl⟩ := hrel
    by_cases hlt : k < 3
    · have ck := Hcell.out k hlt
      obtain ⟨y, hy⟩ : ∃ y, y = bl.getD k false := ⟨_, rfl⟩
      rw [← hy] at ck
      have Hy := hid hy; clear hy
      cases y with
      | true =>
        go_wp2
        go_roundw
        case rel => exact ⟨k + 1, m + 1, by omega, by omega, by go_num, by go_num, by unfold Hid; rw [cnt_take_true (by rw [Hlen.out]; exact hlt) Hy.out.symm, Hm.out], by first | rfl | trivial⟩
        case measure => simp [intOf]; omega
      | false =>
        go_wp2
        go_roundw
        case rel => exact ⟨k + 1, m, by omega, by omega, by go_num, by go_num, by unfold Hid; rw [cnt_take_false (by rw [Hlen.out]; exact hlt) Hy.out.symm, Hm.out], by first | rfl | trivial⟩
        case measure => simp [intOf]; omega
    · have e : m = 1 := by rw [Hm.out, List.take_of_length_le (by rw [Hlen.out]; omega), Hbl.out]
      subst e
      clear Hcell hlt0
      have t1 := less_more l1 x
      have t2 := more_less l1 x
      have t3 := eq_more l1 x
      have hac : less l1 l2 = true → less l2 l3 = true → less l1 l3 = true := less_trans
      go_wp2_with (first | (go_at_call 16; (with_reducible refine (less_c _ _ _ _ _ _ _ s1 s2).mono ?_); rintro e w' ⟨rfl, rfl⟩) | (go_at_call 16; (with_reducible refine (less_c _ _ _ _ _ _ _ s2 s3).mono ?_); rintro e w' ⟨rfl, rfl⟩) | (go_at_call 16; (with_reducible refine (less_c _ _ _ _ _ _ _ s1 s3).mono ?_); rintro e w' ⟨rfl, rfl⟩) | (at_builtin; refine wpL_app rfl (.const (.slice none 0 0)) (.tmp 46) rfl wr.heap.size none a1 0 c1 [] l1 rfl (Own.nil _ _) rfl s1 (by simpa using hl1) (Nat.le_refl _) ?_; intro a4 c4 w4 hown4 _ hbel4; simp only [List.nil_append] at hown4 ⊢; have Hown4 := hid hown4; clear hown4; have hs4 := hbel4.size) | (at_builtin; refine wpL_appn rfl (.tmp 47) (.tmp 49) rfl wr.heap.size a4 (some ⟨w4.heap.size, 0, none⟩) l1.length 1 c4 1 l1 [x] rfl rfl (Hown4.out.alloc _) rfl rfl (Sl.lit' w4 [x] _ _ rfl (by simp) (rng_one hx) _ rfl) (by simp; omega) (by simp; omega) ?_; intro a5 c5 w5 L5 HL5 hown5 hbel5; have s5 := hown5.sl; have Hown5 := hid hown5; clear hown5; have hb5 := bthen hW ((bal hbel4 _).trans hbel5); have s15 := h1.bel hb5))
      all_goals
        have u1 : less l1 L5 = true := by rw [HL5.out]; exact t1
        have u2 : less L5 l1 = false := by rw [HL5.out]; exact t2
        have u3 : eqM l1 L5 = false := by rw [HL5.out]; exact t3
        refine (less_c _ _ _ _ l1 L5 _ s15 s5).mono ?_
        rintro e w' ⟨rfl, rfl⟩
        rw [u1]
        go_wp2_with fail
        refine (less_c _ _ _ _ L5 l1 _ s5 s15).mono ?_
        rintro e w' ⟨rfl, rfl⟩
        rw [u2]
        go_wp2_with fail
        refine (same_c _ _ _ _ l1 L5 _ s15 s5).mono ?_
        rintro e w' ⟨rfl, n5, rfl⟩
        rw [u3]
        go_wp2_with fail
        refine (known_c _).mono ?_
        rintro e w6 ⟨rfl, hb6⟩
        go_wp2
        go_ret
        exact ⟨rfl, bthen (bdrewN hb5 _) hb6⟩
end Go.Proofs.Ytfjcojkmlbaifaa
