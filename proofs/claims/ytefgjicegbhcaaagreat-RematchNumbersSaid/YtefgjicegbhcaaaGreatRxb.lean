/- The code's reader: what a backslash means: only, single, meant, escaped, part. -/
import Derived.Test.YtefgjicegbhcaaaGreatRxa
import Derived.Test.YtefgjicegbhcaaaGreatReY
namespace Go.Proofs.YtefgjicegbhcaaaGreat
open Go.RowKit ReM

/-- a new set -/
def SetM (w : World) (l : List Int) (a : Option Addr) (c : Nat) (L : List Int) (w' : World) : Prop := Hid (L = l) ∧ Own w' w.heap.size a c L ∧ Below w.heap.size w w'
set_option maxHeartbeats 4000000 in
theorem only_c (x : Int) (w : World) (hx : -2147483648 ≤ x ∧ x ≤ 2147483647) :
    Calls Tryz.prog 138 #[.int .i32 x] w fun e' w' => ∃ a c L, e' = .returned (.slice a L.length c) ∧ SetM w [x, x] a c L w' := by
  go_enter Tryz.func138, Tryz.ntmps138
  go_wp2
  go_ret
  exact ⟨_, _, [x, x], rfl, rfl, Own.lit' w [x, x] _ _ _ rfl (Nat.le_refl _) (by simp) (rng_cons hx (rng_one hx)) _ rfl rfl, (Below.refl _ _).alloc (Nat.le_refl _) _⟩
set_option maxHeartbeats 4000000 in
theorem single_c (a : Option Addr) (c : Nat) (l : List Int) (w : World) (h : Sl w a l) :
    Calls Tryz.prog 151 #[.slice a l.length c] w fun e' w' => e' = .returned (.bool (one l)) ∧ ∃ n, w' = w.drewN n := by
  have hl := h.len
  by_cases h2 : l.length = 2
  · obtain ⟨b, o, rfl, hc⟩ := h.at (i := 0) (by omega)
    have k0 := hc 0 (by omega)
    have k1 := hc 1 (by omega)
    rw [h2]
    match l, h2 with
    | [u, v], _ =>
      have e : one [u, v] = (u == v) := by simp only [one]; rw [Bool.eq_iff_iff]; simp
      rw [e]
      simp only [gt, List.getD_cons_zero, List.getD_cons_succ, Nat.add_zero] at k0 k1
      clear hc h e hl
      cases hb : (u == v) with
      | true =>
        go_enter Tryz.func151, Tryz.ntmps151
        go_wp2
        go_quiet (fail)
        go_wp2
        go_ret
        exact ⟨rfl, by first | exact ⟨_, rfl⟩ | exact drewN_ex _ _ _ | exact drewN_ex2 _ _ _ _⟩
      | false =>
        go_enter Tryz.func151, Tryz.ntmps151
        go_wp2
        go_quiet (fail)
        go_wp2
        go_ret
        exact ⟨rfl, by first | exact ⟨_, rfl⟩ | exact drewN_ex _ _ _ | exact drewN_ex2 _ _ _ _⟩
  · have e : one l = false := by
      match l, h2 with
      | [], _ => rfl
      | [_], _ => rfl
      | _ :: _ :: _ :: _, _ => rfl
    rw [e]
    have b1 : ((l.length : Int) == 2) = false := by simp; omega
    clear h e
    go_enter Tryz.func151, Tryz.ntmps151
    go_wp2
    go_quiet (fail)
    go_wp2
    go_ret
    exact ⟨rfl, by first | exact ⟨_, rfl⟩ | exact drewN_ex _ _ _ | exact drewN_ex2 _ _ _ _⟩
/-- a set's node -/
def nodV (ng : Bool) (a : Option Addr) (n c : Nat) : Value := .agg #[.int .i64 2, .int .i64 0, .int .i64 0, .int .i64 0, .bool false, .bool ng, .slice a n c]
theorem SetM.lit (w : World) (l : List Int) (V : World) (b c : Nat) (T : Obj) (hV : V = (w.alloc T)) (cs : Array Value) (U : Obj) (hcs : cs = (l.map (Value.int .i32)).toArray) (hl : l.length ≤ 1000) (hr : Go.Proofs.YtefgjicegbhcaaaGreat.rng l) (hb : b = w.heap.size + 1 + 1) (hc : c = l.length) :
    SetM w l (some ⟨b, 0, none⟩) c l ((V.alloc U).alloc (.cells cs 21)) := by
  subst hV
  refine ⟨rfl, Own.lit' _ l _ _ _ (by simp; omega) (by simp; omega) hl hr cs hcs hc, ?_⟩
  (repeat' (first | exact Below.refl _ _ | assumption | refine bdrewN ?_ _ | refine Below.drew ?_ | refine bal ?_ _ | refine bthen ?_ (by assumption)))
def MeantE (w : World) (r : Int) (e' : Ending) (w' : World) : Prop := match mean CC r with
  | some (l, ng) => ∃ a c L, e' = .returned (nodV ng a L.length c) ∧ SetM w l a c L w'
  | none => e' = .returned (nodV false none 0 0) ∧ Below w.heap.size w w'
set_option maxHeartbeats 4000000 in
theorem meant_68 (w : World) : Calls Tryz.prog 144 #[.int .i32 68] w fun e' w' => ∃ a c L, e' = .returned (nodV true a L.length c) ∧ SetM w [48, 57] a c L w' := by
  go_enter Tryz.func144, Tryz.ntmps144
  go_wp2
  refine bodyPost_ret (v := nodV true (some ⟨w.heap.size + 1 + 1, 0, none⟩) 2 2) (by simp [results, Tryz.results144, go_sem, nodV]) rfl ⟨_, _, [48, 57], rfl, ?_⟩
  exact SetM.lit w [48, 57] _ _ _ _ rfl _ _ rfl (by simp) (by intro x hx; simp at hx; omega) rfl rfl
set_option maxHeartbeats 4000000 in
theorem meant_100 (w : World) : Calls Tryz.prog 144 #[.int .i32 100] w fun e' w' => ∃ a c L, e' = .returned (nodV false a L.length c) ∧ SetM w [48, 57] a c L w' := by
  go_enter Tryz.func144, Tryz.ntmps144
  go_wp2
  refine bodyPost_ret (v := nodV false (some ⟨w.heap.size + 1 + 1, 0, none⟩) 2 2) (by simp [results, Tryz.results144, go_sem, nodV]) rfl ⟨_, _, [48, 57], rfl, ?_⟩
  exact SetM.lit w [48, 57] _ _ _ _ rfl _ _ rfl (by simp) (by intro x hx; simp at hx; omega) rfl rfl
set_option maxHeartbeats 4000000 in
theorem meant_87 (w : World) : Calls Tryz.prog 144 #[.int .i32 87] w fun e' w' => ∃ a c L, e' = .returned (nodV true a L.length c) ∧ SetM w [97, 122, 65, 90, 48, 57, 95, 95] a c L w' := by
  go_enter Tryz.func144, Tryz.ntmps144
  go_wp2
  refine bodyPost_ret (v := nodV true (some ⟨w.heap.size + 1 + 1, 0, none⟩) 8 8) (by simp [results, Tryz.results144, go_sem, nodV]) rfl ⟨_, _, [97, 122, 65, 90, 48, 57, 95, 95], rfl, ?_⟩
  exact SetM.lit w [97, 122, 65, 90, 48, 57, 95, 95] _ _ _ _ rfl _ _ rfl (by simp) (by intro x hx; simp at hx; omega) rfl rfl
set_option maxHeartbeats 4000000 in
theorem meant_119 (w : World) : Calls Tryz.prog 144 #[.int .i32 119] w fun e' w' => ∃ a c L, e' = .returned (nodV false a L.length c) ∧ SetM w [97, 122, 65, 90, 48, 57, 95, 95] a c L w' := by
  go_enter Tryz.func144, Tryz.ntmps144
  go_wp2
  refine bodyPost_ret (v := nodV false (some ⟨w.heap.size + 1 + 1, 0, none⟩) 8 8) (by simp [results, Tryz.results144, go_sem, nodV]) rfl ⟨_, _, [97, 122, 65, 90, 48, 57, 95, 95], rfl, ?_⟩
  exact SetM.lit w [97, 122, 65, 90, 48, 57, 95, 95] _ _ _ _ rfl _ _ rfl (by simp) (by intro x hx; simp at hx; omega) rfl rfl
set_option maxHeartbeats 4000000 in
theorem meant_83 (w : World) : Calls Tryz.prog 144 #[.int .i32 83] w fun e' w' => ∃ a c L, e' = .returned (nodV true a L.length c) ∧ SetM w [32, 32, 9, 9, 10, 10] a c L w' := by
  go_enter Tryz.func144, Tryz.ntmps144
  go_wp2
  refine bodyPost_ret (v := nodV true (some ⟨w.heap.size + 1 + 1, 0, none⟩) 6 6) (by simp [results, Tryz.results144, go_sem, nodV]) rfl ⟨_, _, [32, 32, 9, 9, 10, 10], rfl, ?_⟩
  exact SetM.lit w [32, 32, 9, 9, 10, 10] _ _ _ _ rfl _ _ rfl (by simp) (by intro x hx; simp at hx; omega) rfl rfl
set_option maxHeartbeats 4000000 in
theorem meant_115 (w : World) : Calls Tryz.prog 144 #[.int .i32 115] w fun e' w' => ∃ a c L, e' = .returned (nodV false a L.length c) ∧ SetM w [32, 32, 9, 9, 10, 10] a c L w' := by
  go_enter Tryz.func144, Tryz.ntmps144
  go_wp2
  refine bodyPost_ret (v := nodV false (some ⟨w.heap.size + 1 + 1, 0, none⟩) 6 6) (by simp [results, Tryz.results144, go_sem, nodV]) rfl ⟨_, _, [32, 32, 9, 9, 10, 10], rfl, ?_⟩
  exact SetM.lit w [32, 32, 9, 9, 10, 10] _ _ _ _ rfl _ _ rfl (by simp) (by intro x hx; simp at hx; omega) rfl rfl
end Go.Proofs.YtefgjicegbhcaaaGreat
