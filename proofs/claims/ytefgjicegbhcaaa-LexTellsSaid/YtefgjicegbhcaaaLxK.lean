/- Layer 13's statements: what every program answers that is one; are two lists of tokens the same? -/
import Derived.Test.YtefgjicegbhcaaaLxC
import Derived.Deep.QuietTactic
import Derived.BigQuiet
namespace Go.Proofs.Ytefgjicegbhcaaa
open Go.RowKit

theorem lexL_may {l : List Int} (h : may l = true) (hl : l.length ≤ 600) : lexL l = toks l ∧ lexF l = (0, 0) := by
  have e : lexF l = (0, 0) := by unfold lexF; rw [if_neg (by omega), if_pos h]
  exact ⟨by unfold lexL; rw [e]; rfl, e⟩
def k13 : List Tk := [⟨36, 0, 1⟩, ⟨2, 1, 3⟩, ⟨0, 3, 4⟩, ⟨1, 4, 5⟩]
theorem k13_l : lexL [36, 97, 49, 32, 55] = k13 := by decide
theorem k13_f : lexF [36, 97, 49, 32, 55] = (0, 0) := by decide
theorem k13_g : lexF [97, -1] = (1, 1) := by decide
/-- the cells of a token of an owned list -/
theorem TkOwn.cells {w : World} {base : Nat} {a : Option Addr} {c : Nat} {L : List Tk} (h : TkOwn w base a c L) (hn : L ≠ []) :
    ∃ g, a = some ⟨g, 0, none⟩ ∧ base ≤ g ∧ g < w.heap.size ∧ L.length ≤ c ∧ ∀ i, i < L.length → w.cell? ⟨g, i * 3, none⟩ = some (.int .i64 (rgt L i).kd) ∧ w.cell? ⟨g, i * 3 + 1, none⟩ = some (.int .i64 (rgt L i).fr) ∧ w.cell? ⟨g, i * 3 + 2, none⟩ = some (.int .i64 (rgt L i).to) := by
  rcases h.shape with ⟨_, _, h0⟩ | ⟨g, rfl, h1, h2, h3⟩
  · exact absurd h0 hn
  · refine ⟨g, rfl, h1, h2, h3, fun i hi => ?_⟩
    obtain ⟨b, off, he, hc⟩ := (ROwn.sl h).at hi
    simp only [Option.some.injEq, Addr.mk.injEq, and_true] at he
    obtain ⟨rfl, rfl⟩ := he
    have := rec_tk (hc i hi)
    simp only [Nat.zero_add] at this
    exact this
theorem k13_cells {w : World} {base : Nat} {a : Option Addr} {c : Nat} (h : TkOwn w base a c k13) :
    ∃ g, a = some ⟨g, 0, none⟩ ∧ base ≤ g ∧ g < w.heap.size ∧ (w.cell? ⟨g, 0, none⟩ = some (.int .i64 36) ∧ w.cell? ⟨g, 1, none⟩ = some (.int .i64 0) ∧ w.cell? ⟨g, 2, none⟩ = some (.int .i64 1)) ∧
      (w.cell? ⟨g, 3, none⟩ = some (.int .i64 2) ∧ w.cell? ⟨g, 4, none⟩ = some (.int .i64 1) ∧ w.cell? ⟨g, 5, none⟩ = some (.int .i64 3)) ∧
      (w.cell? ⟨g, 6, none⟩ = some (.int .i64 0) ∧ w.cell? ⟨g, 7, none⟩ = some (.int .i64 3) ∧ w.cell? ⟨g, 8, none⟩ = some (.int .i64 4)) ∧ w.cell? ⟨g, 9, none⟩ = some (.int .i64 1) := by
  obtain ⟨g, hg, h1, h2, -, hc⟩ := h.cells (by decide)
  exact ⟨g, hg, h1, h2, hc 0 (by decide), hc 1 (by decide), hc 2 (by decide), (hc 3 (by decide)).1⟩
set_option maxRecDepth 20000 in
set_option maxHeartbeats 8000000 in
theorem known13_c (w : World) : Calls Try.prog 10 #[] w fun e' w' => e' = .returned (.bool true) ∧ Below w.heap.size w w' := by
  obtain ⟨V1, hV1⟩ : ∃ V1, V1 = w.alloc (.cells #[.int .i32 36, .int .i32 97, .int .i32 49, .int .i32 32, .int .i32 55] 21) := ⟨_, rfl⟩
  have b1 : Below w.heap.size w V1 := by subst hV1; (repeat' (first | exact Below.refl _ _ | assumption | refine bdrewN ?_ _ | refine Below.drew ?_ | refine bal ?_ _ | refine bthen ?_ (by assumption)))
  have s1 : Sl V1 (some ⟨w.heap.size, 0, none⟩) [36, 97, 49, 32, 55] := by subst hV1; exact (Sl.lit' _ [36, 97, 49, 32, 55] _ _ (by simp) (by simp) (by simp [rng]) _ rfl)
  have C1 := tokens_c (some ⟨w.heap.size, 0, none⟩) 5 _ V1 s1
  unfold LexP at C1
  rw [k13_f, k13_l, show k13.length = 4 from rfl] at C1
  have C1 := hid C1
  have B1 := hid b1
  clear b1 s1
  go_enter Try.func10, Try.ntmps10
  go_wp2_with fail
  rw [← hV1]; clear hV1
  refine C1.out.mono ?_
  rintro _ w2 ⟨b2, a, c, rfl, ho⟩
  obtain ⟨V2, hV2⟩ : ∃ V2, V2 = (w2.alloc (.cells #[.int .i64 0, .int .i64 0] 37)).alloc (.cells #[.int .i32 97, .int .i32 (-1)] 21) := ⟨_, rfl⟩
  have b3 : Below w2.heap.size w2 V2 := by subst hV2; (repeat' (first | exact Below.refl _ _ | assumption | refine bdrewN ?_ _ | refine Below.drew ?_ | refine bal ?_ _ | refine bthen ?_ (by assumption)))
  have s2 : Sl V2 (some ⟨w2.heap.size + 1, 0, none⟩) [97, -1] := by subst hV2; exact (Sl.lit' _ [97, -1] _ _ (by simp) (by simp) (by simp [rng]) _ rfl)
  have F2 : Hid (FtC V2 w2.heap.size 0 0) := by subst hV2; exact (FtC.new _ _ _ _ _ rfl).bel (by (repeat' (first | exact Below.refl _ _ | assumption | refine bdrewN ?_ _ | refine Below.drew ?_ | refine bal ?_ _ | refine bthen ?_ (by assumption))))
  have C2 := tokens_c (some ⟨w2.heap.size + 1, 0, none⟩) 2 _ V2 s2
  unfold LexP at C2
  rw [k13_g, show lexL [97, -1] = [] by decide] at C2
  have C2 := hid C2
  have O2 := hid (ho.grow b3)
  have B2 := hid (B1.out.trans ((b2.trans (b3.mono b2.size)).mono B1.out.size))
  clear b2 ho b3 s2 C1 B1
  go_wp2_with fail
  rw [← hV2]; clear hV2
  refine C2.out.mono ?_
  rintro _ w4 ⟨b4, a4, c4, rfl, -⟩
  obtain ⟨V5, hV5⟩ : ∃ V5, V5 = w4.alloc (.cells #[.int .i64 1, .int .i64 1] 37) := ⟨_, rfl⟩
  have b5 : Below V2.heap.size V2 V5 := by rw [hV5]; exact b4.alloc b4.size _
  have F5 : FtC V5 w4.heap.size 1 1 := by subst hV5; exact FtC.new _ _ _ _ _ rfl
  have f0 := F5.c0
  have f1 := F5.c1
  have F3 := F2.out.bel b5
  have q0 := F3.c0
  have O5 := O2.out.grow b5
  obtain ⟨g, rfl, hg1, hg2, ⟨x0, x1, x2⟩, ⟨y0, y1, y2⟩, ⟨z0, z1, z2⟩, u0⟩ := k13_cells O5
  have B5 := hid (B2.out.trans (b5.mono B2.out.size))
  clear b4 b5 F5 F3 O5 O2 F2 C2 B2
  go_upto_region 3 with fail
  rw [← hV5]; clear hV5
  go_wp2_with fail
  go_ret
  exact ⟨rfl, B5.out⟩
theorem tk_ne {x y : Tk} (h : x ≠ y) : x.kd ≠ y.kd ∨ x.fr ≠ y.fr ∨ x.to ≠ y.to := by
  obtain ⟨a, b, c⟩ := x
  obtain ⟨a', b', c'⟩ := y
  simp only [ne_eq, Tk.mk.injEq, not_and] at h
  by_cases h1 : a = a'
  · by_cases h2 : b = b'
    · exact .inr (.inr (h h1 h2))
    · exact .inr (.inl h2)
  · exact .inl h1
theorem rtake_ne {α : Type} [Inhabited α] {l r : List α} {k : Nat} (h : rgt l k ≠ rgt r k) : l ≠ r := by
  intro e; subst e; exact h rfl
set_option maxHeartbeats 8000000 in
theorem sameTokens_c (a1 a2 : Option Addr) (c1 c2 : Nat) (l1 l2 : List Tk) (w : World) (h1 : TkSl w a1 l1) (h2 : TkSl w a2 l2) (z1 : l1.length ≤ 10000) (_z2 : l2.length ≤ 10000) :
    Calls Try.prog 14 #[.slice a1 l1.length c1, .slice a2 l2.length c2] w fun e w' => e = .returned (.bool (decide (l1 = l2))) ∧ ∃ n, w' = w.drewN n := by
  obtain ⟨bv, hbv⟩ : ∃ bv, bv = decide (l1 = l2) := ⟨_, rfl⟩
  rw [← hbv]
  have Hbv := hid hbv
  clear hbv
  go_enter Try.func14, Try.ntmps14
  by_cases hlen : l1.length = l2.length
  · have hl : ((l1.length : Int) != l2.length) = false := by simp [hlen]
    have Hlen := hid hlen; clear hlen
    go_wp2
    go_loopw [5, 13] (fun _ i wr => ∃ k : Nat, k ≤ l1.length ∧ i = .int .i64 k ∧ Hid (l1.take k = l2.take k) ∧ ∃ n, wr = w.drewN n) (fun _ i _ => l1.length - (intOf i).toNat)
    case atStart => exact ⟨0, Nat.zero_le _, rfl, hid (by simp), 0, rfl⟩
    case round =>
      obtain ⟨k, hk, rfl, hm, n, rfl⟩ := hrel
      by_cases hlt : k < l1.length
      · have hlt2 : k < l2.length := (by have := Hlen.out; omega)
        obtain ⟨b1, o1, rfl, hc1⟩ := h1.at hlt
        obtain ⟨b2, o2, rfl, hc2⟩ := h2.at hlt2
        obtain ⟨p0, p1, p2⟩ := rec_tk (hc1 k hlt)
        obtain ⟨q0, q1, q2⟩ := rec_tk (hc2 k hlt2)
        rw [show encTk.k = 3 from rfl] at p0 p1 p2 q0 q1 q2
        have Hts : Hid (l1.take (k + 1) = l1.take k ++ [rgt l1 k] ∧ l2.take (k + 1) = l2.take k ++ [rgt l2 k]) := ⟨rgt_take hlt, rgt_take hlt2⟩
        clear hc1 hc2
        by_cases he : rgt l1 k = rgt l2 k
        · have He := hid he
          rw [he] at p0 p1 p2
          clear he
          go_wp2
          go_quiet (fail)
          go_wp2
          go_roundw
          case rel => exact ⟨k + 1, by omega, by go_num, hid (by rw [Hts.out.1, Hts.out.2, hm.out, He.out]), by first | exact ⟨_, rfl⟩ | exact drewN_ex _ _ _ | exact drewN_ex2 _ _ _ _⟩
          case measure => simp [intOf]; omega
        · have hf : bv = false := by rw [Hbv.out]; exact decide_eq_false (rtake_ne he)
          subst hf
          have hne := tk_ne he
          clear he
          rcases hne with hx | hx | hx
          · have hx' : ((rgt l1 k).kd == (rgt l2 k).kd) = false := by simpa using hx
            clear hx
            go_wp2
            go_quiet (fail)
            go_wp2
            go_ret
            exact ⟨rfl, by first | exact ⟨_, rfl⟩ | exact drewN_ex _ _ _ | exact drewN_ex2 _ _ _ _⟩
          · have hx' : (((rgt l1 k).fr : Int) == ((rgt l2 k).fr : Int)) = false := by rw [beq_eq_false_iff_ne]; omega
            clear hx
            go_wp2
            go_quiet (fail)
            go_wp2
            go_ret
            exact ⟨rfl, by first | exact ⟨_, rfl⟩ | exact drewN_ex _ _ _ | exact drewN_ex2 _ _ _ _⟩
          · have hx' : (((rgt l1 k).to : Int) == ((rgt l2 k).to : Int)) = false := by rw [beq_eq_false_iff_ne]; omega
            clear hx
            go_wp2
            go_quiet (fail)
            go_wp2
            go_ret
            exact ⟨rfl, by first | exact ⟨_, rfl⟩ | exact drewN_ex _ _ _ | exact drewN_ex2 _ _ _ _⟩
      · have ht : bv = true := by
          rw [Hbv.out]
          have e1 : l1.take k = l1 := List.take_of_length_le (by omega)
          have e2 : l2.take k = l2 := List.take_of_length_le (by have := Hlen.out; omega)
          have := hm.out
          rw [e1, e2] at this
          exact decide_eq_true this
        subst ht
        go_wp2
        go_ret
        exact ⟨rfl, _, rfl⟩
  · have hl : ((l1.length : Int) != l2.length) = true := by simp; omega
    have hf : bv = false := by rw [Hbv.out]; exact decide_eq_false (fun e => hlen (by rw [e]))
    subst hf
    go_wp2
    go_ret
    exact ⟨rfl, 0, rfl⟩
end Go.Proofs.Ytefgjicegbhcaaa
