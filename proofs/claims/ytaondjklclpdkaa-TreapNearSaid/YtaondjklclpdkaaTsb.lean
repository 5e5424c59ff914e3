/- What is asked of both sets: same, asked. -/
import Derived.Test.YtaondjklclpdkaaTrt
import Derived.Test.YtaondjklclpdkaaTrq
import Derived.Test.YtaondjklclpdkaaKeepI
import Derived.Deep.CutBlock
import Derived.Deep.DeepCutAuto
namespace Go.Proofs.Ytaondjklclpdkaa
open Go.RowKit

theorem two_stab {B : Nat} {P : Nat → Prop} {w : World} {s r : Nat} {l l' : List Mk} (q : Int) (h : Two B P w s r l l') (g : Gd l) : Calls Try.prog 19 #[.pointer (some ⟨s, 0, none⟩), .int .i64 q] w (IMakes w (stL q l)) := by
  obtain ⟨F, h1, h2, h3⟩ := h.one
  exact sstab_c q s l w F h1 g
theorem two_within {B : Nat} {P : Nat → Prop} {w : World} {s r : Nat} {l l' : List Mk} (f q : Int) (h : Two B P w s r l l') (g : Gd l) : Calls Try.prog 20 #[.pointer (some ⟨s, 0, none⟩), .int .i64 f, .int .i64 q] w (IMakes w (wiL f q l)) := by
  obtain ⟨F, h1, h2, h3⟩ := h.one
  exact swithin_c f q s l w F h1 g
theorem two_rstab {B : Nat} {P : Nat → Prop} {w : World} {s r : Nat} {l l' : List Mk} (q : Int) (h : Two B P w s r l l') (g : Gd l') : Calls Try.prog 46 #[.pointer (some ⟨r, 0, none⟩), .int .i64 q] w (IMakes w (stL q l')) := by
  obtain ⟨a, c, h'⟩ := h.ref
  exact rstab_c q r a c l' w h' g
theorem two_rwithin {B : Nat} {P : Nat → Prop} {w : World} {s r : Nat} {l l' : List Mk} (f q : Int) (h : Two B P w s r l l') (g : Gd l') : Calls Try.prog 47 #[.pointer (some ⟨r, 0, none⟩), .int .i64 f, .int .i64 q] w (IMakes w (wiL f q l')) := by
  obtain ⟨a, c, h'⟩ := h.ref
  exact rwithin_c f q r a c l' w h' g
/-- a slice of the call's own whose numbers are written over -/
theorem iown_set {w : World} {base g c : Nat} {l : List Int} (h : I.Own w base (some ⟨g, 0, none⟩) c l) (i : Nat) (x : Int) (hx : ir x) : I.Own (w.setCell ⟨g, i, none⟩ (.int .i64 x)) base (some ⟨g, 0, none⟩) c (l.set i x) := h.stored i x hx
set_option maxRecDepth 20000 in
set_option maxHeartbeats 16000000 in
theorem asked_c {B : Nat} {P : Nat → Prop} (s r : Nat) (L : List Mk) (x y : Int) (w : World) (h : Two B P w s r L L) (g : Gd L) :
    Calls Try.prog 29 #[.pointer (some ⟨s, 0, none⟩), .pointer (some ⟨r, 0, none⟩), .int .i64 x, .int .i64 y] w fun e w' => e = .returned (.bool true) ∧ Below w.heap.size w w' := by
  have H0 := hid h
  have G := hid g
  clear h g
  go_enter Try.func29, Try.ntmps29
  go_wp2_with fail
  refine (two_stab x H0.out G.out).mono ?_
  rintro e w1 ⟨a1, c1, S1, rfl, hS1, ho1, b1⟩
  have H1 := hid (H0.out.bel b1)
  have O1 := hid ho1
  clear ho1
  go_wp2_with fail
  refine (two_within x y H1.out G.out).mono ?_
  rintro e w2 ⟨a2, c2, S2, rfl, hS2, ho2, b2⟩
  have H2 := hid (H1.out.bel b2)
  have O2 := hid ho2
  have x2 := bthen b1 b2
  clear ho2
  go_wp2_with fail
  refine (two_rstab x H2.out G.out).mono ?_
  rintro e w3 ⟨a3, c3, S3, rfl, hS3, ho3, b3⟩
  have H3 := hid (H2.out.bel b3)
  have x3 := bthen x2 b3
  have h13 : S1 = S3 := by rw [hS1.out, hS3.out]
  subst h13
  have Q1 := hid (O1.out.grow (bthen b2 b3)).sl
  have Q3 := hid ho3.sl
  clear ho3
  go_wp2_with fail
  refine (sameInts_c a1 a3 c1 c3 S1 S1 w3 Q1.out Q3.out).mono ?_
  rintro e w4 ⟨rfl, n4, rfl⟩
  rw [eqM_self]
  have x4 := bdrewN x3 n4
  have bz4 : Below w3.heap.size w3 (w3.drewN n4) := bdrewN (Below.refl _ _) n4
  have H4 := hid (H3.out.bel bz4)
  have y4 := hid (bthen b3 bz4)
  generalize w3.drewN n4 = w5 at *
  go_wp2_with fail
  refine (two_rwithin x y H4.out G.out).mono ?_
  rintro e w6 ⟨a6, c6, S6, rfl, hS6, ho6, b6⟩
  have x6 := bthen x4 b6
  have h26 : S2 = S6 := by rw [hS2.out, hS6.out]
  subst h26
  have Q2 := hid (O2.out.grow (bthen y4.out b6)).sl
  have Q6 := hid ho6.sl
  have O1' := hid (O1.out.grow (bthen (bthen b2 y4.out) b6))
  clear ho6
  go_wp2_with fail
  refine (sameInts_c a2 a6 c2 c6 S2 S2 w6 Q2.out Q6.out).mono ?_
  rintro e w7 ⟨rfl, n7, rfl⟩
  rw [eqM_self]
  have x7 := bdrewN x6 n7
  have O7 := hid (O1'.out.grow (bdrewN (Below.refl _ _) n7))
  generalize w6.drewN n7 = w8 at *
  have hn : S1.length ≤ 600 := by rw [hS1.out]; have := stL_len x L; have := G.out.len; omega
  clear hS1 hS2 hS3 hS6 Q1 Q2 Q3 Q6 O1 O2 O1' y4 bz4 H0 H1 H2 H3 H4
  go_wp2_with fail
  go_loopw [12, 35] (fun _ iv wr => ∃ (k : Nat) (X : List Int), k ≤ S1.length ∧ iv = .int .i64 k ∧ X.length = S1.length ∧ Hid (I.Own wr w.heap.size a1 c1 X) ∧ Below w.heap.size w wr) (fun _ iv _ => S1.length - (intOf iv).toNat)
  case atStart => exact ⟨0, S1, Nat.zero_le _, rfl, rfl, O7.out, x7⟩
  case round =>
    obtain ⟨k, X, hk, rfl, hX, hO, hb⟩ := hrel
    by_cases hlt : k < S1.length
    · have hd : decide (k < S1.length) = true := by simpa using hlt
      rcases hO.out.shape with ⟨_, _, h0⟩ | ⟨gb, hga, hg1, hg2⟩
      · rw [h0] at hX; simp at hX; omega
      · subst hga
        obtain ⟨b, o, he, hc⟩ := hO.out.sl.at (i := k) (by omega)
        simp only [Option.some.injEq, Addr.mk.injEq, and_true] at he
        obtain ⟨rfl, rfl⟩ := he
        have ck := hc k (by omega)
        rw [Nat.zero_add] at ck
        have fk := hO.out.free k
        clear hc
        go_wp2_with fail
        go_roundw
        case rel => exact ⟨k + 1, X.set k (-9), by omega, by go_num, by simpa using hX, hid (iown_set hO.out k (-9) (ir_small (by decide))), hb.setCell hg1 _⟩
        case measure => simp [intOf]; omega
    · have hd : decide (k < S1.length) = false := by simpa using hlt
      go_wp2_with fail
      go_ret
      exact ⟨rfl, hb⟩
end Go.Proofs.Ytaondjklclpdkaa
