/- Package standishkeep: the tape's Format: short. -/
import Derived.Test.YtefgjicegbhcaaaGreatPla
import Derived.Test.YtefgjicegbhcaaaGreatKr
namespace Go.Proofs.YtefgjicegbhcaaaGreat
open Go.RowKit

def ssFm : List ByteArray := [⟨#[36, 49]⟩, ⟨#[36, 123, 49, 125]⟩, ⟨#[36, 123, 48, 58, 47, 117, 112, 99, 97, 115, 101, 125]⟩, ⟨#[36, 123, 49, 58, 47, 112, 97, 115, 99, 97, 108, 99, 97, 115, 101, 125]⟩, ⟨#[36, 123, 49, 58, 43, 120, 125]⟩, ⟨#[36, 123, 49, 58, 45, 121, 125]⟩, ⟨#[36, 123, 49, 58, 63, 120, 58, 121, 125]⟩, ⟨#[36, 123, 49, 58, 122, 125]⟩, ⟨#[97]⟩, ⟨#[45]⟩, ⟨#[36]⟩, ⟨#[92, 47]⟩, ⟨#[36, 123, 49, 58, 47, 110, 111, 125]⟩, ⟨#[36, 49, 50]⟩, ⟨#[92, 36, 49]⟩, ⟨#[36, 123, 50, 58, 47, 99, 97, 109, 101, 108, 99, 97, 115, 101, 125]⟩, ⟨#[36, 49, 50, 51]⟩]
theorem len_ssFm {s : ByteArray} {L : List Int} (h : s ∈ ssFm) (hL : L = strL s) : L.length ≤ 20 := by
  subst hL
  have h1 : ∀ x, x ∈ ssFm.map strL → x.length ≤ 20 := by decide
  exact h1 _ (List.mem_map_of_mem h)
def FmtE (w : World) (p : Nat) (a : Option Addr) (l : List Int) (c : Nat) (e' : Ending) (w' : World) : Prop :=
  ∃ a2 c2 L, e' = .returned (.slice a2 L.length c2) ∧ Own w' w.heap.size a2 c2 L ∧ L.length ≤ 60 ∧ (∃ i, TapeAt w' p a l c i) ∧ Kpt (fun k => k = p) w w'
set_option maxRecDepth 20000 in
set_option maxHeartbeats 16000000 in
theorem format_c (p : Nat) (a : Option Addr) (l : List Int) (c : Nat) (w : World) (ht : ∃ i, TapeAt w p a l c i) (hS : ∀ w', Below p w w' → I.Sl w' a l) :
    Calls Tryz.prog 10 #[.pointer (some ⟨p, 0, none⟩)] w (FmtE w p a l c) := by
  obtain ⟨i, ht⟩ := ht
  have hplt := ht.lt
  have HS := hid hS
  have C := hid (next_c p a l c i 4 w ht (hS w (Below.refl _ _)) (by omega) (by omega))
  clear ht hS
  go_enter Tryz.func10, Tryz.ntmps10
  go_wp2_with fail
  refine C.out.mono ?_
  rintro _ w1 ⟨v, hv, rfl, ht1, hk1⟩
  have T1 := hid ht1
  have K1 := hid hk1
  clear ht1 hk1 C
  go_wp2_with fail
  go_loopw [3, 4] (fun ov nv wr => ∃ (g : Nat) (aO : Option Addr) (cO : Nat) (O : List Int), nv = .int .i64 g ∧ ov = .slice aO O.length cO ∧ g ≤ 3 ∧ O.length + 20 * g ≤ 60 ∧ Hid (Own wr w.heap.size aO cO O) ∧ Hid (∃ i, TapeAt wr p a l c i) ∧ Hid (Kpt (fun k => k = p) w wr)) (fun _ nv _ => (intOf nv).toNat)
  case atStart => exact ⟨v, none, 0, [], rfl, rfl, by omega, by simp; omega, hid (Own.nil _ _), T1, K1⟩
  case round =>
    obtain ⟨g, aO, cO, O, rfl, rfl, hg, hOl, HO, T2, K2⟩ := hrel
    have zk := K2.out.size
    by_cases h0 : 0 < g
    · have b1 : decide (0 < g) = true := decide_eq_true h0
      have b2 : decide ((0 : Int) < (g : Int)) = true := decide_eq_true (by omega)
      go_wp2_with fail
      refine (one_a ssFm _ _ _ _ p a l c _ wr T2.out (fun w' hb => HS.out w' ((K2.out.belowp (by omega)).trans hb)) rfl rfl rfl (by decide) (by decide) (by decide)).mono ?_
      rintro _ w3 ⟨s3, b3, d3, M3, hs3, rfl, hM3, ho3, ht3, hk3⟩
      have P3 := hid (HO.out.kr hk3 (by omega))
      have T3 := hid ht3
      have K3 := hid (K2.out.tr hk3)
      have S3 := hid ho3.sl
      have LM := len_ssFm hs3 hM3.out
      have hz3 := hk3.size
      clear ho3 ht3 hk3 HO T2
      have hOl2 := hid hOl
      go_wp2_with (at_builtin; (refine wpL_appn rfl (.tmp 11) (.tmp 14) rfl w.heap.size aO b3 O.length M3.length cO d3 O M3 rfl (by first | rfl | simp | omega) P3.out rfl (by first | rfl | simp | omega) S3.out (by have := hOl2.out; omega) (by omega) ?_); intro a5 c5 w5 L5 Hl5 ho5 hb5 hk5 hA5; have HA5 := hid hA5; clear hA5; have Ho5 := hid ho5; clear ho5; have Hk5 := hid hk5; clear hk5; have hz5 := hb5.size)
      go_roundw
      case rel =>
        have hb6 : Kpt (fun k => k = p) w w5 := ⟨hb5.os.trans K3.out.os, hb5.tape.trans K3.out.tape, hb5.output.trans K3.out.output, Nat.le_trans K3.out.size hb5.size, fun k hk hn => (hb5.block k hk).trans (K3.out.block k hk hn)⟩
        obtain ⟨i3, t3⟩ := T3.out
        exact ⟨g - 1, a5, c5, L5, by go_num, rfl, by omega, by rw [Hl5.out, List.length_append]; omega, Ho5, hid ⟨i3, t3.below hb5 hplt⟩, hid hb6⟩
      case measure => simp [intOf]; omega
    · have b1 : decide (0 < g) = false := decide_eq_false h0
      have b2 : decide ((0 : Int) < (g : Int)) = false := decide_eq_false (by omega)
      go_wp2_with fail
      go_ret
      exact ⟨aO, cO, O, rfl, HO.out, by omega, T2.out, K2.out⟩
end Go.Proofs.YtefgjicegbhcaaaGreat
