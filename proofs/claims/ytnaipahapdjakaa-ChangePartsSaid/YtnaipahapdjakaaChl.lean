/- Back of both. -/
import Derived.Test.YtnaipahapdjakaaChj
namespace Go.Proofs.Ytnaipahapdjakaa
open Go.RowKit

def backs (w : World) (l : List Cm) (e : Ending) (w' : World) : Prop :=
  ∃ a c M, e = .returned (.slice a (M : List Cm).length c) ∧ Hid (cgs M = backC (cgs l)) ∧ COwn w' w.heap.size a c M ∧ CsOwn w' w.heap.size a M ∧ Below w.heap.size w w'
set_option maxHeartbeats 4000000 in
theorem back_c (al : Option Addr) (cl : Nat) (l : List Cm) (w : World) (hl : CSl w al l) (ho : Cms w l) :
    Calls Try.prog 19 #[.slice al l.length cl] w (backs w l) := by
  have hll := hl.len
  have HL := hid hl; have HO := hid ho
  clear hl ho
  go_enter Try.func19, Try.ntmps19
  go_wp2
  go_loopw [3, 4] (fun o i wr => ∃ (j : Nat) (M : List Cm) (a3 : Option Addr) (c3 : Nat), j ≤ l.length ∧ i = .int .i64 ((j : Int) - 1) ∧ o = .slice a3 M.length c3 ∧ Hid (cgs M = backC (cgs (l.drop j))) ∧ Hid (COwn wr w.heap.size a3 c3 M) ∧ Hid (CsOwn wr w.heap.size a3 M) ∧ Below w.heap.size w wr) (fun _ i _ => (intOf i + 1).toNat)
  case atStart => exact ⟨l.length, [], none, 0, by omega, rfl, rfl, hid (by simp [cgs, backC]), COwn.nil _ _, CsOwn.nil _ _ _, Below.refl _ _⟩
  case round =>
    obtain ⟨j, M, a3, c3, hj, rfl, rfl, HM, HO2, HC, hb⟩ := hrel
    cases j with
    | zero =>
      rw [show ((0 : Nat) : Int) - 1 = -1 from rfl]
      go_wp2
      go_ret
      exact ⟨a3, c3, M, rfl, by simpa using HM, HO2.out, HC.out, hb⟩
    | succ k =>
      rw [show ((k + 1 : Nat) : Int) - 1 = (k : Int) from by omega]
      have hlt : k < l.length := by omega
      obtain ⟨b, o, rfl, hcb⟩ := (HL.out.bel hb).at hlt
      obtain ⟨x0, x1, x2⟩ := hcb k hlt
      have ok1 := (HO.out _ (cgt_mem hlt)).bel hb
      have HT : Hid (backC (cgs (l.drop k)) = backC (cgs (l.drop (k + 1))) ++ [invC (cgt l k).cg]) := hid (by rw [cgt_drop hlt]; simp [cgs, backC])
      have hMl : M.length + 1 ≤ 2513169434916 := by
        have e := congrArg List.length HM.out
        rw [backC_len, cgs_len, cgs_len, List.length_drop] at e
        omega
      clear hcb
      generalize cgt l k = X at HT x0 x1 x2 ok1
      obtain ⟨i, ca, C, cc, pa, P, pc⟩ := X
      obtain ⟨hi, s1, s2, -, -⟩ := ok1
      simp only [Cm.cg, invC] at HT x0 x1 x2 s1 s2 hi
      have hi := hid hi
      have hcall := hid (invert_c i ca pa cc pc C P wr s1 s2)
      clear s1 s2
      have HO := HO2
      go_wp2_with fail
      refine hcall.out.mono ?_
      rintro e w4 ⟨a4, c4, a5, c5, rfl, ho4, ho5, hb4, hd4⟩
      have B4 : Hid (Below w.heap.size w w4) := bthen hb hb4
      have HM4 : Hid (CmOwn w4 wr.heap.size ⟨i, a4, P, c4, a5, C, c5⟩) := ⟨hi.out, ho4, ho5, hd4⟩
      have Hb4 := hid hb4
      have hz4 : w.heap.size ≤ (w4.alloc (.cells #[.int .i64 i, .slice a4 P.length c4, .slice a5 C.length c5] 24)).heap.size := by have := B4.out.size; simp; omega
      clear ho4 ho5 hb4
      go_wp2_with (at_builtin; (refine wpL_capp rfl (.tmp 12) (.tmp 18) rfl w.heap.size a3 (some ⟨w4.heap.size, 0, none⟩) M.length 1 c3 1 M [(⟨i, a4, P, c4, a5, C, c5⟩ : Cm)] rfl (by first | rfl | simp | omega) ((HO.out.grow Hb4.out).grow ((Below.refl _ _).alloc (Nat.le_refl _) _)) rfl (by first | rfl | simp | omega) (CSl.lit w4 ⟨i, a4, P, c4, a5, C, c5⟩ _ _ rfl _ rfl) (by simp; omega) hz4 ?_); intro a6 c6 w6 L6 Hl6 ho6 hb6 hk6 hA6; have HA6 := hid hA6; clear hA6; have Ho6 := hid ho6; clear ho6; have Hk6 := hid hk6; clear hk6; have hz6 := hb6.size)
      have hb4 := Hb4.out
      have E6 : Hid (cgs L6 = backC (cgs (l.drop k))) := hid (by rw [Hl6.out, cgs_app, HT.out, HM.out]; rfl)
      have C6 : Hid (CsOwn w6 w.heap.size a6 L6) := by rw [Hl6.out]; exact hid (HC.out.snoc HO.out hb.size (bthen hb4 ((Below.refl _ _).alloc (Nat.le_refl _) _)) (HM4.out.grow ((Below.refl _ _).alloc (Nat.le_refl _) _)) Hk6.out HA6.out)
      have B6 : Below w.heap.size w w6 := (B4.out.alloc B4.out.size _).trans hb6
      clear hb4
      go_roundw
      case rel => exact ⟨k, L6, a6, c6, by omega, rfl, rfl, E6, Ho6, C6, B6⟩
      case measure => simp [intOf]
def rbacks (w : World) (l : List Cm) (e : Ending) (w' : World) : Prop :=
  ∃ a c M, e = .returned (.slice a (M : List Cm).length c) ∧ Hid (cgs M = backC (cgs l)) ∧ COwn w' w.heap.size a c M ∧ CsRd w' a M ∧ Below w.heap.size w w'
set_option maxHeartbeats 4000000 in
theorem rback_c (al : Option Addr) (cl : Nat) (l : List Cm) (w : World) (hl : CSl w al l) (ho : Cms w l) :
    Calls Try.prog 22 #[.slice al l.length cl] w (rbacks w l) := by
  have hll := hl.len
  have HL := hid hl; have HO := hid ho
  clear hl ho
  go_enter Try.func22, Try.ntmps22
  go_wp2
  go_loopw [3, 4] (fun o i wr => ∃ (j : Nat) (M : List Cm) (a3 : Option Addr) (c3 : Nat), j ≤ l.length ∧ i = .int .i64 ((j : Int) - 1) ∧ o = .slice a3 M.length c3 ∧ Hid (cgs M = backC (cgs (l.drop j))) ∧ Hid (COwn wr w.heap.size a3 c3 M) ∧ Hid (CsRd wr a3 M) ∧ Below w.heap.size w wr) (fun _ i _ => (intOf i + 1).toNat)
  case atStart => exact ⟨l.length, [], none, 0, by omega, rfl, rfl, hid (by simp [cgs, backC]), COwn.nil _ _, CsRd.nil _ _, Below.refl _ _⟩
  case round =>
    obtain ⟨j, M, a3, c3, hj, rfl, rfl, HM, HO2, HC, hb⟩ := hrel
    cases j with
    | zero =>
      rw [show ((0 : Nat) : Int) - 1 = -1 from rfl]
      go_wp2
      go_ret
      exact ⟨a3, c3, M, rfl, by simpa using HM, HO2.out, HC.out, hb⟩
    | succ k =>
      rw [show ((k + 1 : Nat) : Int) - 1 = (k : Int) from by omega]
      have hlt : k < l.length := by omega
      obtain ⟨b, o, rfl, hcb⟩ := (HL.out.bel hb).at hlt
      obtain ⟨x0, x1, x2⟩ := hcb k hlt
      have ok1 := (HO.out _ (cgt_mem hlt)).bel hb
      have HT : Hid (backC (cgs (l.drop k)) = backC (cgs (l.drop (k + 1))) ++ [invC (cgt l k).cg]) := hid (by rw [cgt_drop hlt]; simp [cgs, backC])
      have hMl : M.length + 1 ≤ 2513169434916 := by
        have e := congrArg List.length HM.out
        rw [backC_len, cgs_len, cgs_len, List.length_drop] at e
        omega
      clear hcb
      generalize cgt l k = X at HT x0 x1 x2 ok1
      obtain ⟨i, ca, C, cc, pa, P, pc⟩ := X
      obtain ⟨hi, s1, s2, -, -⟩ := ok1
      simp only [Cm.cg, invC] at HT x0 x1 x2 s1 s2 hi
      have hi := hid hi
      have hcall := hid (rinvert_c i ca pa cc pc C P wr s1 s2)
      clear s1 s2
      have HO := HO2
      go_wp2_with fail
      refine hcall.out.mono ?_
      rintro e w4 ⟨a4, c4, a5, c5, rfl, ho4, ho5, hb4⟩
      have B4 : Hid (Below w.heap.size w w4) := bthen hb hb4
      have HM4 : Hid (CmOk w4 ⟨i, a4, P, c4, a5, C, c5⟩ ∧ (∀ ad, a4 = some ad → wr.heap.size ≤ ad.block) ∧ ∀ ad, a5 = some ad → wr.heap.size ≤ ad.block) := ⟨⟨hi.out, ho4.sl, ho5.sl, ho4.cap, ho5.cap⟩, fun ad h => (ho4.lt ⟨ad, h, rfl⟩).1, fun ad h => (ho5.lt ⟨ad, h, rfl⟩).1⟩
      have Hb4 := hid hb4
      have hz4 : w.heap.size ≤ (w4.alloc (.cells #[.int .i64 i, .slice a4 P.length c4, .slice a5 C.length c5] 24)).heap.size := by have := B4.out.size; simp; omega
      clear ho4 ho5 hb4
      go_wp2_with (at_builtin; (refine wpL_capp rfl (.tmp 12) (.tmp 18) rfl w.heap.size a3 (some ⟨w4.heap.size, 0, none⟩) M.length 1 c3 1 M [(⟨i, a4, P, c4, a5, C, c5⟩ : Cm)] rfl (by first | rfl | simp | omega) ((HO.out.grow Hb4.out).grow ((Below.refl _ _).alloc (Nat.le_refl _) _)) rfl (by first | rfl | simp | omega) (CSl.lit w4 ⟨i, a4, P, c4, a5, C, c5⟩ _ _ rfl _ rfl) (by simp; omega) hz4 ?_); intro a6 c6 w6 L6 Hl6 ho6 hb6 hk6 hA6; have HA6 := hid hA6; clear hA6; have Ho6 := hid ho6; clear ho6; have Hk6 := hid hk6; clear hk6; have hz6 := hb6.size)
      have hb4 := Hb4.out
      have E6 : Hid (cgs L6 = backC (cgs (l.drop k))) := hid (by rw [Hl6.out, cgs_app, HT.out, HM.out]; rfl)
      have C6 : Hid (CsRd w6 a6 L6) := by rw [Hl6.out]; exact hid (HC.out.snoc HO.out (bthen hb4 ((Below.refl _ _).alloc (Nat.le_refl _) _)) (HM4.out.1.bel ((Below.refl _ _).alloc (Nat.le_refl _) _)) (.inr HM4.out.2.1) (.inr HM4.out.2.2) Hk6.out HA6.out)
      have B6 : Below w.heap.size w w6 := (B4.out.alloc B4.out.size _).trans hb6
      clear hb4
      go_roundw
      case rel => exact ⟨k, L6, a6, c6, by omega, rfl, rfl, E6, Ho6, C6, B6⟩
      case measure => simp [intOf]
end Go.Proofs.Ytnaipahapdjakaa
