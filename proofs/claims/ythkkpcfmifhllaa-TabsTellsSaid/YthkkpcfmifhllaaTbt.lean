/- TabsTells: its walk. -/
import Derived.Test.YthkkpcfmifhllaaTbf
import Derived.Deep.DeepCutAuto
namespace Go.Proofs.Ythkkpcfmifhllaa
open Go.RowKit Go.ChangeShapes

theorem OkF.take {l : List Fl} (h : OkF l) (n : Nat) : OkF (l.take n) := fun m hm => h m (List.mem_of_mem_take hm)
theorem RSl.first {α : Type} [Inhabited α] {E : Enc α} {w : World} {a : Option Addr} {l : List α} (h : RSl E w a l) {n : Nat} (hn : n ≤ l.length) : RSl E w a (l.take n) := by
  refine ⟨by have := h.len; rw [List.length_take]; omega, ?_⟩
  rcases h.cells with h0 | ⟨b, off, ha, hc⟩
  · exact .inl (by simp [h0])
  · refine .inr ⟨b, off, ha, fun m u hu => hc m u ?_⟩
    rw [rflat_take l n hn, List.getElem?_take] at hu
    split at hu
    · exact hu
    · cases hu
set_option maxRecDepth 20000 in
set_option maxHeartbeats 8000000 in
theorem tells18_w (a : Option Addr) (c : Nat) (l : List Fl) (at_ : Int) (w : World) (hl : RSl encFl w a l) (hok : OkF l) (hlc : l.length ≤ c) :
    Calls Try.prog 3 #[.slice a l.length c, .int .i64 at_] w fun e w' => e = .returned (.bool true) ∧ Below w.heap.size w w' := by
  have HL := hid hl
  have HOK := hid hok
  have hlen : l.length ≤ 1099511627776 := hl.len
  go_enter Try.func3, Try.ntmps3
  go_upto_if 9 with fail
  go_cut [0] (fun v wx => ∃ (a1 : Option Addr) (l1 : List Fl) (c1 : Nat), v = .slice a1 l1.length c1 ∧ l1.length ≤ 60 ∧ Hid (RSl encFl wx a1 l1) ∧ Hid (OkF l1) ∧ Hid (wx = w))
  case first =>
    by_cases h60 : 60 < l.length
    · have z1 : decide ((l.length : Int) > 60) = true := decide_eq_true (by omega)
      have HS1 := hid (hl.first (n := 60) (by omega))
      have h60z : (60 : Int) ≤ (c : Int) := by omega
      clear hl hok
      go_wp2
      go_meet
      exact ⟨a, l.take 60, c, by rw [List.length_take, Nat.min_eq_left (by omega)], by rw [List.length_take]; omega, HS1, HOK.out.take 60, hid rfl⟩
    · have z1 : decide ((l.length : Int) > 60) = false := decide_eq_false (by omega)
      clear hl hok
      go_wp2
      go_meet
      exact ⟨a, l, c, rfl, by omega, HL, HOK, hid rfl⟩
  case rest =>
    obtain ⟨a1, l1, c1, rfl, h60, HL1, HOK1, HW⟩ := hcut
    have B0 : Hid (Below w.heap.size w wc) := by rw [HW.out]; exact Below.refl _ _
    clear HL HOK HW hl hok hlen hlc
    have HS : Hid (∀ w' (x : Int), Below wc.heap.size wc w' → Calls Try.prog 7 #[.slice a1 l1.length c1, .int .i64 x] w' fun e w2 => e = .returned (.bool true) ∧ Below w'.heap.size w' w2) := fun w' x hb => same18_c w' a1 c1 l1 x (HL1.out.bel hb) HOK1.out (by omega)
    go_wp2_with fail
    refine (few_c wc a1 c1 l1 HL1.out).mono ?_
    rintro _ w1 ⟨a2, c2, M, rfl, o2, hM, hM2, hok2, b1⟩
    have O2 := hid o2; have HOK2 := hid hok2; have B1 := hid b1
    clear o2 hok2 b1
    go_wp2_with fail
    refine (HS.out w1 at_ B1.out).mono ?_
    rintro _ w2 ⟨rfl, b2⟩
    have B2 : Hid (Below wc.heap.size wc w2) := B1.out.trans (b2.mono B1.out.size)
    have O3 := hid (O2.out.grow b2)
    clear b2 O2
    have hix := kindex_c at_ (l1.length + 1) w2 (by omega) (by omega)
    have HIX := hid hix; clear hix
    go_wp2_with fail
    refine (HIX.out).mono ?_
    rintro _ w3 ⟨⟨i, hi, rfl⟩, rfl⟩
    clear HIX
    go_wp2_with fail
    refine (HS.out w2 i B2.out).mono ?_
    rintro _ w4 ⟨rfl, b4⟩
    have B4 : Hid (Below wc.heap.size wc w4) := B2.out.trans (b4.mono B2.out.size)
    have O4 := hid (O3.out.grow b4)
    clear b4 O3
    have HM : Hid (RSl encFl w4 a2 M) := O4.out.sl
    go_wp2
    go_loopw [6] (fun v wr => ∃ k : Nat, k ≤ M.length + 2 ∧ v = .int .i64 ((k : Int) - 1) ∧ Hid (Below w4.heap.size w4 wr)) (fun v _ => 100 - (intOf v + 1).toNat)
    case atStart => exact ⟨0, by omega, by go_num, hid (Below.refl _ _)⟩
    case round =>
      obtain ⟨k, hk, rfl, HB⟩ := hrel
      by_cases hlt : k ≤ M.length + 1
      · have z1 : decide ((k : Int) - 1 ≤ (M.length : Int)) = true := decide_eq_true (by omega)
        have hs := same18_c wr a2 c2 M ((k : Int) - 1) (HM.out.bel HB.out) HOK2.out (by omega)
        have HSS := hid hs; clear hs
        go_wp2_with fail
        refine HSS.out.mono ?_
        rintro _ w5 ⟨rfl, b5⟩
        have B5 : Hid (Below w4.heap.size w4 w5) := HB.out.trans (b5.mono HB.out.size)
        clear b5 HSS
        go_wp2
        go_round
        case rel => exact ⟨k + 1, by omega, by go_num, B5⟩
        case measure => simp [intOf]; omega
      · have z1 : decide ((k : Int) - 1 ≤ (M.length : Int)) = false := decide_eq_false (by omega)
        go_wp2_with fail
        refine (known18_c wr).mono ?_
        rintro _ w5 ⟨rfl, b5⟩
        have B5 : Hid (Below w4.heap.size w4 w5) := HB.out.trans (b5.mono HB.out.size)
        clear b5
        go_wp2
        go_ret
        exact ⟨rfl, B0.out.trans ((B4.out.trans (B5.out.mono B4.out.size)).mono B0.out.size)⟩
end Go.Proofs.Ythkkpcfmifhllaa
