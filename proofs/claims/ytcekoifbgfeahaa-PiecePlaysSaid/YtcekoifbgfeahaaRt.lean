/- The document's own table: Len, Text, split. -/
import Derived.Test.YtcekoifbgfeahaaPj
import Derived.Test.YtcekoifbgfeahaaKeepR
namespace Go.Proofs.Ytcekoifbgfeahaa
open Go.RowKit

set_option maxHeartbeats 1000000 in
theorem rlen_t (B : Nat) (F : Nat → Prop) (pt : Nat) (s : St) (w : World) (h : Tab w B F pt s) :
    Calls Try.prog 42 #[.pointer (some ⟨pt, 0, none⟩)] w fun e w' => e = .returned (.int .i64 (tot s.p)) ∧ w = w' := by
  obtain ⟨ao, co, aa, ca, ap, cp, c0, c1, c2, -, -, o2, -⟩ := h.cells
  have hsl := o2.sl
  have htot := h.wf.tot
  have hlen := h.wf.len
  clear o2 h c0 c1
  go_enter Try.func42, Try.ntmps42
  go_wp2
  go_loopw [3, 4] (fun tv i wr => ∃ k : Nat, k ≤ s.p.length ∧ i = .int .i64 k ∧ tv = .int .i64 (tot (s.p.take k)) ∧ wr = w) (fun _ i _ => s.p.length - (intOf i).toNat)
  case atStart => exact ⟨0, Nat.zero_le _, rfl, by simp [tot], by simp⟩
  case round =>
    obtain ⟨k, hk, rfl, rfl, rfl⟩ := hrel
    by_cases hlt : k < s.p.length
    · obtain ⟨b, off, rfl, hc⟩ := hsl.at hlt
      obtain ⟨k0, k1, k2⟩ := hc k hlt
      clear hc
      have Hts := hid (tot_take_succ hlt)
      have ht2 := tot_take s.p (k + 1)
      rw [tot_take_succ hlt] at ht2
      go_wp2
      go_round
      case rel => exact ⟨k + 1, by omega, by go_num, by rw [Hts.out]; go_num, trivial⟩
      case measure => simp [intOf]; omega
    · go_wp2
      go_ret
      exact ⟨ret_int (by rw [List.take_of_length_le (by omega)]), rfl⟩

set_option maxHeartbeats 4000000 in
theorem rtext_t (B : Nat) (F : Nat → Prop) (pt : Nat) (s : St) (w : World) (h : Tab w B F pt s) :
    Calls Try.prog 40 #[.pointer (some ⟨pt, 0, none⟩)] w (Makes w s.t) := by
  obtain ⟨ao, co, aa, ca, ap, cp, c0, c1, c2, o0, o1, o2, -⟩ := h.cells
  have hpt := (h.lt _ h.ptF).2
  have hp := o2.sl
  have hol := h.wf.o
  have hal := h.wf.a
  have hll := h.wf.len
  have s0 := o0.sl
  have s1 := o1.sl
  have hc0 : s.o.length ≤ co := by
    rcases o0.shape with ⟨_, _, h0⟩ | ⟨_, _, _, _, h0⟩
    · simp [h0]
    · exact h0
  have hc1 : s.a.length ≤ ca := by
    rcases o1.shape with ⟨_, _, h0⟩ | ⟨_, _, _, _, h0⟩
    · simp [h0]
    · exact h0
  have htt := h.wf.tot
  have HL := hid h.wf.lies
  clear h o0 o1 o2
  go_enter Try.func40, Try.ntmps40
  go_wp2
  go_loopw [3, 4] (fun out i wr => ∃ (k : Nat) (a3 : Option Addr) (c3 : Nat) (L : List Int), k ≤ s.p.length ∧ i = .int .i64 k ∧ out = .slice a3 L.length c3 ∧ Hid (L = txt s.o s.a (s.p.take k)) ∧ Hid (Own wr w.heap.size a3 c3 L) ∧ Below w.heap.size w wr) (fun _ i _ => s.p.length - (intOf i).toNat)
  case atStart => exact ⟨0, none, 0, [], Nat.zero_le _, rfl, rfl, rfl, Own.nil _ _, Below.refl _ _⟩
  case round =>
    obtain ⟨k, a3, c3, L, hk, rfl, rfl, HX, Ho, hb⟩ := hrel
    have d0 : wr.cell? ⟨pt, 0, none⟩ = some (.slice ao s.o.length co) := by rw [hb.cell (p := ⟨pt, 0, none⟩) hpt]; exact c0
    have d1 : wr.cell? ⟨pt, 1, none⟩ = some (.slice aa s.a.length ca) := by rw [hb.cell (p := ⟨pt, 1, none⟩) hpt]; exact c1
    have d2 : wr.cell? ⟨pt, 2, none⟩ = some (.slice ap s.p.length cp) := by rw [hb.cell (p := ⟨pt, 2, none⟩) hpt]; exact c2
    have hptr : pt < wr.heap.size := Nat.lt_of_lt_of_le hpt hb.size
    have P0 : Hid (∀ o, ((wr.alloc o).drew).cell? ⟨pt, 0, none⟩ = some (.slice ao s.o.length co)) := fun o => by rw [show ∀ u : World, u.drew.cell? ⟨pt, 0, none⟩ = u.cell? ⟨pt, 0, none⟩ from fun _ => rfl, World.cell?_alloc_lt _ _ _ hptr]; exact d0
    have P1 : Hid (∀ o, ((wr.alloc o).drew).cell? ⟨pt, 1, none⟩ = some (.slice aa s.a.length ca)) := fun o => by rw [show ∀ u : World, u.drew.cell? ⟨pt, 1, none⟩ = u.cell? ⟨pt, 1, none⟩ from fun _ => rfl, World.cell?_alloc_lt _ _ _ hptr]; exact d1
    by_cases hlt : k < s.p.length
    · obtain ⟨b, off, rfl, hc⟩ := (hp.bel hb).at hlt
      obtain ⟨k0, k1, k2⟩ := hc k hlt
      clear hc
      have hw := HL.out _ (pg_mem hlt)
      have HT := hid (txt_take (o := s.o) (a := s.a) hlt)
      have hLl : L.length ≤ 100000 := by
        rw [HX.out, txt_len (lies_take HL.out k)]
        have := tot_take s.p k; omega
      have hqn : (pg s.p k).n ≤ 100000 := by have := tot_mem (pg_mem hlt); omega
      have hz := hb.size
      cases hadd : (pg s.p k).add with
      | false =>
        rw [hadd] at k0
        have Hadd := hid hadd; clear hadd
        have hx : src s.o s.a (pg s.p k) = s.o := by simp [src, Hadd.out]
        rw [hx] at hw
        have Hx := hid hx; clear hx
        obtain ⟨a4, c4, D, HD, sD, hDc, hrun⟩ := slice_mid (s0.bel hb) (pg s.p k).fr ((pg s.p k).fr + (pg s.p k).n) co (by omega) hw.2 hc0
        simp only [Int.natCast_add] at hrun
        have hDl : D.length ≤ 100000 := by rw [HD.out]; simp; omega
        have hwr : IntKind.i64.wrap ((pg s.p k).fr + (pg s.p k).n) = (pg s.p k).fr + (pg s.p k).n := by rw [IntKind.wrap_i64]; omega
        go_wp2
        go_region_held3 (fun w' => w'.cell? ⟨pt, 0, none⟩ = some (.slice ao s.o.length co) ∧ w'.cell? ⟨wr.heap.size, 1, none⟩ = some (.int .i64 (pg s.p k).fr) ∧ w'.cell? ⟨wr.heap.size, 2, none⟩ = some (.int .i64 (pg s.p k).n)) (first | assumption | exact ⟨by assumption, by assumption, by assumption⟩ | go_keep)
          ((((refine step_appn rfl (.tmp 38) (.tmp 50) rfl w.heap.size a3 a4 L.length D.length c3 c4 L D rfl (by first | rfl | simp | omega) (Ho.out.grow (by (repeat' (first | exact Below.refl _ _ | assumption | refine bdrewN ?_ _ | refine Below.drew ?_ | refine bal ?_ _ | refine bthen ?_ (by assumption))))) rfl (by first | rfl | simp | omega) (by (repeat' (first | assumption | exact Sl.nil _ _ | refine Sl.drewN ?_ _ | refine Sl.drew ?_ | refine Sl.alloc ?_ _ | refine Sl.bel ?_ (by assumption)))) (by omega) (by first | omega | (simp; omega)) ?_); intro a5 c5 w5 L5 Hl5 ho5 hb5 hk5 hA5; have HA5 := hid hA5; clear hA5; have Ho5 := hid ho5; clear ho5; have Hk5 := hid hk5; clear hk5; have hz5 := hb5.size); have q0 : w5.cell? ⟨pt, 0, none⟩ = some (.slice ao s.o.length co) := Hk5.out.cell (P0.out _) (Ho.out.offlt hpt); have q1 : w5.cell? ⟨wr.heap.size, 1, none⟩ = some (.int .i64 (pg s.p k).fr) := Hk5.out.cell (by simp) (Ho.out.off (Nat.le_refl _)); have q2 : w5.cell? ⟨wr.heap.size, 2, none⟩ = some (.int .i64 (pg s.p k).n) := Hk5.out.cell (by simp) (Ho.out.off (Nat.le_refl _))))
        go_wp2
        go_round
        case rel => exact ⟨k + 1, a5, c5, L5, by omega, by go_num, rfl, hid (by rw [Hl5.out, HX.out, HT.out, Hx.out, HD.out, take_drop_comm]), Ho5, by have := hb.size; exact ((hb.alloc this _).drew).trans hb5⟩
        case measure => simp [intOf]; omega
      | true =>
        rw [hadd] at k0
        have Hadd := hid hadd; clear hadd
        have hx : src s.o s.a (pg s.p k) = s.a := by simp [src, Hadd.out]
        rw [hx] at hw
        have Hx := hid hx; clear hx
        obtain ⟨a4, c4, D, HD, sD, hDc, hrun⟩ := slice_mid (s1.bel hb) (pg s.p k).fr ((pg s.p k).fr + (pg s.p k).n) ca (by omega) hw.2 hc1
        simp only [Int.natCast_add] at hrun
        have hDl : D.length ≤ 100000 := by rw [HD.out]; simp; omega
        have hwr : IntKind.i64.wrap ((pg s.p k).fr + (pg s.p k).n) = (pg s.p k).fr + (pg s.p k).n := by rw [IntKind.wrap_i64]; omega
        go_wp2
        go_region_held3 (fun w' => w'.cell? ⟨pt, 1, none⟩ = some (.slice aa s.a.length ca) ∧ w'.cell? ⟨wr.heap.size, 1, none⟩ = some (.int .i64 (pg s.p k).fr) ∧ w'.cell? ⟨wr.heap.size, 2, none⟩ = some (.int .i64 (pg s.p k).n)) (first | assumption | exact ⟨by assumption, by assumption, by assumption⟩ | go_keep)
          ((((refine step_appn rfl (.tmp 24) (.tmp 36) rfl w.heap.size a3 a4 L.length D.length c3 c4 L D rfl (by first | rfl | simp | omega) (Ho.out.grow (by (repeat' (first | exact Below.refl _ _ | assumption | refine bdrewN ?_ _ | refine Below.drew ?_ | refine bal ?_ _ | refine bthen ?_ (by assumption))))) rfl (by first | rfl | simp | omega) (by (repeat' (first | assumption | exact Sl.nil _ _ | refine Sl.drewN ?_ _ | refine Sl.drew ?_ | refine Sl.alloc ?_ _ | refine Sl.bel ?_ (by assumption)))) (by omega) (by first | omega | (simp; omega)) ?_); intro a5 c5 w5 L5 Hl5 ho5 hb5 hk5 hA5; have HA5 := hid hA5; clear hA5; have Ho5 := hid ho5; clear ho5; have Hk5 := hid hk5; clear hk5; have hz5 := hb5.size); have q0 : w5.cell? ⟨pt, 1, none⟩ = some (.slice aa s.a.length ca) := Hk5.out.cell (P1.out _) (Ho.out.offlt hpt); have q1 : w5.cell? ⟨wr.heap.size, 1, none⟩ = some (.int .i64 (pg s.p k).fr) := Hk5.out.cell (by simp) (Ho.out.off (Nat.le_refl _)); have q2 : w5.cell? ⟨wr.heap.size, 2, none⟩ = some (.int .i64 (pg s.p k).n) := Hk5.out.cell (by simp) (Ho.out.off (Nat.le_refl _))))
        go_wp2
        go_round
        case rel => exact ⟨k + 1, a5, c5, L5, by omega, by go_num, rfl, hid (by rw [Hl5.out, HX.out, HT.out, Hx.out, HD.out, take_drop_comm]), Ho5, by have := hb.size; exact ((hb.alloc this _).drew).trans hb5⟩
        case measure => simp [intOf]; omega
    · go_wp2
      go_ret
      rw [List.take_of_length_le (by omega)] at HX
      obtain rfl := HX.out
      exact ⟨a3, c3, rfl, Ho.out, hb⟩
end Go.Proofs.Ytcekoifbgfeahaa
