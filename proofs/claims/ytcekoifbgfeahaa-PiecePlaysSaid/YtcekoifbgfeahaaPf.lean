/- Contracts of package piece: read, Text, within, Slice. -/
import Derived.Test.YtcekoifbgfeahaaPe
namespace Go.Proofs.Ytcekoifbgfeahaa
open Go.RowKit

theorem txt_take {o a : List Int} {l : List Pc} {k : Nat} (h : k < l.length) : txt o a (l.take (k + 1)) = txt o a (l.take k) ++ ((src o a (pg l k)).drop (pg l k).fr).take (pg l k).n := by
  rw [pg_take h, txt_app]; simp [txt]
theorem lies_take {o a : List Int} {l : List Pc} (h : Lies o a l) (k : Nat) : Lies o a (l.take k) := fun p hp => h p (List.mem_of_mem_take hp)
theorem take_drop_comm (l : List Int) (f n : Nat) : (l.take (f + n)).drop f = (l.drop f).take n := by
  rw [List.drop_take]; congr 1; omega

set_option maxHeartbeats 2000000 in
theorem read_t (B : Nat) (F : Nat → Prop) (pt : Nat) (s : St) (a : Option Addr) (c : Nat) (l : List Pc) (w : World) (h : Tab w B F pt s) (hp : PSl w a l) (hl : l.length ≤ 2000)
    (hL : Lies s.o s.a l) (ht : tot l ≤ 100000) :
    Calls Try.prog 61 #[.pointer (some ⟨pt, 0, none⟩), .slice a l.length c] w (Makes w (txt s.o s.a l)) := by
  obtain ⟨ao, co, aa, ca, ap, cp, c0, c1, c2, o0, o1, -⟩ := h.cells
  have hpt := (h.lt _ h.ptF).2
  have hol := h.wf.o
  have hal := h.wf.a
  have s0 := o0.sl
  have s1 := o1.sl
  have hc0 : s.o.length ≤ co := by
    rcases o0.shape with ⟨_, _, h0⟩ | ⟨_, _, _, _, h0⟩
    · simp [h0]
    · exact h0
  have hc1 : s.a.length ≤ ca := by
    rcases o1.shape with ⟨_, _, h0⟩ | ⟨_, _, _, _, h0⟩
    · simp [h0]
    · exact h0
  have HL := hid hL
  clear h c2 o0 o1 hL
  go_enter Try.func61, Try.ntmps61
  go_wp2
  go_loopw [5, 11] (fun out i wr => ∃ (k : Nat) (a3 : Option Addr) (c3 : Nat) (L : List Int), k ≤ l.length ∧ i = .int .i64 k ∧ out = .slice a3 L.length c3 ∧ Hid (L = txt s.o s.a (l.take k)) ∧ Hid (Own wr w.heap.size a3 c3 L) ∧ Below w.heap.size w wr) (fun _ i _ => l.length - (intOf i).toNat)
  case atStart => exact ⟨0, none, 0, [], Nat.zero_le _, rfl, rfl, rfl, Own.nil _ _, Below.refl _ _⟩
  case round =>
    obtain ⟨k, a3, c3, L, hk, rfl, rfl, HX, Ho, hb⟩ := hrel
    by_cases hlt : k < l.length
    · obtain ⟨b, off, rfl, hc⟩ := (hp.bel hb).at hlt
      obtain ⟨k0, k1, k2⟩ := hc k hlt
      clear hc
      have hw := HL.out _ (pg_mem hlt)
      have d0 : wr.cell? ⟨pt, 0, none⟩ = some (.slice ao s.o.length co) := by rw [hb.cell (p := ⟨pt, 0, none⟩) hpt]; exact c0
      have d1 : wr.cell? ⟨pt, 1, none⟩ = some (.slice aa s.a.length ca) := by rw [hb.cell (p := ⟨pt, 1, none⟩) hpt]; exact c1
      have hptr : pt < wr.heap.size := Nat.lt_of_lt_of_le hpt hb.size
      have HT := hid (txt_take (o := s.o) (a := s.a) hlt)
      have hLl : L.length ≤ 100000 := by
        rw [HX.out, txt_len (lies_take HL.out k)]
        have := tot_take l k; omega
      have hqn : (pg l k).n ≤ 100000 := by have := tot_mem (pg_mem hlt); omega
      cases hadd : (pg l k).add with
      | false =>
        rw [hadd] at k0
        have Hadd := hid hadd; clear hadd
        have hx : src s.o s.a (pg l k) = s.o := by simp [src, Hadd.out]
        rw [hx] at hw
        have Hx := hid hx; clear hx
        obtain ⟨a4, c4, D, HD, sD, hDc, hrun⟩ := slice_mid (s0.bel hb) (pg l k).fr ((pg l k).fr + (pg l k).n) co (by omega) hw.2 hc0
        simp only [Int.natCast_add] at hrun
        have hDl : D.length ≤ 100000 := by rw [HD.out]; simp; omega
        go_wp2_with (at_builtin; (refine wpL_appn rfl (.tmp 25) (.tmp 34) rfl w.heap.size a3 a4 L.length D.length c3 c4 L D rfl (by first | rfl | simp | omega) (Ho.out.grow (by (repeat' (first | exact Below.refl _ _ | assumption | refine bdrewN ?_ _ | refine Below.drew ?_ | refine bal ?_ _ | refine bthen ?_ (by assumption))))) rfl (by first | rfl | simp | omega) (by (repeat' (first | assumption | exact Sl.nil _ _ | refine Sl.drewN ?_ _ | refine Sl.drew ?_ | refine Sl.alloc ?_ _ | refine Sl.bel ?_ (by assumption)))) (by omega) (by have := hb.size; simp; omega) ?_); intro a5 c5 w5 L5 Hl5 ho5 hb5 hk5 hA5; have HA5 := hid hA5; clear hA5; have Ho5 := hid ho5; clear ho5; have Hk5 := hid hk5; clear hk5; have hz5 := hb5.size)
        go_round
        case rel => exact ⟨k + 1, a5, c5, L5, by omega, by go_num, rfl, hid (by rw [Hl5.out, HX.out, HT.out, Hx.out, HD.out, take_drop_comm]), Ho5, by have := hb.size; exact (hb.alloc this _).trans hb5⟩
        case measure => simp [intOf]; omega
      | true =>
        rw [hadd] at k0
        have Hadd := hid hadd; clear hadd
        have hx : src s.o s.a (pg l k) = s.a := by simp [src, Hadd.out]
        rw [hx] at hw
        have Hx := hid hx; clear hx
        obtain ⟨a4, c4, D, HD, sD, hDc, hrun⟩ := slice_mid (s1.bel hb) (pg l k).fr ((pg l k).fr + (pg l k).n) ca (by omega) hw.2 hc1
        simp only [Int.natCast_add] at hrun
        have hDl : D.length ≤ 100000 := by rw [HD.out]; simp; omega
        go_wp2_with (at_builtin; (refine wpL_appn rfl (.tmp 25) (.tmp 34) rfl w.heap.size a3 a4 L.length D.length c3 c4 L D rfl (by first | rfl | simp | omega) (Ho.out.grow (by (repeat' (first | exact Below.refl _ _ | assumption | refine bdrewN ?_ _ | refine Below.drew ?_ | refine bal ?_ _ | refine bthen ?_ (by assumption))))) rfl (by first | rfl | simp | omega) (by (repeat' (first | assumption | exact Sl.nil _ _ | refine Sl.drewN ?_ _ | refine Sl.drew ?_ | refine Sl.alloc ?_ _ | refine Sl.bel ?_ (by assumption)))) (by omega) (by have := hb.size; simp; omega) ?_); intro a5 c5 w5 L5 Hl5 ho5 hb5 hk5 hA5; have HA5 := hid hA5; clear hA5; have Ho5 := hid ho5; clear ho5; have Hk5 := hid hk5; clear hk5; have hz5 := hb5.size)
        go_round
        case rel => exact ⟨k + 1, a5, c5, L5, by omega, by go_num, rfl, hid (by rw [Hl5.out, HX.out, HT.out, Hx.out, HD.out, take_drop_comm]), Ho5, by have := hb.size; exact (hb.alloc this _).trans hb5⟩
        case measure => simp [intOf]; omega
    · go_wp2
      go_ret
      rw [List.take_of_length_le (by omega)] at HX
      obtain rfl := HX.out
      exact ⟨a3, c3, rfl, Ho.out, hb⟩

set_option maxHeartbeats 1000000 in
theorem text_t (B : Nat) (F : Nat → Prop) (pt : Nat) (s : St) (w : World) (h : Tab w B F pt s) :
    Calls Try.prog 39 #[.pointer (some ⟨pt, 0, none⟩)] w (Makes w s.t) := by
  have hh := hid h
  obtain ⟨ao, co, aa, ca, ap, cp, c0, c1, c2, -, -, o2, -⟩ := h.cells
  have hsl := o2.sl
  have h1 := h.wf.len
  have h2 := h.wf.tot
  have h3 := hid h.wf.lies
  clear o2 c0 c1 h
  go_enter Try.func39, Try.ntmps39
  go_wp2_with (go_at_call 61; (with_reducible refine (read_t B F pt s ap cp s.p _ hh.out hsl (by omega) h3.out (by omega)).mono ?_); rintro e w' ⟨a', c', rfl, ho, hb⟩; have Ho := hid ho; clear ho)
  go_ret
  exact ⟨a', c', rfl, Ho.out, hb⟩

def wth (n a k : Int) : Bool := decide (0 ≤ a ∧ a ≤ n ∧ 0 ≤ k ∧ k ≤ n - a)
set_option maxHeartbeats 1000000 in
theorem within_c (n : Nat) (a k : Int) (w : World) (hn : n ≤ 100000) :
    Calls Try.prog 57 #[.int .i64 n, .int .i64 a, .int .i64 k] w fun e w' => e = .returned (.bool (wth n a k)) ∧ w = w' := by
  go_enter Try.func57, Try.ntmps57
  go_wp2
  all_goals go_ret
  all_goals (refine ⟨ret_bool ?_, rfl⟩; go_light; rw [Bool.eq_iff_iff]; ((try simp [wth] at *) <;> (first | omega | (constructor <;> intro _ <;> omega) | trivial)))
set_option maxHeartbeats 1000000 in
theorem rwithin_c (n : Nat) (a k : Int) (w : World) (hn : n ≤ 35184372088832) :
    Calls Try.prog 44 #[.int .i64 n, .int .i64 a, .int .i64 k] w fun e w' => e = .returned (.bool (wth n a k)) ∧ w = w' := by
  go_enter Try.func44, Try.ntmps44
  go_wp2
  all_goals go_ret
  all_goals (refine ⟨ret_bool ?_, rfl⟩; go_light; rw [Bool.eq_iff_iff]; ((try simp [wth] at *) <;> (first | omega | (constructor <;> intro _ <;> omega) | trivial)))
/-- what a function that makes a new slice and tells an error gives -/
def MakesE (w : World) (l : List Int) (x : Int) (e : Ending) (w' : World) : Prop :=
  ∃ a c, e = .returned (.tuple #[.slice a l.length c, .int .i64 x]) ∧ Own w' w.heap.size a c l ∧ Below w.heap.size w w'
set_option maxHeartbeats 1000000 in
theorem slice_no (B : Nat) (F : Nat → Prop) (pt : Nat) (s : St) (at_ n : Int) (w : World) (h : Tab w B F pt s) (hw : wth (tot s.p) at_ n = false) :
    Calls Try.prog 43 #[.pointer (some ⟨pt, 0, none⟩), .int .i64 at_, .int .i64 n] w (MakesE w [] 2) := by
  have h2 := h.wf.tot
  go_enter Try.func43, Try.ntmps43
  go_wp2_with (first | (go_at_call 37; (with_reducible refine (len_t B F pt s _ h).mono ?_); rintro e w' ⟨rfl, hb⟩) | (go_at_call 57; (with_reducible refine (within_c _ _ _ _ (by omega)).mono ?_); rintro e w' ⟨rfl, rfl⟩))
  go_ret2
  exact ⟨none, 0, rfl, Own.nil _ _, hb⟩
set_option maxHeartbeats 1000000 in
theorem slice_yes (B : Nat) (F : Nat → Prop) (pt : Nat) (s : St) (at_ n : Nat) (w : World) (h : Tab w B F pt s) (hw : at_ + n ≤ tot s.p) :
    Calls Try.prog 43 #[.pointer (some ⟨pt, 0, none⟩), .int .i64 at_, .int .i64 n] w (MakesE w ((s.t.drop at_).take n) 0) := by
  have h2 := h.wf.tot
  have hl := h.wf.len
  have hlies := hid h.wf.lies
  have hwt : wth (tot s.p) at_ n = true := by simp [wth]; omega
  have Hres : Hid (txt s.o s.a (prt s.p at_ (at_ + n)) = (s.t.drop at_).take n) := by rw [Hid, prt_txt hlies.out, take_drop_comm]; rfl
  go_enter Try.func43, Try.ntmps43
  go_wp2_with fail
  refine (len_t B F pt s _ h).mono ?_
  rintro e w1 ⟨rfl, hb1⟩
  go_wp2_with fail
  refine (within_c _ _ _ _ (by omega)).mono ?_
  rintro e w' ⟨rfl, rfl⟩
  go_wp2_with fail
  have hh1 := h.bel hb1
  have hp1 := part_t B F pt s at_ (at_ + n) w1 hh1 (by omega) (by omega)
  simp only [Int.natCast_add] at hp1
  refine hp1.mono ?_
  rintro e w2 ⟨a2, c2, rfl, ho2, hb2⟩
  have HO := hid ho2
  have hsl := hid ho2.sl
  have hP := prt_len s.p at_ (at_ + n)
  have hT := prt_tot hlies.out at_ (at_ + n)
  have hLi := prt_lies hlies.out at_ (at_ + n)
  generalize prt s.p at_ (at_ + n) = P at Hres HO hsl hP hT hLi ⊢
  have HLi := hid hLi
  clear ho2 hp1 hLi
  go_wp2_with fail
  refine (read_t B F pt s a2 c2 P _ (hh1.bel hb2) hsl.out (by omega) HLi.out (by omega)).mono ?_
  rintro e w3 ⟨a3, c3, rfl, ho3, hb3⟩
  generalize hX : txt s.o s.a P = X at ho3 ⊢
  have HX : Hid (X = (s.t.drop at_).take n) := hX.symm.trans Hres.out
  clear hX
  go_wp2
  go_ret2
  obtain rfl := HX.out
  exact ⟨a3, c3, rfl, ho3.base_le (by have := hb1.size; have := hb2.size; omega), bthen hb1 (bthen hb2 hb3)⟩
end Go.Proofs.Ytcekoifbgfeahaa
