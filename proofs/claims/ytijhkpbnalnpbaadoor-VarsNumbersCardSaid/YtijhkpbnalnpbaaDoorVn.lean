/- Numbers as strings: in base 10 (the shelf's contracts), in base 16; with leading zeros; a name's last period. -/
import Derived.Test.YtijhkpbnalnpbaaDoorVc
import Derived.Test.YtijhkpbnalnpbaaDoorShl
import Derived.Laws.BytesArg
namespace Go.Proofs.YtijhkpbnalnpbaaDoor
open Go.RowKit

theorem pow_tab {w : World} (h : Gl w) : Lib.TabIs Tryd.prog w "internal/strconv.uint64pow10" .u64 Lib.pow10Tab := by
  obtain ⟨t, fr, hh⟩ := h.pow
  have hg : Tryd.prog.globalNamed "internal/strconv.uint64pow10" = some 5 := by kernel_rfl
  have e : powA = (Lib.pow10Tab.map fun z => Value.int .u64 z).toArray := by kernel_rfl
  unfold Lib.TabIs World.var?
  rw [hg, Option.bind_some, hh, ← e]
theorem below_grown (w : World) (k : Nat) (os : Array Obj) : Below w.heap.size w (Sort.grow (w.drewN k) os) :=
  ⟨rfl, rfl, rfl, by simp [Sort.grow], fun i hi => by
    show ((w.drewN k).heap ++ os)[i]? = _
    rw [Array.getElem?_append_left (by show i < w.heap.size; omega)]
    rfl⟩
/-- a call that tells a string -/
def StrE (w : World) (l : List Int) (e : Ending) (w' : World) : Prop := ∃ s, e = .returned (.string s) ∧ Str s l ∧ Below w.heap.size w w'
theorem str_itoa (n : Nat) : Str ⟨(Lib.itoa (n : Int)).toArray⟩ (itoaL n) := by
  have ha : asc (itoaL n) = true := digs_asc 10 (by decide) (by decide) _ _
  refine ⟨asc_may ha, ?_⟩
  rw [asc_utf ha, itoaL, ← dec_digs, itoa_digs, List.map_map]
  conv => lhs; rw [← List.map_id (Lib.decDigits n)]
  refine List.map_congr_left fun b _ => ?_
  simp
theorem fmt10_c (n : Nat) (w : World) (hn : n < 9223372036854775808) (hg : Hid (Gl w)) : Calls Tryd.prog 51 #[.int .i64 n, .int .i64 10] w (StrE w (itoaL n)) := by
  refine (Tryd.strconv_FormatInt_10 n (by omega) (by omega) w (pow_tab hg.out)).mono ?_
  rintro e w' ⟨rfl, k, os, rfl⟩
  exact ⟨_, rfl, str_itoa n, below_grown _ _ _⟩
theorem itoa_c (n : Nat) (w : World) (hn : n < 9223372036854775808) (hg : Hid (Gl w)) : Calls Tryd.prog 37 #[.int .i64 n] w (StrE w (itoaL n)) := by
  refine (Tryd.strconv_Itoa n (by omega) (by omega) w (pow_tab hg.out)).mono ?_
  rintro e w' ⟨rfl, k, os, rfl⟩
  exact ⟨_, rfl, str_itoa n, below_grown _ _ _⟩
theorem repeat_c (c : Nat) (w : World) (hc : c ≤ 1000) : Calls Tryd.prog 52 #[.string ⟨#[48]⟩, .int .i64 c] w (StrE w (List.replicate c 48)) := by
  refine (Tryd.strings_Repeat ⟨#[48]⟩ c w (by omega) (by show 1 * c ≤ _; omega)).mono ?_
  rintro e w' ⟨rfl, hb⟩
  refine ⟨_, rfl, ?_, hb⟩
  have ha : asc (List.replicate c 48) = true := by
    rw [asc, List.all_eq_true]; intro x hx; rw [List.eq_of_mem_replicate hx]; rfl
  refine ⟨asc_may ha, ?_⟩
  rw [asc_utf ha]
  show Lib.repeatL [48] c = _
  clear ha hb
  induction c with
  | zero => rfl
  | succ c ih => rw [Lib.repeatL, List.replicate_succ, List.map_cons, ih (by omega)]; rfl

/-! ## base 16 -/
def hexS : ByteArray := ⟨#[48, 49, 50, 51, 52, 53, 54, 55, 56, 57, 97, 98, 99, 100, 101, 102, 103, 104, 105, 106, 107, 108, 109, 110, 111, 112, 113, 114, 115, 116, 117, 118, 119, 120, 121, 122]⟩
theorem hex_fin : ∀ d : Fin 16, ((hexS[d.val]'(by have := d.isLt; show d.val < 36; omega)).toNat : Int) = dg d.val := by decide +kernel
theorem hex_at (d : Nat) (h : d < 16) (h' : d < hexS.size) : ((hexS[d]'h').toNat : Int) = dg d := hex_fin ⟨d, h⟩
set_option maxRecDepth 100000 in
theorem pow2_c (w : World) : Calls Tryd.prog 83 #[.int .i64 16] w fun e w' => e = .returned (.bool true) ∧ w = w' := by
  go_enter Tryd.func83, Tryd.ntmps83
  go_wp2
  go_ret
  exact ⟨rfl, rfl⟩
theorem tz64_x (x k idx : Nat) (w : World) (hx0 : ((x : Int) == 0) = false) (key : IntKind.u64.wrap (bits BinOp.and IntKind.u64 (x : Int) (IntKind.u64.wrap (-(x : Int))) * 285870213051353865) / 288230376151711744 = (idx : Int))
    (hi : idx < 64) (hk : k < 64) (hcell : w.cell? ⟨7, idx, none⟩ = some (.int .u8 k)) : Calls Tryd.prog 88 #[.int .u64 x] w fun e w' => e = .returned (.int .i64 k) ∧ w = w' := by
  go_enter Tryd.func88, Tryd.ntmps88
  go_wp2_with (simp only [key])
  go_ret
  exact ⟨rfl, rfl⟩
theorem tz_c (w : World) (hg : Hid (Gl w)) : Calls Tryd.prog 84 #[.int .u64 16] w fun e w' => e = .returned (.int .i64 4) ∧ w = w' := by
  have h0 : w.cell? ⟨7, 15, none⟩ = db64A[15]? := hg.out.d64.cell 15
  have h1 := tz64_x 16 4 15 w (by decide) (by decide +kernel) (by decide) (by decide) (h0.trans (by kernel_rfl))
  replace h1 := hid h1
  clear h0
  go_enter Tryd.func84, Tryd.ntmps84
  go_wp2_with fail
  refine h1.out.mono ?_
  rintro e w' ⟨rfl, rfl⟩
  go_wp2
  go_ret
  exact ⟨rfl, rfl⟩
/-- an array of bytes that fills up from behind with the digits of n -/
structure HexAt (B n j : Nat) (wr : World) : Prop where
  all : ∀ t, t < 65 → ∃ v, wr.cell? ⟨B, t, none⟩ = some v
  fz : ∀ t, wr.frozen? ⟨B, t, none⟩ = false
  at_ : ∀ t, t < j → wr.cell? ⟨B, 65 - j + t, none⟩ = some (.int .u8 (gt (digs 16 j n) t))
theorem HexAt.put {B n j : Nat} {wr : World} (h : HexAt B n j wr) (hj : j < 65) (o : Nat) (ho : o = 64 - j) (v : Int) (hv : v = dg (n / 16 ^ j % 16)) : HexAt B n (j + 1) (wr.setCell ⟨B, o, none⟩ (.int .u8 v)) := by
  subst ho hv
  refine ⟨fun t ht => ?_, fun t => by simp only [World.frozen?_setCell]; exact h.fz t, fun t ht => ?_⟩
  · by_cases e : 64 - j = t
    · obtain ⟨u, hu⟩ := h.all _ ht
      subst e
      exact ⟨_, World.cell?_setCell_same (h := hu) ..⟩
    · obtain ⟨u, hu⟩ := h.all _ ht
      exact ⟨u, cell_set1 hu e⟩
  · rw [digs_front]
    cases t with
    | zero =>
      obtain ⟨u, hu⟩ := h.all (64 - j) (by omega)
      rw [show 65 - (j + 1) + 0 = 64 - j by omega]
      rw [World.cell?_setCell_same (h := hu)]
      simp [gt]
    | succ t =>
      rw [show 65 - (j + 1) + (t + 1) = 65 - j + t by omega]
      refine cell_set1 ?_ (by omega)
      rw [h.at_ t (by omega)]
      simp [gt]
theorem nd_step {f m : Nat} (h : 16 ≤ m) : nd 16 (f + 1) m = nd 16 f (m / 16) + 1 := by rw [nd, if_neg (by omega)]
theorem nd_end {f m : Nat} (h : m < 16) : nd 16 f m = 1 := by
  cases f with
  | zero => rfl
  | succ f => rw [nd, if_pos h]
theorem and15 (u : Nat) (h : u < 18446744073709551616) : bits BinOp.and IntKind.u64 (u : Int) 15 = ((u % 16 : Nat) : Int) := by
  have := bits_and_u64_nat u 15 h (by decide)
  rw [show ((15 : Nat) : Int) = 15 from rfl] at this
  rw [this, Nat.and_two_pow_sub_one_eq_mod u 4]
theorem hex_str {B n j : Nat} {wr : World} (h : HexAt B n j wr) (hj : j ≤ 65) (o m c : Nat) (ho : o = 65 - j) (hm : m = j) : ∃ s, Str s (digs 16 j n) ∧ (convert 91 9 (.slice (some ⟨B, o, none⟩) m c)).run Tryd.prog wr = .ok (.string s) wr := by
  subst ho hm
  have ha := digs_asc 16 (by decide) (by decide) m n
  have hl := digs_len 16 m n
  refine ⟨_, ?_, run_convert_bytes_arg (P := Tryd.prog) wr 91 5 Tryd.underlying91 Tryd.underlying5 B (65 - m) m c (digs 16 m n) (by omega) (fun i hi => h.at_ i hi) 9 Tryd.underlying9⟩
  refine ⟨asc_may ha, ?_⟩
  rw [asc_utf ha]; rfl
set_option maxRecDepth 100000 in
theorem hex_slice (B o m : Nat) (h : o + m = 65) (hm : 0 < m) (w : World) : (Instr.sliceAt 115 (.pointer (some ⟨B, 0, none⟩)) (some (.int .i64 o)) none none).run Tryd.prog w = .ok (.slice (some ⟨B, o, none⟩) m m) w := by
  have ea : Tryd.prog.arrayLen 115 = 65 := by kernel_rfl
  have es : (sizeOf (Tryd.prog.elem 115)).run Tryd.prog w = .ok 1 w := by kernel_rfl
  rw [run_sliceAt_array_l w 115 ⟨B, 0, none⟩ (by kernel_rfl) .i64 o (by omega) (by rw [ea]; omega), es, ea]
  simp only [Result.andThen, slicedAt, Int.toNat_natCast]
  rw [if_neg (by omega), show 65 - o = m by omega]
  congr 3
  unfold Addr.add; split
  · simp only [Addr.mk.injEq, and_true, true_and]; omega
  · simp
set_option maxHeartbeats 4000000 in
set_option maxRecDepth 100000 in
theorem fb_c (n : Nat) (w : World) (hn : n < 16777216) (hg : Hid (Gl w)) : Calls Tryd.prog 73 #[.slice none 0 0, .int .u64 n, .int .i64 16, .bool false, .bool false] w fun e w' =>
    ∃ s, e = .returned (.tuple #[.slice none 0 0, .string s]) ∧ Str s (digs 16 (nd 16 5 n) n) ∧ Below w.heap.size w w' := by
  have gl : Hid (∀ o, Gl (w.alloc o)) := hid fun o => hg.out.alloc o
  go_enter Tryd.func73, Tryd.ntmps73
  go_wp2_with (first | (go_at_call 83; (with_reducible refine (pow2_c _).mono ?_); rintro e w' ⟨rfl, rfl⟩) | (go_at_call 84; (with_reducible refine (tz_c _ (hid (gl.out _))).mono ?_); rintro e w' ⟨rfl, rfl⟩))
  have hb0 : Hid (Below w.heap.size w (w.alloc (.cells Tryd.zeroCells115 115))) := hid (bal (Below.refl _ _) _)
  have hx0 : Hid (HexAt w.heap.size n 0 (w.alloc (.cells Tryd.zeroCells115 115))) := by
    refine hid ⟨fun t ht => ?_, fun t => by simp, fun t ht => by omega⟩
    rw [cell_alloc_new, show Tryd.zeroCells115 = Array.replicate 65 (Value.int .u8 0) by kernel_rfl]
    exact ⟨_, by rw [Array.getElem?_replicate, if_pos ht]⟩
  go_loopw [1, 13] (fun uv iv wr => ∃ j u : Nat, j ≤ 5 ∧ uv = .int .u64 u ∧ iv = .int .i64 ((65 - j : Nat) : Int) ∧ Hid (u = n / 16 ^ j) ∧ u < 16777216 ∧ Hid (nd 16 5 n = j + nd 16 (5 - j) u) ∧ Hid (HexAt w.heap.size n j wr) ∧ Hid (Below w.heap.size w wr)) (fun uv _ _ => (intOf uv).toNat)
  case atStart => exact ⟨0, n, by omega, rfl, rfl, hid (by simp), hn, hid (by simp), hx0, hb0⟩
  case round =>
    obtain ⟨j, u, hj, rfl, rfl, hu, hul, hnd, hx, hb⟩ := hrel
    by_cases hlt : 16 ≤ u
    · have b1 : decide ((16 : Int) ≤ (u : Int)) = true := by simp; omega
      have hj5 : j < 5 := by
        rcases Nat.lt_or_ge j 5 with h | h
        · exact h
        · obtain rfl : j = 5 := by omega
          have := hu.out
          rw [show (16 : Nat) ^ 5 = 1048576 from rfl] at this
          omega
      have a15 := and15 u (by omega)
      have e1 : IntKind.i64.wrap (((65 - j : Nat) : Int) - 1) = ((64 - j : Nat) : Int) := by rw [IntKind.wrap_i64]; omega
      obtain ⟨vv, cv⟩ := hx.out.all (64 - j) (by omega)
      have fv := hx.out.fz (64 - j)
      go_wp2
      go_roundw
      case rel =>
        refine ⟨j + 1, u / 16, by omega, by simp, by congr 2; omega, hid (by rw [hu.out, Nat.pow_succ, Nat.div_div_eq_div_mul]), by omega, hid ?_, hid (hx.out.put (by omega) _ rfl _ ?_), hid (hb.out.setCell (Nat.le_refl _) _)⟩
        · rw [hnd.out, show 5 - j = (5 - (j + 1)) + 1 by omega, nd_step hlt]; omega
        · rw [← hu.out]; exact hex_at _ (Nat.mod_lt _ (by decide)) _
      case measure => simp [intOf]; omega
    · have b1 : decide ((16 : Int) ≤ (u : Int)) = false := by simp; omega
      have e1 : IntKind.i64.wrap (((65 - j : Nat) : Int) - 1) = ((64 - j : Nat) : Int) := by rw [IntKind.wrap_i64]; omega
      obtain ⟨vv, cv⟩ := hx.out.all (64 - j) (by omega)
      have fv := hx.out.fz (64 - j)
      go_wp2
      have h36 : u < hexS.size := by show u < 36; omega
      have hx2 := hx.out.put (by omega) (64 - j) rfl ((hexS[u]'h36).toNat : Int) (by rw [← hu.out, Nat.mod_eq_of_lt (by omega)]; exact hex_at u (by omega) h36)
      have hb2 : Below w.heap.size w (wr.setCell ⟨w.heap.size, 64 - j, none⟩ (.int .u8 ((hexS[u]'h36).toNat : Int))) := hb.out.setCell (Nat.le_refl _) _
      simp only [hexS] at hx2 hb2
      generalize World.setCell wr _ _ = W at hx2 hb2 ⊢
      obtain ⟨s, hs, hcv⟩ := hex_str hx2 (by omega) (64 - j) (j + 1) (j + 1) (by omega) rfl
      have hs2 : Hid (Str s (digs 16 (nd 16 5 n) n)) := hid (by rw [hnd.out, nd_end (by omega)]; exact hs)
      have HB2 := hid hb2
      clear hs hx2 hb2
      rw [hex_slice w.heap.size (64 - j) (j + 1) (by omega) (by omega) W]
      simp only [Result.andThen]
      rw [Oper.upon_value]
      go_wp2
      go_ret2
      exact ⟨s, rfl, hs2.out, HB2.out⟩
/-- FormatInt of package internal/strconv, in base 16 -/
theorem ifmt16_c (n : Nat) (w : World) (hn : n < 16777216) (hg : Hid (Gl w)) : Calls Tryd.prog 58 #[.int .i64 n, .int .i64 16] w (StrE w (digs 16 (nd 16 5 n) n)) := by
  have b1 : decide ((n : Int) < 0) = false := by simp
  go_enter Tryd.func58, Tryd.ntmps58
  go_wp2_with fail
  refine (fb_c n w hn hg).mono ?_
  rintro e w' ⟨s, rfl, hs, hb⟩
  have Hs := hid hs
  have Hb := hid hb
  clear hs hb
  go_wp2
  go_ret
  exact ⟨s, rfl, Hs.out, Hb.out⟩
theorem fmt16_c (n : Nat) (w : World) (hn : n < 16777216) (hg : Hid (Gl w)) : Calls Tryd.prog 51 #[.int .i64 n, .int .i64 16] w (StrE w (digs 16 (nd 16 5 n) n)) := by
  go_enter Tryd.func51, Tryd.ntmps51
  go_wp2_with fail
  refine (ifmt16_c n w hn hg).mono ?_
  rintro e w' ⟨s, rfl, hs, hb⟩
  have Hs := hid hs
  have Hb := hid hb
  clear hs hb
  go_wp2
  go_ret
  exact ⟨s, rfl, Hs.out, Hb.out⟩
/-- with leading zeros -/
theorem padded_any (b d k n : Nat) (w : World) (hd : d ≤ 100) (hk : k ≤ d) (hn : n < b ^ k) (h0 : 0 < b) (h36 : b ≤ 36) (hF : Hid (Calls Tryd.prog 51 #[.int .i64 n, .int .i64 b] w (StrE w (digs b k n)))) :
    Calls Tryd.prog 39 #[.int .i64 n, .int .i64 b, .int .i64 d] w (StrE w (digs b d n)) := by
  go_enter Tryd.func39, Tryd.ntmps39
  go_wp2_with fail
  refine hF.out.mono ?_
  rintro e w1 ⟨s, rfl, hs, hb⟩
  have hl : s.size = k := by rw [hs.asc_size (digs_asc b h0 h36 k n), digs_len]
  have Hs := hid hs
  have Hb := hid hb
  have e1 : IntKind.i64.wrap ((d : Int) - (k : Int)) = ((d - k : Nat) : Int) := by rw [IntKind.wrap_i64]; omega
  clear hs hb
  go_wp2_with fail
  refine (repeat_c (d - k) w1 (by omega)).mono ?_
  rintro e w2 ⟨r, rfl, hr, hb2⟩
  have hrl : r.size = d - k := by
    rw [hr.asc_size (by rw [asc, List.all_eq_true]; intro x hx; rw [List.eq_of_mem_replicate hx]; rfl), List.length_replicate]
  have hsum : ¬ (9223372036854775807 < r.size + s.size) := by omega
  have Hr := hid hr
  have Hb2 := hid hb2
  have Hres : Hid (Str (r ++ s) (digs b d n)) := by
    have := hr.app Hs.out
    rw [← digs_pad b (d - k) k n hn, show d - k + k = d by omega] at this
    exact this
  clear hr hb2
  go_wp2
  go_ret
  exact ⟨_, rfl, Hres.out, bthen Hb.out Hb2.out⟩
theorem padded10_c (d n : Nat) (w : World) (hd : d + 1 ≤ 10) (hn : n < 10 ^ (d + 1)) (hg : Hid (Gl w)) : Calls Tryd.prog 39 #[.int .i64 n, .int .i64 10, .int .i64 ((d + 1 : Nat) : Int)] w (StrE w (digs 10 (d + 1) n)) := by
  have h1 : (10 : Nat) ^ (d + 1) ≤ 10 ^ 10 := Nat.pow_le_pow_right (by decide) hd
  have h2 : (10 : Nat) ^ 10 < 9223372036854775808 := by decide
  exact padded_any 10 (d + 1) (Lib.nDigits n) n w (by omega) (nDigits_le d n hn) (Lib.lt_pow_nDigits n) (by decide) (by decide) (hid (fmt10_c n w (by omega) hg))
theorem padded16_c (n : Nat) (w : World) (hn : n < 16777216) (hg : Hid (Gl w)) : Calls Tryd.prog 39 #[.int .i64 n, .int .i64 16, .int .i64 6] w (StrE w (digs 16 6 n)) :=
  padded_any 16 6 (nd 16 5 n) n w (by omega) (nd_le 16 5 n) (lt_pow_nd 16 (by decide) 5 n (by simpa using hn)) (by decide) (by decide) (hid (fmt16_c n w hn hg))
end Go.Proofs.YtijhkpbnalnpbaaDoor
