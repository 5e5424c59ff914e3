/- The walk of TreapOne. -/
import Derived.Test.YtaondjklclpdkaaTrw
import Derived.Deep.RegionHeld3
namespace Go.Proofs.Ytaondjklclpdkaa
open Go.RowKit

/-! ## two sets of the code's side by side -/
def Twin (B : Nat) (w : World) (s t : Nat) (l l' : List Mk) : Prop :=
  ∃ F G, SetL w F s l ∧ SetL w G t l' ∧ Dis F G ∧ (∀ k, F k → B ≤ k) ∧ (∀ k, G k → B ≤ k) ∧ B ≤ w.heap.size
theorem Twin.bel {B : Nat} {w w' : World} {s t : Nat} {l l' : List Mk} (h : Twin B w s t l l') (hb : Below w.heap.size w w') : Twin B w' s t l l' := by
  obtain ⟨F, G, h1, h2, h3, h4, h5, h6⟩ := h
  exact ⟨F, G, h1.bel hb, h2.bel hb, h3, h4, h5, Nat.le_trans h6 hb.size⟩
theorem Twin.symm {B : Nat} {w : World} {s t : Nat} {l l' : List Mk} (h : Twin B w s t l l') : Twin B w t s l' l := by
  obtain ⟨F, G, h1, h2, h3, h4, h5, h6⟩ := h
  exact ⟨G, F, h2, h1, h3.symm, h5, h4, h6⟩
theorem Twin.one {B : Nat} {w : World} {s t : Nat} {l l' : List Mk} (h : Twin B w s t l l') : One B w s l := by
  obtain ⟨F, G, h1, h2, h3, h4, h5, h6⟩ := h
  exact ⟨F, h1, h4, h6⟩
theorem Twin.turn {B : Nat} {w : World} {s t : Nat} {l l' l2 : List Mk} {f : FuncId} {args : Array Value} {v : Value} (h : Twin B w s t l l')
    (hc : ∀ F, SetL w F s l → Calls Try.prog f args w fun e w' => e = .returned v ∧ SLft w F s l2 w') :
    Calls Try.prog f args w fun e w' => e = .returned v ∧ Twin B w' s t l2 l' ∧ Below B w w' := by
  obtain ⟨F, G, h1, h2, h3, h4, h5, h6⟩ := h
  refine (hc _ h1.lt).mono ?_
  rintro e w' ⟨rfl, k1, k2⟩
  refine ⟨rfl, ⟨_, _, k1, h2.lt.kpt k2 (fun k a b => h3 k b.1 a.1), ?_, ?_, fun k hk => h5 k hk.1, Nat.le_trans h6 k2.size⟩, k2.below (fun k hk => h4 k hk.1) h6⟩
  · rintro k (hk | hk) hg
    · exact h3 k hk.1 hg.1
    · omega
  · rintro k (hk | hk)
    · exact h4 k hk.1
    · omega
theorem twin_new {B : Nat} {w : World} {s : Nat} (h : One B w s []) : Calls Try.prog 9 #[] w fun e w' => ∃ t, e = .returned (.pointer (some ⟨t, 0, none⟩)) ∧ Twin B w' s t [] [] ∧ Below w.heap.size w w' := by
  obtain ⟨F, h1, h2, h3⟩ := h
  refine (new_c w).mono ?_
  rintro e w' ⟨rfl, k1, k2, k3⟩
  exact ⟨_, rfl, ⟨_, _, h1.lt.bel k2, k1, fun k a b => by omega, fun k hk => h2 k hk.1, fun k hk => by omega, by omega⟩, k2⟩
theorem twin_add {B : Nat} {w : World} {s t : Nat} {l l' : List Mk} (m : Mk) (h : Twin B w s t l l') (g : Gd l) (hi : ir m.id ∧ ir m.pr) {x : Int} {l2 : List Mk} (hx : addE l m = x) (hl : addL l m = l2) :
    Calls Try.prog 14 #[.pointer (some ⟨s, 0, none⟩), (.agg #[.int .i64 m.id, .int .i64 m.fr, .int .i64 m.to, .int .i64 m.pr])] w fun e w' => e = .returned (.int .i64 x) ∧ Twin B w' s t l2 l' ∧ Below B w w' := by
  subst hx; subst hl
  exact h.turn fun F hF => add_c m s l w F hF g hi
theorem twin_remove {B : Nat} {w : World} {s t : Nat} {l l' : List Mk} (i : Int) (h : Twin B w s t l l') (g : Gd l) {x : Int} {l2 : List Mk} (hx : remE l i = x) (hl : remL l i = l2) :
    Calls Try.prog 15 #[.pointer (some ⟨s, 0, none⟩), .int .i64 i] w fun e w' => e = .returned (.int .i64 x) ∧ Twin B w' s t l2 l' ∧ Below B w w' := by
  subst hx; subst hl
  exact h.turn fun F hF => remove_c i s l w F hF g
/-! ## Index named ahead -/
theorem index_v (k : Int) (n : Nat) (hn : 0 < n) (hn2 : n ≤ 1000000) : ∃ d : Nat, d < n ∧ ∀ w, Calls Try.prog 13 #[.int .i64 k, .int .i64 n] w fun e w' => e = .returned (.int .i64 d) ∧ w = w' := by
  have hb := band_le k 4294967295 (by decide)
  rw [show ((4294967295 : Nat) : Int) = 4294967295 from rfl] at hb
  obtain ⟨m, hm⟩ := Int.eq_ofNat_of_zero_le hb.1
  rw [hm] at hb
  have hx : (bits .and .i64 k 4294967295).tmod n = ((m % n : Nat) : Int) := by rw [hm]; rfl
  have Hx := hid hx
  clear hx
  refine ⟨m % n, Nat.mod_lt _ hn, fun w => ?_⟩
  go_enter Try.func13, Try.ntmps13
  go_wp2
  go_ret
  refine ⟨ret_int ?_, rfl⟩
  first | exact Hx.out | (have := Hx.out; rw [hm] at this; exact this)
/-! ## the marks in another order, with others between -/
def kq (n d i : Nat) : Nat := if i + d < n then i + d else i + d - n
theorem kq_mod {n d i : Nat} (hd : d < n) (hi : i < n) : (i + d) % n = kq n d i := by
  unfold kq
  split
  · rename_i h; exact Nat.mod_eq_of_lt h
  · rename_i h; rw [Nat.mod_eq_sub_mod (by omega), Nat.mod_eq_of_lt (by omega)]
theorem kq_lt {n d i : Nat} (hd : d < n) (hi : i < n) : kq n d i < n := by unfold kq; split <;> omega
theorem kq_inj {n d i j : Nat} (_hd : d < n) (hi : i < n) (hj : j < n) (h : kq n d i = kq n d j) : i = j := by unfold kq at h; split at h <;> split at h <;> omega
theorem kq_all {n d j : Nat} (hd : d < n) (hj : j < n) : ∃ i, i < n ∧ n - 1 - kq n d i = j := by
  by_cases h : d ≤ n - 1 - j
  · exact ⟨n - 1 - j - d, by omega, by unfold kq; split <;> omega⟩
  · exact ⟨n - 1 - j + n - d, by omega, by unfold kq; split <;> omega⟩
def exM (ms : List Mk) (d i : Nat) : Mk := ⟨100 + (i : Int), (mgt ms i).to, 60, (mgt ms (kq ms.length d i)).pr⟩
def jq (n d i : Nat) : Nat := n - 1 - kq n d i
def twL (ms : List Mk) (d : Nat) : Nat → List Mk
  | 0 => []
  | i + 1 => putM (putM (twL ms d i) (exM ms d i)) (mgt ms (jq ms.length d i))
theorem tw_mem (ms : List Mk) (d k : Nat) (x : Mk) : x ∈ twL ms d k ↔ (∃ i, i < k ∧ x = exM ms d i) ∨ ∃ i, i < k ∧ x = mgt ms (jq ms.length d i) := by
  induction k with
  | zero => simp [twL]
  | succ k ih =>
    simp only [twL]
    rw [putM_mem, putM_mem, ih]
    constructor
    · rintro (rfl | rfl | ⟨i, hi, rfl⟩ | ⟨i, hi, rfl⟩)
      · exact .inr ⟨k, by omega, rfl⟩
      · exact .inl ⟨k, by omega, rfl⟩
      · exact .inl ⟨i, by omega, rfl⟩
      · exact .inr ⟨i, by omega, rfl⟩
    · rintro (⟨i, hi, rfl⟩ | ⟨i, hi, rfl⟩)
      · rcases Nat.lt_or_ge i k with h | h
        · exact .inr (.inr (.inl ⟨i, h, rfl⟩))
        · obtain rfl : i = k := by omega
          exact .inr (.inl rfl)
      · rcases Nat.lt_or_ge i k with h | h
        · exact .inr (.inr (.inr ⟨i, h, rfl⟩))
        · obtain rfl : i = k := by omega
          exact .inl rfl
theorem tw_len (ms : List Mk) (d k : Nat) : (twL ms d k).length = 2 * k := by
  induction k with
  | zero => rfl
  | succ k ih => simp only [twL]; rw [putM_len, putM_len, ih]; omega
theorem jq_lt {n d i : Nat} (hd : d < n) (_hi : i < n) : jq n d i < n := by unfold jq; omega
theorem jq_id {ms : List Mk} (h : MkL ms) {d i : Nat} (hd : d < ms.length) (hi : i < ms.length) : (mgt ms (jq ms.length d i)).id = (jq ms.length d i : Nat) := (h.at_ _ (jq_lt hd hi)).1
theorem ex_ok {ms : List Mk} (h : MkL ms) {d i : Nat} (hd : d < ms.length) (hi : i < ms.length) : spanOk (exM ms d i).fr (exM ms d i).to = true ∧ ir (exM ms d i).id ∧ ir (exM ms d i).pr := by
  have h1 := h.at_ i hi
  have h2 := h.at_ _ (kq_lt hd hi)
  have h3 := h.len
  refine ⟨?_, ir_small (by simp only [exM]; omega), ir_small (by simp only [exM]; omega)⟩
  unfold spanOk; apply decide_eq_true; simp only [exM]; omega
theorem tw_ex {ms : List Mk} (h : MkL ms) {d k : Nat} (hd : d < ms.length) (hk : k < ms.length) : pos (twL ms d k) (exM ms d k).id = (twL ms d k).length := by
  rw [pos_none]
  intro y hy
  have h3 := h.len
  rcases (tw_mem ms d k y).1 hy with ⟨i, hi, rfl⟩ | ⟨i, hi, rfl⟩
  · simp only [exM]; omega
  · rw [jq_id h hd (by omega)]
    have := jq_lt hd (show i < ms.length by omega)
    simp only [exM]; omega
theorem tw_mk {ms : List Mk} (h : MkL ms) {d k : Nat} (hd : d < ms.length) (hk : k < ms.length) : pos (putM (twL ms d k) (exM ms d k)) (mgt ms (jq ms.length d k)).id = (putM (twL ms d k) (exM ms d k)).length := by
  rw [pos_none]
  intro y hy
  have h3 := h.len
  have hj := jq_lt hd hk
  rw [jq_id h hd hk]
  rcases putM_mem.1 hy with rfl | hy
  · simp only [exM]; omega
  · rcases (tw_mem ms d k y).1 hy with ⟨i, hi, rfl⟩ | ⟨i, hi, rfl⟩
    · simp only [exM]; omega
    · rw [jq_id h hd (by omega)]
      intro e
      have e2 : jq ms.length d i = jq ms.length d k := by omega
      have h4 := kq_lt hd (show i < ms.length by omega)
      have h5 := kq_lt hd hk
      have := kq_inj hd (show i < ms.length by omega) hk (by unfold jq at e2; omega)
      omega
theorem tw_gd {ms : List Mk} (h : MkL ms) {d : Nat} (hd : d < ms.length) : ∀ k, k ≤ ms.length → Gd (twL ms d k) := by
  intro k
  induction k with
  | zero => intro _; exact Gd.nil
  | succ k ih =>
    intro hk
    have h3 := h.len
    obtain ⟨e1, e2, e3⟩ := ex_ok h hd (show k < ms.length by omega)
    have g1 := (ih (by omega)).put e1 (tw_ex h hd (by omega)) (by rw [tw_len]; omega) ⟨e2, e3⟩
    exact g1.put (h.span (jq_lt hd (by omega))) (tw_mk h hd (by omega)) (by rw [putM_len, tw_len]; omega) (h.irs (jq_lt hd (by omega)))
theorem tw_gd1 {ms : List Mk} (h : MkL ms) {d k : Nat} (hd : d < ms.length) (hk : k < ms.length) : Gd (putM (twL ms d k) (exM ms d k)) := by
  have h3 := h.len
  obtain ⟨e1, e2, e3⟩ := ex_ok h hd hk
  exact (tw_gd h hd k (by omega)).put e1 (tw_ex h hd hk) (by rw [tw_len]; omega) ⟨e2, e3⟩
theorem tw_add {ms : List Mk} (h : MkL ms) {d k : Nat} (hd : d < ms.length) (hk : k < ms.length) :
    (addE (twL ms d k) (exM ms d k) = 0 ∧ addL (twL ms d k) (exM ms d k) = putM (twL ms d k) (exM ms d k)) ∧
    (addE (putM (twL ms d k) (exM ms d k)) (mgt ms (jq ms.length d k)) = 0 ∧ addL (putM (twL ms d k) (exM ms d k)) (mgt ms (jq ms.length d k)) = twL ms d (k + 1)) := by
  have h3 := h.len
  have a1 : addE (twL ms d k) (exM ms d k) = 0 := addE_zero.2 ⟨(ex_ok h hd hk).1, tw_ex h hd hk, by rw [tw_len]; omega⟩
  have a2 : addE (putM (twL ms d k) (exM ms d k)) (mgt ms (jq ms.length d k)) = 0 := addE_zero.2 ⟨h.span (jq_lt hd hk), tw_mk h hd hk, by rw [putM_len, tw_len]; omega⟩
  exact ⟨⟨a1, by unfold addL; rw [if_pos a1]⟩, a2, by unfold addL; rw [if_pos a2]; rfl⟩
/-- the others taken out again -/
def rmL (l : List Mk) : Nat → List Mk
  | 0 => l
  | k + 1 => remL (rmL l k) (100 + (k : Int))
theorem rm_gd {l : List Mk} (g : Gd l) (k : Nat) : Gd (rmL l k) := by
  induction k with
  | zero => exact g
  | succ k ih => exact ih.rem _
theorem rm_mem {l : List Mk} (g : Gd l) (k : Nat) (x : Mk) : x ∈ rmL l k ↔ x ∈ l ∧ ∀ i : Nat, i < k → x.id ≠ 100 + (i : Int) := by
  induction k with
  | zero => simp [rmL]
  | succ k ih =>
    simp only [rmL, remL]
    have gk := rm_gd g k
    by_cases hp : pos (rmL l k) (100 + (k : Int)) < (rmL l k).length
    · rw [takM_mem gk.ids hp, ih, pos_id hp]
      constructor
      · rintro ⟨⟨h1, h2⟩, h3⟩
        refine ⟨h1, fun i hi => ?_⟩
        rcases Nat.lt_or_ge i k with h | h
        · exact h2 i h
        · obtain rfl : i = k := by omega
          exact h3
      · rintro ⟨h1, h2⟩
        exact ⟨⟨h1, fun i hi => h2 i (by omega)⟩, h2 k (by omega)⟩
    · have hle := pos_le (rmL l k) (100 + (k : Int))
      rw [takM_out _ (by omega), ih]
      constructor
      · rintro ⟨h1, h2⟩
        refine ⟨h1, fun i hi => ?_⟩
        rcases Nat.lt_or_ge i k with h | h
        · exact h2 i h
        · obtain rfl : i = k := by omega
          exact pos_none.1 (by omega) x (ih.2 ⟨h1, h2⟩)
      · rintro ⟨h1, h2⟩
        exact ⟨h1, fun i hi => h2 i (by omega)⟩
theorem rm_ok {ms : List Mk} (h : MkL ms) {d k : Nat} (hd : d < ms.length) (hk : k < ms.length) : remE (rmL (twL ms d ms.length) k) (100 + (k : Int)) = 0 := by
  have hm : exM ms d k ∈ rmL (twL ms d ms.length) k := (rm_mem (tw_gd h hd _ (Nat.le_refl _)) k _).2 ⟨(tw_mem ms d _ _).2 (.inl ⟨k, hk, rfl⟩), fun i hi => by simp only [exM]; omega⟩
  unfold remE
  rw [if_pos]
  exact pos_mem hm
theorem rm_one {ms : List Mk} (h : MkL ms) {d : Nat} (hd : d < ms.length) : rmL (twL ms d ms.length) ms.length = insL ms ms.length := by
  have g := tw_gd h hd _ (Nat.le_refl _)
  have h3 := h.len
  refine ord_one (rm_gd g _).ord (insL_gd h _ (Nat.le_refl _)).ord fun x => ?_
  rw [rm_mem g, tw_mem, insL_mem]
  constructor
  · rintro ⟨⟨i, hi, rfl⟩ | ⟨i, hi, rfl⟩, h2⟩
    · exact absurd rfl (h2 i hi)
    · exact ⟨_, jq_lt hd hi, rfl⟩
  · rintro ⟨j, hj, rfl⟩
    obtain ⟨i, hi, he⟩ := kq_all hd hj
    refine ⟨.inr ⟨i, hi, by unfold jq; rw [he]⟩, fun i hi => ?_⟩
    rw [(h.at_ j hj).1]; omega
set_option maxRecDepth 20000 in
set_option maxHeartbeats 60000000 in
theorem one_w (a0 : Option Addr) (c0 : Nat) (l0 : List Mk) (by_ : Int) (W : World) (h0 : MSl W a0 l0) :
    Calls Try.prog 5 #[.slice a0 l0.length c0, .int .i64 by_] W fun e w' => e = .returned (.bool true) ∧ Below W.heap.size W w' := by
  go_enter Try.func5, Try.ntmps5
  go_wp2_with fail
  refine (marks_c a0 c0 l0 W h0).mono ?_
  rintro e w1 ⟨am, cm, ms, rfl, hM, hOm, b1⟩
  have HM := hid hM
  have hn := hM.len
  have HOm := hid hOm
  have B1 := hid b1
  clear hM hOm h0
  go_wp2_with fail
  refine (one_new (B := w1.heap.size) (Nat.le_refl _)).mono ?_
  rintro e w2 ⟨s, rfl, hO, b2⟩
  have O2 := hid hO
  clear hO
  go_wp2_with fail
  refine (twin_new O2.out).mono ?_
  rintro e w3 ⟨t, rfl, hT, b3⟩
  have T3 := hid hT
  have x3 := b2.trans (b3.mono b2.size)
  clear hT
  obtain ⟨d, hd⟩ : ∃ d : Nat, 0 < ms.length → d < ms.length ∧ ∀ w, Calls Try.prog 13 #[.int .i64 by_, .int .i64 ms.length] w fun e w' => e = .returned (.int .i64 d) ∧ w = w' := by
    by_cases h : 0 < ms.length
    · obtain ⟨d, h1, h2⟩ := index_v by_ ms.length h (by omega)
      exact ⟨d, fun _ => ⟨h1, h2⟩⟩
    · exact ⟨0, fun h' => absurd h' h⟩
  have Hd := hid hd
  clear hd
  go_wp2_with fail
  go_loopw [26] (fun iv wr => ∃ k : Nat, k ≤ ms.length ∧ iv = .int .i64 k ∧ Hid (Twin w1.heap.size wr s t (insL ms k) (twL ms d k)) ∧ Below w1.heap.size w1 wr) (fun iv _ => ms.length - (intOf iv).toNat)
  case atStart => exact ⟨0, Nat.zero_le _, rfl, T3.out, x3⟩
  case round =>
    obtain ⟨i, hk, rfl, hTk, hb⟩ := hrel
    by_cases hlt : i < ms.length
    · have hdd : decide (i < ms.length) = true := by simpa using hlt
      obtain ⟨hd1, hd2⟩ := Hd.out (by omega)
      have HIx := hid hd2
      have Hadd := hid (insL_add HM.out hlt)
      have Htw := hid (tw_add HM.out hd1 hlt)
      have Hg := hid (insL_gd HM.out i hk)
      have Hg2 := hid (tw_gd HM.out hd1 i hk)
      have Hg3 := hid (tw_gd1 HM.out hd1 hlt)
      have Hir := hid (HM.out.irs hlt)
      have Hir2 := hid (ex_ok HM.out hd1 hlt).2
      have Hir3 := hid (HM.out.irs (jq_lt hd1 hlt))
      have hkl := kq_lt hd1 hlt
      have hjl := jq_lt hd1 hlt
      have hmod := kq_mod hd1 hlt
      obtain ⟨k, hkk⟩ : ∃ k, k = kq ms.length d i := ⟨_, rfl⟩
      obtain ⟨j, hjj⟩ : ∃ j, j = jq ms.length d i := ⟨_, rfl⟩
      have hjv : (j : Int) = (ms.length : Int) - 1 - (k : Int) := by rw [hjj, hkk]; unfold jq; omega
      have hex : exM ms d i = ⟨100 + (i : Int), (mgt ms i).to, 60, (mgt ms k).pr⟩ := by rw [hkk]; rfl
      rw [← hkk] at hkl hmod
      rw [← hjj] at hjl Htw Hir3
      rw [hex] at Htw Hir2 Hg3
      have e1 : (wrap64 ((i : Int) + (d : Int))).tmod (ms.length : Int) = (k : Int) := by
        have : wrap64 ((i : Int) + (d : Int)) = ((i + d : Nat) : Int) := by unfold wrap64; omega
        rw [this, ← hmod]; rfl
      have e1' : ((i : Int) + (d : Int)).tmod (ms.length : Int) = (k : Int) := by rw [← hmod]; rfl
      have e2 : IntKind.i64.wrap (100 + (i : Int)) = 100 + (i : Int) := by rw [IntKind.wrap_i64]; omega
      have e3 : IntKind.i64.wrap (IntKind.i64.wrap ((ms.length : Int) - 1) - (k : Int)) = (j : Int) := by
        rw [show IntKind.i64.wrap ((ms.length : Int) - 1) = (ms.length : Int) - 1 by rw [IntKind.wrap_i64]; omega, IntKind.wrap_i64]; omega
      have e4 : ((ms.length : Int) == 0) = false := beq_eq_false_iff_ne.2 (by omega)
      have e5 : (ms.length == 0) = false := beq_eq_false_iff_ne.2 (by omega)
      have e6 : ms.length ≠ 0 := by omega
      obtain ⟨bb, off, rfl, hcs⟩ := (HOm.out.grow hb).sl.at hlt
      have HC : Hid (∀ w', Below w1.heap.size w1 w' → (w'.cell? ⟨bb, off + i * 4, none⟩ = some (.int .i64 (mgt ms i).id) ∧ w'.cell? ⟨bb, off + i * 4 + 1, none⟩ = some (.int .i64 (mgt ms i).fr) ∧ w'.cell? ⟨bb, off + i * 4 + 2, none⟩ = some (.int .i64 (mgt ms i).to) ∧ w'.cell? ⟨bb, off + i * 4 + 3, none⟩ = some (.int .i64 (mgt ms i).pr)) ∧ (w'.cell? ⟨bb, off + j * 4, none⟩ = some (.int .i64 (mgt ms j).id) ∧ w'.cell? ⟨bb, off + j * 4 + 1, none⟩ = some (.int .i64 (mgt ms j).fr) ∧ w'.cell? ⟨bb, off + j * 4 + 2, none⟩ = some (.int .i64 (mgt ms j).to) ∧ w'.cell? ⟨bb, off + j * 4 + 3, none⟩ = some (.int .i64 (mgt ms j).pr)) ∧ w'.cell? ⟨bb, off + k * 4 + 3, none⟩ = some (.int .i64 (mgt ms k).pr)) := fun w' hb' => by
        obtain ⟨bb', off', he, hcs⟩ := (HOm.out.grow hb').sl.at hlt
        simp only [Option.some.injEq, Addr.mk.injEq, and_true] at he
        obtain ⟨rfl, rfl⟩ := he
        exact ⟨hcs i hlt, hcs j hjl, (hcs k hkl).2.2.2⟩
      obtain ⟨mi, hmi⟩ : ∃ m, m = mgt ms i := ⟨_, rfl⟩
      obtain ⟨mj, hmj⟩ : ∃ m, m = mgt ms j := ⟨_, rfl⟩
      obtain ⟨pk, hpk⟩ : ∃ p, p = (mgt ms k).pr := ⟨_, rfl⟩
      rw [← hmi, ← hpk] at Htw Hir2 Hg3
      rw [← hmi] at Hadd Hir HC
      rw [← hmj] at Htw Hir3 HC
      rw [← hpk] at HC
      have kk := HC.out _ hb
      obtain ⟨⟨k0, k1, k2, k3⟩, ⟨j0, j1, j2, j3⟩, p3⟩ := kk
      have Hb := hid hb
      have Hjunk := hid (And.intro hmi (And.intro hmj (And.intro hpk (And.intro hkk (And.intro hjj (And.intro hmod hjv))))))
      clear hcs hmi hmj hpk hkk hjj hmod hjv hex hd2 hd1
      generalize hL2 : insL ms (i + 1) = L2 at *
      generalize hL3 : twL ms d (i + 1) = M2 at *
      have HL2 := hid hL2
      have HL3 := hid hL3
      clear hL2 hL3
      generalize insL ms i = L at *
      generalize twL ms d i = M at *
      generalize putM M ⟨100 + (i : Int), mi.to, 60, pk⟩ = M1 at *
      go_wp2_with fail
      refine (HIx.out wr).mono ?_
      rintro e w4 ⟨rfl, rfl⟩
      go_upto_region 10 with fail
      have xr : Below w1.heap.size w1 wr.drew := Hb.out.drew
      have kk := HC.out _ xr
      obtain ⟨⟨l0_, l1_, l2_, l3_⟩, ⟨l4_, l5_, l6_, l7_⟩, l8_⟩ := kk
      go_region_held3 (fun w' => (w'.cell? ⟨bb, off + i * 4, none⟩ = some (.int .i64 mi.id) ∧ w'.cell? ⟨bb, off + i * 4 + 1, none⟩ = some (.int .i64 mi.fr) ∧ w'.cell? ⟨bb, off + i * 4 + 2, none⟩ = some (.int .i64 mi.to) ∧ w'.cell? ⟨bb, off + i * 4 + 3, none⟩ = some (.int .i64 mi.pr)) ∧ (w'.cell? ⟨bb, off + j * 4, none⟩ = some (.int .i64 mj.id) ∧ w'.cell? ⟨bb, off + j * 4 + 1, none⟩ = some (.int .i64 mj.fr) ∧ w'.cell? ⟨bb, off + j * 4 + 2, none⟩ = some (.int .i64 mj.to) ∧ w'.cell? ⟨bb, off + j * 4 + 3, none⟩ = some (.int .i64 mj.pr)) ∧ w'.cell? ⟨bb, off + k * 4 + 3, none⟩ = some (.int .i64 pk)) (first | (with_reducible assumption) | exact ⟨⟨by with_reducible assumption, by with_reducible assumption, by with_reducible assumption, by with_reducible assumption⟩, ⟨by with_reducible assumption, by with_reducible assumption, by with_reducible assumption, by with_reducible assumption⟩, by with_reducible assumption⟩)
        (first | (go_at_call 14; (with_reducible refine (twin_add mi (hTk.out.bel (Below.refl _ _).drew) Hg.out Hir.out Hadd.out.1 Hadd.out.2).mono ?_); rintro e v1 ⟨rfl, hT1, hb1⟩; have T1 := hid hT1.symm; clear hT1; have x1 := xr.trans hb1; have kk := HC.out _ x1; obtain ⟨⟨q0, q1, q2, q3⟩, ⟨q4, q5, q6, q7⟩, q8⟩ := kk)
               | (go_at_call 14; (with_reducible refine (twin_add ⟨100 + (i : Int), mi.to, 60, pk⟩ T1.out Hg2.out Hir2.out Htw.out.1.1 Htw.out.1.2).mono ?_); rintro e v2 ⟨rfl, hT2, hb2⟩; have T2 := hid hT2; clear hT2; have x2 := x1.trans hb2; have kk := HC.out _ x2; obtain ⟨⟨r0, r1, r2, r3⟩, ⟨r4, r5, r6, r7⟩, r8⟩ := kk)
               | (go_at_call 14; (with_reducible refine (twin_add mj T2.out Hg3.out Hir3.out Htw.out.2.1 Htw.out.2.2).mono ?_); rintro e v3 ⟨rfl, hT3, hb3⟩; have T4 := hid hT3.symm; clear hT3; have x4 := x2.trans hb3; have kk := HC.out _ x4; obtain ⟨⟨t0, t1, t2, t3⟩, ⟨t4, t5, t6, t7⟩, t8⟩ := kk))
      clear l0_ l1_ l2_ l3_ l4_ l5_ l6_ l7_ l8_ q0 q1 q2 q3 q4 q5 q6 q7 q8 r0 r1 r2 r3 r4 r5 r6 r7 r8 t0 t1 t2 t3 t4 t5 t6 t7 t8 k0 k1 k2 k3 j0 j1 j2 j3 p3
      go_wp2_with fail
      go_roundw
      case rel => exact ⟨i + 1, by omega, by go_num, by rw [HL2.out, HL3.out]; exact T4, x4⟩
      case measure => (simp [intOf] <;> omega)
    · have hdd : decide (i < ms.length) = false := by simpa using hlt
      obtain rfl : i = ms.length := by omega
      have Hg := hid (insL_gd HM.out ms.length (Nat.le_refl _))
      obtain ⟨M, hM0⟩ : ∃ M, M = twL ms d ms.length := ⟨_, rfl⟩
      obtain ⟨L, hL0⟩ : ∃ L, L = insL ms ms.length := ⟨_, rfl⟩
      have Hrg : Hid (∀ k, Gd (rmL M k)) := fun k => by
        by_cases h : 0 < ms.length
        · rw [hM0]; exact rm_gd (tw_gd HM.out (Hd.out h).1 _ (Nat.le_refl _)) k
        · rw [hM0, show ms.length = 0 by omega]; exact rm_gd Gd.nil k
      have Hro : Hid (∀ k, k < ms.length → remE (rmL M k) (100 + (k : Int)) = 0) := fun k hk => by
        rw [hM0]; exact rm_ok HM.out (Hd.out (by omega)).1 hk
      have Hr1 : Hid (rmL M ms.length = L) := by
        by_cases h : 0 < ms.length
        · rw [hM0, hL0]; exact rm_one HM.out (Hd.out h).1
        · rw [hM0, hL0, show ms.length = 0 by omega]; exact rfl
      rw [← hL0] at Hg
      rw [← hL0, ← hM0] at hTk
      have hb1 := bthen B1.out hb
      clear hlt hM0 hL0 b1 b2 b3 x3 O2 T3
      generalize ms.length = n at *
      go_wp2_with fail
      go_loopw [76] (fun iv w5 => ∃ k : Nat, k ≤ n ∧ iv = .int .i64 k ∧ Hid (Twin w1.heap.size w5 s t L (rmL M k)) ∧ Below w1.heap.size w1 w5) (fun iv _ => n - (intOf iv).toNat)
      case atStart => exact ⟨0, Nat.zero_le _, rfl, hTk, hb⟩
      case round =>
        rename World => w5
        obtain ⟨k, hk, rfl, hT5, hb5⟩ := hrel
        by_cases hlt : k < n
        · have hd2 : decide (k < n) = true := by simpa using hlt
          have e2 : wrap64 (100 + (k : Int)) = 100 + (k : Int) := by unfold wrap64; omega
          have e3 : IntKind.i64.wrap (100 + (k : Int)) = 100 + (k : Int) := by rw [IntKind.wrap_i64]; omega
          go_wp2_with fail
          refine (twin_remove (100 + (k : Int)) hT5.out.symm (Hrg.out k) (Hro.out k hlt) (l2 := rmL M (k + 1)) rfl).mono ?_
          rintro e w6 ⟨rfl, hT6, hb6⟩
          have T6 := hid hT6.symm
          have x6 := hb5.trans hb6
          clear hT6
          go_wp2_with fail
          go_roundw
          case rel => exact ⟨k + 1, by omega, by go_num, T6, x6⟩
          case measure => (simp [intOf] <;> omega)
        · have hd2 : decide (k < n) = false := by simpa using hlt
          obtain rfl : k = n := by omega
          rw [Hr1.out] at hT5
          clear hlt
          go_wp2_with fail
          go_loopw [87] (fun iv w6 => ∃ q : Nat, q ≤ k ∧ iv = .int .i64 q ∧ Hid (Twin w1.heap.size w6 s t L L) ∧ Below w1.heap.size w1 w6) (fun iv _ => k - (intOf iv).toNat)
          case atStart => exact ⟨0, Nat.zero_le _, rfl, hT5, hb5⟩
          case round =>
            rename World => w6
            obtain ⟨q, hq, rfl, hT6, hb6⟩ := hrel
            by_cases hlt : q < k
            · have hd3 : decide (q < k) = true := by simpa using hlt
              obtain ⟨dv, hdv⟩ : ∃ dv, depL L q = dv := ⟨_, rfl⟩
              have Hdv := hid hdv
              clear hdv
              go_wp2_with fail
              refine (one_depth (q : Int) hT6.out.one Hg.out Hdv.out).mono ?_
              rintro e w7 ⟨rfl, b7⟩
              have T7 := hid (hT6.out.bel b7)
              have x7 := bthen hb6 b7
              go_wp2_with fail
              refine (one_depth (q : Int) T7.out.symm.one Hg.out Hdv.out).mono ?_
              rintro e w8 ⟨rfl, b8⟩
              have T8 := hid (T7.out.bel b8)
              have x8 := bthen x7 b8
              go_wp2_with fail
              go_roundw
              case rel => exact ⟨q + 1, by omega, by go_num, T8, x8⟩
              case measure => (simp [intOf] <;> omega)
            · have hd3 : decide (q < k) = false := by simpa using hlt
              go_wp2_with fail
              refine (one_all hT6.out.one Hg.out).mono ?_
              rintro e w7 ⟨a7, c7, L7, rfl, hL7, ho7, b7⟩
              have T7 := hid (hT6.out.bel b7)
              have x7 := bthen hb6 b7
              have SL7 := hid ho7
              clear ho7
              go_wp2_with fail
              refine (one_all T7.out.symm.one Hg.out).mono ?_
              rintro e w8 ⟨a8, c8, L8, rfl, hL8, ho8, b8⟩
              have x8 := bthen x7 b8
              have S7 := hid (SL7.out.grow b8).sl
              have S8 := hid ho8.sl
              have h78 : L7 = L8 := by rw [hL7.out, hL8.out]
              have hdt : decide (L7 = L8) = true := decide_eq_true h78
              clear ho8 h78
              go_wp2_with fail
              refine (sameMarks_c a7 a8 c7 c8 L7 L8 w8 S7.out S8.out).mono ?_
              rintro e w9 ⟨rfl, nd, rfl⟩
              rw [hdt]
              go_wp2_with fail
              refine (known_c _).mono ?_
              rintro e w9 ⟨rfl, b9⟩
              have x9 := bthen (bdrewN x8 nd) b9
              go_wp2_with fail
              go_ret
              exact ⟨rfl, bthen B1.out x9⟩
end Go.Proofs.Ytaondjklclpdkaa
