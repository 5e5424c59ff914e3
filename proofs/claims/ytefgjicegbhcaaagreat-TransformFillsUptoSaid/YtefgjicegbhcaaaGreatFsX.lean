/- The document's Scan of a format, its parts: stands, number, words, caseName: what their answers may be (not which). The document's Scan of a format, its parts: words, caseName: what their answers may be (not which). The document's Scan of a format, its parts: a part in a variable; caseName; part: what its answers may be (not which). The document's Scan of a format, its parts: part: what its answers may be (not which). The document's Scan of a format: laid; Scan: what it answers can be a format. The document's Scan of a format: what it answers can be a format. Package standishkeep: the tape's Format: a short text. -/
import Derived.Test.YtefgjicegbhcaaaGreatFoY
import Derived.Test.YtefgjicegbhcaaaGreatTpf
import Derived.Test.YtefgjicegbhcaaaGreatPlq
import Derived.BigQuiet
import Derived.Deep.CutBlock
import Derived.Deep.DeepCutAuto
import Derived.Test.YtefgjicegbhcaaaGreatRxn
import Derived.Test.YtefgjicegbhcaaaGreatPla
import Derived.Test.YtefgjicegbhcaaaGreatRxi
import Derived.Test.YtefgjicegbhcaaaGreatPlb
namespace Go.Proofs.YtefgjicegbhcaaaGreat
open Go.RowKit FmM

set_option maxHeartbeats 8000000 in
/-- do a string's signs stand at a place? if so, they are within the text -/
theorem stands_c (a : Option Addr) (c : Nat) (l : List Int) (i : Nat) (s : ByteArray) (w : World) (h : Sl w a l) (hl : l.length ≤ 1000) (hi : i ≤ 2000) (hs : s.size ≤ 1000) :
    Calls Tryz.prog 58 #[.slice a l.length c, .int .i64 i, .string s] w fun e' w' => ∃ b, e' = .returned (.bool b) ∧ (b = true → i + s.size ≤ l.length) ∧ Below w.heap.size w w' := by
  obtain ⟨n, hn⟩ : ∃ n, n = l.length := ⟨_, rfl⟩
  have HS := hid h
  have Hn := hid hn
  rw [← hn] at hl ⊢
  have wm : IntKind.i64.wrap ((n : Int) - (i : Int)) = (n : Int) - (i : Int) := by rw [IntKind.wrap_i64]; omega
  by_cases hb : n < i + s.size
  · have e1 : decide ((n : Int) - (i : Int) < (s.size : Int)) = true := decide_eq_true (by omega)
    clear hn h
    go_enter Tryz.func58, Tryz.ntmps58
    go_wp2_with fail
    go_ret
    exact ⟨false, rfl, (fun h => by cases h), by (repeat' (first | exact Below.refl _ _ | assumption | refine bdrewN ?_ _ | refine Below.drew ?_ | refine Below.setCell ?_ (Nat.le_refl _) _ | refine bal ?_ _ | refine bthen ?_ (by assumption)))⟩
  · have e1 : decide ((n : Int) - (i : Int) < (s.size : Int)) = false := decide_eq_false (by omega)
    clear hn h
    go_enter Tryz.func58, Tryz.ntmps58
    go_wp2_with fail
    go_loopw [7] (fun kv wr => ∃ k : Nat, k ≤ s.size ∧ kv = .int .i64 k ∧ Below w.heap.size w wr) (fun kv _ => s.size - (intOf kv).toNat)
    case atStart => exact ⟨0, by omega, rfl, by (repeat' (first | exact Below.refl _ _ | assumption | refine bdrewN ?_ _ | refine Below.drew ?_ | refine Below.setCell ?_ (Nat.le_refl _) _ | refine bal ?_ _ | refine bthen ?_ (by assumption)))⟩
    case round =>
      obtain ⟨k, hk, rfl, hb2⟩ := hrel
      by_cases hlt : k < s.size
      · obtain ⟨b, o, rfl, hc⟩ := (HS.out.bel hb2).at (i := i + k) (by rw [← Hn.out]; omega)
        have ck := hc (i + k) (by rw [← Hn.out]; omega)
        have wk : IntKind.i64.wrap ((i : Int) + (k : Int)) = (i : Int) + (k : Int) := by rw [IntKind.wrap_i64]; omega
        have e2 : i + k < n := by omega
        generalize gt l (i + k) = x at ck
        clear hc
        go_wp2_with fail
        go_quiet (fail)
        go_wp2_with fail
        · go_ret
          exact ⟨false, rfl, (fun h => by cases h), by (repeat' (first | exact Below.refl _ _ | assumption | refine bdrewN ?_ _ | refine Below.drew ?_ | refine Below.setCell ?_ (Nat.le_refl _) _ | refine bal ?_ _ | refine bthen ?_ (by assumption)))⟩
        · go_roundw
          case rel => exact ⟨k + 1, by omega, by go_num, by (repeat' (first | exact Below.refl _ _ | assumption | refine bdrewN ?_ _ | refine Below.drew ?_ | refine Below.setCell ?_ (Nat.le_refl _) _ | refine bal ?_ _ | refine bthen ?_ (by assumption)))⟩
          case measure => simp [intOf]; omega
      · obtain rfl : k = s.size := by omega
        go_wp2_with fail
        go_ret
        exact ⟨true, rfl, (fun _ => by omega), hb2⟩
def NumE (w : World) (l : List Int) (i : Nat) (e' : Ending) (w' : World) : Prop :=
  ∃ v on : Nat, e' = .returned (.tuple #[.int .i64 v, .int .i64 on]) ∧ ((v = 0 ∧ on = 0) ∨ (v ≤ 99 ∧ i < on ∧ on ≤ l.length)) ∧ Below w.heap.size w w'
set_option maxRecDepth 20000 in
set_option maxHeartbeats 8000000 in
theorem fnum_c (a : Option Addr) (c : Nat) (l : List Int) (i : Nat) (w : World) (h : Sl w a l) (_hl : l.length ≤ 1000) (hi : i ≤ 2000) :
    Calls Tryz.prog 57 #[.slice a l.length c, .int .i64 i] w (NumE w l i) := by
  obtain ⟨n, hn⟩ : ∃ n, n = l.length := ⟨_, rfl⟩
  have HS := hid h
  have Hn := hid hn
  rw [← hn] at _hl ⊢
  clear hn h
  go_enter Tryz.func57, Tryz.ntmps57
  go_wp2_with fail
  go_loopw [6, 7] (fun vv kv wr => ∃ (k v : Nat), kv = .int .i64 k ∧ vv = .int .i64 v ∧ k ≤ 3 ∧ (k = 0 ∨ i + k ≤ n) ∧ (k ≠ 0 ∨ v = 0) ∧ (k ≠ 1 ∨ v ≤ 9) ∧ (k ≠ 2 ∨ v ≤ 99) ∧ v ≤ 999 ∧ Below w.heap.size w wr) (fun _ kv _ => 3 - (intOf kv).toNat)
  case atStart => exact ⟨0, 0, rfl, rfl, by omega, .inl rfl, .inr rfl, .inr (by omega), .inr (by omega), by omega, Below.refl _ _⟩
  case round =>
    obtain ⟨k, v, rfl, rfl, hk, hik, hv0, hv1, hv2, hv3, hb⟩ := hrel
    have HV := hid (And.intro hik (And.intro hv0 (And.intro hv1 hv2)))
    clear hik hv0 hv1 hv2
    have wk : IntKind.i64.wrap ((i : Int) + (k : Int)) = (i : Int) + (k : Int) := by rw [IntKind.wrap_i64]; omega
    have WK := hid (show wrap64 ((i : Int) + (k : Int)) = (i : Int) + (k : Int) by unfold wrap64; omega)
    by_cases hlt : i + k < n
    · have e1 : decide ((i : Int) + (k : Int) < (n : Int)) = true := decide_eq_true (by omega)
      by_cases h3 : k < 3
      · obtain ⟨b, o, rfl, hc⟩ := (HS.out.bel hb).at (i := i + k) (by rw [← Hn.out]; omega)
        have ck := hc (i + k) (by rw [← Hn.out]; omega)
        have e2 : decide ((k : Int) < 3) = true := decide_eq_true (by omega)
        have e3 : decide (k < 3) = true := decide_eq_true h3
        generalize gt l (i + k) = x at ck
        clear hc
        cases hd : dgt x with
        | true =>
          have hx : 48 ≤ x ∧ x ≤ 57 := by simpa [dgt] using hd
          have HD := hid hd
          clear hd
          have DC := hid (rdigit_c x wr)
          rw [HD.out] at DC
          obtain ⟨d, hd⟩ : ∃ d : Nat, d = (x - 48).toNat := ⟨_, rfl⟩
          have hd9 : d ≤ 9 := by omega
          have wx : wrap32 (x - 48) = (d : Int) := by unfold wrap32; omega
          clear hd hx
          go_wp2_with fail
          refine DC.out.mono ?_
          rintro _ _ ⟨rfl, rfl⟩
          go_wp2_with fail
          go_roundw
          case rel => have := HV.out; exact ⟨k + 1, 10 * v + d, by go_num, by go_num, by omega, .inr (by omega), by omega, by omega, by omega, by omega, by (repeat' (first | exact Below.refl _ _ | assumption | refine bdrewN ?_ _ | refine Below.drew ?_ | refine Below.setCell ?_ (Nat.le_refl _) _ | refine bal ?_ _ | refine bthen ?_ (by assumption)))⟩
          case measure => simp [intOf]; omega
        | false =>
          go_wp2_with (go_at_call 87; (with_reducible refine (rdigit_c x _).mono ?_); rintro _ _ ⟨rfl, rfl⟩; rw [hd])
          all_goals
            go_ret2
            first
              | exact ⟨0, 0, rfl, .inl ⟨rfl, rfl⟩, by (repeat' (first | exact Below.refl _ _ | assumption | refine bdrewN ?_ _ | refine Below.drew ?_ | refine Below.setCell ?_ (Nat.le_refl _) _ | refine bal ?_ _ | refine bthen ?_ (by assumption)))⟩
              | ((try simp only [beq_eq_false_iff_ne, ne_eq] at *); have := HV.out; exact ⟨v, i + k, by first | (simp; done) | simp [WK.out], .inr ⟨by omega, by omega, by rw [← Hn.out]; omega⟩, by (repeat' (first | exact Below.refl _ _ | assumption | refine bdrewN ?_ _ | refine Below.drew ?_ | refine Below.setCell ?_ (Nat.le_refl _) _ | refine bal ?_ _ | refine bthen ?_ (by assumption)))⟩)
      · obtain rfl : k = 3 := by omega
        go_wp2_with fail
        go_ret2
        exact ⟨0, 0, rfl, .inl ⟨rfl, rfl⟩, by (repeat' (first | exact Below.refl _ _ | assumption | refine bdrewN ?_ _ | refine Below.drew ?_ | refine Below.setCell ?_ (Nat.le_refl _) _ | refine bal ?_ _ | refine bthen ?_ (by assumption)))⟩
    · have e1 : decide ((i : Int) + (k : Int) < (n : Int)) = false := decide_eq_false (by omega)
      go_wp2_with fail
      all_goals
        go_ret2
        first
          | exact ⟨0, 0, rfl, .inl ⟨rfl, rfl⟩, by (repeat' (first | exact Below.refl _ _ | assumption | refine bdrewN ?_ _ | refine Below.drew ?_ | refine Below.setCell ?_ (Nat.le_refl _) _ | refine bal ?_ _ | refine bthen ?_ (by assumption)))⟩
          | ((try simp only [beq_eq_false_iff_ne, ne_eq] at *); have := HV.out; exact ⟨v, i + k, by first | (simp; done) | simp [WK.out], .inr ⟨by omega, by omega, by rw [← Hn.out]; omega⟩, by (repeat' (first | exact Below.refl _ _ | assumption | refine bdrewN ?_ _ | refine Below.drew ?_ | refine Below.setCell ?_ (Nat.le_refl _) _ | refine bal ?_ _ | refine bthen ?_ (by assumption)))⟩)
end Go.Proofs.YtefgjicegbhcaaaGreat
namespace Go.Proofs.YtefgjicegbhcaaaGreat
open Go.RowKit FmM

theorem may_at {l : List Int} (h : may l = true) {i : Nat} (hi : i < l.length) : sgn (gt l i) = true := by
  rw [may, List.all_eq_true] at h; exact h _ (gt_mem hi)
theorem may_snoc {L : List Int} {x : Int} (h : may L = true) (hx : sgn x = true) : may (L ++ [x]) = true := by
  rw [may_append, h]; simp [may, hx]
def WrdE (w : World) (l : List Int) (i : Nat) (e' : Ending) (w' : World) : Prop :=
  ∃ a' c' L, ∃ on : Nat, e' = .returned (.tuple #[.slice a' L.length c', .int .i64 on]) ∧ Own w' w.heap.size a' c' L ∧ may L = true ∧ L.length ≤ l.length ∧ (on = 0 ∨ (L.length + i < on ∧ on ≤ l.length)) ∧ Below w.heap.size w w'
set_option maxRecDepth 20000 in
set_option maxHeartbeats 8000000 in
theorem fwords_c (a : Option Addr) (c : Nat) (l : List Int) (i : Nat) (r : Int) (w : World) (h : Sl w a l) (hm : may l = true) (hl : l.length ≤ 1000) (hi : i ≤ 2000) :
    Calls Tryz.prog 60 #[.slice a l.length c, .int .i64 i, .int .i32 r] w (WrdE w l i) := by
  obtain ⟨n, hn⟩ : ∃ n, n = l.length := ⟨_, rfl⟩
  have HS := hid h
  have Hn := hid hn
  have HM := hid hm
  rw [← hn] at hl ⊢
  clear hn h hm
  go_enter Tryz.func60, Tryz.ntmps60
  go_wp2_with fail
  go_loopw [1, 8] (fun iv ov wr => ∃ (j : Nat) (az : Option Addr) (cz : Nat) (L : List Int), iv = .int .i64 j ∧ ov = .slice az L.length cz ∧ i ≤ j ∧ j ≤ n + 2000 ∧ L.length + i ≤ j ∧ Hid (Own wr w.heap.size az cz L) ∧ Hid (may L = true) ∧ Below w.heap.size w wr) (fun iv _ _ => n + 2000 - (intOf iv).toNat)
  case atStart => exact ⟨i, none, 0, [], rfl, rfl, by omega, by omega, by simp, hid (Own.nil _ _), hid rfl, Below.refl _ _⟩
  case round =>
    obtain ⟨j, az, cz, L, rfl, rfl, hij, hjn, hLj, HO, HL, hb⟩ := hrel
    have hbz := hb.size
    by_cases hlt : j < n
    · obtain ⟨b, o, rfl, hc⟩ := (HS.out.bel hb).at (i := j) (by rw [← Hn.out]; exact hlt)
      have ck := hc j (by rw [← Hn.out]; exact hlt)
      have hrx := rng_gt HS.out.rng (i := j) (by rw [← Hn.out]; exact hlt)
      have hsx := hid (may_at HM.out (i := j) (by rw [← Hn.out]; exact hlt))
      have hnext : ∀ h : j + 1 < n, wr.cell? ⟨b, o + (j + 1), none⟩ = some (.int .i32 (gt l (j + 1))) := fun h => hc (j + 1) (by rw [← Hn.out]; exact h)
      have hrn : ∀ h : j + 1 < n, (-2147483648 ≤ gt l (j + 1) ∧ gt l (j + 1) ≤ 2147483647) ∧ sgn (gt l (j + 1)) = true := fun h => ⟨rng_gt HS.out.rng (by rw [← Hn.out]; exact h), may_at HM.out (by rw [← Hn.out]; exact h)⟩
      have HN := hid hnext
      have HRN := hid hrn
      generalize gt l j = x at *
      generalize gt l (j + 1) = y at *
      clear hc hnext hrn
      have HLl := hid hLj
      by_cases hx : x = r
      · have b1 : (x == r) = true := by simpa using hx
        go_wp2_with fail
        go_ret2
        exact ⟨az, cz, L, j + 1, by simp, HO.out, HL.out, by rw [← Hn.out]; omega, .inr ⟨by omega, by rw [← Hn.out]; omega⟩, hb⟩
      have b1 : (x == r) = false := by simpa using hx
      clear hx
      have plain : ∀ u : Bool, u = u := fun _ => rfl
      clear plain
      by_cases h92 : x = 92 ∧ j + 1 < n
      · obtain ⟨rfl, hj1⟩ := h92
        have cy := HN.out hj1
        have hry := HRN.out hj1
        have e1 : decide ((j : Int) + 1 < (n : Int)) = true := decide_eq_true (by omega)
        have e2 : decide (j + 1 < n) = true := decide_eq_true hj1
        have HC := hid (has_d ⟨#[92, 125, 58, 36, 47]⟩ y wr (by decide))
        generalize hasL _ y = bb at HC
        cases bb with
        | true =>
          go_wp2_with (first | (go_at_call 31; refine HC.out.mono ?_; rintro _ _ ⟨rfl, rfl⟩) | (at_builtin; (refine wpL_appn rfl (.tmp 53) (.tmp 59) rfl w.heap.size az (some ⟨wr.heap.size, 0, none⟩) L.length 1 cz 1 L [y] rfl (by first | rfl | simp | omega) (HO.out.grow (by (repeat' (first | exact Below.refl _ _ | assumption | refine bdrewN ?_ _ | refine Below.drew ?_ | refine bal ?_ _ | refine bthen ?_ (by assumption))))) rfl (by first | rfl | simp | omega) (Sl.lit' wr [y] _ wr.heap.size rfl (by simp) (rng_one hry.1) _ rfl) (by have := HLl.out; simp; omega) (by simp; omega) ?_); intro a5 c5 w5 L5 Hl5 ho5 hb5 hk5 hA5; have HA5 := hid hA5; clear hA5; have Ho5 := hid ho5; clear ho5; have Hk5 := hid hk5; clear hk5; have hz5 := hb5.size))
          go_roundw
          case rel => exact ⟨j + 2, a5, c5, L5, by go_num, rfl, by omega, by omega, by rw [Hl5.out]; simp; omega, Ho5, hid (by rw [Hl5.out]; exact may_snoc HL.out hry.2), hb.trans (((Below.refl wr.heap.size wr).alloc (Nat.le_refl _) _).mono hbz |>.trans hb5)⟩
          case measure => simp [intOf]; omega
        | false =>
          go_wp2_with (first | (go_at_call 31; refine HC.out.mono ?_; rintro _ _ ⟨rfl, rfl⟩) | (at_builtin; (refine wpL_appn rfl (.tmp 13) (.tmp 18) rfl w.heap.size az (some ⟨wr.heap.size, 0, none⟩) L.length 1 cz 1 L [92] rfl (by first | rfl | simp | omega) (HO.out.grow (by (repeat' (first | exact Below.refl _ _ | assumption | refine bdrewN ?_ _ | refine Below.drew ?_ | refine bal ?_ _ | refine bthen ?_ (by assumption))))) rfl (by first | rfl | simp | omega) (Sl.lit' wr [92] _ wr.heap.size rfl (by simp) (rng_one hrx) _ rfl) (by have := HLl.out; simp; omega) (by simp; omega) ?_); intro a5 c5 w5 L5 Hl5 ho5 hb5 hk5 hA5; have HA5 := hid hA5; clear hA5; have Ho5 := hid ho5; clear ho5; have Hk5 := hid hk5; clear hk5; have hz5 := hb5.size))
          go_roundw
          case rel => exact ⟨j + 1, a5, c5, L5, by go_num, rfl, by omega, by omega, by rw [Hl5.out]; simp; omega, Ho5, hid (by rw [Hl5.out]; exact may_snoc HL.out hsx.out), hb.trans (((Below.refl wr.heap.size wr).alloc (Nat.le_refl _) _).mono hbz |>.trans hb5)⟩
          case measure => simp [intOf]; omega
      · have HNo : Hid ((x == 92) = false ∨ ((x == 92) = true ∧ decide ((j : Int) + 1 < (n : Int)) = false ∧ decide (j + 1 < n) = false)) := hid (by
          by_cases h : x = 92
          · exact .inr ⟨by simpa using h, decide_eq_false (fun k => h92 ⟨h, by omega⟩), decide_eq_false (fun k => h92 ⟨h, k⟩)⟩
          · exact .inl (by simpa using h))
        clear h92
        rcases HNo.out with e0 | ⟨e0, e1, e2⟩
        · go_wp2_with (at_builtin; (refine wpL_appn rfl (.tmp 13) (.tmp 18) rfl w.heap.size az (some ⟨wr.heap.size, 0, none⟩) L.length 1 cz 1 L [x] rfl (by first | rfl | simp | omega) (HO.out.grow (by (repeat' (first | exact Below.refl _ _ | assumption | refine bdrewN ?_ _ | refine Below.drew ?_ | refine bal ?_ _ | refine bthen ?_ (by assumption))))) rfl (by first | rfl | simp | omega) (Sl.lit' wr [x] _ wr.heap.size rfl (by simp) (rng_one hrx) _ rfl) (by have := HLl.out; simp; omega) (by simp; omega) ?_); intro a5 c5 w5 L5 Hl5 ho5 hb5 hk5 hA5; have HA5 := hid hA5; clear hA5; have Ho5 := hid ho5; clear ho5; have Hk5 := hid hk5; clear hk5; have hz5 := hb5.size)
          go_roundw
          case rel => exact ⟨j + 1, a5, c5, L5, by go_num, rfl, by omega, by omega, by rw [Hl5.out]; simp; omega, Ho5, hid (by rw [Hl5.out]; exact may_snoc HL.out hsx.out), hb.trans (((Below.refl wr.heap.size wr).alloc (Nat.le_refl _) _).mono hbz |>.trans hb5)⟩
          case measure => simp [intOf]; omega
        · go_wp2_with (at_builtin; (refine wpL_appn rfl (.tmp 13) (.tmp 18) rfl w.heap.size az (some ⟨wr.heap.size, 0, none⟩) L.length 1 cz 1 L [x] rfl (by first | rfl | simp | omega) (HO.out.grow (by (repeat' (first | exact Below.refl _ _ | assumption | refine bdrewN ?_ _ | refine Below.drew ?_ | refine bal ?_ _ | refine bthen ?_ (by assumption))))) rfl (by first | rfl | simp | omega) (Sl.lit' wr [x] _ wr.heap.size rfl (by simp) (rng_one hrx) _ rfl) (by have := HLl.out; simp; omega) (by simp; omega) ?_); intro a5 c5 w5 L5 Hl5 ho5 hb5 hk5 hA5; have HA5 := hid hA5; clear hA5; have Ho5 := hid ho5; clear ho5; have Hk5 := hid hk5; clear hk5; have hz5 := hb5.size)
          go_roundw
          case rel => exact ⟨j + 1, a5, c5, L5, by go_num, rfl, by omega, by omega, by rw [Hl5.out]; simp; omega, Ho5, hid (by rw [Hl5.out]; exact may_snoc HL.out hsx.out), hb.trans (((Below.refl wr.heap.size wr).alloc (Nat.le_refl _) _).mono hbz |>.trans hb5)⟩
          case measure => simp [intOf]; omega
    · have e1 : decide (j < n) = false := decide_eq_false hlt
      have e2 : decide ((j : Int) < (n : Int)) = false := decide_eq_false (by omega)
      go_wp2_with fail
      go_ret2
      exact ⟨none, 0, [], 0, rfl, Own.nil _ _, rfl, by simp, .inl rfl, hb⟩
end Go.Proofs.YtefgjicegbhcaaaGreat
namespace Go.Proofs.YtefgjicegbhcaaaGreat
open Go.RowKit FmM

/-- a part in a variable of its own -/
structure FoC (w : World) (b : Nat) (m : Fo) : Prop where
  c0 : w.cell? ⟨b, 0, none⟩ = some (.int .i64 m.kind)
  c1 : w.cell? ⟨b, 1, none⟩ = some (.int .i64 m.grp)
  c2 : w.cell? ⟨b, 2, none⟩ = some (.int .i64 m.how)
  c3 : w.cell? ⟨b, 3, none⟩ = some (.slice m.ta m.text.length m.tc)
  c4 : w.cell? ⟨b, 4, none⟩ = some (.slice m.ea m.els.length m.ec)
  fz : ∀ o, w.frozen? ⟨b, o, none⟩ = false
theorem FoC.lt {w : World} {b : Nat} {m : Fo} (h : FoC w b m) : b < w.heap.size := World.block_lt_of_cell? w _ h.c0
theorem FoC.same {w w' : World} {b : Nat} {m : Fo} (h : FoC w b m) (he : w'.heap[b]? = w.heap[b]?) : FoC w' b m := by
  have c : ∀ o, w'.cell? ⟨b, o, none⟩ = w.cell? ⟨b, o, none⟩ := fun o => World.cell?_of_block (w := w) (w' := w') (a := ⟨b, o, none⟩) he
  have f' : ∀ o, w'.frozen? ⟨b, o, none⟩ = w.frozen? ⟨b, o, none⟩ := fun o => World.frozen?_of_block (w := w) (w' := w') (a := ⟨b, o, none⟩) he
  exact ⟨by rw [c]; exact h.c0, by rw [c]; exact h.c1, by rw [c]; exact h.c2, by rw [c]; exact h.c3, by rw [c]; exact h.c4, fun o => by rw [f']; exact h.fz o⟩
theorem FoC.bel {w w' : World} {b : Nat} {m : Fo} (h : FoC w b m) (hb : Below w.heap.size w w') : FoC w' b m := h.same (hb.block b h.lt)
theorem FoC.new (w : World) (m : Fo) (T : TypeId) (b : Nat) (hb : b = w.heap.size) : FoC (w.alloc (.cells #[.int .i64 m.kind, .int .i64 m.grp, .int .i64 m.how, .slice m.ta m.text.length m.tc, .slice m.ea m.els.length m.ec] T)) b m := by
  subst hb
  refine ⟨by rw [cell_alloc_new]; rfl, by rw [cell_alloc_new]; rfl, by rw [cell_alloc_new]; rfl, by rw [cell_alloc_new]; rfl, by rw [cell_alloc_new]; rfl, fun o => ?_⟩
  simp
theorem FoC.setO {w : World} {R : Nat} {m : Fo} (h : FoC w R m) {b : Nat} (hb : R ≠ b) (o : Nat) (v : Value) : FoC (w.setCell ⟨b, o, none⟩ v) R m := h.same (Below.heap_setCell _ _ _ _ hb)
theorem FoC.set0 {w : World} {b : Nat} {m : Fo} (h : FoC w b m) (k : Int) : FoC (w.setCell ⟨b, 0, none⟩ (.int .i64 k)) b { m with kind := k } :=
  ⟨by rw [World.cell?_setCell_same (h := h.c0)], cell_set1 h.c1 (by decide), cell_set1 h.c2 (by decide), cell_set1 h.c3 (by decide), cell_set1 h.c4 (by decide), fun o => by simp only [World.frozen?_setCell]; exact h.fz o⟩
theorem FoC.set2 {w : World} {b : Nat} {m : Fo} (h : FoC w b m) (k : Int) : FoC (w.setCell ⟨b, 2, none⟩ (.int .i64 k)) b { m with how := k } :=
  ⟨cell_set1 h.c0 (by decide), cell_set1 h.c1 (by decide), by rw [World.cell?_setCell_same (h := h.c2)], cell_set1 h.c3 (by decide), cell_set1 h.c4 (by decide), fun o => by simp only [World.frozen?_setCell]; exact h.fz o⟩
theorem FoC.set3 {w : World} {b : Nat} {m : Fo} (h : FoC w b m) (a : Option Addr) (l : List Int) (c : Nat) : FoC (w.setCell ⟨b, 3, none⟩ (.slice a l.length c)) b { m with ta := a, text := l, tc := c } :=
  ⟨cell_set1 h.c0 (by decide), cell_set1 h.c1 (by decide), cell_set1 h.c2 (by decide), by rw [World.cell?_setCell_same (h := h.c3)], cell_set1 h.c4 (by decide), fun o => by simp only [World.frozen?_setCell]; exact h.fz o⟩
theorem FoC.set4 {w : World} {b : Nat} {m : Fo} (h : FoC w b m) (a : Option Addr) (l : List Int) (c : Nat) : FoC (w.setCell ⟨b, 4, none⟩ (.slice a l.length c)) b { m with ea := a, els := l, ec := c } :=
  ⟨cell_set1 h.c0 (by decide), cell_set1 h.c1 (by decide), cell_set1 h.c2 (by decide), cell_set1 h.c3 (by decide), by rw [World.cell?_setCell_same (h := h.c4)], fun o => by simp only [World.frozen?_setCell]; exact h.fz o⟩
/-- a part stored into a variable -/
def putF (w : World) (R : Nat) (m : Fo) : World :=
  ((((w.setCell ⟨R, 0, none⟩ (.int .i64 m.kind)).setCell ⟨R, 1, none⟩ (.int .i64 m.grp)).setCell ⟨R, 2, none⟩ (.int .i64 m.how)).setCell ⟨R, 3, none⟩ (.slice m.ta m.text.length m.tc)).setCell ⟨R, 4, none⟩ (.slice m.ea m.els.length m.ec)
theorem putF_heap (w : World) (R : Nat) (m : Fo) {j : Nat} (hj : j ≠ R) : (putF w R m).heap[j]? = w.heap[j]? := by
  unfold putF
  iterate 5 rw [Below.heap_setCell _ _ _ _ hj]
theorem putF_below {B : Nat} {a w : World} (h : Below B a w) (R : Nat) (hR : B ≤ R) (m : Fo) : Below B a (putF w R m) :=
  ((((h.setCell (by exact hR) _).setCell (by exact hR) _).setCell (by exact hR) _).setCell (by exact hR) _).setCell (by exact hR) _
theorem FoC.putF {w : World} {R : Nat} {m0 : Fo} (h : FoC w R m0) (m : Fo) : FoC (putF w R m) R m := by
  have same : ∀ {w : World} {o : Nat} {u v : Value}, w.cell? ⟨R, o, none⟩ = some u → (w.setCell ⟨R, o, none⟩ v).cell? ⟨R, o, none⟩ = some v := fun h => by rw [World.cell?_setCell_same (h := h)]
  have ot : ∀ {w : World} {o o' : Nat} {u v : Value}, o ≠ o' → w.cell? ⟨R, o', none⟩ = some u → (w.setCell ⟨R, o, none⟩ v).cell? ⟨R, o', none⟩ = some u := fun hn h => cell_set1 h hn
  unfold Go.Proofs.YtefgjicegbhcaaaGreat.putF
  refine ⟨?_, ?_, ?_, ?_, ?_, fun o => by simp only [World.frozen?_setCell]; exact h.fz o⟩
  · exact ot (by decide) (ot (by decide) (ot (by decide) (ot (by decide) (same h.c0))))
  · exact ot (by decide) (ot (by decide) (ot (by decide) (same (ot (by decide) h.c1))))
  · exact ot (by decide) (ot (by decide) (same (ot (by decide) (ot (by decide) h.c2))))
  · exact ot (by decide) (same (ot (by decide) (ot (by decide) (ot (by decide) h.c3))))
  · exact same (ot (by decide) (ot (by decide) (ot (by decide) (ot (by decide) h.c4))))
/-- a result of a part in a variable, and a number -/
theorem ret_fo {fn : Func} {post : Ending → World → Prop} {at_ : Act} {w : World} {R : Nat} {m : Fo} {v : Value} (hr : fn.results = #[ResultVar.cell 4 71, ResultVar.tmp 5]) (ht : at_.tmps[4]?.getD undef = .pointer (some ⟨R, 0, none⟩)) (h5 : at_.tmps[5]?.getD undef = v) (hd : at_.defers = [])
    (h : FoC w R m) (hp : post (.returned (.tuple #[m.val, v])) w) : bodyPost Tryz.prog fn post Exit.ret at_ w :=
  bodyPost_ret (v := .tuple #[m.val, v]) (by simp [results, hr, go_sem, ht, h5, h.c0, h.c1, h.c2, h.c3, h.c4, Fo.val]) hd hp
def FprtE (w : World) (l : List Int) (i : Nat) (e' : Ending) (w' : World) : Prop :=
  ∃ (m : Fo) (on : Nat), e' = .returned (.tuple #[m.val, .int .i64 on]) ∧ (on = 0 ∨ (m.text.length + m.els.length + i + 2 ≤ on ∧ on ≤ l.length ∧ may1 m.fp = true ∧ m.kind ≠ 0)) ∧ Own w' w.heap.size m.ta m.tc m.text ∧ Own w' w.heap.size m.ea m.ec m.els ∧ m.text.length ≤ l.length ∧ m.els.length ≤ l.length ∧ Below w.heap.size w w'
theorem FprtE.put {w W : World} {l : List Int} {i : Nat} {m : Fo} {on : Nat} (h : on = 0 ∨ (m.text.length + m.els.length + i + 2 ≤ on ∧ on ≤ l.length ∧ may1 m.fp = true ∧ m.kind ≠ 0)) (ht : Own W (w.heap.size + 1) m.ta m.tc m.text) (he : Own W (w.heap.size + 1) m.ea m.ec m.els) (h1 : m.text.length ≤ l.length) (h2 : m.els.length ≤ l.length) (hb : Below w.heap.size w W) :
    FprtE w l i (.returned (.tuple #[m.val, .int .i64 on])) (putF W w.heap.size m) := by
  have ge : ∀ {a : Option Addr} {c : Nat} {t : List Int}, Own W (w.heap.size + 1) a c t → ∀ ad, a = some ad → ad.block ≠ w.heap.size := fun {a c t} h ad had e => by
    rcases h.shape with ⟨h0, _⟩ | ⟨g, h0, hg, _⟩
    · rw [h0] at had; cases had
    · rw [h0] at had; simp at had; subst had; simp at e; omega
  exact ⟨m, on, rfl, h, (ht.same fun ad ha hl => putF_heap _ _ _ (ge ht ad ha)).base_le (by omega), (he.same fun ad ha hl => putF_heap _ _ _ (ge he ad ha)).base_le (by omega), h1, h2, putF_below hb _ (Nat.le_refl _) _⟩
def zF : Fo := ⟨0, 0, 0, none, [], 0, none, [], 0⟩
set_option maxHeartbeats 4000000 in
theorem casename_c (k : Nat) (w : World) : Calls Tryz.prog 59 #[.int .i64 k] w fun e' w' => ∃ s : ByteArray, e' = .returned (.string s) ∧ s.size ≤ 10 ∧ w = w' := by
  go_enter Tryz.func59, Tryz.ntmps59
  go_wp2_with fail
  all_goals
    go_ret
    exact ⟨_, rfl, by decide, rfl⟩
end Go.Proofs.YtefgjicegbhcaaaGreat
namespace Go.Proofs.YtefgjicegbhcaaaGreat
open Go.RowKit FmM

theorem may1_grp0 {v : Nat} (h : v ≤ 99) {k : Nat} (hk : k ≤ 5) : may1 (⟨1, v, k, none, [], 0, none, [], 0⟩ : Fo).fp = true :=
  may1_grp (n := (v : Int)) (how := (k : Int)) ⟨by omega, by omega⟩ ⟨by omega, by omega⟩
theorem may1_if {v : Nat} (h : v ≤ 99) {a b : Option Addr} {c d : Nat} {t : List Int} (ht : may t = true) : may1 (⟨2, v, 0, a, t, c, b, [], d⟩ : Fo).fp = true := by
  show may1 ⟨2, v, 0, t, []⟩ = true
  have h0 : decide (0 ≤ (v : Int) ∧ (v : Int) ≤ 99) = true := decide_eq_true ⟨by omega, by omega⟩
  unfold may1
  rw [h0, ht]; rfl
theorem may1_els {v : Nat} (h : v ≤ 99) {a b : Option Addr} {c d : Nat} {t : List Int} (ht : may t = true) : may1 (⟨3, v, 0, a, [], c, b, t, d⟩ : Fo).fp = true := by
  show may1 ⟨3, v, 0, [], t⟩ = true
  have h0 : decide (0 ≤ (v : Int) ∧ (v : Int) ≤ 99) = true := decide_eq_true ⟨by omega, by omega⟩
  unfold may1
  rw [h0, ht]; rfl
theorem may1_both {v : Nat} (h : v ≤ 99) {a b : Option Addr} {c d : Nat} {t u : List Int} (ht : may t = true) (hu : may u = true) : may1 (⟨4, v, 0, a, t, c, b, u, d⟩ : Fo).fp = true := by
  show may1 ⟨4, v, 0, t, u⟩ = true
  have h0 : decide (0 ≤ (v : Int) ∧ (v : Int) ≤ 99) = true := decide_eq_true ⟨by omega, by omega⟩
  unfold may1
  rw [h0, ht, hu]; rfl
set_option maxRecDepth 20000 in
set_option maxHeartbeats 32000000 in
theorem fpart_c (a : Option Addr) (c : Nat) (l : List Int) (i : Nat) (w : World) (h : Sl w a l) (hm : may l = true) (hl : l.length ≤ 1000) (hi : i ≤ l.length) :
    Calls Tryz.prog 33 #[.slice a l.length c, .int .i64 i] w (FprtE w l i) := by
  obtain ⟨n, hn⟩ : ∃ n, n = l.length := ⟨_, rfl⟩
  obtain ⟨V, hV⟩ : ∃ V, V = w.alloc (.cells #[.int .i64 0, .int .i64 0, .int .i64 0, .slice none 0 0, .slice none 0 0] 71) := ⟨_, rfl⟩
  have bV : Below w.heap.size w V := by subst hV; (repeat' (first | exact Below.refl _ _ | assumption | refine bdrewN ?_ _ | refine Below.drew ?_ | refine bal ?_ _ | refine bthen ?_ (by assumption)))
  have F0 : Hid (FoC V w.heap.size zF) := by subst hV; exact FoC.new w zF _ _ rfl
  have zV : V.heap.size = w.heap.size + 1 := by subst hV; simp
  have HS := hid (h.bel bV)
  have HM := hid hm
  have Hn := hid hn
  have BV := hid bV
  have NC : Hid (∀ w' j, Below V.heap.size V w' → j ≤ n + 20 → Calls Tryz.prog 57 #[.slice a n c, .int .i64 ((j : Nat) : Int)] w' (NumE w' l j)) := hid fun w' j b hj => by rw [hn]; exact fnum_c a c l j w' (HS.out.bel b) hl (by omega)
  have SC : Hid (∀ w' j s, Below V.heap.size V w' → j ≤ n + 20 → s.size ≤ 1000 → Calls Tryz.prog 58 #[.slice a n c, .int .i64 ((j : Nat) : Int), .string s] w' fun e' w2 => ∃ b, e' = .returned (.bool b) ∧ (b = true → j + s.size ≤ n) ∧ Below w'.heap.size w' w2) := hid fun w' j s b hj hs => by rw [hn]; exact stands_c a c l j s w' (HS.out.bel b) hl (by omega) hs
  have WC : Hid (∀ w' j r, Below V.heap.size V w' → j ≤ n + 20 → Calls Tryz.prog 60 #[.slice a n c, .int .i64 ((j : Nat) : Int), .int .i32 r] w' (WrdE w' l j)) := hid fun w' j r b hj => by rw [hn]; exact fwords_c a c l j r w' (HS.out.bel b) HM.out hl (by omega)
  have hl2 : n ≤ 1000 := by rw [hn]; exact hl
  have hi2 : i ≤ n := by rw [hn]; exact hi
  rw [← hn]
  clear h hm bV hn hl hi
  have zero : ∀ W, Below w.heap.size w W → FprtE w l i (.returned (.tuple #[zF.val, .int .i64 0])) (putF W w.heap.size zF) := fun W b => FprtE.put (m := zF) (on := 0) (.inl rfl) (Own.nil _ _) (Own.nil _ _) (by simp [zF]) (by simp [zF]) b
  have Zero := hid zero
  clear zero
  go_enter Tryz.func33, Tryz.ntmps33
  go_upto_region 1 with fail
  rw [← hV]; clear hV
  go_wp2_with fail
  refine (NC.out V (i + 1) (Below.refl _ _) (by omega)).mono ?_
  rintro _ w1 ⟨v, on, rfl, hon, b1⟩
  have F1 := hid (F0.out.bel b1)
  have B1 := hid (BV.out.trans (b1.mono (by omega)))
  have b1' := hid b1
  have x0 := F1.out.c0
  have x1 := F1.out.c1
  have x2 := F1.out.c2
  have x3 := F1.out.c3
  have x4 := F1.out.c4
  have x5 := F1.out.fz 0
  have x6 := F1.out.fz 1
  have x7 := F1.out.fz 2
  have x8 := F1.out.fz 3
  have x9 := F1.out.fz 4
  clear b1
  rcases hon with ⟨rfl, rfl⟩ | ⟨hv, ho1, ho2⟩
  · go_wp2_with fail
    clear x0 x1 x2 x3 x4 x5 x6 x7 x8 x9
    have C1 := hid b1'
    clear b1'
    refine (SC.out w1 (i + 1) ⟨#[123]⟩ C1.out (by omega) (by show Array.size _ ≤ 1000; decide)).mono ?_
    rintro _ w2 ⟨b, rfl, hb, b2⟩
    have F2 := hid (F1.out.bel b2)
    have B2 := hid (B1.out.trans (b2.mono B1.out.size))
    have C2 := hid (C1.out.trans (b2.mono C1.out.size))
    have HB2 := hid hb
    clear hb b2
    cases b with
    | false =>
      have x0 := F2.out.c0
      have x1 := F2.out.c1
      have x2 := F2.out.c2
      have x3 := F2.out.c3
      have x4 := F2.out.c4
      have x5 := F2.out.fz 0
      have x6 := F2.out.fz 1
      have x7 := F2.out.fz 2
      have x8 := F2.out.fz 3
      have x9 := F2.out.fz 4
      go_wp2_with fail
      refine ret_fo Tryz.results33 rfl rfl rfl (FoC.putF F2.out zF) ?_
      exact Zero.out _ B2.out
    | true =>
      go_wp2_with fail
      refine (NC.out w2 (i + 2) C2.out (by omega)).mono ?_
      rintro _ w3 ⟨v, on, rfl, hon, b3⟩
      have F3 := hid (F2.out.bel b3)
      have B3 := hid (B2.out.trans (b3.mono B2.out.size))
      have C3 := hid (C2.out.trans (b3.mono C2.out.size))
      clear b3
      rcases hon with ⟨rfl, rfl⟩ | ⟨hv, ho1, ho2⟩
      · skip
        have x0 := F3.out.c0
        have x1 := F3.out.c1
        have x2 := F3.out.c2
        have x3 := F3.out.c3
        have x4 := F3.out.c4
        have x5 := F3.out.fz 0
        have x6 := F3.out.fz 1
        have x7 := F3.out.fz 2
        have x8 := F3.out.fz 3
        have x9 := F3.out.fz 4
        go_wp2_with fail
        refine ret_fo Tryz.results33 rfl rfl rfl (FoC.putF F3.out zF) ?_
        exact Zero.out _ B3.out
      · have e1 : (on == 0) = false := by rw [beq_eq_false_iff_ne]; omega
        have e2 : ((on : Int) == 0) = false := by rw [beq_eq_false_iff_ne]; omega
        obtain ⟨w4, hV4⟩ : ∃ V4, V4 = w3.alloc (.cells #[.int .i64 1, .int .i64 v, .int .i64 0, .slice none 0 0, .slice none 0 0] 71) := ⟨_, rfl⟩
        have b4 : Below w3.heap.size w3 w4 := by subst hV4; (repeat' (first | exact Below.refl _ _ | assumption | refine bdrewN ?_ _ | refine Below.drew ?_ | refine bal ?_ _ | refine bthen ?_ (by assumption)))
        obtain ⟨P, hP⟩ : ∃ P, P = w3.heap.size := ⟨_, rfl⟩
        have G4 : Hid (FoC w4 P ⟨1, v, 0, none, [], 0, none, [], 0⟩) := by subst hV4; exact FoC.new w3 ⟨1, v, 0, none, [], 0, none, [], 0⟩ _ _ hP
        have F4 := hid (F3.out.bel b4)
        have B4 := hid (B3.out.trans (b4.mono B3.out.size))
        have C4 := hid (C3.out.trans (b4.mono C3.out.size))
        have hPV : V.heap.size ≤ P := by rw [hP]; exact C3.out.size
        have z4 : P < w4.heap.size := G4.out.lt
        have HOn := hid (show on ≤ n by rw [Hn.out]; exact ho2)
        have hon := HOn.out
        have HV := hid hv
        clear b4 hv ho2
        go_upto_region 11 with fail
        rw [← hV4, ← hP]; clear hV4 hP
        go_wp2_with fail
        refine (SC.out w4 (on) ⟨#[125]⟩ C4.out (by omega) (by show Array.size _ ≤ 1000; decide)).mono ?_
        rintro _ w5 ⟨b, rfl, hb, b5⟩
        have F5 := hid (F4.out.bel b5)
        have B5 := hid (B4.out.trans (b5.mono B4.out.size))
        have C5 := hid (C4.out.trans (b5.mono C4.out.size))
        have G5 := hid (G4.out.bel b5)
        have z5 := b5.size
        have HB5 := hid hb
        clear hb b5
        cases b with
        | true =>
          have x0 := F5.out.c0
          have x1 := F5.out.c1
          have x2 := F5.out.c2
          have x3 := F5.out.c3
          have x4 := F5.out.c4
          have x5 := F5.out.fz 0
          have x6 := F5.out.fz 1
          have x7 := F5.out.fz 2
          have x8 := F5.out.fz 3
          have x9 := F5.out.fz 4
          have y0 := G5.out.c0
          have y1 := G5.out.c1
          have y2 := G5.out.c2
          have y3 := G5.out.c3
          have y4 := G5.out.c4
          have y5 := G5.out.fz 0
          have y6 := G5.out.fz 1
          have y7 := G5.out.fz 2
          have y8 := G5.out.fz 3
          have y9 := G5.out.fz 4
          have hon1 : on + 1 ≤ n := HB5.out (by first | rfl | trivial)
          go_wp2_with fail
          refine ret_fo Tryz.results33 rfl (by show Value.int _ ((on : Int) + 1) = Value.int .i64 ((on + 1 : Nat) : Int); simp) rfl (FoC.putF F5.out ⟨1, v, 0, none, [], 0, none, [], 0⟩) ?_
          exact FprtE.put (m := ⟨1, v, 0, none, [], 0, none, [], 0⟩) (.inr ⟨by first | omega | (simp only [List.length_nil]; omega), by rw [← Hn.out]; exact hon1, may1_grp0 HV.out (k := 0) (by omega), by show (1 : Int) ≠ 0; decide⟩) (Own.nil _ _) (Own.nil _ _) (by simp) (by simp) B5.out
        | false =>
          go_wp2_with fail
          refine (SC.out w5 (on) ⟨#[58, 47]⟩ C5.out (by omega) (by show Array.size _ ≤ 1000; decide)).mono ?_
          rintro _ w6 ⟨b, rfl, hb, b6⟩
          have F6 := hid (F5.out.bel b6)
          have B6 := hid (B5.out.trans (b6.mono B5.out.size))
          have C6 := hid (C5.out.trans (b6.mono C5.out.size))
          have G6 := hid (G5.out.bel b6)
          have z6 := b6.size
          have HB6 := hid hb
          clear hb b6
          cases b with
          | true =>
            go_wp2_with fail
            go_loopw [11, 12] (fun kv _ wr => ∃ k : Nat, 1 ≤ k ∧ k ≤ 6 ∧ kv = .int .i64 k ∧ Hid (FoC wr w.heap.size zF) ∧ Hid (FoC wr P ⟨1, v, 0, none, [], 0, none, [], 0⟩) ∧ Hid (Below w.heap.size w wr) ∧ Hid (Below V.heap.size V wr)) (fun kv _ _ => 6 - (intOf kv).toNat)
            case atStart => exact ⟨1, by omega, by omega, rfl, F6, G6, B6, C6⟩
            case round =>
              obtain ⟨k, hk1, hk6, rfl, F7, G7, B7, C7⟩ := hrel
              by_cases hk : k ≤ 5
              · have k1 : decide ((k : Int) ≤ 5) = true := decide_eq_true (by omega)
                have k2 : decide (k ≤ 5) = true := decide_eq_true hk
                go_wp2_with (go_at_call 59; refine (casename_c k wr).mono ?_; rintro _ _ ⟨s, rfl, hs, rfl⟩)
                obtain ⟨t, ht⟩ : ∃ t, t = s ++ ⟨#[125]⟩ := ⟨_, rfl⟩
                have htz : t.size ≤ 11 := by rw [ht, ByteArray.size_append]; show s.size + 1 ≤ 11; omega
                rw [← ht]
                clear ht
                refine (SC.out wr (on + 2) t C7.out (by omega) (by omega)).mono ?_
                rintro _ w8 ⟨b, rfl, hb, b8⟩
                have F8 := hid (F7.out.bel b8)
                have G8 := hid (G7.out.bel b8)
                have B8 := hid (B7.out.trans (b8.mono B7.out.size))
                have C8 := hid (C7.out.trans (b8.mono C7.out.size))
                have HB8 := hid hb
                clear hb b8
                cases b with
                | false =>
                  go_wp2_with fail
                  go_roundw
                  case rel => exact ⟨k + 1, by omega, by omega, by go_num, F8, G8, B8, C8⟩
                  case measure => simp [intOf]; omega
                | true =>
                  have hont : on + 2 + t.size ≤ n := HB8.out (by first | rfl | trivial)
                  have F9 := hid (F8.out.setO (show w.heap.size ≠ P by omega) 2 (.int .i64 k))
                  have G9 := hid (G8.out.set2 k)
                  have B9 := hid (B8.out.setCell (p := ⟨P, 2, none⟩) (by show w.heap.size ≤ P; omega) (.int .i64 k))
                  have y0 := G8.out.c0
                  have y1 := G8.out.c1
                  have y2 := G8.out.c2
                  have y3 := G8.out.c3
                  have y4 := G8.out.c4
                  have y5 := G8.out.fz 0
                  have y6 := G8.out.fz 1
                  have y7 := G8.out.fz 2
                  have y8 := G8.out.fz 3
                  have y9 := G8.out.fz 4
                  go_upto_region 20 with fail
                  clear y0 y1 y2 y3 y4 y5 y6 y7 y8 y9
                  have y0 := G9.out.c0
                  have y1 := G9.out.c1
                  have y2 := G9.out.c2
                  have y3 := G9.out.c3
                  have y4 := G9.out.c4
                  have y5 := G9.out.fz 0
                  have y6 := G9.out.fz 1
                  have y7 := G9.out.fz 2
                  have y8 := G9.out.fz 3
                  have y9 := G9.out.fz 4
                  have x0 := F9.out.c0
                  have x1 := F9.out.c1
                  have x2 := F9.out.c2
                  have x3 := F9.out.c3
                  have x4 := F9.out.c4
                  have x5 := F9.out.fz 0
                  have x6 := F9.out.fz 1
                  have x7 := F9.out.fz 2
                  have x8 := F9.out.fz 3
                  have x9 := F9.out.fz 4
                  go_wp2_with fail
                  refine ret_fo Tryz.results33 rfl (v := .int .i64 ((on + 2 + t.size : Nat) : Int)) (by show Value.int _ ((on : Int) + 2 + (t.size : Int)) = Value.int .i64 ((on + 2 + t.size : Nat) : Int); simp) rfl (FoC.putF F9.out ⟨1, v, k, none, [], 0, none, [], 0⟩) ?_
                  exact FprtE.put (m := ⟨1, v, k, none, [], 0, none, [], 0⟩) (.inr ⟨by first | omega | (simp only [List.length_nil]; omega), by rw [← Hn.out]; exact hont, may1_grp0 HV.out (k := k) (by omega), by show (1 : Int) ≠ 0; decide⟩) (Own.nil _ _) (Own.nil _ _) (by simp) (by simp) B9.out
              · have k1 : decide ((k : Int) ≤ 5) = false := decide_eq_false (by omega)
                have k2 : decide (k ≤ 5) = false := decide_eq_false hk
                have x0 := F7.out.c0
                have x1 := F7.out.c1
                have x2 := F7.out.c2
                have x3 := F7.out.c3
                have x4 := F7.out.c4
                have x5 := F7.out.fz 0
                have x6 := F7.out.fz 1
                have x7 := F7.out.fz 2
                have x8 := F7.out.fz 3
                have x9 := F7.out.fz 4
                go_wp2_with fail
                refine ret_fo Tryz.results33 rfl rfl rfl (FoC.putF F7.out zF) ?_
                exact Zero.out _ B7.out
          | false =>
            go_wp2_with fail
            refine (SC.out w6 (on) ⟨#[58, 43]⟩ C6.out (by omega) (by show Array.size _ ≤ 1000; decide)).mono ?_
            rintro _ w8 ⟨b, rfl, hb, b8⟩
            have F8 := hid (F6.out.bel b8)
            have B8 := hid (B6.out.trans (b8.mono B6.out.size))
            have C8 := hid (C6.out.trans (b8.mono C6.out.size))
            have G8 := hid (G6.out.bel b8)
            have z8 := b8.size
            have HB8 := hid hb
            clear hb b8
            cases b with
            | true =>
              have y0 := G8.out.c0
              have y1 := G8.out.c1
              have y2 := G8.out.c2
              have y3 := G8.out.c3
              have y4 := G8.out.c4
              have y5 := G8.out.fz 0
              have y6 := G8.out.fz 1
              have y7 := G8.out.fz 2
              have y8 := G8.out.fz 3
              have y9 := G8.out.fz 4
              have hz : w.heap.size ≠ P := by omega
              have F20 := hid (F8.out.setO hz 0 (.int .i64 2))
              have G20 := hid (G8.out.set0 2)
              have B20 := hid (B8.out.setCell (p := ⟨P, 0, none⟩) (by show w.heap.size ≤ P; omega) (.int .i64 2))
              have C20 := hid (C8.out.setCell (p := ⟨P, 0, none⟩) (by exact hPV) (.int .i64 2))
              go_wp2_with fail
              refine (WC.out _ (on + 2) 125 C20.out (by omega)).mono ?_
              rintro _ w21 ⟨a1, c1, L1, o1, rfl, ow1, hm1, hl1, ho1', b21⟩
              have F21 := hid (F20.out.bel b21)
              have G21 := hid (G20.out.bel b21)
              have B21 := hid (B20.out.trans (b21.mono B20.out.size))
              have C21 := hid (C20.out.trans (b21.mono C20.out.size))
              have O21 := hid (ow1.base_le (base' := P + 1) (by have := G20.out.lt; omega))
              have HM1 := hid hm1
              have HL1 := hid hl1
              clear ow1 hm1 hl1 b21 y0 y1 y2 y3 y4 y5 y6 y7 y8 y9
              have y0 := G21.out.c0
              have y1 := G21.out.c1
              have y2 := G21.out.c2
              have y3 := G21.out.c3
              have y4 := G21.out.c4
              have y5 := G21.out.fz 0
              have y6 := G21.out.fz 1
              have y7 := G21.out.fz 2
              have y8 := G21.out.fz 3
              have y9 := G21.out.fz 4
              have F22 := hid (F21.out.setO (show w.heap.size ≠ P by omega) 3 (.slice a1 L1.length c1))
              have G22 := hid (G21.out.set3 a1 L1 c1)
              have B22 := hid (B21.out.setCell (p := ⟨P, 3, none⟩) (by show w.heap.size ≤ P; omega) (.slice a1 L1.length c1))
              have C22 := hid (C21.out.setCell (p := ⟨P, 3, none⟩) (by exact hPV) (.slice a1 L1.length c1))
              have O22 := hid (O21.out.setOther ⟨P, 3, none⟩ (.slice a1 L1.length c1) (fun ad had e => by have := O21.out.ge ad.block ⟨ad, had, rfl⟩; simp only at e; omega))
              rcases ho1' with rfl | ⟨k1, k2⟩
              · skip
                clear y0 y1 y2 y3 y4 y5 y6 y7 y8 y9
                have y0 := G21.out.c0
                have y1 := G21.out.c1
                have y2 := G21.out.c2
                have y3 := G21.out.c3
                have y4 := G21.out.c4
                have y5 := G21.out.fz 0
                have y6 := G21.out.fz 1
                have y7 := G21.out.fz 2
                have y8 := G21.out.fz 3
                have y9 := G21.out.fz 4
                have x0 := F22.out.c0
                have x1 := F22.out.c1
                have x2 := F22.out.c2
                have x3 := F22.out.c3
                have x4 := F22.out.c4
                have x5 := F22.out.fz 0
                have x6 := F22.out.fz 1
                have x7 := F22.out.fz 2
                have x8 := F22.out.fz 3
                have x9 := F22.out.fz 4
                go_wp2_with fail
                refine ret_fo Tryz.results33 rfl rfl rfl (FoC.putF F22.out zF) ?_
                exact Zero.out _ B22.out
              · have q1 : (o1 == 0) = false := by rw [beq_eq_false_iff_ne]; omega
                have q2 : ((o1 : Int) == 0) = false := by rw [beq_eq_false_iff_ne]; omega
                clear y0 y1 y2 y3 y4 y5 y6 y7 y8 y9
                have y0 := G21.out.c0
                have y1 := G21.out.c1
                have y2 := G21.out.c2
                have y3 := G21.out.c3
                have y4 := G21.out.c4
                have y5 := G21.out.fz 0
                have y6 := G21.out.fz 1
                have y7 := G21.out.fz 2
                have y8 := G21.out.fz 3
                have y9 := G21.out.fz 4
                have x0 := F22.out.c0
                have x1 := F22.out.c1
                have x2 := F22.out.c2
                have x3 := F22.out.c3
                have x4 := F22.out.c4
                have x5 := F22.out.fz 0
                have x6 := F22.out.fz 1
                have x7 := F22.out.fz 2
                have x8 := F22.out.fz 3
                have x9 := F22.out.fz 4
                have u0 := G22.out.c0
                have u1 := G22.out.c1
                have u2 := G22.out.c2
                have u3 := G22.out.c3
                have u4 := G22.out.c4
                go_wp2_with fail
                refine ret_fo Tryz.results33 rfl rfl rfl (FoC.putF F22.out ⟨2, v, 0, a1, L1, c1, none, [], 0⟩) ?_
                exact FprtE.put (m := ⟨2, v, 0, a1, L1, c1, none, [], 0⟩) (.inr ⟨by first | omega | (simp only [List.length_nil]; omega), k2, may1_if HV.out HM1.out, by show (2 : Int) ≠ 0; decide⟩) (O22.out.base_le (by omega)) (Own.nil _ _) HL1.out (by simp) B22.out
            | false =>
              go_wp2_with fail
              refine (SC.out w8 (on) ⟨#[58, 63]⟩ C8.out (by omega) (by show Array.size _ ≤ 1000; decide)).mono ?_
              rintro _ w9 ⟨b, rfl, hb, b9⟩
              have F9 := hid (F8.out.bel b9)
              have B9 := hid (B8.out.trans (b9.mono B8.out.size))
              have C9 := hid (C8.out.trans (b9.mono C8.out.size))
              have G9 := hid (G8.out.bel b9)
              have z9 := b9.size
              have HB9 := hid hb
              clear hb b9
              cases b with
              | true =>
                have y0 := G9.out.c0
                have y1 := G9.out.c1
                have y2 := G9.out.c2
                have y3 := G9.out.c3
                have y4 := G9.out.c4
                have y5 := G9.out.fz 0
                have y6 := G9.out.fz 1
                have y7 := G9.out.fz 2
                have y8 := G9.out.fz 3
                have y9 := G9.out.fz 4
                have hz : w.heap.size ≠ P := by omega
                have F20 := hid (F9.out.setO hz 0 (.int .i64 4))
                have G20 := hid (G9.out.set0 4)
                have B20 := hid (B9.out.setCell (p := ⟨P, 0, none⟩) (by show w.heap.size ≤ P; omega) (.int .i64 4))
                have C20 := hid (C9.out.setCell (p := ⟨P, 0, none⟩) (by exact hPV) (.int .i64 4))
                go_wp2_with fail
                refine (WC.out _ (on + 2) 58 C20.out (by omega)).mono ?_
                rintro _ w21 ⟨a1, c1, L1, o1, rfl, ow1, hm1, hl1, ho1', b21⟩
                have F21 := hid (F20.out.bel b21)
                have G21 := hid (G20.out.bel b21)
                have B21 := hid (B20.out.trans (b21.mono B20.out.size))
                have C21 := hid (C20.out.trans (b21.mono C20.out.size))
                have O21 := hid (ow1.base_le (base' := P + 1) (by have := G20.out.lt; omega))
                have HM1 := hid hm1
                have HL1 := hid hl1
                clear ow1 hm1 hl1 b21 y0 y1 y2 y3 y4 y5 y6 y7 y8 y9
                have y0 := G21.out.c0
                have y1 := G21.out.c1
                have y2 := G21.out.c2
                have y3 := G21.out.c3
                have y4 := G21.out.c4
                have y5 := G21.out.fz 0
                have y6 := G21.out.fz 1
                have y7 := G21.out.fz 2
                have y8 := G21.out.fz 3
                have y9 := G21.out.fz 4
                have F22 := hid (F21.out.setO (show w.heap.size ≠ P by omega) 3 (.slice a1 L1.length c1))
                have G22 := hid (G21.out.set3 a1 L1 c1)
                have B22 := hid (B21.out.setCell (p := ⟨P, 3, none⟩) (by show w.heap.size ≤ P; omega) (.slice a1 L1.length c1))
                have C22 := hid (C21.out.setCell (p := ⟨P, 3, none⟩) (by exact hPV) (.slice a1 L1.length c1))
                have O22 := hid (O21.out.setOther ⟨P, 3, none⟩ (.slice a1 L1.length c1) (fun ad had e => by have := O21.out.ge ad.block ⟨ad, had, rfl⟩; simp only at e; omega))
                rcases ho1' with rfl | ⟨k1, k2⟩
                · skip
                  clear y0 y1 y2 y3 y4 y5 y6 y7 y8 y9
                  have y0 := G21.out.c0
                  have y1 := G21.out.c1
                  have y2 := G21.out.c2
                  have y3 := G21.out.c3
                  have y4 := G21.out.c4
                  have y5 := G21.out.fz 0
                  have y6 := G21.out.fz 1
                  have y7 := G21.out.fz 2
                  have y8 := G21.out.fz 3
                  have y9 := G21.out.fz 4
                  have x0 := F22.out.c0
                  have x1 := F22.out.c1
                  have x2 := F22.out.c2
                  have x3 := F22.out.c3
                  have x4 := F22.out.c4
                  have x5 := F22.out.fz 0
                  have x6 := F22.out.fz 1
                  have x7 := F22.out.fz 2
                  have x8 := F22.out.fz 3
                  have x9 := F22.out.fz 4
                  go_wp2_with fail
                  refine ret_fo Tryz.results33 rfl rfl rfl (FoC.putF F22.out zF) ?_
                  exact Zero.out _ B22.out
                · have q1 : decide (0 < o1) = true := decide_eq_true (by omega)
                  have q2 : decide ((0 : Int) < (o1 : Int)) = true := decide_eq_true (by omega)
                  have k2n : o1 ≤ n := by rw [Hn.out]; exact k2
                  clear y0 y1 y2 y3 y4 y5 y6 y7 y8 y9
                  have y0 := G21.out.c0
                  have y1 := G21.out.c1
                  have y2 := G21.out.c2
                  have y3 := G21.out.c3
                  have y4 := G21.out.c4
                  have y5 := G21.out.fz 0
                  have y6 := G21.out.fz 1
                  have y7 := G21.out.fz 2
                  have y8 := G21.out.fz 3
                  have y9 := G21.out.fz 4
                  go_wp2_with fail
                  refine (WC.out _ o1 125 C22.out (by omega)).mono ?_
                  rintro _ w23 ⟨a2, c2, L2, o2, rfl, ow2, hm2, hl2, ho2', b23⟩
                  have F23 := hid (F22.out.bel b23)
                  have G23 := hid (G22.out.bel b23)
                  have B23 := hid (B22.out.trans (b23.mono B22.out.size))
                  have C23 := hid (C22.out.trans (b23.mono C22.out.size))
                  have T23 := hid (O22.out.grow b23)
                  have O23 := hid (ow2.base_le (base' := P + 1) (by have := G22.out.lt; omega))
                  have HM2 := hid hm2
                  have HL2 := hid hl2
                  clear ow2 hm2 hl2 b23 y0 y1 y2 y3 y4 y5 y6 y7 y8 y9
                  have y0 := G23.out.c0
                  have y1 := G23.out.c1
                  have y2 := G23.out.c2
                  have y3 := G23.out.c3
                  have y4 := G23.out.c4
                  have y5 := G23.out.fz 0
                  have y6 := G23.out.fz 1
                  have y7 := G23.out.fz 2
                  have y8 := G23.out.fz 3
                  have y9 := G23.out.fz 4
                  have F24 := hid (F23.out.setO (show w.heap.size ≠ P by omega) 4 (.slice a2 L2.length c2))
                  have G24 := hid (G23.out.set4 a2 L2 c2)
                  have B24 := hid (B23.out.setCell (p := ⟨P, 4, none⟩) (by show w.heap.size ≤ P; omega) (.slice a2 L2.length c2))
                  have C24 := hid (C23.out.setCell (p := ⟨P, 4, none⟩) (by exact hPV) (.slice a2 L2.length c2))
                  have O24 := hid (O23.out.setOther ⟨P, 4, none⟩ (.slice a2 L2.length c2) (fun ad had e => by have := O23.out.ge ad.block ⟨ad, had, rfl⟩; simp only at e; omega))
                  have T24 := hid (T23.out.setOther ⟨P, 4, none⟩ (.slice a2 L2.length c2) (fun ad had e => by have := T23.out.ge ad.block ⟨ad, had, rfl⟩; simp only at e; omega))
                  rcases ho2' with rfl | ⟨k3, k4⟩
                  · skip
                    clear y0 y1 y2 y3 y4 y5 y6 y7 y8 y9
                    have y0 := G23.out.c0
                    have y1 := G23.out.c1
                    have y2 := G23.out.c2
                    have y3 := G23.out.c3
                    have y4 := G23.out.c4
                    have y5 := G23.out.fz 0
                    have y6 := G23.out.fz 1
                    have y7 := G23.out.fz 2
                    have y8 := G23.out.fz 3
                    have y9 := G23.out.fz 4
                    have x0 := F24.out.c0
                    have x1 := F24.out.c1
                    have x2 := F24.out.c2
                    have x3 := F24.out.c3
                    have x4 := F24.out.c4
                    have x5 := F24.out.fz 0
                    have x6 := F24.out.fz 1
                    have x7 := F24.out.fz 2
                    have x8 := F24.out.fz 3
                    have x9 := F24.out.fz 4
                    go_wp2_with fail
                    refine ret_fo Tryz.results33 rfl rfl rfl (FoC.putF F24.out zF) ?_
                    exact Zero.out _ B24.out
                  · have q3 : (o2 == 0) = false := by rw [beq_eq_false_iff_ne]; omega
                    have q4 : ((o2 : Int) == 0) = false := by rw [beq_eq_false_iff_ne]; omega
                    clear y0 y1 y2 y3 y4 y5 y6 y7 y8 y9
                    have y0 := G23.out.c0
                    have y1 := G23.out.c1
                    have y2 := G23.out.c2
                    have y3 := G23.out.c3
                    have y4 := G23.out.c4
                    have y5 := G23.out.fz 0
                    have y6 := G23.out.fz 1
                    have y7 := G23.out.fz 2
                    have y8 := G23.out.fz 3
                    have y9 := G23.out.fz 4
                    have x0 := F24.out.c0
                    have x1 := F24.out.c1
                    have x2 := F24.out.c2
                    have x3 := F24.out.c3
                    have x4 := F24.out.c4
                    have x5 := F24.out.fz 0
                    have x6 := F24.out.fz 1
                    have x7 := F24.out.fz 2
                    have x8 := F24.out.fz 3
                    have x9 := F24.out.fz 4
                    have u0 := G24.out.c0
                    have u1 := G24.out.c1
                    have u2 := G24.out.c2
                    have u3 := G24.out.c3
                    have u4 := G24.out.c4
                    go_wp2_with fail
                    refine ret_fo Tryz.results33 rfl rfl rfl (FoC.putF F24.out ⟨4, v, 0, a1, L1, c1, a2, L2, c2⟩) ?_
                    exact FprtE.put (m := ⟨4, v, 0, a1, L1, c1, a2, L2, c2⟩) (.inr ⟨by first | omega | (simp only; omega), k4, may1_both HV.out HM1.out HM2.out, by show (4 : Int) ≠ 0; decide⟩) (T24.out.base_le (by omega)) (O24.out.base_le (by omega)) HL1.out HL2.out B24.out
              | false =>
                go_wp2_with fail
                refine (SC.out w9 (on) ⟨#[58, 45]⟩ C9.out (by omega) (by show Array.size _ ≤ 1000; decide)).mono ?_
                rintro _ w10 ⟨b, rfl, hb, b10⟩
                have F10 := hid (F9.out.bel b10)
                have B10 := hid (B9.out.trans (b10.mono B9.out.size))
                have C10 := hid (C9.out.trans (b10.mono C9.out.size))
                have G10 := hid (G9.out.bel b10)
                have z10 := b10.size
                have HB10 := hid hb
                clear hb b10
                cases b with
                | true =>
                  have y0 := G10.out.c0
                  have y1 := G10.out.c1
                  have y2 := G10.out.c2
                  have y3 := G10.out.c3
                  have y4 := G10.out.c4
                  have y5 := G10.out.fz 0
                  have y6 := G10.out.fz 1
                  have y7 := G10.out.fz 2
                  have y8 := G10.out.fz 3
                  have y9 := G10.out.fz 4
                  have hz : w.heap.size ≠ P := by omega
                  have F20 := hid (F10.out.setO hz 0 (.int .i64 3))
                  have G20 := hid (G10.out.set0 3)
                  have B20 := hid (B10.out.setCell (p := ⟨P, 0, none⟩) (by show w.heap.size ≤ P; omega) (.int .i64 3))
                  have C20 := hid (C10.out.setCell (p := ⟨P, 0, none⟩) (by exact hPV) (.int .i64 3))
                  go_wp2_with fail
                  refine (WC.out _ (on + 2) 125 C20.out (by omega)).mono ?_
                  rintro _ w21 ⟨a1, c1, L1, o1, rfl, ow1, hm1, hl1, ho1', b21⟩
                  have F21 := hid (F20.out.bel b21)
                  have G21 := hid (G20.out.bel b21)
                  have B21 := hid (B20.out.trans (b21.mono B20.out.size))
                  have C21 := hid (C20.out.trans (b21.mono C20.out.size))
                  have O21 := hid (ow1.base_le (base' := P + 1) (by have := G20.out.lt; omega))
                  have HM1 := hid hm1
                  have HL1 := hid hl1
                  clear ow1 hm1 hl1 b21 y0 y1 y2 y3 y4 y5 y6 y7 y8 y9
                  have y0 := G21.out.c0
                  have y1 := G21.out.c1
                  have y2 := G21.out.c2
                  have y3 := G21.out.c3
                  have y4 := G21.out.c4
                  have y5 := G21.out.fz 0
                  have y6 := G21.out.fz 1
                  have y7 := G21.out.fz 2
                  have y8 := G21.out.fz 3
                  have y9 := G21.out.fz 4
                  have F22 := hid (F21.out.setO (show w.heap.size ≠ P by omega) 4 (.slice a1 L1.length c1))
                  have G22 := hid (G21.out.set4 a1 L1 c1)
                  have B22 := hid (B21.out.setCell (p := ⟨P, 4, none⟩) (by show w.heap.size ≤ P; omega) (.slice a1 L1.length c1))
                  have C22 := hid (C21.out.setCell (p := ⟨P, 4, none⟩) (by exact hPV) (.slice a1 L1.length c1))
                  have O22 := hid (O21.out.setOther ⟨P, 4, none⟩ (.slice a1 L1.length c1) (fun ad had e => by have := O21.out.ge ad.block ⟨ad, had, rfl⟩; simp only at e; omega))
                  rcases ho1' with rfl | ⟨k1, k2⟩
                  · skip
                    clear y0 y1 y2 y3 y4 y5 y6 y7 y8 y9
                    have y0 := G21.out.c0
                    have y1 := G21.out.c1
                    have y2 := G21.out.c2
                    have y3 := G21.out.c3
                    have y4 := G21.out.c4
                    have y5 := G21.out.fz 0
                    have y6 := G21.out.fz 1
                    have y7 := G21.out.fz 2
                    have y8 := G21.out.fz 3
                    have y9 := G21.out.fz 4
                    have x0 := F22.out.c0
                    have x1 := F22.out.c1
                    have x2 := F22.out.c2
                    have x3 := F22.out.c3
                    have x4 := F22.out.c4
                    have x5 := F22.out.fz 0
                    have x6 := F22.out.fz 1
                    have x7 := F22.out.fz 2
                    have x8 := F22.out.fz 3
                    have x9 := F22.out.fz 4
                    go_wp2_with fail
                    refine ret_fo Tryz.results33 rfl rfl rfl (FoC.putF F22.out zF) ?_
                    exact Zero.out _ B22.out
                  · have q1 : (o1 == 0) = false := by rw [beq_eq_false_iff_ne]; omega
                    have q2 : ((o1 : Int) == 0) = false := by rw [beq_eq_false_iff_ne]; omega
                    clear y0 y1 y2 y3 y4 y5 y6 y7 y8 y9
                    have y0 := G21.out.c0
                    have y1 := G21.out.c1
                    have y2 := G21.out.c2
                    have y3 := G21.out.c3
                    have y4 := G21.out.c4
                    have y5 := G21.out.fz 0
                    have y6 := G21.out.fz 1
                    have y7 := G21.out.fz 2
                    have y8 := G21.out.fz 3
                    have y9 := G21.out.fz 4
                    have x0 := F22.out.c0
                    have x1 := F22.out.c1
                    have x2 := F22.out.c2
                    have x3 := F22.out.c3
                    have x4 := F22.out.c4
                    have x5 := F22.out.fz 0
                    have x6 := F22.out.fz 1
                    have x7 := F22.out.fz 2
                    have x8 := F22.out.fz 3
                    have x9 := F22.out.fz 4
                    have u0 := G22.out.c0
                    have u1 := G22.out.c1
                    have u2 := G22.out.c2
                    have u3 := G22.out.c3
                    have u4 := G22.out.c4
                    go_wp2_with fail
                    refine ret_fo Tryz.results33 rfl rfl rfl (FoC.putF F22.out ⟨3, v, 0, none, [], 0, a1, L1, c1⟩) ?_
                    exact FprtE.put (m := ⟨3, v, 0, none, [], 0, a1, L1, c1⟩) (.inr ⟨by first | omega | (simp only [List.length_nil]; omega), k2, may1_els HV.out HM1.out, by show (3 : Int) ≠ 0; decide⟩) (Own.nil _ _) (O22.out.base_le (by omega)) (by simp) HL1.out B22.out
                | false =>
                  go_wp2_with fail
                  refine (SC.out w10 (on) ⟨#[58]⟩ C10.out (by omega) (by show Array.size _ ≤ 1000; decide)).mono ?_
                  rintro _ w11 ⟨b, rfl, hb, b11⟩
                  have F11 := hid (F10.out.bel b11)
                  have B11 := hid (B10.out.trans (b11.mono B10.out.size))
                  have C11 := hid (C10.out.trans (b11.mono C10.out.size))
                  have G11 := hid (G10.out.bel b11)
                  have z11 := b11.size
                  have HB11 := hid hb
                  clear hb b11
                  cases b with
                  | true =>
                    have y0 := G11.out.c0
                    have y1 := G11.out.c1
                    have y2 := G11.out.c2
                    have y3 := G11.out.c3
                    have y4 := G11.out.c4
                    have y5 := G11.out.fz 0
                    have y6 := G11.out.fz 1
                    have y7 := G11.out.fz 2
                    have y8 := G11.out.fz 3
                    have y9 := G11.out.fz 4
                    have hz : w.heap.size ≠ P := by omega
                    have F20 := hid (F11.out.setO hz 0 (.int .i64 3))
                    have G20 := hid (G11.out.set0 3)
                    have B20 := hid (B11.out.setCell (p := ⟨P, 0, none⟩) (by show w.heap.size ≤ P; omega) (.int .i64 3))
                    have C20 := hid (C11.out.setCell (p := ⟨P, 0, none⟩) (by exact hPV) (.int .i64 3))
                    go_wp2_with fail
                    refine (WC.out _ (on + 1) 125 C20.out (by omega)).mono ?_
                    rintro _ w21 ⟨a1, c1, L1, o1, rfl, ow1, hm1, hl1, ho1', b21⟩
                    have F21 := hid (F20.out.bel b21)
                    have G21 := hid (G20.out.bel b21)
                    have B21 := hid (B20.out.trans (b21.mono B20.out.size))
                    have C21 := hid (C20.out.trans (b21.mono C20.out.size))
                    have O21 := hid (ow1.base_le (base' := P + 1) (by have := G20.out.lt; omega))
                    have HM1 := hid hm1
                    have HL1 := hid hl1
                    clear ow1 hm1 hl1 b21 y0 y1 y2 y3 y4 y5 y6 y7 y8 y9
                    have y0 := G21.out.c0
                    have y1 := G21.out.c1
                    have y2 := G21.out.c2
                    have y3 := G21.out.c3
                    have y4 := G21.out.c4
                    have y5 := G21.out.fz 0
                    have y6 := G21.out.fz 1
                    have y7 := G21.out.fz 2
                    have y8 := G21.out.fz 3
                    have y9 := G21.out.fz 4
                    have F22 := hid (F21.out.setO (show w.heap.size ≠ P by omega) 4 (.slice a1 L1.length c1))
                    have G22 := hid (G21.out.set4 a1 L1 c1)
                    have B22 := hid (B21.out.setCell (p := ⟨P, 4, none⟩) (by show w.heap.size ≤ P; omega) (.slice a1 L1.length c1))
                    have C22 := hid (C21.out.setCell (p := ⟨P, 4, none⟩) (by exact hPV) (.slice a1 L1.length c1))
                    have O22 := hid (O21.out.setOther ⟨P, 4, none⟩ (.slice a1 L1.length c1) (fun ad had e => by have := O21.out.ge ad.block ⟨ad, had, rfl⟩; simp only at e; omega))
                    rcases ho1' with rfl | ⟨k1, k2⟩
                    · skip
                      clear y0 y1 y2 y3 y4 y5 y6 y7 y8 y9
                      have y0 := G21.out.c0
                      have y1 := G21.out.c1
                      have y2 := G21.out.c2
                      have y3 := G21.out.c3
                      have y4 := G21.out.c4
                      have y5 := G21.out.fz 0
                      have y6 := G21.out.fz 1
                      have y7 := G21.out.fz 2
                      have y8 := G21.out.fz 3
                      have y9 := G21.out.fz 4
                      have x0 := F22.out.c0
                      have x1 := F22.out.c1
                      have x2 := F22.out.c2
                      have x3 := F22.out.c3
                      have x4 := F22.out.c4
                      have x5 := F22.out.fz 0
                      have x6 := F22.out.fz 1
                      have x7 := F22.out.fz 2
                      have x8 := F22.out.fz 3
                      have x9 := F22.out.fz 4
                      go_wp2_with fail
                      refine ret_fo Tryz.results33 rfl rfl rfl (FoC.putF F22.out zF) ?_
                      exact Zero.out _ B22.out
                    · have q1 : (o1 == 0) = false := by rw [beq_eq_false_iff_ne]; omega
                      have q2 : ((o1 : Int) == 0) = false := by rw [beq_eq_false_iff_ne]; omega
                      clear y0 y1 y2 y3 y4 y5 y6 y7 y8 y9
                      have y0 := G21.out.c0
                      have y1 := G21.out.c1
                      have y2 := G21.out.c2
                      have y3 := G21.out.c3
                      have y4 := G21.out.c4
                      have y5 := G21.out.fz 0
                      have y6 := G21.out.fz 1
                      have y7 := G21.out.fz 2
                      have y8 := G21.out.fz 3
                      have y9 := G21.out.fz 4
                      have x0 := F22.out.c0
                      have x1 := F22.out.c1
                      have x2 := F22.out.c2
                      have x3 := F22.out.c3
                      have x4 := F22.out.c4
                      have x5 := F22.out.fz 0
                      have x6 := F22.out.fz 1
                      have x7 := F22.out.fz 2
                      have x8 := F22.out.fz 3
                      have x9 := F22.out.fz 4
                      have u0 := G22.out.c0
                      have u1 := G22.out.c1
                      have u2 := G22.out.c2
                      have u3 := G22.out.c3
                      have u4 := G22.out.c4
                      go_wp2_with fail
                      refine ret_fo Tryz.results33 rfl rfl rfl (FoC.putF F22.out ⟨3, v, 0, none, [], 0, a1, L1, c1⟩) ?_
                      exact FprtE.put (m := ⟨3, v, 0, none, [], 0, a1, L1, c1⟩) (.inr ⟨by first | omega | (simp only [List.length_nil]; omega), k2, may1_els HV.out HM1.out, by show (3 : Int) ≠ 0; decide⟩) (Own.nil _ _) (O22.out.base_le (by omega)) (by simp) HL1.out B22.out
                  | false =>
                    have x0 := F11.out.c0
                    have x1 := F11.out.c1
                    have x2 := F11.out.c2
                    have x3 := F11.out.c3
                    have x4 := F11.out.c4
                    have x5 := F11.out.fz 0
                    have x6 := F11.out.fz 1
                    have x7 := F11.out.fz 2
                    have x8 := F11.out.fz 3
                    have x9 := F11.out.fz 4
                    go_wp2_with fail
                    refine ret_fo Tryz.results33 rfl rfl rfl (FoC.putF F11.out zF) ?_
                    exact Zero.out _ B11.out
  · have e1 : decide (0 < on) = true := decide_eq_true (by omega)
    have e2 : decide ((0 : Int) < (on : Int)) = true := decide_eq_true (by omega)
    go_wp2_with fail
    refine ret_fo Tryz.results33 rfl rfl rfl (FoC.putF F1.out ⟨1, v, 0, none, [], 0, none, [], 0⟩) ?_
    exact FprtE.put (m := ⟨1, v, 0, none, [], 0, none, [], 0⟩) (.inr ⟨by first | omega | (simp only [List.length_nil]; omega), ho2, may1_grp0 hv (k := 0) (by omega), by show (1 : Int) ≠ 0; decide⟩) (Own.nil _ _) (Own.nil _ _) (by simp) (by simp) B1.out
end Go.Proofs.YtefgjicegbhcaaaGreat
namespace Go.Proofs.YtefgjicegbhcaaaGreat
open Go.RowKit FmM

/-- parts under construction: the list and its texts are the call's own; the last one's text, if that is a text, lies apart; what is there so far can be a format -/
structure ScL (w : World) (B : Nat) (a : Option Addr) (c : Nat) (L : List Fo) (n : Nat) : Prop where
  own : FOwn w B a c L
  txt : ∀ m, m ∈ L → Own w B m.ta m.tc m.text ∧ Own w B m.ea m.ec m.els
  sep : ∀ I m, L = I ++ [m] → m.kind = 0 → (∀ x, x ∈ I → Off x.ta (Blk m.ta) ∧ Off x.ea (Blk m.ta)) ∧ Off m.ea (Blk m.ta)
  may : mayF (fps L) = true
  len : ∀ m, m ∈ L → m.text.length ≤ n ∧ m.els.length ≤ n
theorem ScL.nil (w : World) (B n : Nat) : ScL w B none 0 [] n := ⟨ROwn.nil _ _, (fun m h => by cases h), (fun I m h => by simp at h), rfl, fun m h => by cases h⟩
theorem ScL.bel {w w' : World} {B : Nat} {a : Option Addr} {c : Nat} {L : List Fo} {n : Nat} (h : ScL w B a c L n) (hb : Below w.heap.size w w') : ScL w' B a c L n :=
  ⟨h.own.grow hb, fun m hm => ⟨(h.txt m hm).1.grow hb, (h.txt m hm).2.grow hb⟩, h.sep, h.may, h.len⟩
theorem ScL.more {w : World} {B : Nat} {a : Option Addr} {c : Nat} {L : List Fo} {n m : Nat} (h : ScL w B a c L n) (k : n ≤ m) : ScL w B a c L m :=
  ⟨h.own, h.txt, h.sep, h.may, fun x hx => by have := h.len x hx; omega⟩
/-- an address of an owned text is a block that is there -/
theorem Own.lt {w : World} {base : Nat} {a : Option Addr} {c : Nat} {l : List Int} (h : Own w base a c l) : ∀ ad, a = some ad → base ≤ ad.block ∧ ad.block < w.heap.size := fun ad had => by
  rcases h.shape with ⟨h0, _⟩ | ⟨g, h0, hg, hl, _⟩
  · rw [h0] at had; cases had
  · rw [h0] at had; simp at had; subst had; exact ⟨hg, hl⟩
/-- an owned list of parts and an owned text lie in different blocks -/
theorem FOwn.off {w : World} {B B2 : Nat} {a : Option Addr} {c : Nat} {L : List Fo} (h : FOwn w B a c L) {a2 : Option Addr} {c2 : Nat} {l : List Int} (k : Own w B2 a2 c2 l) : ∀ ad, a2 = some ad → ¬ Blk a ad.block := fun ad had ⟨ae, hae, hb⟩ =>
  own_types h.1 k.1 (by decide) (k := ad.block) (by rw [hae, ← hb]; rfl) (by rw [had]; rfl)
theorem mayF_snoc (L : List Fp) (f : Fp) : mayF (L ++ [f]) = (mayF L && (may1 f && !((match L.getLast? with | none => false | some g => decide (g.kind = 0)) && decide (f.kind = 0)))) := mayR_app L f false
theorem may1_text {f : Fp} (h : may1 f = true) (hk : f.kind = 0) {r : Int} (hr : sgn r = true) : may1 { f with text := f.text ++ [r] } = true := by
  obtain ⟨k, g, hw, t, e⟩ := f
  dsimp only at hk ⊢
  subst hk
  unfold may1 at h ⊢
  dsimp only at h ⊢
  rw [Bool.and_eq_true, Bool.and_eq_true, Bool.and_eq_true, if_pos rfl] at h
  have h4 := of_decide_eq_true h.2.2.2
  rw [Bool.and_eq_true, Bool.and_eq_true, Bool.and_eq_true, if_pos rfl]
  exact ⟨h.1, may_snoc h.2.1 hr, h.2.2.1, decide_eq_true ⟨h4.1, h4.2.1, by simp, h4.2.2.2⟩⟩
theorem may_more {I : List Fo} {m m2 : Fo} {r : Int} (h : mayF (fps (I ++ [m])) = true) (hk : m.kind = 0) (hm : m2.fp = { m.fp with text := m.text ++ [r] }) (hr : sgn r = true) : mayF (fps (I ++ [m2])) = true := by
  rw [fps_app] at h ⊢
  change mayF (fps I ++ [m.fp]) = true at h
  show mayF (fps I ++ [m2.fp]) = true
  rw [mayF_snoc, Bool.and_eq_true, Bool.and_eq_true] at h
  rw [mayF_snoc, Bool.and_eq_true, Bool.and_eq_true, hm]
  exact ⟨h.1, may1_text h.2.1 hk hr, h.2.2⟩
theorem may_new {L : List Fo} {m : Fo} {r : Int} (h : mayF (fps L) = true) (hl : ∀ I x, L = I ++ [x] → x.kind ≠ 0) (hm : m.fp = ⟨0, 0, 0, [r], []⟩) (hr : sgn r = true) : mayF (fps (L ++ [m])) = true := by
  rw [fps_app]
  show mayF (fps L ++ [m.fp]) = true
  have he : endsP (fps L) := fun f hf => by
    rcases List.eq_nil_or_concat L with rfl | ⟨I, x, rfl⟩
    · simp [fps] at hf
    · have hx := hl I x (by simp)
      simp [fps] at hf
      rw [← hf]; exact hx
  have := mayF_wt h he (txt := [r]) (by simp [may, hr])
  rw [hm]
  simpa [wt] using this
/-- how long a fill can get, at most: the texts, and 20 for each part that is none -/
def wsum (L : List Fo) : Nat := (L.map fun m => m.text.length + m.els.length + if m.kind = 0 then 0 else 20).sum
theorem wsum_snoc (L : List Fo) (m : Fo) : wsum (L ++ [m]) = wsum L + (m.text.length + m.els.length + if m.kind = 0 then 0 else 20) := by
  simp [wsum, List.sum_append]
theorem rgt_last (I : List Fo) (m : Fo) : rgt (I ++ [m]) I.length = m := by
  rw [rgt_get (by simp)]; simp
def newF (w : World) (r : Int) : Fo := ⟨0, 0, 0, some ⟨w.heap.size, 0, none⟩, [r], 1, none, [], 0⟩
theorem newF_sl (w : World) (r : Int) : RSl encFo ((w.alloc (.cells #[.int .i32 r] 21)).alloc (.cells #[.int .i64 0, .int .i64 0, .int .i64 0, .slice (some ⟨w.heap.size, 0, none⟩) 1 1, .slice none 0 0] 71)) (some ⟨w.heap.size + 1, 0, none⟩) [newF w r] :=
  RSl.lit _ _ _ _ (by simp) _ rfl (by decide)
def LaidE (w : World) (B : Nat) (L : List Fo) (n : Nat) (e' : Ending) (w' : World) : Prop :=
  ∃ a' c' L', e' = .returned (.slice a' L'.length c') ∧ ScL w' B a' c' L' (n + 1) ∧ L'.length ≤ L.length + 1 ∧ wsum L' ≤ wsum L + 1 ∧ Below B w w'
theorem laid_new {B : Nat} {a a5 : Option Addr} {c c5 : Nat} {L L5 : List Fo} {n : Nat} {r : Int} {w w5 : World} (h : ScL w B a c L n) (hB : B ≤ w.heap.size) (hr : -2147483648 ≤ r ∧ r ≤ 2147483647) (hs : sgn r = true) (_hn : 1 ≤ n) (hl : ∀ I x, L = I ++ [x] → x.kind ≠ 0)
    (Hl : L5 = L ++ [newF w r]) (Ho : FOwn w5 B a5 c5 L5) (Hk : Kpt (Blk a) ((w.alloc (.cells #[.int .i32 r] 21)).alloc (.cells #[.int .i64 0, .int .i64 0, .int .i64 0, .slice (some ⟨w.heap.size, 0, none⟩) 1 1, .slice none 0 0] 71)) w5) (hb : Below B ((w.alloc (.cells #[.int .i32 r] 21)).alloc (.cells #[.int .i64 0, .int .i64 0, .int .i64 0, .slice (some ⟨w.heap.size, 0, none⟩) 1 1, .slice none 0 0] 71)) w5) :
    LaidE w B L n (.returned (.slice a5 L5.length c5)) w5 := by
  obtain ⟨V2, hV2⟩ : ∃ V2, V2 = w.alloc (.cells #[.int .i32 r] 21) := ⟨_, rfl⟩
  have b2 : Below w.heap.size w V2 := by subst hV2; (repeat' (first | exact Below.refl _ _ | assumption | refine bdrewN ?_ _ | refine Below.drew ?_ | refine bal ?_ _ | refine bthen ?_ (by assumption)))
  have z2 : V2.heap.size = w.heap.size + 1 := by subst hV2; simp
  have ot : Own V2 B (some ⟨w.heap.size, 0, none⟩) 1 [r] := by subst hV2; exact Own.lit' w [r] w.heap.size B 1 rfl hB (by simp) (rng_one hr) _ rfl rfl
  rw [← hV2] at Hk hb
  clear hV2
  generalize hV3 : V2.alloc (.cells #[.int .i64 0, .int .i64 0, .int .i64 0, .slice (some ⟨w.heap.size, 0, none⟩) 1 1, .slice none 0 0] 71) = V3 at Hk hb
  have b3 : Below V2.heap.size V2 V3 := by subst hV3; (repeat' (first | exact Below.refl _ _ | assumption | refine bdrewN ?_ _ | refine Below.drew ?_ | refine bal ?_ _ | refine bthen ?_ (by assumption)))
  have b23 : Below w.heap.size w V3 := b2.trans (b3.mono b2.size)
  have h3 := h.own.grow b23
  have old : ∀ {a2 : Option Addr} {c2 : Nat} {l2 : List Int}, Own V3 B a2 c2 l2 → Own w5 B a2 c2 l2 := fun {a2 c2 l2} k => k.same fun ad had hl => Hk.block _ hl (FOwn.off h3 k ad had)
  refine ⟨a5, c5, L5, rfl, ⟨Ho, fun x hx => ?_, fun I2 x e0 hk0 => ?_, ?_, fun x hx => ?_⟩, by rw [Hl]; simp, by rw [Hl, wsum_snoc]; exact Nat.le_refl _, (b23.mono hB).trans hb⟩
  · rw [Hl] at hx
    rcases List.mem_append.1 hx with hx | hx
    · have := h.txt x hx; exact ⟨old (this.1.grow b23), old (this.2.grow b23)⟩
    · rw [List.mem_singleton.1 hx]; exact ⟨old (ot.grow b3), Own.nil _ _⟩
  · rw [Hl] at e0
    obtain ⟨rfl, e1⟩ := List.append_inj' e0 rfl
    obtain rfl : newF w r = x := by simpa using e1
    refine ⟨fun y hy => ?_, fun ad had => by cases had⟩
    have hy2 := h.txt y hy
    refine ⟨fun ad had k => ?_, fun ad had k => ?_⟩
    · obtain ⟨ae, hae, hb2⟩ := k
      have := hy2.1.lt ad had
      simp [newF] at hae; subst hae; simp at hb2; omega
    · obtain ⟨ae, hae, hb2⟩ := k
      have := hy2.2.lt ad had
      simp [newF] at hae; subst hae; simp at hb2; omega
  · rw [Hl]; exact may_new h.may hl rfl hs
  · rw [Hl] at hx
    rcases List.mem_append.1 hx with hx | hx
    · have := h.len x hx; omega
    · rw [List.mem_singleton.1 hx]; simp [newF]
theorem laid_more {B g c n q : Nat} {I : List Fo} {m : Fo} {a5 : Option Addr} {c5 : Nat} {L5 : List Int} {r : Int} {w V w5 : World} (h : ScL w B (some ⟨g, 0, none⟩) c (I ++ [m]) n) (hk : m.kind = 0) (hq : q = I.length) (hB : B ≤ w.heap.size) (bV : Below w.heap.size w V) (hs : sgn r = true)
    (Hl : L5 = m.text ++ [r]) (Ho : Own w5 B a5 c5 L5) (Hk : Kpt (Blk m.ta) V w5) (hA : At V m.ta a5) (hb : Below B V w5) (hBg : B ≤ g) :
    ScL (w5.setCell ⟨g, q * 5 + 3, none⟩ (.slice a5 L5.length c5)) B (some ⟨g, 0, none⟩) c (I ++ [{ m with ta := a5, text := L5, tc := c5 }]) (n + 1) ∧ Below B w (w5.setCell ⟨g, q * 5 + 3, none⟩ (.slice a5 L5.length c5)) := by
  have hm : m ∈ I ++ [m] := by simp
  have hV := h.bel bV
  have apart : ∀ {a2 : Option Addr} {c2 B2 : Nat} {l : List Int}, Own V B2 a2 c2 l → ¬ Blk a2 g := fun {a2 c2 B2 l} k ⟨ad, had, he⟩ => FOwn.off hV.own k ad had ⟨_, rfl, he.symm⟩
  have o5 : FOwn w5 B (some ⟨g, 0, none⟩) c (I ++ [m]) := ROwn.same hV.own fun ad had hl => by
    simp only [Option.some.injEq] at had
    subst had
    exact Hk.block _ hl (apart (hV.txt m hm).1)
  have hsep := hV.sep I m rfl hk
  have toW5 : ∀ {a2 : Option Addr} {c2 : Nat} {l : List Int}, Own V B a2 c2 l → Off a2 (Blk m.ta) → Own w5 B a2 c2 l := fun {a2 c2 l} k ho => k.same fun ad had hl => Hk.block _ hl (ho ad had)
  have toW6 : ∀ {a2 : Option Addr} {c2 : Nat} {l : List Int}, Own w5 B a2 c2 l → Own (w5.setCell ⟨g, q * 5 + 3, none⟩ (.slice a5 L5.length c5)) B a2 c2 l := fun {a2 c2 l} k => k.setOther ⟨g, q * 5 + 3, none⟩ _ fun ad had e => FOwn.off o5 k ad had ⟨_, rfl, e.symm⟩
  have hset : (I ++ [m]).set q { m with ta := a5, text := L5, tc := c5 } = I ++ [{ m with ta := a5, text := L5, tc := c5 }] := by
    rw [hq, List.set_append_right _ _ (Nat.le_refl _), Nat.sub_self]; rfl
  have hrl : rgt (I ++ [m]) q = m := by rw [hq]; exact rgt_last I m
  refine ⟨⟨?_, fun x hx => ?_, fun I2 x e0 hk0 => ?_, ?_, fun x hx => ?_⟩, ((bV.mono hB).trans hb).setCell (by exact hBg) _⟩
  · have := ROwn.stored o5 q 3 { m with ta := a5, text := L5, tc := c5 } (.slice a5 L5.length c5) (by rw [hq]; simp) (by decide) (by rw [hrl]; rfl)
    rw [hset] at this
    exact this
  · rcases List.mem_append.1 hx with hx | hx
    · have h1 := hV.txt x (List.mem_append_left _ hx)
      have h2 := hsep.1 x hx
      exact ⟨toW6 (toW5 h1.1 h2.1), toW6 (toW5 h1.2 h2.2)⟩
    · rw [List.mem_singleton.1 hx]
      exact ⟨toW6 Ho, toW6 (toW5 (hV.txt m hm).2 hsep.2)⟩
  · obtain ⟨rfl, e1⟩ := List.append_inj' e0 rfl
    obtain rfl : { m with ta := a5, text := L5, tc := c5 } = x := by simpa using e1
    have key : ∀ {a2 : Option Addr} {c2 : Nat} {l : List Int}, Own V B a2 c2 l → Off a2 (Blk m.ta) → Off a2 (Blk a5) := fun {a2 c2 l} k ho ad had ⟨ae, hae, he⟩ => by
      rcases hA ae hae with h1 | h1
      · rw [he] at h1; exact ho ad had h1
      · have := (k.lt ad had).2; omega
    exact ⟨fun y hy => ⟨key (hV.txt y (List.mem_append_left _ hy)).1 (hsep.1 y hy).1, key (hV.txt y (List.mem_append_left _ hy)).2 (hsep.1 y hy).2⟩, key (hV.txt m hm).2 hsep.2⟩
  · exact may_more h.may hk (by rw [← Hl]; rfl) hs
  · rcases List.mem_append.1 hx with hx | hx
    · have := h.len x (List.mem_append_left _ hx); omega
    · have := h.len m hm
      rw [List.mem_singleton.1 hx]
      dsimp only
      rw [Hl, List.length_append, List.length_singleton]; omega
set_option maxRecDepth 20000 in
set_option maxHeartbeats 16000000 in
theorem laid_c (B : Nat) (a : Option Addr) (c : Nat) (L : List Fo) (n : Nat) (r : Int) (w : World) (h : ScL w B a c L n) (hB : B ≤ w.heap.size) (hr : -2147483648 ≤ r ∧ r ≤ 2147483647) (hs : sgn r = true) (hn : 1 ≤ n ∧ n ≤ 100000) (hL : L.length ≤ 100000) :
    Calls Tryz.prog 32 #[.slice a L.length c, .int .i32 r] w (LaidE w B L n) := by
  have HH := hid h
  have HSg := hid hs
  rcases List.eq_nil_or_concat L with rfl | ⟨I, m, rfl⟩
  · clear h hs
    go_enter Tryz.func32, Tryz.ntmps32
    go_wp2_with (at_builtin; go_loud (refine wpL_rapp Tryz.tyFo rfl (.tmp 32) (.tmp 36) rfl B a (some ⟨w.heap.size + 1, 0, none⟩) 0 1 c 1 [] [newF w r] rfl (by first | rfl | simp | omega) (HH.out.own.grow (by (repeat' (first | exact Below.refl _ _ | assumption | refine bdrewN ?_ _ | refine Below.drew ?_ | refine bal ?_ _ | refine bthen ?_ (by assumption))))) rfl (by first | rfl | simp | omega) (newF_sl w r) (by show _ ≤ 1099511627776; simp) (by simp; omega) ?_); intro a5 c5 w5 L5 Hl5 ho5 hb5 hk5 hA5; have HA5 := hid hA5; clear hA5; have Ho5 := hid ho5; clear ho5; have Hk5 := hid hk5; clear hk5; have hz5 := hb5.size)
    go_ret
    exact laid_new HH.out hB hr HSg.out hn.1 (fun I x e => by simp at e) Hl5.out Ho5.out Hk5.out hb5
  · rw [List.concat_eq_append] at *
    obtain ⟨q, hq⟩ : ∃ q, q = I.length := ⟨_, rfl⟩
    have hlen : (I ++ [m]).length = q + 1 := by rw [hq]; simp
    obtain ⟨b, off, hab, hblk, r0, r1, r2, r3, r4⟩ := fo_cells h.own.sl (i := q) (by rw [hlen]; omega)
    obtain ⟨g, hag, hg1, hg2, hg3⟩ : ∃ g, a = some ⟨g, 0, none⟩ ∧ B ≤ g ∧ g < w.heap.size ∧ (I ++ [m]).length ≤ c := by
      rcases h.own.shape with ⟨_, _, h0⟩ | h0
      · simp at h0
      · exact h0
    rw [hag] at hab
    simp only [Option.some.injEq, Addr.mk.injEq, and_true] at hab
    obtain ⟨rfl, rfl⟩ := hab
    have em : rgt (I ++ [m]) q = m := by rw [hq]; exact rgt_last I m
    rw [em] at r0 r1 r2 r3 r4
    rw [Nat.zero_add] at r0 r1 r2 r3 r4
    have HQ := hid hq
    have HI := hid hlen
    subst hag
    rw [hlen] at hL ⊢
    by_cases hk : m.kind = 0
    · obtain ⟨kind, grp, how, ta, text, tc, ea, els, ec⟩ := m
      dsimp only at hk r0 r1 r2 r3 r4
      subst hk
      have hmem : (⟨0, grp, how, ta, text, tc, ea, els, ec⟩ : Fo) ∈ I ++ [⟨0, grp, how, ta, text, tc, ea, els, ec⟩] := by simp
      have HT := hid (h.txt _ hmem)
      have HLn := hid (h.len _ hmem)
      have HG3 := hid hg3
      have hfz := hid (fun o => h.own.1.frozenAt o)
      have tl := HLn.out.1
      dsimp only at HT HLn tl
      clear h hs em hlen hq hmem hg3
      go_enter Tryz.func32, Tryz.ntmps32
      go_wp2_with ((at_builtin; go_loud (refine wpL_appn rfl (.tmp 25) (.tmp 27) rfl B ta (some ⟨w.heap.size, 0, none⟩) text.length 1 tc 1 text [r] rfl (by first | rfl | simp | omega) (HT.out.1.grow (by (repeat' (first | exact Below.refl _ _ | assumption | refine bdrewN ?_ _ | refine Below.drew ?_ | refine bal ?_ _ | refine bthen ?_ (by assumption))))) rfl (by first | rfl | simp | omega) (Sl.lit' w [r] _ w.heap.size rfl (by simp) (rng_one hr) _ rfl) (by simp; omega) (by simp; omega) ?_); intro a5 c5 w5 L5 Hl5 ho5 hb5 hk5 hA5; have HA5 := hid hA5; clear hA5; have Ho5 := hid ho5; clear ho5; have Hk5 := hid hk5; clear hk5; have hz5 := hb5.size); go_loud (have hgt : ¬ Blk ta g := fun ⟨ad, had, he⟩ => FOwn.off HH.out.own HT.out.1 ad had ⟨_, rfl, he.symm⟩; have r3' : w5.cell? ⟨g, q * 5 + 3, none⟩ = some (.slice ta text.length tc) := Hk5.out.cell (((Below.refl w.heap.size w).alloc (Nat.le_refl _) _).cell hg2 |>.trans r3) hgt; have f3' : w5.frozen? ⟨g, q * 5 + 3, none⟩ = false := (Hk5.out.frozen (by simp; omega) hgt).trans (by rw [World.frozen?_of_block (w := w) (a := ⟨g, q * 5 + 3, none⟩) (((Below.refl w.heap.size w).alloc (Nat.le_refl _) _).block g hg2)]; exact hfz.out _)))
      go_ret
      have := laid_more HH.out rfl HQ.out hB ((Below.refl w.heap.size w).alloc (Nat.le_refl _) _) HSg.out Hl5.out Ho5.out Hk5.out HA5.out hb5 hg1
      refine ⟨some ⟨g, 0, none⟩, c, _, ?_, this.1, by simp, by rw [wsum_snoc, wsum_snoc, Hl5.out]; simp; omega, this.2⟩
      simp [HQ.out]
    · have e1 : (m.kind == 0) = false := by simpa using hk
      have HK := hid hk
      clear h hs hk em hlen hq
      obtain rfl := HQ.out
      go_enter Tryz.func32, Tryz.ntmps32
      go_wp2_with (at_builtin; go_loud (refine wpL_rapp Tryz.tyFo rfl (.tmp 32) (.tmp 36) rfl B (some ⟨g, 0, none⟩) (some ⟨w.heap.size + 1, 0, none⟩) (I.length + 1) 1 c 1 (I ++ [m]) [newF w r] rfl (by first | rfl | simp | omega) (HH.out.own.grow (by (repeat' (first | exact Below.refl _ _ | assumption | refine bdrewN ?_ _ | refine Below.drew ?_ | refine bal ?_ _ | refine bthen ?_ (by assumption))))) rfl (by first | rfl | simp | omega) (newF_sl w r) (by show _ ≤ 1099511627776; rw [HI.out, List.length_singleton]; omega) (by simp; omega) ?_); intro a5 c5 w5 L5 Hl5 ho5 hb5 hk5 hA5; have HA5 := hid hA5; clear hA5; have Ho5 := hid ho5; clear ho5; have Hk5 := hid hk5; clear hk5; have hz5 := hb5.size)
      go_ret
      exact laid_new HH.out hB hr HSg.out hn.1 (fun I2 x e => by obtain ⟨_, e2⟩ := List.append_inj' e rfl; obtain rfl : m = x := (by simpa using e2); exact HK.out) Hl5.out Ho5.out Hk5.out hb5
end Go.Proofs.YtefgjicegbhcaaaGreat
namespace Go.Proofs.YtefgjicegbhcaaaGreat
open Go.RowKit FmM

def ScanE (w : World) (l : List Int) (e' : Ending) (w' : World) : Prop :=
  ∃ (af : Option Addr) (cf : Nat) (L : List Fo) (on : Int) (b : Bool), e' = .returned (.tuple #[.slice af L.length cf, .int .i64 on, .bool b]) ∧ ScL w' w.heap.size af cf L (l.length + l.length + 1) ∧ L.length ≤ l.length ∧ wsum L ≤ 11 * l.length ∧ Below w.heap.size w w'
theorem ScL.part {w w2 : World} {B : Nat} {a a5 : Option Addr} {c c5 : Nat} {L L5 : List Fo} {n : Nat} {m : Fo} (h : ScL w B a c L n) (hk : m.kind ≠ 0) (hm : may1 m.fp = true) (Hl : L5 = L ++ [m]) (Ho : FOwn w2 B a5 c5 L5) (ht : Own w2 B m.ta m.tc m.text) (he : Own w2 B m.ea m.ec m.els) (hn : m.text.length ≤ n ∧ m.els.length ≤ n)
    (old : ∀ x, x ∈ L → Own w2 B x.ta x.tc x.text ∧ Own w2 B x.ea x.ec x.els) : ScL w2 B a5 c5 L5 n := by
  subst Hl
  refine ⟨Ho, fun x hx => ?_, fun I2 x e0 hk0 => ?_, ?_, fun x hx => ?_⟩
  · rcases List.mem_append.1 hx with hx | hx
    · exact old x hx
    · rw [List.mem_singleton.1 hx]; exact ⟨ht, he⟩
  · obtain ⟨_, e1⟩ := List.append_inj' e0 rfl
    obtain rfl : m = x := by simpa using e1
    exact absurd hk0 hk
  · rw [fps_app]; exact mayF_part h.may hm hk
  · rcases List.mem_append.1 hx with hx | hx
    · exact h.len x hx
    · rw [List.mem_singleton.1 hx]; exact hn
set_option maxRecDepth 20000 in
set_option maxHeartbeats 32000000 in
theorem fscan_c (a : Option Addr) (c : Nat) (l : List Int) (w : World) (h : Sl w a l) (hl : l.length ≤ 1000) :
    Calls Tryz.prog 9 #[.slice a l.length c, .int .i64 0] w (ScanE w l) := by
  have MC := hid (rmay_c a c l w h)
  obtain ⟨n, hn⟩ : ∃ n, n = l.length := ⟨_, rfl⟩
  have HS := hid h
  have Hn := hid hn
  rw [← hn] at hl MC ⊢
  have LC : Hid (∀ w' af cf L k r, ScL w' w.heap.size af cf L k → w.heap.size ≤ w'.heap.size → (-2147483648 ≤ r ∧ r ≤ 2147483647) → sgn r = true → (1 ≤ k ∧ k ≤ 100000) → L.length ≤ 100000 → Calls Tryz.prog 32 #[.slice af L.length cf, .int .i32 r] w' (LaidE w' w.heap.size L k)) := hid fun w' af cf L k r h1 h2 h3 h4 h5 h6 => laid_c w.heap.size af cf L k r w' h1 h2 h3 h4 h5 h6
  have e0 : decide ((n : Int) < 0) = false := decide_eq_false (by omega)
  cases hm : may l with
  | false =>
    rw [hm] at MC
    clear hn h hm
    go_enter Tryz.func9, Tryz.ntmps9
    go_wp2_with (go_at_call 30; (with_reducible refine (MC.out).mono ?_); rintro _ _ ⟨rfl, rfl⟩)
    go_ret3
    exact ⟨none, 0, [], 0, false, rfl, ScL.nil _ _ _, by simp, by simp [wsum], by (repeat' (first | exact Below.refl _ _ | assumption | refine bdrewN ?_ _ | refine Below.drew ?_ | refine Below.setCell ?_ (Nat.le_refl _) _ | refine bal ?_ _ | refine bthen ?_ (by assumption)))⟩
  | true =>
    rw [hm] at MC
    have HM := hid hm
    clear hn h hm
    have PC : Hid (∀ w' j, Below w.heap.size w w' → j ≤ n → Calls Tryz.prog 33 #[.slice a n c, .int .i64 ((j : Nat) : Int)] w' (FprtE w' l j)) := hid fun w' j b hj => by rw [Hn.out]; exact fpart_c a c l j w' (HS.out.bel b) HM.out (by rw [← Hn.out]; exact hl) (by rw [← Hn.out]; exact hj)
    go_enter Tryz.func9, Tryz.ntmps9
    go_wp2_with (go_at_call 30; (with_reducible refine (MC.out).mono ?_); rintro _ _ ⟨rfl, rfl⟩)
    go_loopw [1, 7, 8, 9] (fun iv ov _ _ wr => ∃ (j : Nat) (az : Option Addr) (cz : Nat) (L : List Fo), iv = .int .i64 j ∧ ov = .slice az L.length cz ∧ j ≤ n ∧ L.length ≤ j ∧ Hid (ScL wr w.heap.size az cz L (n + j + 1)) ∧ Hid (wsum L ≤ 11 * j) ∧ Below w.heap.size w wr) (fun iv _ _ _ _ => n - (intOf iv).toNat)
    case atStart => exact ⟨0, none, 0, [], rfl, rfl, by omega, by simp, hid (ScL.nil _ _ _), hid (by simp [wsum]), by (repeat' (first | exact Below.refl _ _ | assumption | refine bdrewN ?_ _ | refine Below.drew ?_ | refine Below.setCell ?_ (Nat.le_refl _) _ | refine bal ?_ _ | refine bthen ?_ (by assumption)))⟩
    case round =>
      obtain ⟨j, az, cz, L, rfl, rfl, hjn, hLj, HL, HWs, hb⟩ := hrel
      have hbz := hb.size
      by_cases hlt : j < n
      · obtain ⟨b, o, rfl, hc⟩ := (HS.out.bel hb).at (i := j) (by rw [← Hn.out]; exact hlt)
        have ck := hc j (by rw [← Hn.out]; exact hlt)
        have HX := hid (And.intro (rng_gt HS.out.rng (i := j) (by rw [← Hn.out]; exact hlt)) (may_at HM.out (i := j) (by rw [← Hn.out]; exact hlt)))
        have HN := hid (show ∀ h : j + 1 < n, wr.cell? ⟨b, o + (j + 1), none⟩ = some (.int .i32 (gt l (j + 1))) from fun h => hc (j + 1) (by rw [← Hn.out]; exact h))
        have HRN := hid (show ∀ h : j + 1 < n, (-2147483648 ≤ gt l (j + 1) ∧ gt l (j + 1) ≤ 2147483647) ∧ sgn (gt l (j + 1)) = true from fun h => ⟨rng_gt HS.out.rng (by rw [← Hn.out]; exact h), may_at HM.out (by rw [← Hn.out]; exact h)⟩)
        generalize gt l j = x at *
        generalize gt l (j + 1) = y at *
        clear hc
        by_cases h47 : x = 47
        · subst h47
          go_wp2_with fail
          go_ret3
          exact ⟨az, cz, L, j, true, rfl, HL.out.more (by rw [← Hn.out]; omega), by rw [← Hn.out]; omega, by rw [← Hn.out]; have := HWs.out; omega, hb⟩
        · have e47 : (x == 47) = false := by simpa using h47
          clear h47
          by_cases h36 : x = 36
          · subst h36
            go_wp2_with fail
            refine (PC.out wr j hb (by omega)).mono ?_
            rintro _ w5 ⟨m, on, rfl, hon, ot, oe, lt, le, b5⟩
            have OT := hid ot
            have OE := hid oe
            have LT := hid lt
            have LE := hid le
            obtain ⟨w6, hw6⟩ : ∃ V, V = w5.alloc (.cells #[.int .i64 m.kind, .int .i64 m.grp, .int .i64 m.how, .slice m.ta m.text.length m.tc, .slice m.ea m.els.length m.ec] 71) := ⟨_, rfl⟩
            have b6 : Below w5.heap.size w5 w6 := by subst hw6; (repeat' (first | exact Below.refl _ _ | assumption | refine bdrewN ?_ _ | refine Below.drew ?_ | refine bal ?_ _ | refine bthen ?_ (by assumption)))
            have F6 : Hid (FoC w6 w5.heap.size m) := by subst hw6; exact FoC.new w5 m _ _ rfl
            have b56 : Below wr.heap.size wr w6 := b5.trans (b6.mono b5.size)
            have B6 := hid (hb.trans (b56.mono hbz))
            have HL6 := hid (HL.out.bel b56)
            have ck6 := (b56.cell (World.block_lt_of_cell? wr _ ck)).trans ck
            have hz6 : w.heap.size ≤ w6.heap.size := B6.out.size
            have OT6 := hid (OT.out.grow b6)
            have OE6 := hid (OE.out.grow b6)
            have hz5 := b5.size
            clear ot oe lt le b5 b6 b56
            unfold Fo.val
            go_upto_region 12 with fail
            rw [← hw6]; clear hw6
            rcases hon with rfl | ⟨k1, k2, k3, k4⟩
            · go_wp2_with fail
              refine (LC.out w6 az cz L (n + j + 1) 36 HL6.out hz6 HX.out.1 HX.out.2 (by omega) (by omega)).mono ?_
              rintro _ w9 ⟨a9, c9, L9, rfl, h9, hl9, hw9, hb9⟩
              have H9 := hid h9
              have HW9 := hid hw9
              have B9 := hid (B6.out.trans hb9)
              clear h9 hb9 hw9
              go_wp2_with fail
              go_roundw
              case rel => exact ⟨j + 1, a9, c9, L9, by go_num, rfl, by omega, by omega, hid (H9.out.more (by omega)), hid (by have := HW9.out; have := HWs.out; omega), B9.out⟩
              case measure => simp [intOf]; omega
            · have q1 : decide (0 < on) = true := decide_eq_true (by omega)
              have q2 : decide ((0 : Int) < (on : Int)) = true := decide_eq_true (by omega)
              have k2n : on ≤ n := by rw [Hn.out]; exact k2
              have K3 := hid k3
              have K4 := hid k4
              clear k3 k4
              have c0 := F6.out.c0
              have c1 := F6.out.c1
              have c2 := F6.out.c2
              have c3 := F6.out.c3
              have c4 := F6.out.c4
              go_wp2_with (at_builtin; go_loud (refine wpL_rapp Tryz.tyFo rfl (.tmp 79) (.tmp 81) rfl w.heap.size az (some ⟨w6.heap.size, 0, none⟩) L.length 1 cz 1 L [m] rfl (by first | rfl | simp | omega) (HL6.out.own.grow (by (repeat' (first | exact Below.refl _ _ | assumption | refine bdrewN ?_ _ | refine Below.drew ?_ | refine bal ?_ _ | refine bthen ?_ (by assumption))))) rfl (by first | rfl | simp | omega) (RSl.lit (E := encFo) w6 m 71 w6.heap.size rfl #[.int .i64 m.kind, .int .i64 m.grp, .int .i64 m.how, .slice m.ta m.text.length m.tc, .slice m.ea m.els.length m.ec] rfl (by decide)) (by show _ ≤ 1099511627776; simp; omega) (by simp; omega) ?_); intro a9 c9 w9 L9 Hl9 ho9 hb9 hk9 hA9; have HA9 := hid hA9; clear hA9; have Ho9 := hid ho9; clear ho9; have Hk9 := hid hk9; clear hk9; have hz9 := hb9.size)
              go_roundw
              case rel =>
                have b7 : Below w6.heap.size w6 (w6.alloc (.cells #[.int .i64 m.kind, .int .i64 m.grp, .int .i64 m.how, .slice m.ta m.text.length m.tc, .slice m.ea m.els.length m.ec] 71)) := (Below.refl _ _).alloc (Nat.le_refl _) _
                have HL7 := HL6.out.bel b7
                have old : ∀ {a2 : Option Addr} {c2 B2 : Nat} {l2 : List Int}, Own w6 B2 a2 c2 l2 → w.heap.size ≤ B2 → Own w9 w.heap.size a2 c2 l2 := fun {a2 c2 B2 l2} k hB2 => ((k.grow b7).same fun ad had hl => Hk9.out.block _ hl (FOwn.off HL7.own (k.grow b7) ad had)).base_le hB2
                refine ⟨on, a9, c9, L9, rfl, rfl, k2n, by rw [Hl9.out]; simp; omega, hid ?_, hid (by rw [Hl9.out, wsum_snoc, if_neg K4.out]; have := HWs.out; omega), B6.out.trans ((b7.mono hz6).trans hb9)⟩
                refine ScL.part (HL6.out.more (by omega)) K4.out K3.out Hl9.out Ho9.out (old OT6.out hbz) (old OE6.out hbz) ⟨by have := LT.out; rw [← Hn.out] at this; omega, by have := LE.out; rw [← Hn.out] at this; omega⟩ fun x hx => ⟨old (HL6.out.txt x hx).1 (Nat.le_refl _), old (HL6.out.txt x hx).2 (Nat.le_refl _)⟩
              case measure => simp [intOf]; omega
          · have e36 : (x == 36) = false := by simpa using h36
            clear h36
            by_cases h92 : x = 92 ∧ j + 1 < n
            · obtain ⟨rfl, hj1⟩ := h92
              have cy := HN.out hj1
              have hry := hid (HRN.out hj1)
              have e1 : decide ((j : Int) + 1 < (n : Int)) = true := decide_eq_true (by omega)
              have e2 : decide (j + 1 < n) = true := decide_eq_true hj1
              have HC := hid (has_d ⟨#[92, 36, 125, 47]⟩ y wr (by decide))
              generalize hasL _ y = bb at HC
              cases bb with
              | true =>
                go_wp2_with (go_at_call 31; refine HC.out.mono ?_; rintro _ _ ⟨rfl, rfl⟩)
                refine (LC.out wr az cz L (n + j + 1) y HL.out hbz hry.out.1 hry.out.2 (by omega) (by omega)).mono ?_
                rintro _ w9 ⟨a9, c9, L9, rfl, h9, hl9, hw9, hb9⟩
                have H9 := hid h9
                have HW9 := hid hw9
                have B9 := hid (hb.trans hb9)
                clear h9 hb9 hw9
                go_wp2_with fail
                go_roundw
                case rel => exact ⟨j + 2, a9, c9, L9, by go_num, rfl, by omega, by omega, hid (H9.out.more (by omega)), hid (by have := HW9.out; have := HWs.out; omega), B9.out⟩
                case measure => simp [intOf]; omega
              | false =>
                go_wp2_with (go_at_call 31; refine HC.out.mono ?_; rintro _ _ ⟨rfl, rfl⟩)
                refine (LC.out wr az cz L (n + j + 1) 92 HL.out hbz HX.out.1 HX.out.2 (by omega) (by omega)).mono ?_
                rintro _ w9 ⟨a9, c9, L9, rfl, h9, hl9, hw9, hb9⟩
                have H9 := hid h9
                have HW9 := hid hw9
                have B9 := hid (hb.trans hb9)
                clear h9 hb9 hw9
                go_wp2_with fail
                go_roundw
                case rel => exact ⟨j + 1, a9, c9, L9, by go_num, rfl, by omega, by omega, hid (H9.out.more (by omega)), hid (by have := HW9.out; have := HWs.out; omega), B9.out⟩
                case measure => simp [intOf]; omega
            · have HNo : Hid ((x == 92) = false ∨ ((x == 92) = true ∧ decide ((j : Int) + 1 < (n : Int)) = false ∧ decide (j + 1 < n) = false)) := hid (by
                by_cases h : x = 92
                · exact .inr ⟨by simpa using h, decide_eq_false (fun k => h92 ⟨h, by omega⟩), decide_eq_false (fun k => h92 ⟨h, k⟩)⟩
                · exact .inl (by simpa using h))
              clear h92
              rcases HNo.out with e0 | ⟨e0, e1, e2⟩
              · go_wp2_with fail
                refine (LC.out wr az cz L (n + j + 1) x HL.out hbz HX.out.1 HX.out.2 (by omega) (by omega)).mono ?_
                rintro _ w9 ⟨a9, c9, L9, rfl, h9, hl9, hw9, hb9⟩
                have H9 := hid h9
                have HW9 := hid hw9
                have B9 := hid (hb.trans hb9)
                clear h9 hb9 hw9
                go_wp2_with fail
                go_roundw
                case rel => exact ⟨j + 1, a9, c9, L9, by go_num, rfl, by omega, by omega, hid (H9.out.more (by omega)), hid (by have := HW9.out; have := HWs.out; omega), B9.out⟩
                case measure => simp [intOf]; omega
              · have hx92 : x = 92 := by simpa using e0
                subst hx92
                go_wp2_with fail
                refine (LC.out wr az cz L (n + j + 1) 92 HL.out hbz HX.out.1 HX.out.2 (by omega) (by omega)).mono ?_
                rintro _ w9 ⟨a9, c9, L9, rfl, h9, hl9, hw9, hb9⟩
                have H9 := hid h9
                have HW9 := hid hw9
                have B9 := hid (hb.trans hb9)
                clear h9 hb9 hw9
                go_wp2_with fail
                go_roundw
                case rel => exact ⟨j + 1, a9, c9, L9, by go_num, rfl, by omega, by omega, hid (H9.out.more (by omega)), hid (by have := HW9.out; have := HWs.out; omega), B9.out⟩
                case measure => simp [intOf]; omega
      · obtain rfl : j = n := by omega
        go_wp2_with fail
        go_ret3
        exact ⟨none, 0, [], 0, false, rfl, ScL.nil _ _ _, by simp, by simp [wsum], hb⟩
end Go.Proofs.YtefgjicegbhcaaaGreat
namespace Go.Proofs.YtefgjicegbhcaaaGreat
open Go.RowKit

end Go.Proofs.YtefgjicegbhcaaaGreat
namespace Go.Proofs.YtefgjicegbhcaaaGreat
open Go.RowKit FmM

/-- a short list of parts that can be a format, all its texts short -/
structure Fml (w : World) (fa : Option Addr) (fc : Nat) (L : List Fo) : Prop where
  sl : FSl w fa L
  fos : Fos w (fun _ => False) L
  may : mayF (fps L) = true
  len : L.length ≤ 61
  tx : ∀ m, m ∈ L → m.text.length ≤ 200 ∧ m.els.length ≤ 200
  cap : L.length ≤ fc
  wt : wsum L ≤ 671
theorem Fml.bel {w w' : World} {fa : Option Addr} {fc : Nat} {L : List Fo} (h : Fml w fa fc L) (b : Below w.heap.size w w') : Fml w' fa fc L := ⟨h.sl.bel b, h.fos.bel b, h.may, h.len, h.tx, h.cap, h.wt⟩
theorem may1_rng {m : Fo} (h : may1 m.fp = true) : ir m.kind ∧ ir m.grp ∧ ir m.how := by
  obtain ⟨k, g, hw, ta, t, tc, ea, e, ec⟩ := m
  rw [may1_eq, Bool.and_eq_true, Bool.and_eq_true, Bool.and_eq_true] at h
  have h1 := of_decide_eq_true h.1
  have h2 := h.2.2.2
  change 0 ≤ g ∧ g ≤ 99 at h1
  unfold mayFl at h2
  change (if k = 0 then decide (g = 0 ∧ hw = 0 ∧ t ≠ [] ∧ e = []) else if k = 1 then decide (0 ≤ hw ∧ hw ≤ 5 ∧ t = [] ∧ e = []) else if k = 2 then decide (hw = 0 ∧ e = []) else if k = 3 then decide (hw = 0 ∧ t = []) else if k = 4 then decide (hw = 0) else false) = true at h2
  unfold ir
  dsimp only
  repeat' split at h2
  all_goals first
    | (have := of_decide_eq_true h2; omega)
    | (cases h2)
theorem ScL.fml {w : World} {B : Nat} {a : Option Addr} {c : Nat} {L : List Fo} {n : Nat} (h : ScL w B a c L n) (hn : n ≤ 200) (hl : L.length ≤ 61) (hw : wsum L ≤ 671) : Fml w a c L := by
  refine ⟨h.own.sl, fun m hm => ?_, h.may, hl, fun m hm => by have := h.len m hm; omega, h.own.cap, hw⟩
  have ht := h.txt m hm
  have h1 := may1_rng (mayR_all _ _ h.may m.fp (List.mem_map_of_mem hm))
  exact ⟨fun w' k => ht.1.sl.kp k fun _ _ h => h, Own.cap ht.1, fun w' k => ht.2.sl.kp k fun _ _ h => h, Own.cap ht.2, h1.1, h1.2.1, h1.2.2⟩
def MadeE (w : World) (p : Nat) (a : Option Addr) (l : List Int) (c : Nat) (e' : Ending) (w' : World) : Prop :=
  ∃ pa pc P fa fc L, e' = .returned (.tuple #[.slice pa P.length pc, .slice fa L.length fc]) ∧ Own w' w.heap.size pa pc P ∧ Fml w' fa fc L ∧ (∃ i, TapeAt w' p a l c i) ∧ Kpt (fun k => k = p) w w'
set_option maxRecDepth 20000 in
set_option maxHeartbeats 16000000 in
theorem made_c (p : Nat) (a : Option Addr) (l : List Int) (c : Nat) (w : World) (ht : ∃ i, TapeAt w p a l c i) (hS : ∀ w', Below p w w' → I.Sl w' a l) :
    Calls Tryz.prog 16 #[.pointer (some ⟨p, 0, none⟩)] w (MadeE w p a l c) := by
  have C := hid (pattern_all p a l c 2 (by omega) w ht hS)
  have hplt : p < w.heap.size := by obtain ⟨i, t⟩ := ht; exact t.lt
  have HS := hid hS
  clear ht hS
  go_enter Tryz.func16, Tryz.ntmps16
  go_wp2_with fail
  refine C.out.mono ?_
  rintro _ w1 ⟨pa, pc, P, rfl, ho, -, hpl, ht1, hk1⟩
  have HO := hid ho
  have K1 := hid hk1
  have hz1 := hk1.size
  have FC := hid (format_c p a l c w1 ht1 (fun w' hb => HS.out w' ((K1.out.belowp (by omega)).trans hb)))
  clear ho ht1 hk1 C hpl
  go_wp2_with fail
  refine FC.out.mono ?_
  rintro _ w2 ⟨a2, c2, F, rfl, ho2, hl2, ht2, hk2⟩
  have O2 := hid ho2
  have K2 := hid (K1.out.tr hk2)
  have T2 := hid ht2
  have HO2 := hid (HO.out.kr hk2 hplt)
  have hz2 := hk2.size
  have hL2 := hid hl2
  clear ho2 ht2 hk2 FC hl2
  go_wp2_with (at_builtin; (refine wpL_appn rfl (.tmp 12) (.tmp 13) rfl w1.heap.size a2 (some ⟨w2.heap.size, 0, none⟩) F.length 1 c2 1 F [47] rfl (by first | rfl | simp | omega) (O2.out.grow (by (repeat' (first | exact Below.refl _ _ | assumption | refine bdrewN ?_ _ | refine Below.drew ?_ | refine bal ?_ _ | refine bthen ?_ (by assumption))))) rfl (by first | rfl | simp | omega) (Sl.lit' _ [47] _ _ (by simp) (by simp) (by simp [rng]) _ rfl) (by have := hL2.out; simp; omega) (by simp; omega) ?_); intro a5 c5 w5 L5 Hl5 ho5 hb5 hk5 hA5; have HA5 := hid hA5; clear hA5; have Ho5 := hid ho5; clear ho5; have Hk5 := hid hk5; clear hk5; have hz5 := hb5.size)
  have B5 : Hid (Below w1.heap.size w2 w5) := hid (((Below.refl w1.heap.size w2).alloc hz2 _).trans hb5)
  have l5 : L5.length ≤ 61 := by rw [Hl5.out, List.length_append]; have := hL2.out; simp; omega
  have SC := hid (fscan_c a5 c5 L5 w5 Ho5.out.sl (by omega))
  have HO5 := hid (HO2.out.same fun ad ha hl => B5.out.block _ (HO.out.lt ad ha).2)
  have T5 := hid (show ∃ i, TapeAt w5 p a l c i from by obtain ⟨i, t⟩ := T2.out; exact ⟨i, t.below B5.out (by omega)⟩)
  have K5 : Hid (Kpt (fun k => k = p) w w5) := hid ⟨B5.out.os.trans K2.out.os, B5.out.tape.trans K2.out.tape, B5.out.output.trans K2.out.output, Nat.le_trans K2.out.size B5.out.size, fun k hk hn => (B5.out.block k (by omega)).trans (K2.out.block k hk hn)⟩
  refine SC.out.mono ?_
  rintro _ w6 ⟨af, cf, L6, on, b, rfl, hsc, hl6, hw6, b6⟩
  have HF6 := hid (hsc.fml (by omega) (by omega) (by omega))
  have HO6 := hid (HO5.out.grow b6)
  have T6 := hid (show ∃ i, TapeAt w6 p a l c i from by obtain ⟨i, t⟩ := T5.out; exact ⟨i, t.below b6 (by have := K5.out.size; omega)⟩)
  have K6 := hid (K5.out.onb' b6)
  clear hsc b6 SC
  go_wp2_with fail
  go_ret2
  exact ⟨pa, pc, P, af, cf, L6, rfl, HO6.out, HF6.out, T6.out, K6.out⟩
end Go.Proofs.YtefgjicegbhcaaaGreat
