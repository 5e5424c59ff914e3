/- The document's reader: a member of a class, single. -/
import Derived.Test.YtniilphbbcbpcaaDrX
namespace Go.Proofs.Ytniilphbbcbpcaa
open Go.RowKit ReM

inductive Mi where
  | ok : List Int → Bool → Nat → Mi
  | bad : Int → Mi
def memI (p : List Int) (i : Nat) : Mi :=
  if nx p i = 92 then (match mean CC (nx p (i + 1)) with | some (l, false) => .ok l (one l) (i + 2) | _ => .bad (i + 1 : Nat))
  else if nx p i < 0 ∨ nx p i = 93 then .bad i else .ok [nx p i, nx p i] true (i + 1)
def MiR (p : List Int) : Mi → Mb
  | .ok l o j => .ok l o (p.drop j)
  | .bad f => .bad f
theorem mem_ix {p : List Int} (hT : Txt1 p) (i : Nat) : member CC i (p.drop i) = MiR p (memI p i) := by
  rcases Nat.lt_or_ge i p.length with hi | hi
  · rw [drop_nx hi]
    unfold memI
    simp only [member]
    have h0 := hT.nxp hi
    by_cases h92 : nx p i = 92
    · rw [if_pos h92, if_pos h92]
      rcases Nat.lt_or_ge (i + 1) p.length with h1 | h1
      · rw [drop_nx h1]
        dsimp only
        cases hm : mean CC (nx p (i + 1)) with
        | none => simp [MiR]
        | some z =>
          obtain ⟨l, b⟩ := z
          cases b <;> simp [MiR]
      · rw [drop_end h1, nx_end h1, mean_end]; simp [MiR]
    · rw [if_neg h92, if_neg h92]
      by_cases h93 : nx p i = 93
      · rw [if_pos h93, if_pos (.inr h93)]; rfl
      · rw [if_neg h93, if_neg (by omega)]; rfl
  · rw [drop_end hi]
    unfold memI
    rw [nx_end hi, if_neg (by decide), if_pos (.inl (by decide))]
    rfl
set_option maxHeartbeats 4000000 in
theorem dnext_v (q : Int) (B : Nat) (w : World) (r : Nat) (a : Option Addr) (c : Nat) (p : List Int) (i x y : Nat) (e f : Int) (hq : q = nx p i) (h : Rdr B w r a c p i x y e f) :
    Calls Try.prog 48 #[.pointer (some ⟨r, 0, none⟩)] w fun e' w' => e' = .returned (.int .i32 q) ∧ ∃ n, w' = w.drewN n := by
  subst hq
  have c0 := h.c0
  have c1 := h.c1
  have hl := h.sl.len
  by_cases hlt : i < p.length
  · obtain ⟨b, o, rfl, hc⟩ := h.sl.at hlt
    have ck := hc i hlt
    rw [nx_lt hlt]
    have b1 : decide ((p.length : Int) ≤ (i : Int)) = false := by simp; omega
    have z1 : (i : Int) < (p.length : Int) := by omega
    clear hc h
    go_enter Try.func48, Try.ntmps48
    go_wp2
    go_quiet (fail)
    go_wp2
    go_quiet (fail)
    go_wp2
    go_ret
    exact ⟨rfl, by first | exact ⟨_, rfl⟩ | exact drewN_ex _ _ _ | exact drewN_ex2 _ _ _ _⟩
  · rw [nx_end (by omega)]
    have b1 : decide ((p.length : Int) ≤ (i : Int)) = true := by simp; omega
    clear h
    go_enter Try.func48, Try.ntmps48
    go_wp2
    go_quiet (fail)
    go_wp2
    go_ret
    exact ⟨rfl, by first | exact ⟨_, rfl⟩ | exact drewN_ex _ _ _ | exact drewN_ex2 _ _ _ _⟩
def MemD (B : Nat) (w : World) (r : Nat) (a : Option Addr) (c : Nat) (p : List Int) (x y : Nat) (m : Mi) (e' : Ending) (w' : World) : Prop := match m with
  | .ok l o j => ∃ a2 c2, e' = .returned (.tuple #[.slice a2 l.length c2, .bool o]) ∧ Own w' w.heap.size a2 c2 l ∧ Rdr B w' r a c p j x y 0 0 ∧ KR r w w'
  | .bad f => ∃ j, j ≤ p.length + 2 ∧ e' = .returned (.tuple #[.slice none 0 0, .bool false]) ∧ Rdr B w' r a c p j x y 5 f ∧ KR r w w'
set_option maxRecDepth 20000 in
set_option maxHeartbeats 16000000 in
theorem dmember_c (B : Nat) (w : World) (r : Nat) (a : Option Addr) (c : Nat) (p : List Int) (i x y : Nat) (h : Rdr B w r a c p i x y 0 0) (hT : Txt1 p) (hi : i ≤ p.length) :
    Calls Try.prog 88 #[.pointer (some ⟨r, 0, none⟩)] w (MemD B w r a c p x y (memI p i)) := by
  have hl := hT.1
  have hq := nx_rng h.sl.rng i
  obtain ⟨q, hqe⟩ : ∃ q, q = nx p i := ⟨_, rfl⟩
  have HQ := hid hqe
  rw [← hqe] at hq
  obtain ⟨X, hX⟩ : ∃ X, X = memI p i := ⟨_, rfl⟩
  rw [← hX]
  have HX := hid hX
  unfold memI at hX
  rw [← hqe] at hX
  have HT := hid hT
  have HH := hid h
  have c1 := h.c1
  clear h hT hqe
  by_cases h92 : q = 92
  · rw [if_pos h92] at hX
    have hM := hid hX
    clear hX
    have b92 : (q == 92) = true := by simpa using h92
    obtain ⟨Y, hY⟩ : ∃ Y, Y = mean CC (nx p (i + 1)) := ⟨_, rfl⟩
    have HY := hid hY
    rw [← hY] at hM
    clear hY
    go_enter Try.func88, Try.ntmps88
    go_wp2_with fail
    go_quiet ((go_at_call 48; (with_reducible refine Calls.quiet_of (dnext_v q B _ r a c p i x y 0 0 HQ.out ?_)); first | exact HH.out | exact HH.out.drew | exact HH.out.drewN _))
    go_wp2_with fail
    refine (dbehind_c B _ r a c p i x y 0 0 (HH.out.drewN _) HT.out (by omega)).mono ?_
    rw [← HY.out]
    rintro _ w2 hb
    cases Y with
    | none =>
      obtain ⟨rfl, h2, k2⟩ := hb
      have hX := hM.out
      dsimp only at hX
      subst hX
      have H2 := hid h2
      have K2 := hid k2
      have W1 : IntKind.i64.wrap ((i : Int) + 1) = ((i + 1 : Nat) : Int) := by rw [IntKind.wrap_i64]; omega
      clear h2 k2 hM
      go_wp2_with fail
      rw [show (i : Int) + 1 = ((i + 1 : Nat) : Int) from rfl]
      refine (dbad_one 5 ((i + 1 : Nat) : Int) B w2 r a c p (i + 2) x y 0 H2.out).mono ?_
      rintro _ w3 ⟨rfl, h3, k3⟩
      have H3 := hid h3
      have K3 := hid k3
      clear h3 k3
      go_wp2_with fail
      refine ret_tt Try.results88 rfl rfl rfl ?_
      exact ⟨i + 2, by omega, rfl, H3.out, (((KR.refl r w).drewN _).tr K2.out).tr K3.out⟩
    | some z =>
      obtain ⟨l, b⟩ := z
      obtain ⟨a2, c2, rfl, ho, h2, k2⟩ := hb
      have hX := hM.out
      have H2 := hid h2
      have K2 := hid k2
      have HO := hid ho
      cases b with
      | true =>
        dsimp only at hX
        subst hX
        have W1 : IntKind.i64.wrap ((i : Int) + 1) = ((i + 1 : Nat) : Int) := by rw [IntKind.wrap_i64]; omega
        clear h2 k2 hM ho
        go_wp2_with fail
        rw [show (i : Int) + 1 = ((i + 1 : Nat) : Int) from rfl]
        refine (dbad_one 5 ((i + 1 : Nat) : Int) B w2 r a c p (i + 2) x y 0 H2.out).mono ?_
        rintro _ w3 ⟨rfl, h3, k3⟩
        have H3 := hid h3
        have K3 := hid k3
        clear h3 k3
        go_wp2_with fail
        refine ret_tt Try.results88 rfl rfl rfl ?_
        exact ⟨i + 2, by omega, rfl, H3.out, (((KR.refl r w).drewN _).tr K2.out).tr K3.out⟩
      | false =>
        dsimp only at hX
        subst hX
        clear h2 k2 hM ho
        obtain ⟨n, hn⟩ : ∃ n, n = l.length := ⟨_, rfl⟩
        have Hn := hid hn
        rw [← hn]
        by_cases h2 : n = 2
        · obtain ⟨u, v, rfl⟩ : ∃ u v, l = [u, v] := by
            match l, hn.symm.trans h2 with
            | [u, v], _ => exact ⟨u, v, rfl⟩
          obtain ⟨b', o', rfl, hc⟩ := HO.out.sl.at (i := 0) (by simp)
          have u0 : w2.cell? ⟨b', o', none⟩ = some (.int .i32 u) := hc 0 (by simp)
          have u1 : w2.cell? ⟨b', o' + 1, none⟩ = some (.int .i32 v) := hc 1 (by simp)
          subst h2
          clear hc hn
          go_wp2_with fail
          go_quiet (fail)
          go_wp2_with fail
          refine ret_tt Try.results88 rfl rfl rfl ?_
          refine ⟨_, _, ?_, (HO.out.base_le (by simp)).drewN _, H2.out.drewN _, (((KR.refl r w).drewN _).tr K2.out).drewN _⟩
          show _ = Ending.returned (.tuple #[_, .bool (decide (u = v))])
          rw [show decide (u = v) = (u == v) from by rw [Bool.eq_iff_iff]; simp]
          rfl
        · have b2 : ((n : Int) == 2) = false := by simp; omega
          have ho1 : one l = false := by
            match l, hn with
            | [], _ => rfl
            | [_], _ => rfl
            | [_, _], h => exact absurd h h2
            | _ :: _ :: _ :: _, _ => rfl
          have Ho1 := hid ho1
          clear hn ho1 h2
          go_wp2_with fail
          go_quiet (fail)
          go_wp2_with fail
          refine ret_tt Try.results88 rfl rfl rfl ?_
          refine ⟨a2, c2, ?_, (HO.out.base_le (by simp)).drewN _, H2.out.drewN _, (((KR.refl r w).drewN _).tr K2.out).drewN _⟩
          rw [show l.length = n from Hn.out.symm, Ho1.out]
          rfl
  · by_cases hbad : q < 0 ∨ q = 93
    · rw [if_neg h92, if_pos hbad] at hX
      subst hX
      have b92 : (q == 92) = false := by simpa using h92
      by_cases hn0 : q < 0
      · have b1 : decide (q < 0) = true := decide_eq_true hn0
        go_enter Try.func88, Try.ntmps88
        go_wp2_with fail
        go_quiet ((go_at_call 48; (with_reducible refine Calls.quiet_of (dnext_v q B _ r a c p i x y 0 0 HQ.out ?_)); first | exact HH.out | exact HH.out.drew | exact HH.out.drewN _))
        go_wp2_with fail
        refine (dbad_one 5 i B _ r a c p i x y 0 (HH.out.drewN _)).mono ?_
        rintro _ w3 ⟨rfl, h3, k3⟩
        have H3 := hid h3
        have K3 := hid k3
        clear h3 k3
        go_wp2_with fail
        refine ret_tt Try.results88 rfl rfl rfl ?_
        exact ⟨i, by omega, rfl, H3.out, ((KR.refl r w).drewN _).tr K3.out⟩
      · have b1 : decide (q < 0) = false := decide_eq_false hn0
        have b2 : (q == 93) = true := by simp; omega
        go_enter Try.func88, Try.ntmps88
        go_wp2_with fail
        go_quiet ((go_at_call 48; (with_reducible refine Calls.quiet_of (dnext_v q B _ r a c p i x y 0 0 HQ.out ?_)); first | exact HH.out | exact HH.out.drew | exact HH.out.drewN _))
        go_wp2_with fail
        refine (dbad_one 5 i B _ r a c p i x y 0 (HH.out.drewN _)).mono ?_
        rintro _ w3 ⟨rfl, h3, k3⟩
        have H3 := hid h3
        have K3 := hid k3
        clear h3 k3
        go_wp2_with fail
        refine ret_tt Try.results88 rfl rfl rfl ?_
        exact ⟨i, by omega, rfl, H3.out, ((KR.refl r w).drewN _).tr K3.out⟩
    · rw [if_neg h92, if_neg hbad] at hX
      subst hX
      have b92 : (q == 92) = false := by simpa using h92
      have b1 : decide (q < 0) = false := by simp; omega
      have b2 : (q == 93) = false := by simp; omega
      have W1 : IntKind.i64.wrap ((i : Int) + 1) = ((i + 1 : Nat) : Int) := by rw [IntKind.wrap_i64]; omega
      have c1' := c1
      have hlt : i < p.length := by
        rcases Nat.lt_or_ge i p.length with h1 | h1
        · exact h1
        · rw [nx_end h1] at HQ; have := HQ.out; omega
      go_enter Try.func88, Try.ntmps88
      go_wp2_with fail
      go_quiet ((go_at_call 48; (with_reducible refine Calls.quiet_of (dnext_v q B _ r a c p i x y 0 0 HQ.out ?_)); first | exact HH.out | exact HH.out.drew | exact HH.out.drewN _))
      have h2 := HH.out
      (have c0 := h2.c0; have c1 := h2.c1; have c2 := h2.c2; have c3 := h2.c3; have c4 := h2.c4; have c5 := h2.c5; have f1 := h2.fz 1; have f2 := h2.fz 2; have f3 := h2.fz 3; have f4 := h2.fz 4; have f5 := h2.fz 5; have rl := h2.lt; have Hh2 := hid h2; clear h2)
      go_wp2_with fail
      refine ret_tt Try.results88 rfl rfl rfl ?_
      refine ⟨_, _, rfl, Own.lit' _ [q, q] _ _ _ (by simp) (by simp) (by simp) (rng_cons hq (rng_one hq)) _ rfl rfl, ?_, ?_⟩
      · exact (Hh2.out.drewN _).set1 (i + 1) |>.alloc _
      · exact (((KR.refl r w).drewN _).set _).alloc _
theorem single_ix {p : List Int} (i : Nat) : single CC (p.drop i) = (decide (i < p.length) && (nx p i != 93) && (if nx p i = 92 then (match mean CC (nx p (i + 1)) with | some (l, false) => one l | _ => false) else true)) := by
  rcases Nat.lt_or_ge i p.length with hi | hi
  · rw [drop_nx hi, decide_eq_true hi]
    simp only [single, Bool.true_and]
    by_cases h93 : nx p i = 93
    · rw [if_pos h93, h93]; rfl
    · rw [if_neg h93, show (nx p i != 93) = true from by simpa using h93, Bool.true_and]
      by_cases h92 : nx p i = 92
      · rw [if_pos h92, if_pos h92]
        rcases Nat.lt_or_ge (i + 1) p.length with h1 | h1
        · rw [drop_nx h1]; rfl
        · rw [drop_end h1, nx_end h1, mean_end]
      · rw [if_neg h92, if_neg h92]
  · rw [drop_end hi, decide_eq_false (by omega)]; rfl
theorem RdrB.new (w : World) (a : Option Addr) (c : Nat) (p : List Int) (h : Sl w a p) (hc : p.length ≤ c) (i : Nat) (T : TypeId) (b : Nat) (hb : b = w.heap.size) :
    Rdr (b + 1) (w.alloc (.cells #[.slice a p.length c, .int .i64 i, .int .i64 0, .int .i64 0, .int .i64 0, .int .i64 0] T)) b a c p i 0 0 0 0 := by
  subst hb
  refine ⟨by rw [cell_alloc_new]; rfl, by rw [cell_alloc_new]; rfl, by rw [cell_alloc_new]; rfl, by rw [cell_alloc_new]; rfl, by rw [cell_alloc_new]; rfl, by rw [cell_alloc_new]; rfl, fun o => by simp, h.alloc _, ?_, by omega, by simp, hc⟩
  cases p with
  | nil => exact .inl rfl
  | cons x t =>
    obtain ⟨b, off, rfl, hcs⟩ := h.at (i := 0) (by simp)
    have := World.block_lt_of_cell? w _ (hcs 0 (by simp))
    exact .inr ⟨_, rfl, by show b < _; simp at this; omega, by show b ≠ _; simp at this; omega⟩
set_option maxRecDepth 20000 in
set_option maxHeartbeats 16000000 in
theorem dsingle_c (B : Nat) (w : World) (r : Nat) (a : Option Addr) (c : Nat) (p : List Int) (i j x y : Nat) (e f : Int) (h : Rdr B w r a c p j x y e f) (hT : Txt1 p) (hi : i ≤ 2000) :
    Calls Try.prog 89 #[.pointer (some ⟨r, 0, none⟩), .int .i64 i] w fun e' w' => e' = .returned (.bool (single CC (p.drop i))) ∧ Rdr B w' r a c p j x y e f ∧ KR r w w' := by
  have hl := hT.1
  have HT := hid hT
  have HH := hid h
  have hS := single_ix (p := p) i
  obtain ⟨X, hX⟩ : ∃ X, X = single CC (p.drop i) := ⟨_, rfl⟩
  rw [← hX] at hS ⊢
  have c0 := h.c0
  by_cases hlt : i < p.length
  · obtain ⟨b, o, ha, hc⟩ := h.sl.at hlt
    have ck := hc i hlt
    rw [← nx_lt hlt] at ck
    obtain ⟨q, hq⟩ : ∃ q, q = nx p i := ⟨_, rfl⟩
    rw [← hq] at ck hS
    have HQ := hid hq
    rw [decide_eq_true hlt, Bool.true_and] at hS
    have b0 : decide ((p.length : Int) ≤ (i : Int)) = false := decide_eq_false (by omega)
    have z1 : (i : Int) < (p.length : Int) := by omega
    clear hX hq h
    by_cases h93 : q = 93
    · have b93 : (q == 93) = true := by simpa using h93
      rw [h93] at hS
      subst hS
      subst ha
      clear hc
      go_enter Try.func89, Try.ntmps89
      go_wp2_with fail
      go_ret
      exact ⟨rfl, HH.out, KR.refl r w⟩
    · have b93 : (q == 93) = false := by simpa using h93
      rw [show (q != 93) = true from by simpa using h93, Bool.true_and] at hS
      by_cases h92 : q = 92
      · rw [if_pos h92] at hS
        have b92 : (q != 92) = false := by simp [h92]
        obtain ⟨V, hV⟩ : ∃ V, V = w.alloc (.cells #[.slice a p.length c, .int .i64 i, .int .i64 0, .int .i64 0, .int .i64 0, .int .i64 0] 66) := ⟨_, rfl⟩
        have RV : Rdr (w.heap.size + 1) V w.heap.size a c p i 0 0 0 0 := by rw [hV]; exact RdrB.new w a c p HH.out.sl HH.out.cap i _ _ rfl
        have bV : Below w.heap.size w V := by rw [hV]; (repeat' (first | exact Below.refl _ _ | assumption | refine bdrewN ?_ _ | refine Below.drew ?_ | refine Below.setCell ?_ (Nat.le_refl _) _ | refine bal ?_ _ | refine bthen ?_ (by assumption)))
        have HV := hid RV
        have BV := hid bV
        have HHV := hid (HH.out.bel bV)
        have hBw := HH.out.Bw
        obtain ⟨Y, hY⟩ : ∃ Y, Y = mean CC (nx p (i + 1)) := ⟨_, rfl⟩
        have HY := hid hY
        rw [← hY] at hS
        have HS := hid hS
        subst ha
        clear hY hS hc RV bV
        go_enter Try.func89, Try.ntmps89
        go_upto_region 6 with fail
        rw [← hV]; clear hV
        go_wp2_with fail
        refine (dbehind_c _ V _ _ c p i 0 0 0 0 HV.out HT.out hi).mono ?_
        rw [← HY.out]
        rintro _ w2 hb
        cases Y with
        | none =>
          obtain ⟨rfl, -, k2⟩ := hb
          have hS := HS.out
          dsimp only at hS
          subst hS
          have b2 := k2.below (B := w.heap.size) (fun k hk => Nat.le_of_eq hk.symm) BV.out.size
          have H2 := hid (HHV.out.kpt k2 fun k hk => by omega)
          have K2 := hid (Kpt.of (F := fun k => k = r) (BV.out.trans b2))
          clear k2 b2
          go_wp2_with fail
          go_quiet (fail)
          go_wp2_with fail
          go_ret
          exact ⟨rfl, H2.out.drewN _, K2.out.drewN _⟩
        | some z =>
          obtain ⟨l, b⟩ := z
          obtain ⟨a2, c2, rfl, ho, -, k2⟩ := hb
          have b2 := k2.below (B := w.heap.size) (fun k hk => Nat.le_of_eq hk.symm) BV.out.size
          have H2 := hid (HHV.out.kpt k2 fun k hk => by omega)
          have K2 := hid (Kpt.of (F := fun k => k = r) (BV.out.trans b2))
          have HO := hid ho
          have hS := HS.out
          clear k2 b2 ho
          obtain ⟨n, hn⟩ : ∃ n, n = l.length := ⟨_, rfl⟩
          rw [← hn]
          cases b with
          | true =>
            dsimp only at hS
            subst hS
            clear hn
            go_wp2_with fail
            go_quiet (fail)
            go_wp2_with fail
            go_ret
            exact ⟨rfl, H2.out.drewN _, K2.out.drewN _⟩
          | false =>
            dsimp only at hS
            subst hS
            by_cases h2 : n = 2
            · obtain ⟨u, v, rfl⟩ : ∃ u v, l = [u, v] := by
                match l, hn.symm.trans h2 with
                | [u, v], _ => exact ⟨u, v, rfl⟩
              obtain ⟨b', o', rfl, hc⟩ := HO.out.sl.at (i := 0) (by simp)
              have u0 : w2.cell? ⟨b', o', none⟩ = some (.int .i32 u) := hc 0 (by simp)
              have u1 : w2.cell? ⟨b', o' + 1, none⟩ = some (.int .i32 v) := hc 1 (by simp)
              subst h2
              have e1 : one [u, v] = (u == v) := by
                show decide (u = v) = _
                rw [Bool.eq_iff_iff]; simp
              have E1 := hid e1
              clear hc hn e1
              go_wp2_with fail
              go_quiet (fail)
              go_wp2_with fail
              go_ret
              exact ⟨by rw [E1.out]; rfl, H2.out.drewN _, K2.out.drewN _⟩
            · have b2 : ((n : Int) == 2) = false := by simp; omega
              have ho1 : one l = false := by
                match l, hn with
                | [], _ => rfl
                | [_], _ => rfl
                | [_, _], h => exact absurd h h2
                | _ :: _ :: _ :: _, _ => rfl
              have E1 := hid ho1
              clear hn ho1 h2
              go_wp2_with fail
              go_quiet (fail)
              go_wp2_with fail
              go_ret
              exact ⟨by rw [E1.out]; rfl, H2.out.drewN _, K2.out.drewN _⟩
      · rw [if_neg h92] at hS
        have b92 : (q != 92) = true := by simp [h92]
        subst hS
        subst ha
        clear hc
        go_enter Try.func89, Try.ntmps89
        go_wp2_with fail
        go_ret
        exact ⟨rfl, HH.out, KR.refl r w⟩
  · rw [decide_eq_false hlt] at hS
    have b0 : decide ((p.length : Int) ≤ (i : Int)) = true := decide_eq_true (by omega)
    simp only [Bool.false_and] at hS
    subst hS
    clear h hX
    go_enter Try.func89, Try.ntmps89
    go_wp2_with fail
    go_ret
    exact ⟨rfl, HH.out, KR.refl r w⟩
end Go.Proofs.Ytniilphbbcbpcaa
