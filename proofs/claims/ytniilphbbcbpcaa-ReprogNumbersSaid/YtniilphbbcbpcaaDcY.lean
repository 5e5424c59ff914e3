/- The document's split and repeated. Codes of nodes by numbers (szN), small ones (okB), for the document's code; its choices, its code, by rounds. The document's choices, by what codes of fewer rounds are. The document's code of a node, by rounds. -/
import Derived.Test.YtniilphbbcbpcaaDcX
namespace Go.Proofs.Ytniilphbbcbpcaa
open Go.RowKit ReM

theorem InC.put {w : World} {b : Nat} {o x y : Int} {n : Bool} {s : Value} (h : InC w b o x y n s) (o' x' y' : Int) (n' : Bool) (s' : Value) :
    InC (((((w.setCell ⟨b, 0, none⟩ (.int .i64 o')).setCell ⟨b, 1, none⟩ (.int .i64 x')).setCell ⟨b, 2, none⟩ (.int .i64 y')).setCell ⟨b, 3, none⟩ (.bool n')).setCell ⟨b, 4, none⟩ s') b o' x' y' n' s' := by
  have h0 : InC (w.setCell ⟨b, 0, none⟩ (.int .i64 o')) b o' x y n s := ⟨by rw [World.cell?_setCell_same (h := h.c0)], cell_set1 h.c1 (by decide), cell_set1 h.c2 (by decide), cell_set1 h.c3 (by decide), cell_set1 h.c4 (by decide), fun i => by rw [World.frozen?_setCell]; exact h.fz i⟩
  have h2 := (h0.set1 x').set2 y'
  refine ⟨cell_set1 (cell_set1 h2.c0 (by decide)) (by decide), cell_set1 (cell_set1 h2.c1 (by decide)) (by decide), cell_set1 (cell_set1 h2.c2 (by decide)) (by decide), cell_set1 (by rw [World.cell?_setCell_same (h := h2.c3)]) (by decide), ?_, fun i => by simp only [World.frozen?_setCell]; exact h.fz i⟩
  have h4 := cell_set1 (o := 3) (v := .bool n') h2.c4 (by decide)
  rw [World.cell?_setCell_same (h := h4)]
theorem ret_in {fn : Func} {post : Ending → World → Prop} {at_ : Act} {w : World} {R : Nat} {o x y : Int} {n : Bool} {s : Value} (hr : fn.results = #[ResultVar.cell 6 56]) (ht : at_.tmps[6]?.getD undef = .pointer (some ⟨R, 0, none⟩)) (hd : at_.defers = [])
    (h : InC w R o x y n s) (hp : post (.returned (.agg #[.int .i64 o, .int .i64 x, .int .i64 y, .bool n, s])) w) : bodyPost Try.prog fn post Exit.ret at_ w :=
  bodyPost_ret (v := .agg #[.int .i64 o, .int .i64 x, .int .i64 y, .bool n, s]) (by simp [results, hr, go_sem, ht, h.c0, h.c1, h.c2, h.c3, h.c4]) hd hp
set_option maxRecDepth 20000 in
set_option maxHeartbeats 4000000 in
theorem split_d (m : Rm) (x y : Int) (w : World) : Calls Try.prog 68 #[rmV m, .int .i64 x, .int .i64 y] w fun e' w' =>
    e' = .returned (.agg #[.int .i64 4, .int .i64 (spl m.lazy x y).x, .int .i64 (spl m.lazy x y).y, .bool false, .slice none 0 0]) ∧ Below w.heap.size w w' := by
  unfold rmV
  obtain ⟨mk, md, ml, mh, mz, mn, ma, ms, mc⟩ := m
  dsimp only
  obtain ⟨V, hV⟩ : ∃ V, V = (w.alloc (.cells #[.int .i64 mk, .int .i64 md, .int .i64 ml, .int .i64 mh, .bool mz, .bool mn, .slice ma ms.length mc] 50)).alloc (.cells #[.int .i64 0, .int .i64 0, .int .i64 0, .bool false, .slice none 0 0] 56) := ⟨_, rfl⟩
  have nn : NdC V w.heap.size mk md ml mh mz mn (.slice ma ms.length mc) := by subst hV; exact (NdC.new _ _ _ _ _ _ _ _ _ _ rfl).alloc _
  have ii : InC V (w.heap.size + 1) 0 0 0 false (.slice none 0 0) := by subst hV; exact InC.new _ _ _ _ _ _ _ _ (by simp)
  have bV : Hid (Below w.heap.size w V) := by subst hV; exact ((Below.refl _ _).alloc (Nat.le_refl _) _).alloc (by simp) _
  have II := hid ii
  obtain ⟨i0, i1, i2, i3, i4, if_⟩ := ii
  have f0 := if_ 0
  have f1 := if_ 1
  have f2 := if_ 2
  have f3 := if_ 3
  have f4 := if_ 4
  have hsp : (spl mz x y).x = (if mz = true then y else x) ∧ (spl mz x y).y = (if mz = true then x else y) := by
    unfold spl; cases mz <;> exact ⟨rfl, rfl⟩
  rw [hsp.1, hsp.2]
  (have g0 := nn.c0; have g1 := nn.c1; have g2 := nn.c2; have g3 := nn.c3; have g4 := nn.c4; have g5 := nn.c5; have g6 := nn.c6; have gf0 := nn.fz 0; have gf1 := nn.fz 1; have gf2 := nn.fz 2; have gf3 := nn.fz 3; have gf4 := nn.fz 4; have gf5 := nn.fz 5; have gf6 := nn.fz 6; have gz := nn.lt; clear nn)
  clear if_ hsp
  cases mz with
  | true =>
    go_enter Try.func68, Try.ntmps68
    go_upto_region 1 with fail
    rw [← hV]; clear hV
    go_wp2_with fail
    refine ret_in Try.results68 rfl rfl (II.out.put 4 y x false (.slice none 0 0)) ?_
    exact ⟨rfl, ((((bV.out.setCell (by show _ ≤ w.heap.size + 1; omega) _).setCell (by show _ ≤ w.heap.size + 1; omega) _).setCell (by show _ ≤ w.heap.size + 1; omega) _).setCell (by show _ ≤ w.heap.size + 1; omega) _).setCell (by show _ ≤ w.heap.size + 1; omega) _⟩
  | false =>
    go_enter Try.func68, Try.ntmps68
    go_upto_region 1 with fail
    rw [← hV]; clear hV
    go_wp2_with fail
    refine ret_in Try.results68 rfl rfl (II.out.put 4 x y false (.slice none 0 0)) ?_
    exact ⟨rfl, ((((bV.out.setCell (by show _ ≤ w.heap.size + 1; omega) _).setCell (by show _ ≤ w.heap.size + 1; omega) _).setCell (by show _ ≤ w.heap.size + 1; omega) _).setCell (by show _ ≤ w.heap.size + 1; omega) _).setCell (by show _ ≤ w.heap.size + 1; omega) _⟩
def repB (m : Rm) (b : List Ins) : List Ins := catB (List.replicate m.lo.toNat b ++ [if m.hi = -1 then loopB b m.lazy else optB b m.lazy (m.hi - m.lo).toNat])
/-- a program whose sets are another one's -/
def RptP (w : World) (L : List Im) (res : List Ins) (e' : Ending) (w' : World) : Prop :=
  ∃ a' c' L', e' = .returned (.slice a' L'.length c') ∧ inss L' = res ∧ RIn w' w.heap.size a' c' L' ∧ (∀ v, Ims v L → Ims v L') ∧ Below w.heap.size w w'
theorem cat_rep (k : Nat) (b : List Ins) : catB (List.replicate (k + 1) b) = catB (List.replicate k b) ++ shI (k * b.length) b := by
  rw [List.replicate_succ', catB_app, catB_one]
  congr 2
  rw [catB_len]; simp [sumB]
theorem Ims.one0 (v : World) (o x y : Int) (n : Bool) : Ims v [⟨o, x, y, n, none, [], 0⟩] := fun m hm => by
  rw [List.mem_singleton.1 hm]; exact Sl.nil _ _
theorem inss_one (o x y : Int) (n : Bool) (a : Option Addr) (s : List Int) (c : Nat) : inss [⟨o, x, y, n, a, s, c⟩] = [⟨o, x, y, n, s⟩] := rfl
theorem len_step (q l5 l6 l z : Nat) (h1 : q ≤ 90000 + z) (h2 : l5 = q + 1) (h3 : l6 = l) (hl : l ≤ 10000) : l5 + l6 ≤ 90000 + (z + 10001) := by omega
theorem spl_eta (z : Bool) (x y : Int) : spl z x y = ⟨4, (spl z x y).x, (spl z x y).y, false, []⟩ := by unfold spl iSplit; cases z <;> rfl
theorem loop_sh (n : Nat) (b : List Ins) (z : Bool) : shI n (loopB b z) = spl z ((n : Int) + 1) ((n : Int) + b.length + 2) :: (shI (n + 1) b ++ [iJump n]) := by
  unfold loopB
  rw [shI_cons, spl_sh, shI_app, shI_two]
  congr 1
  · congr 1 <;> omega
  · congr 1
    simp [shI, shI1, iJump]
theorem rep_loop (k : Nat) (b : List Ins) (z : Bool) : catB (List.replicate k b ++ [loopB b z]) = catB (List.replicate k b) ++ spl z (((k * b.length : Nat) : Int) + 1) (((k * b.length : Nat) : Int) + b.length + 2) :: (shI (k * b.length + 1) b ++ [iJump ((k * b.length : Nat) : Int)]) := by
  rw [catB_app, catB_one, show (catB (List.replicate k b)).length = k * b.length by rw [catB_len]; simp [sumB], loop_sh]
theorem rep_opt (k : Nat) (b : List Ins) (z : Bool) (D : Nat) : catB (List.replicate k b ++ [optB b z D]) = catB (List.replicate k b) ++ optC (fun i => spl z (i + 1) (((D * (b.length + 1) : Nat) : Int) + (k * b.length : Nat))) b (k * b.length) D := by
  rw [catB_app, catB_one, show (catB (List.replicate k b)).length = k * b.length by rw [catB_len]; simp [sumB]]
  unfold optB
  rw [optC_sh]
  rfl
set_option maxRecDepth 20000 in
set_option maxHeartbeats 16000000 in
theorem repeated_dd (m : Rm) (a : Option Addr) (c : Nat) (L : List Im) (w : World) (h : RSl encIn w a L) (hx : InB (inss L)) (hl : L.length ≤ 10000) (hlo : 0 ≤ m.lo ∧ m.lo ≤ 9) (hhi : -1 ≤ m.hi ∧ m.hi ≤ 9) (hlh : 0 ≤ m.hi → m.lo ≤ m.hi) :
    Calls Try.prog 59 #[rmV m, .slice a L.length c] w (RptP w L (repB m (inss L))) := by
  obtain ⟨mk, md, ml, mh, mz, mn, ma, ms, mc⟩ := m
  dsimp only at hlo hhi hlh
  obtain ⟨lo, rfl⟩ := Int.eq_ofNat_of_zero_le hlo.1
  obtain ⟨b, hb⟩ : ∃ b, b = inss L := ⟨_, rfl⟩
  have hbl : b.length = L.length := by rw [hb, inss_len]
  rw [← hb] at hx ⊢
  unfold rmV
  dsimp only
  obtain ⟨X, hX⟩ : ∃ X, X = repB ⟨mk, md, lo, mh, mz, mn, ma, ms, mc⟩ b := ⟨_, rfl⟩
  rw [← hX]
  have HX := hid hX
  have hlo9 : lo ≤ 9 := by omega
  have SD := fun x y w' => split_d ⟨mk, md, lo, mh, mz, mn, ma, ms, mc⟩ x y w'
  unfold rmV at SD
  dsimp only at SD
  have SD := hid SD
  obtain ⟨V, hV⟩ : ∃ V, V = w.alloc (.cells #[.int .i64 mk, .int .i64 md, .int .i64 (lo : Int), .int .i64 mh, .bool mz, .bool mn, .slice ma ms.length mc] 50) := ⟨_, rfl⟩
  have nn : NdC V w.heap.size mk md lo mh mz mn (.slice ma ms.length mc) := by subst hV; exact NdC.new _ _ _ _ _ _ _ _ _ _ rfl
  have bV : Hid (Below w.heap.size w V) := by subst hV; exact (Below.refl _ _).alloc (Nat.le_refl _) _
  have zV : V.heap.size = w.heap.size + 1 := by subst hV; simp
  have HS := hid (h.bel bV.out)
  have Hb := hid hb
  have Hx := hid hx
  have Hbl := hid hbl
  have NN := hid nn
  have SH := hid (fun (j : Nat) (hj : j ≤ 1000000) (w' : World) (hw : Below V.heap.size V w') => (show Calls Try.prog 41 #[.slice a L.length c, .int .i64 j] w' (ShP w' L j) from shifted_d a c L j w' (HS.out.bel hw) hj (by rw [← Hb.out]; exact Hx.out) (by omega)))
  clear h hx hb hbl nn hX
  go_enter Try.func59, Try.ntmps59
  go_upto_region 1 with fail
  rw [← hV]; clear hV
  go_wp2_with fail
  go_loopg [5, 6] (lo + 1) (fun gk ov kv wr => ∃ (k : Nat) (aO : Option Addr) (cO : Nat) (O : List Im), gk = lo - k + 1 ∧ k ≤ lo ∧ kv = .int .i64 k ∧ ov = .slice aO O.length cO ∧ Hid (inss O = catB (List.replicate k b)) ∧ Hid (RIn wr V.heap.size aO cO O) ∧ Hid (∀ v, Ims v L → Ims v O) ∧ Hid (Below V.heap.size V wr))
  case atStart => exact ⟨0, none, 0, [], rfl, by omega, rfl, rfl, hid rfl, hid (ROwn.nil _ _), hid (fun v _ m hm => by cases hm), hid (Below.refl _ _)⟩
  case round =>
    obtain ⟨k, aO, cO, O, rfl, hk, rfl, rfl, HO, HR, HI, HB⟩ := hrel
    have hz := HB.out.size
    have nq : NdC _ w.heap.size mk md lo mh mz mn (.slice ma ms.length mc) := NN.out.same (HB.out.block w.heap.size (by omega))
    have hOl : O.length = k * b.length := by rw [← inss_len, HO.out, catB_len]; simp [sumB]
    have hOb : k * b.length ≤ 9 * 10000 := Nat.mul_le_mul (by omega) (by have := Hbl.out; omega)
    by_cases hlt : k < lo
    · have b1 : decide ((k : Int) < (lo : Int)) = true := decide_eq_true (by omega)
      have W1 : IntKind.i64.wrap ((k : Int) + 1) = ((k + 1 : Nat) : Int) := by rw [IntKind.wrap_i64]; omega
      have HOl := hid hOl
      have hOs : O.length ≤ 90000 := by omega
      have S1 := hid (SH.out O.length (by omega) wr HB.out)
      clear hOl
      (have g0 := nq.c0; have g1 := nq.c1; have g2 := nq.c2; have g3 := nq.c3; have g4 := nq.c4; have g5 := nq.c5; have g6 := nq.c6; have gf0 := nq.fz 0; have gf1 := nq.fz 1; have gf2 := nq.fz 2; have gf3 := nq.fz 3; have gf4 := nq.fz 4; have gf5 := nq.fz 5; have gf6 := nq.fz 6; have gz := nq.lt; clear nq)
      go_wp2_with fail
      refine S1.out.mono ?_
      rintro _ w3 ⟨a3, c3, L3, rfl, hL3, o3, k3, b3⟩
      have HL3 := hid hL3
      have O3 := hid o3.sl
      have K3 := hid k3
      have hL3l : L3.length = L.length := by have := congrArg List.length k3; simpa using this
      have R3 := hid (HR.out.grow b3)
      have B3 := hid (HB.out.trans (b3.mono hz))
      have z3 := b3.size
      have HL3l := hid hL3l
      have hsum : O.length + L3.length ≤ 2199023255552 := by omega
      clear hL3 o3 k3 b3 hL3l S1 HR HB
      go_wp2_with ((at_builtin; (refine wpL_rapp Try.tyIn rfl (.tmp 16) (.tmp 20) rfl V.heap.size aO a3 O.length L3.length cO c3 O L3 rfl (by first | rfl | simp | omega) R3.out rfl (by first | rfl | simp | omega) O3.out hsum (by omega) ?_); intro a5 c5 w5 L5 Hl5 ho5 hb5 hk5 hA5; have HA5 := hid hA5; clear hA5; have Ho5 := hid ho5; clear ho5; have Hk5 := hid hk5; clear hk5; have hz5 := hb5.size))
      go_roundg (lo - (k + 1) + 1)
      case measure => omega
      case rel =>
        refine ⟨k + 1, a5, c5, L5, rfl, by omega, by go_num, rfl, hid ?_, Ho5, hid ?_, hid (B3.out.trans hb5)⟩
        · rw [Hl5.out, inss_app, HO.out, HL3.out, cat_rep, ← HOl.out, ← Hb.out]
        · intro v hv
          rw [Hl5.out]
          exact (HI.out v hv).app (hv.key K3.out)
    · obtain rfl : k = lo := by omega
      have b1 : decide ((k : Int) < (k : Int)) = false := decide_eq_false (by omega)
      have HOl := hid hOl
      have hOs : O.length ≤ 90000 := by omega
      have hnl : L.length ≤ 10000 := hl
      clear hOl hlt
      by_cases hh : mh = -1
      · have b2 : decide (mh < (0 : Int)) = true := decide_eq_true (by omega)
        have HX2 := hid (HX.out.trans (by unfold repB; dsimp only; rw [if_pos hh]; rfl : _ = catB (List.replicate k b ++ [loopB b mz])))
        have Hh := hid hh
        clear hh
        have W1 : IntKind.i64.wrap ((O.length : Int) + 1) = ((O.length + 1 : Nat) : Int) := by rw [IntKind.wrap_i64]; omega
        have W2 : IntKind.i64.wrap ((O.length : Int) + (L.length : Int)) = (O.length : Int) + L.length := by rw [IntKind.wrap_i64]; omega
        have W3 : IntKind.i64.wrap ((O.length : Int) + (L.length : Int) + 2) = (O.length : Int) + L.length + 2 := by rw [IntKind.wrap_i64]; omega
        obtain ⟨sx, hsx⟩ : ∃ sx, sx = (spl mz ((O.length : Int) + 1) ((O.length : Int) + L.length + 2)).x := ⟨_, rfl⟩
        obtain ⟨sy, hsy⟩ : ∃ sy, sy = (spl mz ((O.length : Int) + 1) ((O.length : Int) + L.length + 2)).y := ⟨_, rfl⟩
        have HSX := hid hsx
        have HSY := hid hsy
        have S1 := hid (SD.out ((O.length : Int) + 1) ((O.length : Int) + L.length + 2) wr)
        rw [← hsx, ← hsy] at S1
        clear hsx hsy
        (have g0 := nq.c0; have g1 := nq.c1; have g2 := nq.c2; have g3 := nq.c3; have g4 := nq.c4; have g5 := nq.c5; have g6 := nq.c6; have gf0 := nq.fz 0; have gf1 := nq.fz 1; have gf2 := nq.fz 2; have gf3 := nq.fz 3; have gf4 := nq.fz 4; have gf5 := nq.fz 5; have gf6 := nq.fz 6; have gz := nq.lt; clear nq)
        go_wp2_with fail
        refine S1.out.mono ?_
        rintro _ w3 ⟨rfl, b3⟩
        have R3 := hid (HR.out.grow b3)
        have B3 := hid (HB.out.trans (b3.mono hz))
        have z3 := B3.out.size
        clear b3 S1 HR HB
        clear g0 g1 g2 g3 g4 g5 g6 gf0 gf1 gf2 gf3 gf4 gf5 gf6 gz
        go_upto_region 9 with ((at_builtin; (refine wpL_rapp Try.tyIn rfl (.tmp 27) (.tmp 37) rfl V.heap.size aO (some ⟨w3.heap.size, 0, none⟩) O.length 1 cO 1 O [⟨4, sx, sy, false, none, [], 0⟩] rfl (by first | rfl | simp | omega) (R3.out.grow (by (repeat' (first | exact Below.refl _ _ | assumption | refine bdrewN ?_ _ | refine Below.drew ?_ | refine bal ?_ _ | refine bthen ?_ (by assumption))))) rfl (by first | rfl | simp | omega) (RSl.lit (E := encIn) w3 ⟨4, sx, sy, false, none, [], 0⟩ 56 w3.heap.size rfl #[.int .i64 4, .int .i64 sx, .int .i64 sy, .bool false, .slice none 0 0] rfl (by decide)) (by simp; show O.length + 1 ≤ 2199023255552; omega) (by simp; omega) ?_); intro a5 c5 w5 L5 Hl5 ho5 hb5 hk5 hA5; have HA5 := hid hA5; clear hA5; have Ho5 := hid ho5; clear ho5; have Hk5 := hid hk5; clear hk5; have hz5 := hb5.size))
        have B5 := hid (B3.out.trans (Below.trans ((Below.refl _ _).alloc z3 _) hb5))
        have z5 := B5.out.size
        have HL5l := hid (show L5.length = O.length + 1 by rw [Hl5.out]; simp)
        have hL5l : L5.length ≤ 90001 := by rw [HL5l.out]; omega
        have S2 := hid (SH.out (O.length + 1) (by omega) w5 B5.out)
        clear hb5 hz5 Hk5 HA5 R3 B3
        go_wp2_with fail
        refine S2.out.mono ?_
        rintro _ w6 ⟨a6, c6, L6, rfl, hL6, o6, k6, b6⟩
        have HL6 := hid hL6
        have K6 := hid k6
        have hL6l : L6.length = L.length := by have := congrArg List.length k6; simpa using this
        have O6 := hid o6.sl
        have R6 := hid (Ho5.out.grow b6)
        have B6 := hid (B5.out.trans (b6.mono z5))
        have z6 := B6.out.size
        have hsum : L5.length + L6.length ≤ 2199023255552 := by omega
        have hsum2 : L5.length + L6.length ≤ 100001 := by omega
        clear hL6 o6 k6 b6 hL6l S2 Ho5 B5
        go_upto_region 10 with ((at_builtin; (refine wpL_rapp Try.tyIn rfl (.tmp 39) (.tmp 43) rfl V.heap.size a5 a6 L5.length L6.length c5 c6 L5 L6 rfl (by first | rfl | simp | omega) R6.out rfl (by first | rfl | simp | omega) O6.out hsum (by omega) ?_); intro a7 c7 w7 L7 Hl7 ho7 hb7 hk7 hA7; have HA7 := hid hA7; clear hA7; have Ho7 := hid ho7; clear ho7; have Hk7 := hid hk7; clear hk7; have hz7 := hb7.size))
        have B7 := hid (B6.out.trans hb7)
        have z7 := B7.out.size
        have hL7 : L7.length ≤ 100001 := by rw [Hl7.out, List.length_append]; exact hsum2
        clear hb7 hz7 Hk7 HA7 R6 B6 O6 hsum hsum2
        go_wp2_with ((at_builtin; (refine wpL_rapp Try.tyIn rfl (.tmp 45) (.tmp 48) rfl V.heap.size a7 (some ⟨w7.heap.size, 0, none⟩) L7.length 1 c7 1 L7 [⟨5, (O.length : Int), 0, false, none, [], 0⟩] rfl (by first | rfl | simp | omega) (Ho7.out.grow (by (repeat' (first | exact Below.refl _ _ | assumption | refine bdrewN ?_ _ | refine Below.drew ?_ | refine bal ?_ _ | refine bthen ?_ (by assumption))))) rfl (by first | rfl | simp | omega) (RSl.lit (E := encIn) w7 ⟨5, (O.length : Int), 0, false, none, [], 0⟩ 56 w7.heap.size rfl #[.int .i64 5, .int .i64 (O.length : Int), .int .i64 0, .bool false, .slice none 0 0] rfl (by decide)) (by simp; show L7.length + 1 ≤ 2199023255552; omega) (by simp; omega) ?_); intro a9 c9 w9 L9 Hl9 ho9 hb9 hk9 hA9; have HA9 := hid hA9; clear hA9; have Ho9 := hid ho9; clear ho9; have Hk9 := hid hk9; clear hk9; have hz9 := hb9.size))
        go_ret
        have hO := HOl.out
        refine ⟨a9, c9, L9, rfl, ?_, Ho9.out.base_le (by omega), fun v hv => ?_, (bV.out.trans ((B7.out.trans (Below.trans ((Below.refl _ _).alloc z7 _) hb9)).mono (by omega)))⟩
        · rw [HX2.out, rep_loop, ← hO, Hl9.out, Hl7.out, Hl5.out, inss_app, inss_app, inss_app, HO.out, HL6.out, ← Hb.out, inss_one, inss_one, HSX.out, HSY.out, Hbl.out, ← spl_eta, List.append_assoc, List.append_assoc]
          rfl
        · rw [Hl9.out, Hl7.out, Hl5.out]
          exact (((HI.out v hv).app (Ims.one0 _ _ _ _ _)).app (hv.key K6.out)).app (Ims.one0 _ _ _ _ _)
      · have hge : 0 ≤ mh := by omega
        have hle := hlh hge
        obtain ⟨D, rfl⟩ : ∃ D : Nat, mh = (k : Int) + D := ⟨(mh - k).toNat, by omega⟩
        have hD9 : D ≤ 9 := by omega
        have b2 : decide ((k : Int) + (D : Int) < 0) = false := decide_eq_false (by omega)
        have HX2 := hid (HX.out.trans (by
          unfold repB
          dsimp only
          rw [if_neg (by omega), show ((k : Int) + (D : Int) - (k : Int)).toNat = D by omega, Int.toNat_natCast, rep_opt] : _ = catB (List.replicate k b) ++ optC (fun i => spl mz (i + 1) (((D * (b.length + 1) : Nat) : Int) + (k * b.length : Nat))) b (k * b.length) D))
        have hp1 : (D : Int) * ((L.length : Int) + 1) ≤ 9 * 10001 := Int.mul_le_mul (by omega) (by omega) (by omega) (by omega)
        have hp0 : 0 ≤ (D : Int) * ((L.length : Int) + 1) := Int.mul_nonneg (by omega) (by omega)
        have Wa : IntKind.i64.wrap ((k : Int) + (D : Int) - (k : Int)) = (D : Int) := by rw [IntKind.wrap_i64]; omega
        have Wa' : IntKind.i64.wrap ((D : Int)) = (D : Int) := by rw [IntKind.wrap_i64]; omega
        have Wb : IntKind.i64.wrap ((L.length : Int) + 1) = (L.length : Int) + 1 := by rw [IntKind.wrap_i64]; omega
        have Wc : IntKind.i64.wrap ((D : Int) * ((L.length : Int) + 1)) = (D : Int) * ((L.length : Int) + 1) := by rw [IntKind.wrap_i64]; omega
        have Wd : IntKind.i64.wrap ((O.length : Int) + (D : Int) * ((L.length : Int) + 1)) = (O.length : Int) + (D : Int) * ((L.length : Int) + 1) := by rw [IntKind.wrap_i64]; omega
        obtain ⟨A, hA⟩ : ∃ A : Int, A = (O.length : Int) + (D : Int) * ((L.length : Int) + 1) := ⟨_, rfl⟩
        have HA := hid (show A = (((D * (b.length + 1) : Nat) : Int) + (k * b.length : Nat)) by rw [hA, HOl.out, Hbl.out]; push_cast; omega)
        have hA1 : 0 ≤ A ∧ A ≤ 1000000 := by omega
        have NH := hid (show NdC V w.heap.size mk md k ((k : Int) + D) mz mn (.slice ma ms.length mc) from NN.out)
        (have g0 := nq.c0; have g1 := nq.c1; have g2 := nq.c2; have g3 := nq.c3; have g4 := nq.c4; have g5 := nq.c5; have g6 := nq.c6; have gf0 := nq.fz 0; have gf1 := nq.fz 1; have gf2 := nq.fz 2; have gf3 := nq.fz 3; have gf4 := nq.fz 4; have gf5 := nq.fz 5; have gf6 := nq.fz 6; have gz := nq.lt; clear nq)
        go_wp2_with fail
        rw [← hA]
        clear hA Wa Wa' Wb Wc Wd hp0 hp1 b2
        clear g0 g1 g2 g3 g4 g5 g6 gf0 gf1 gf2 gf3 gf4 gf5 gf6 gz
        go_loopg [5, 9] (D + 1) (fun gk ov kv wr => ∃ (j : Nat) (aP : Option Addr) (cP : Nat) (Q : List Im), gk = D - j + 1 ∧ j ≤ D ∧ kv = .int .i64 ((k + j : Nat) : Int) ∧ ov = .slice aP Q.length cP ∧ Q.length ≤ 90000 + j * 10001 ∧ Hid (inss Q = catB (List.replicate k b) ++ optC (fun i => spl mz (i + 1) A) b (k * b.length) j) ∧ Hid (RIn wr V.heap.size aP cP Q) ∧ Hid (∀ v, Ims v L → Ims v Q) ∧ Hid (Below V.heap.size V wr))
        case atStart => exact ⟨0, aO, cO, O, rfl, by omega, rfl, rfl, by omega, hid (by rw [HO.out]; simp [optC]), HR, HI, HB⟩
        case round =>
          clear HR HI HB hz
          obtain ⟨j, aP, cP, Q, rfl, hj, rfl, rfl, hQ, HQ, HR, HI, HB⟩ := hrel
          have hz := HB.out.size
          have hjb : j * 10001 ≤ 9 * 10001 := Nat.mul_le_mul (by omega) (Nat.le_refl _)
          have hQl : Q.length ≤ 200000 := by omega
          have nq : NdC _ w.heap.size mk md k ((k : Int) + D) mz mn (.slice ma ms.length mc) := NH.out.same (HB.out.block w.heap.size (by omega))
          by_cases hlt : j < D
          · have b1 : decide (((k + j : Nat) : Int) < (k : Int) + (D : Int)) = true := decide_eq_true (by omega)
            have W1 : IntKind.i64.wrap (((k + j : Nat) : Int) + 1) = ((k + (j + 1) : Nat) : Int) := by rw [IntKind.wrap_i64]; omega
            have W2 : IntKind.i64.wrap ((Q.length : Int) + 1) = ((Q.length + 1 : Nat) : Int) := by rw [IntKind.wrap_i64]; omega
            obtain ⟨kj, hkj⟩ : ∃ kj, kj = k + j := ⟨_, rfl⟩
            have HKJ := hid hkj
            rw [← hkj] at b1 W1 ⊢
            obtain ⟨sx, hsx⟩ : ∃ sx, sx = (spl mz ((Q.length : Int) + 1) A).x := ⟨_, rfl⟩
            obtain ⟨sy, hsy⟩ : ∃ sy, sy = (spl mz ((Q.length : Int) + 1) A).y := ⟨_, rfl⟩
            have HSX := hid hsx
            have HSY := hid hsy
            have S1 := hid (SD.out ((Q.length : Int) + 1) A wr)
            have HQl := hid hQ
            clear hsx hsy hkj hQ hjb
            (have g0 := nq.c0; have g1 := nq.c1; have g2 := nq.c2; have g3 := nq.c3; have g4 := nq.c4; have g5 := nq.c5; have g6 := nq.c6; have gf0 := nq.fz 0; have gf1 := nq.fz 1; have gf2 := nq.fz 2; have gf3 := nq.fz 3; have gf4 := nq.fz 4; have gf5 := nq.fz 5; have gf6 := nq.fz 6; have gz := nq.lt; clear nq)
            go_wp2_with fail
            rename_i wz
            refine S1.out.mono ?_
            rw [← HSX.out, ← HSY.out]
            rintro _ w3 ⟨rfl, b3⟩
            have R3 := hid (HR.out.grow b3)
            have B3 := hid (HB.out.trans (b3.mono hz))
            have z3 := B3.out.size
            clear b3 S1 HR HB
            clear g0 g1 g2 g3 g4 g5 g6 gf0 gf1 gf2 gf3 gf4 gf5 gf6 gz
            go_upto_region 16 with ((at_builtin; (refine wpL_rapp Try.tyIn rfl (.tmp 70) (.tmp 77) rfl V.heap.size aP (some ⟨w3.heap.size, 0, none⟩) Q.length 1 cP 1 Q [⟨4, sx, sy, false, none, [], 0⟩] rfl (by first | rfl | simp | omega) (R3.out.grow (by (repeat' (first | exact Below.refl _ _ | assumption | refine bdrewN ?_ _ | refine Below.drew ?_ | refine bal ?_ _ | refine bthen ?_ (by assumption))))) rfl (by first | rfl | simp | omega) (RSl.lit (E := encIn) w3 ⟨4, sx, sy, false, none, [], 0⟩ 56 w3.heap.size rfl #[.int .i64 4, .int .i64 sx, .int .i64 sy, .bool false, .slice none 0 0] rfl (by decide)) (by simp; show Q.length + 1 ≤ 2199023255552; omega) (by simp; omega) ?_); intro a5 c5 w5 L5 Hl5 ho5 hb5 hk5 hA5; have HA5 := hid hA5; clear hA5; have Ho5 := hid ho5; clear ho5; have Hk5 := hid hk5; clear hk5; have hz5 := hb5.size))
            have B5 := hid (B3.out.trans (Below.trans ((Below.refl _ _).alloc z3 _) hb5))
            have z5 := B5.out.size
            have HL5l := hid (show L5.length = Q.length + 1 by rw [Hl5.out]; simp)
            have hL5l : L5.length ≤ 200001 := by rw [HL5l.out]; omega
            have S2 := hid (SH.out L5.length (by omega) w5 B5.out)
            clear hb5 hz5 Hk5 HA5 R3 B3
            go_wp2_with fail
            refine S2.out.mono ?_
            rintro _ w6 ⟨a6, c6, L6, rfl, hL6, o6, k6, b6⟩
            have HL6 := hid hL6
            have K6 := hid k6
            have hL6l : L6.length = L.length := by have := congrArg List.length k6; simpa using this
            have HL6l := hid hL6l
            have O6 := hid o6.sl
            have R6 := hid (Ho5.out.grow b6)
            have B6 := hid (B5.out.trans (b6.mono z5))
            have z6 := B6.out.size
            have hsum : L5.length + L6.length ≤ 2199023255552 := by omega
            clear hL6 o6 k6 b6 hL6l S2 Ho5 B5
            go_wp2_with ((at_builtin; (refine wpL_rapp Try.tyIn rfl (.tmp 79) (.tmp 83) rfl V.heap.size a5 a6 L5.length L6.length c5 c6 L5 L6 rfl (by first | rfl | simp | omega) R6.out rfl (by first | rfl | simp | omega) O6.out hsum (by omega) ?_); intro a7 c7 w7 L7 Hl7 ho7 hb7 hk7 hA7; have HA7 := hid hA7; clear hA7; have Ho7 := hid ho7; clear ho7; have Hk7 := hid hk7; clear hk7; have hz7 := hb7.size))
            go_roundg (D - (j + 1) + 1)
            case measure => omega
            case rel =>
              have hQe : Q.length = k * b.length + j * (b.length + 1) := by rw [← inss_len, HQ.out, List.length_append, optC_len, catB_len]; simp [sumB]
              refine ⟨j + 1, a7, c7, L7, rfl, by omega, by rw [HKJ.out] at W1; first | rfl | go_num, rfl, ?_, hid ?_, Ho7, hid ?_, hid (B6.out.trans hb7)⟩
              · have h1 := HQl.out
                have h2 := HL5l.out
                have h3 := HL6l.out
                rw [Hl7.out, List.length_append]
                rw [Nat.succ_mul]
                exact len_step _ _ _ _ _ h1 h2 h3 hnl
              · rw [optC_snoc, ← hQe, ← List.append_assoc, ← HQ.out, Hl7.out, Hl5.out, inss_app, inss_app, inss_one, HSX.out, HSY.out, ← spl_eta, HL6.out, ← Hb.out, HL5l.out, List.append_assoc]
                rfl
              · intro v hv
                rw [Hl7.out, Hl5.out]
                exact ((HI.out v hv).app (Ims.one0 _ _ _ _ _)).app (hv.key K6.out)
          · obtain rfl : j = D := by omega
            have b1 : decide (((k + j : Nat) : Int) < (k : Int) + (j : Int)) = false := decide_eq_false (by omega)
            (have g0 := nq.c0; have g1 := nq.c1; have g2 := nq.c2; have g3 := nq.c3; have g4 := nq.c4; have g5 := nq.c5; have g6 := nq.c6; have gf0 := nq.fz 0; have gf1 := nq.fz 1; have gf2 := nq.fz 2; have gf3 := nq.fz 3; have gf4 := nq.fz 4; have gf5 := nq.fz 5; have gf6 := nq.fz 6; have gz := nq.lt; clear nq)
            go_wp2_with fail
            go_ret
            exact ⟨aP, cP, Q, rfl, by rw [HQ.out, HX2.out, ← HA.out], HR.out.base_le (by omega), HI.out, bV.out.trans (HB.out.mono (by omega))⟩
end Go.Proofs.Ytniilphbbcbpcaa
namespace Go.Proofs.Ytniilphbbcbpcaa
open Go.RowKit ReM
namespace ReM
def altN : List Nat → Nat
  | [] => 0
  | [b] => b
  | b :: c :: bs => b + 2 + altN (c :: bs)
theorem altN_eq (bs : List (List Ins)) : altN (bs.map List.length) = altLen bs := by
  induction bs with
  | nil => rfl
  | cons b bs ih =>
    cases bs with
    | nil => rfl
    | cons c bs =>
      rw [List.map_cons] at ih
      rw [List.map_cons, List.map_cons, altN, altLen, ih]
def szN : Nat → List Rn → Nat
  | 0, _ => 0
  | k + 1, t => match t with
    | [] => 0
    | x :: cs =>
      if x.kind = 0 then ((partsL cs).map (szN k)).sum
      else if x.kind = 1 then altN ((partsL cs).map (szN k))
      else if x.kind = 2 then 1
      else if x.kind = 3 then 1
      else if x.kind = 4 then 1
      else if x.kind = 5 then (if x.lo = 0 then szN k cs else szN k cs + 2)
      else if x.kind = 6 then x.lo.toNat * szN k cs + (if x.hi = -1 then szN k cs + 2 else (x.hi - x.lo).toNat * (szN k cs + 1))
      else 0
theorem sz_blk (k : Nat) : ∀ t, szN k t = (blk k t).length := by
  induction k with
  | zero => intro t; rfl
  | succ k ih =>
    intro t
    cases t with
    | nil => rfl
    | cons x cs =>
      have hm : (partsL cs).map (szN k) = ((partsL cs).map (blk k)).map List.length := by rw [List.map_map]; congr 1; funext t; exact ih t
      rw [szN, blk]
      split
      · rw [hm, catB_len]; rfl
      · split
        · rw [hm, altN_eq, altC_len]
        · split
          · rfl
          · split
            · rfl
            · split
              · rfl
              · split
                · unfold groupB
                  split
                  · exact ih cs
                  · simp [shI_len, ih cs]
                · split
                  · rw [rep_len, ih cs]
                    congr 1
                    split
                    · rw [loopB_len]
                    · rw [optB_len]
                  · rfl
def okB : Nat → List Rn → Bool
  | 0, _ => true
  | k + 1, t => decide (szN (k + 1) t ≤ 300) && (match t with | [] => true | _ :: cs => (partsL cs).all (okB k))
theorem okB_len {k : Nat} {t : List Rn} (h : okB k t = true) : (blk k t).length ≤ 300 := by
  cases k with
  | zero => simp [blk]
  | succ k => unfold okB at h; rw [Bool.and_eq_true] at h; rw [← sz_blk]; exact of_decide_eq_true h.1
theorem okB_kid {k : Nat} {x : Rn} {cs : List (List Rn)} (h : okB (k + 1) (x :: cs.flatten) = true) (hp : partsL cs.flatten = cs) {c : List Rn} (hc : c ∈ cs) : okB k c = true := by
  rw [okB, Bool.and_eq_true] at h
  have h2 := h.2
  rw [hp, List.all_eq_true] at h2
  exact h2 c hc
theorem altR_snoc (J : Ins) (n : Nat) (bs : List (List Ins)) (b : List Ins) : altR J n (bs ++ [b]) = altR J n bs ++ iSplit ((n + altS bs : Nat) + 1) (((n + altS bs : Nat) : Int) + b.length + 2) :: (shI (n + altS bs + 1) b ++ [J]) := by
  induction bs generalizing n with
  | nil => simp [altR, altS]
  | cons x bs ih =>
    rw [List.cons_append, altR, ih, altR, altS]
    have e : n + x.length + 2 + altS bs = n + (x.length + 2 + altS bs) := by omega
    rw [e]
    simp
theorem altS_snoc (bs : List (List Ins)) (b : List Ins) : altS (bs ++ [b]) = altS bs + b.length + 2 := by
  induction bs with
  | nil => simp [altS]
  | cons x bs ih => rw [List.cons_append, altS, ih, altS]; omega
theorem tg_at {G : Int} {lo hi : Nat} {l : List Ins} : ∀ {n : Nat}, TgL G lo hi n l → ∀ q, q ∈ l → ∃ i, TgI G lo hi i q := by
  induction l with
  | nil => intro n _ q hq; cases hq
  | cons a l ih =>
    intro n h q hq
    rcases List.mem_cons.1 hq with rfl | hq
    · exact ⟨n, h.1⟩
    · exact ih h.2 q hq
end ReM
theorem tg_inb {G : Int} {b : List Ins} (h : TgB G b) (hl : b.length ≤ 1000) : InB b := fun q hq => by
  obtain ⟨i, h4, h5, _⟩ := tg_at h q hq
  refine ⟨fun ho => ?_, fun ho => ?_⟩
  · rcases ho with ho | ho
    · obtain ⟨h1, h2, _⟩ := h4 ho; omega
    · obtain ⟨h1, h2⟩ := h5 ho; omega
  · obtain ⟨_, _, h1, h2, _⟩ := h4 ho; omega
theorem blk_inb {k : Nat} {d : Int} {t : List Rn} (hk : t.length ≤ k) (hn : NodAt d t) (hno : NumOk t) (ho : okB k t = true) : InB (blk k t) :=
  tg_inb (blk_tg 9 k d t hk hn (fun x hx _ => ⟨(hno x hx).1.1, (hno x hx).1.2.1⟩)) (by have := okB_len ho; omega)
/-- what stands in front of the kids' codes -/
def CodeC (k : Nat) : Prop := ∀ (a : Option Addr) (c : Nat) (T : List Rm) (w : World) (i : Nat) (d : Int) (t : List Rn), TrM w a T → SubT (rns T) i d t → t.length ≤ k → NumOk t → okB k t = true →
    Calls Try.prog 42 #[.slice a T.length c, .int .i64 i] w (InsP w T (blk k t))
def ChoC (k : Nat) : Prop := ∀ (a : Option Addr) (c : Nat) (T : List Rm) (w : World) (i : Nat) (d : Int) (x : Rn) (cs : List (List Rn)), TrM w a T → SubT (rns T) i d (x :: cs.flatten) → (∀ e, e ∈ cs → NodAt (d + 1) e) → cs.flatten.length ≤ k → NumOk (x :: cs.flatten) → x.kind = 1 → okB (k + 1) (x :: cs.flatten) = true → partsL cs.flatten = cs → cs ≠ [] →
    Calls Try.prog 58 #[.slice a T.length c, .int .i64 i] w (InsP w T (altC (altLen (cs.map (blk k))) 0 (cs.map (blk k))))
/-- facts on one of the kids -/
theorem kid_facts {T : List Rm} {i k : Nat} {d : Int} {x : Rn} {as' bs : List (List Rn)} {e : List Rn} (hS : SubT (rns T) i d (x :: (as' ++ e :: bs).flatten)) (hc : ∀ c, c ∈ as' ++ e :: bs → NodAt (d + 1) c) (hno : NumOk (x :: (as' ++ e :: bs).flatten))
    (hp : partsL (as' ++ e :: bs).flatten = as' ++ e :: bs) (hk : (as' ++ e :: bs).flatten.length ≤ k) (ho : okB (k + 1) (x :: (as' ++ e :: bs).flatten) = true) :
    SubT (rns T) (i + 1 + as'.flatten.length) (d + 1) e ∧ e.length ≤ k ∧ NumOk e ∧ okB k e = true ∧ InB (blk k e) ∧ 0 < e.length ∧ i + 1 + as'.flatten.length + e.length + bs.flatten.length = i + (x :: (as' ++ e :: bs).flatten).length ∧ (blk k e).length ≤ 300 := by
  have hfl : (as' ++ e :: bs).flatten.length = as'.flatten.length + e.length + bs.flatten.length := by rw [List.flatten_append, List.length_append, List.flatten_cons, List.length_append]; omega
  have hmem : e ∈ as' ++ e :: bs := by simp
  have h1 : e.length ≤ k := by omega
  have h2 : NumOk e := fun y hy => hno y (List.mem_cons_of_mem _ (List.mem_flatten.2 ⟨e, hmem, hy⟩))
  have h3 := okB_kid ho hp hmem
  exact ⟨hS.kid hc, h1, h2, h3, blk_inb h1 (hc e hmem) h2 h3, (hc e hmem).pos, by rw [List.length_cons, hfl]; omega, okB_len h3⟩
end Go.Proofs.Ytniilphbbcbpcaa
namespace Go.Proofs.Ytniilphbbcbpcaa
open Go.RowKit ReM

theorem altLen_app (a : List (List Ins)) (b : List Ins) (c : List (List Ins)) : altLen (a ++ b :: c) = altS a + altLen (b :: c) := by
  induction a with
  | nil => simp [altS]
  | cons x a ih =>
    have e : altLen (x :: a ++ b :: c) = x.length + 2 + altLen (a ++ b :: c) := by cases a <;> rfl
    rw [e, ih, altS]; omega
set_option maxRecDepth 20000 in
set_option maxHeartbeats 16000000 in
theorem cho_step (k : Nat) (IH : CodeC k) : ChoC k := by
  intro a c T w i d x cs h hS hc hk hno hk1 hok hp hne
  have hl := h.len
  obtain ⟨hl1, hl0⟩ := hS.len
  rw [rns_len] at hl1
  have HT := hid h
  have HS := hid hS
  have EC := hid (fun w' h' => end_d a c T w' i d _ h' hS)
  have SZ := hid (size_all (k + 1) a c T w i d _ h hS (by rw [List.length_cons]; omega) hno)
  have hblen := okB_len hok
  have hbe : (blk (k + 1) (x :: cs.flatten)).length = altLen (cs.map (blk k)) := by
    rw [blk_kids hp, hk1, if_neg (by decide), if_pos rfl, altC_len]
  rw [hbe] at hblen SZ
  obtain ⟨E, hE⟩ : ∃ E, E = altLen (cs.map (blk k)) := ⟨_, rfl⟩
  rw [← hE] at hblen SZ ⊢
  obtain ⟨N, hN⟩ : ∃ N, N = i + (x :: cs.flatten).length := ⟨_, rfl⟩
  rw [← hN] at EC
  have HNi := hid hN
  have hNT : N ≤ T.length := by omega
  have HE := hid hE
  have Hno := hid hno
  have Hok := hid hok
  have Hp := hid hp
  have HI := hid IH
  have Hc := hid hc
  have Hk := hid hk
  have W0 : IntKind.i64.wrap ((i : Int) + 1) = ((i + 1 : Nat) : Int) := by rw [IntKind.wrap_i64]; omega
  have P0 : Hid (i + 1 ≤ N) := by rw [Hid, hN, List.length_cons]; omega
  clear h hS hE hN hno hok hp IH hc hk hbe hl0 hk1
  go_enter Try.func58, Try.ntmps58
  go_wp2_with fail
  refine SZ.out.mono ?_
  rintro _ w0 ⟨s, rfl, hrs, -, b0⟩
  have hsE : s = E := hrs.1 hblen
  subst hsE
  have HB0 := hid b0
  clear hrs b0 SZ
  go_wp2_with fail
  go_loopg [6, 7] (T.length - (i + 1) + 1) (fun gk ov kv wr => ∃ (as' bs : List (List Rn)) (q : Nat) (aO : Option Addr) (cO : Nat) (O : List Im), gk = T.length - q + 1 ∧ cs = as' ++ bs ∧ Hid (q = i + 1 + as'.flatten.length) ∧ q ≤ N ∧ ov = .slice aO O.length cO ∧ kv = .int .i64 q ∧ Hid (inss O = if bs = [] then altC E 0 (cs.map (blk k)) else altR (iJump E) 0 (as'.map (blk k))) ∧ Hid (RIn wr w.heap.size aO cO O) ∧ Hid (∀ v, Rms v (fun _ => False) T → Ims v O) ∧ Hid (Below w.heap.size w wr))
  case atStart => exact ⟨[], cs, i + 1, none, 0, [], rfl, rfl, hid (by simp), P0.out, rfl, rfl, hid (by rw [if_neg hne]; rfl), hid (ROwn.nil _ _), hid (fun v _ m hm => by cases hm), HB0⟩
  case round =>
    clear HB0
    obtain ⟨as', bs, q, aO, cO, O, rfl, hcs, hq, hqN, rfl, rfl, HO, HR, HM, HB⟩ := hrel
    have hz := HB.out.size
    have E1 := hid (EC.out wr (HT.out.bel HB.out))
    cases bs with
    | cons e bs =>
      have hSk := HS.out
      have hck := Hc.out
      have hnk := Hno.out
      have hpk := Hp.out
      have hkk := Hk.out
      have hokk := Hok.out
      rw [hcs] at hSk hck hnk hpk hkk hokk
      obtain ⟨hkid, he1, he2, he3, he4, he5, he6, he7⟩ := kid_facts hSk hck hnk hpk hkk hokk
      rw [← hq.out] at hkid
      have hqe : q + e.length + bs.flatten.length = N := by
        rw [HNi.out, hcs, ← he6, hq.out]
      have hOE : altS (as'.map (blk k)) + altLen ((e :: bs).map (blk k)) = E := by rw [HE.out, hcs, List.map_append, List.map_cons, altLen_app]
      have hOl : O.length = altS (as'.map (blk k)) := by rw [← inss_len, HO.out, if_neg (by simp), altR_len]
      have b1 : decide ((q : Int) < (N : Int)) = true := decide_eq_true (by omega)
      have CD := hid (fun w' h' => HI.out a c T w' q (d + 1) e h' hkid he1 he2 he3)
      have E2 := hid (fun w' h' => end_d a c T w' q (d + 1) e h' hkid)
      have hO3 : O.length ≤ 300 := by omega
      have HOl := hid hOl
      have HEi := hid he4
      have HEl := hid he7
      have Hcs := hid (show cs = (as' ++ [e]) ++ bs by rw [hcs]; simp)
      have Hq2 : Hid (q + e.length = i + 1 + (as' ++ [e]).flatten.length) := by rw [Hid, hq.out, List.flatten_append]; simp; omega
      have HO' := hid (HO.out.trans (if_neg (by simp)))
      have HOE := hid hOE
      clear hSk hck hnk hpk hkk hokk hkid he1 he2 he3 he4 he6 he7 hOl hcs hq HO hOE
      go_wp2_with fail
      refine E1.out.mono ?_
      rintro _ w1 ⟨rfl, b1'⟩
      have HB1 := hid (HB.out.trans (b1'.mono hz))
      have HR1 := hid (HR.out.grow b1')
      have z1 := HB1.out.size
      clear b1' E1 HB HR hz
      go_wp2_with fail
      refine (E2.out w1 (HT.out.bel HB1.out)).mono ?_
      rintro _ w2 ⟨rfl, b2'⟩
      have HB2 := hid (HB1.out.trans (b2'.mono z1))
      have HR2 := hid (HR1.out.grow b2')
      have z2 := HB2.out.size
      clear b2' HB1 HR1 z1
      go_wp2_with fail
      refine (EC.out w2 (HT.out.bel HB2.out)).mono ?_
      rintro _ w3 ⟨rfl, b3'⟩
      have HB3 := hid (HB2.out.trans (b3'.mono z2))
      have HR3 := hid (HR2.out.grow b3')
      have HRl := hid (fun k (hk : Blk aO k) => (HR3.out.lt hk).2)
      have z3 := HB3.out.size
      clear b3' HB2 HR2 z2
      go_wp2_with fail
      refine (CD.out w3 (HT.out.bel HB3.out)).mono ?_
      rintro _ w4 ⟨a4, c4, C, rfl, hC, o4, i4, b4'⟩
      have HC := hid hC
      have HB4 := hid (HB3.out.trans (b4'.mono z3))
      have HR4 := hid (HR3.out.grow b4')
      have HC4 := hid (o4.sl)
      have HCl := hid (fun k (hk : Blk a4 k) => o4.lt hk)
      have HCi := hid i4
      have z4 := HB4.out.size
      have hCl : C.length ≤ 300 := by rw [← inss_len, hC]; exact HEl.out
      clear b4' HB3 HR3 hC o4 i4 CD
      cases bs with
      | nil =>
        have hNq : N = q + e.length := by simp at hqe; omega
        have b5 : decide ((N : Int) ≤ (q : Int) + (e.length : Int)) = true := decide_eq_true (by omega)
        have SH := hid (shifted_d a4 c4 C O.length w4 HC4.out (by omega) (by rw [HC.out]; exact HEi.out) (by omega))
        have hNq' := hid hNq
        clear hNq hqe HC4
        go_wp2_with fail
        refine SH.out.mono ?_
        rintro _ w5 ⟨a5, c5, D, rfl, hD, o5, k5, b5'⟩
        have HD := hid hD
        have HKy := hid k5
        have hDl : D.length = C.length := by have := congrArg List.length k5; simpa using this
        have HR5 := hid (HR4.out.grow b5')
        have HD5 := hid o5.sl
        have HB5 := hid (HB4.out.trans (b5'.mono z4))
        have z5 := HB5.out.size
        have hsum : O.length + D.length ≤ 2199023255552 := by omega
        clear hD o5 k5 b5' HR4 HB4 z4 SH hDl
        go_wp2_with ((at_builtin; (refine wpL_rapp Try.tyIn rfl (.tmp 48) (.tmp 52) rfl w.heap.size aO a5 O.length D.length cO c5 O D rfl (by first | rfl | simp | omega) HR5.out rfl (by first | rfl | simp | omega) HD5.out hsum z5 ?_); intro a7 c7 w7 L7 Hl7 ho7 hb7 hk7 hA7; have HA7 := hid hA7; clear hA7; have Ho7 := hid ho7; clear ho7; have Hk7 := hid hk7; clear hk7; have hz7 := hb7.size))
        have HB7 := hid (HB5.out.trans hb7)
        have z7 := HB7.out.size
        clear hb7 Hk7 HA7 HR5 HD5 HB5 z5 hz7
        refine (E2.out w7 (HT.out.bel HB7.out)).mono ?_
        rintro _ w8 ⟨rfl, b8'⟩
        have HB8 := hid (HB7.out.trans (b8'.mono z7))
        have HR8 := hid (Ho7.out.grow b8')
        clear b8' HB7 Ho7 z7
        go_wp2_with fail
        go_roundg (T.length - (q + e.length) + 1)
        case measure => omega
        case rel =>
          refine ⟨as' ++ [e], [], q + e.length, a7, c7, L7, rfl, Hcs.out, Hq2, by have := hNq'.out; omega, rfl, rfl, hid ?_, HR8, hid ?_, HB8⟩
          · rw [if_pos rfl, Hcs.out, List.append_nil, List.map_append, List.map_cons, List.map_nil, altC_snoc, Hl7.out, inss_app, HO'.out, HD.out, HC.out, HOl.out, Nat.zero_add]
          · intro v hv; rw [Hl7.out]; exact (HM.out v hv).app ((HCi.out v hv).key HKy.out)
      | cons e2 bs2 =>
        have he2 : 0 < e2.length := (Hc.out e2 (by rw [Hcs.out]; simp)).pos
        have hlt : q + e.length < N := by rw [← hqe, List.flatten_cons, List.length_append]; omega
        have b5 : decide ((N : Int) ≤ (q : Int) + (e.length : Int)) = false := decide_eq_false (by omega)
        have hlt' := hid hlt
        have W1 : IntKind.i64.wrap ((O.length : Int) + 1) = (O.length : Int) + 1 := by rw [IntKind.wrap_i64]; omega
        have W2 : IntKind.i64.wrap ((O.length : Int) + (C.length : Int)) = (O.length : Int) + C.length := by rw [IntKind.wrap_i64]; omega
        have W3 : IntKind.i64.wrap ((O.length : Int) + (C.length : Int) + 2) = (O.length : Int) + C.length + 2 := by rw [IntKind.wrap_i64]; omega
        clear hlt hqe
        go_upto_region 10 with ((at_builtin; (refine wpL_rapp Try.tyIn rfl (.tmp 35) (.tmp 46) rfl w.heap.size aO (some ⟨w4.heap.size, 0, none⟩) O.length 1 cO 1 O [⟨4, (O.length : Int) + 1, (O.length : Int) + C.length + 2, false, none, [], 0⟩] rfl (by first | rfl | simp | omega) (HR4.out.grow (by (repeat' (first | exact Below.refl _ _ | assumption | refine bdrewN ?_ _ | refine Below.drew ?_ | refine bal ?_ _ | refine bthen ?_ (by assumption))))) rfl (by first | rfl | simp | omega) (RSl.lit (E := encIn) w4 ⟨4, (O.length : Int) + 1, (O.length : Int) + C.length + 2, false, none, [], 0⟩ 56 w4.heap.size rfl #[.int .i64 4, .int .i64 ((O.length : Int) + 1), .int .i64 ((O.length : Int) + C.length + 2), .bool false, .slice none 0 0] rfl (by decide)) (by simp; show O.length + 1 ≤ 2199023255552; omega) (by simp; omega) ?_); intro a5 c5 w5 L5 Hl5 ho5 hb5 hk5 hA5; have HA5 := hid hA5; clear hA5; have Ho5 := hid ho5; clear ho5; have Hk5 := hid hk5; clear hk5; have hz5 := hb5.size))
        have HC5 := hid ((HC4.out.bel ((Below.refl _ _).alloc (Nat.le_refl _) (.cells #[.int .i64 4, .int .i64 ((O.length : Int) + 1), .int .i64 ((O.length : Int) + C.length + 2), .bool false, .slice none 0 0] 56))).kpt (fun ad had hb => by
          have h1 := (HCl.out _ ⟨ad, had, rfl⟩).1
          have h2 := HRl.out _ hb
          omega) Hk5.out)
        have HB5 := hid (HB4.out.trans (Below.trans ((Below.refl _ _).alloc z4 _) hb5))
        have z5 := HB5.out.size
        have hL5l : L5.length = O.length + 1 := by rw [Hl5.out]; simp
        have SH := hid (shifted_d a4 c4 C L5.length w5 HC5.out (by omega) (by rw [HC.out]; exact HEi.out) (by omega))
        have HL5l := hid hL5l
        have hL5b : L5.length ≤ 301 := by omega
        clear hb5 hz5 Hk5 HA5 HR4 HB4 z4 HC4 hL5l
        go_wp2_with fail
        refine SH.out.mono ?_
        rintro _ w6 ⟨a6, c6, D, rfl, hD, o6, k6, b6'⟩
        have HD := hid hD
        have HKy := hid k6
        have hDl : D.length = C.length := by have := congrArg List.length k6; simpa using this
        have HR6 := hid (Ho5.out.grow b6')
        have HD6 := hid o6.sl
        have HB6 := hid (HB5.out.trans (b6'.mono z5))
        have z6 := HB6.out.size
        have hsum : L5.length + D.length ≤ 2199023255552 := by omega
        have hsum2 : L5.length + D.length ≤ 601 := by omega
        have hDl' := hid hDl
        clear hD o6 k6 b6' Ho5 HB5 z5 SH hDl
        go_upto_region 12 with ((at_builtin; (refine wpL_rapp Try.tyIn rfl (.tmp 48) (.tmp 52) rfl w.heap.size a5 a6 L5.length D.length c5 c6 L5 D rfl (by first | rfl | simp | omega) HR6.out rfl (by first | rfl | simp | omega) HD6.out hsum z6 ?_); intro a7 c7 w7 L7 Hl7 ho7 hb7 hk7 hA7; have HA7 := hid hA7; clear hA7; have Ho7 := hid ho7; clear ho7; have Hk7 := hid hk7; clear hk7; have hz7 := hb7.size))
        have HB7 := hid (HB6.out.trans hb7)
        have z7 := HB7.out.size
        have hL7l : L7.length ≤ 601 := by rw [Hl7.out, List.length_append]; exact hsum2
        clear hb7 hz7 Hk7 HA7 HR6 HD6 HB6 z6 hsum hsum2
        go_wp2_with ((at_builtin; (refine wpL_rapp Try.tyIn rfl (.tmp 56) (.tmp 59) rfl w.heap.size a7 (some ⟨w7.heap.size, 0, none⟩) L7.length 1 c7 1 L7 [⟨5, (E : Int), 0, false, none, [], 0⟩] rfl (by first | rfl | simp | omega) (Ho7.out.grow (by (repeat' (first | exact Below.refl _ _ | assumption | refine bdrewN ?_ _ | refine Below.drew ?_ | refine bal ?_ _ | refine bthen ?_ (by assumption))))) rfl (by first | rfl | simp | omega) (RSl.lit (E := encIn) w7 ⟨5, (E : Int), 0, false, none, [], 0⟩ 56 w7.heap.size rfl #[.int .i64 5, .int .i64 (E : Int), .int .i64 0, .bool false, .slice none 0 0] rfl (by decide)) (by simp; show L7.length + 1 ≤ 2199023255552; omega) (by simp; omega) ?_); intro a9 c9 w9 L9 Hl9 ho9 hb9 hk9 hA9; have HA9 := hid hA9; clear hA9; have Ho9 := hid ho9; clear ho9; have Hk9 := hid hk9; clear hk9; have hz9 := hb9.size))
        have HB9 := hid (HB7.out.trans (Below.trans ((Below.refl _ _).alloc z7 _) hb9))
        have z9 := HB9.out.size
        clear hb9 hz9 Hk9 HA9 Ho7 HB7 z7
        refine (E2.out w9 (HT.out.bel HB9.out)).mono ?_
        rintro _ w10 ⟨rfl, b10⟩
        have HB10 := hid (HB9.out.trans (b10.mono z9))
        have HR10 := hid (Ho9.out.grow b10)
        clear b10 HB9 Ho9 z9
        go_wp2_with fail
        go_roundg (T.length - (q + e.length) + 1)
        case measure => omega
        case rel =>
          refine ⟨as' ++ [e], e2 :: bs2, q + e.length, a9, c9, L9, rfl, Hcs.out, Hq2, by have := hlt'.out; omega, rfl, by first | rfl | go_num, hid ?_, HR10, hid ?_, HB10⟩
          · have hCe : C.length = (blk k e).length := by rw [← inss_len, HC.out]
            rw [if_neg (by simp), List.map_append, List.map_cons, List.map_nil, altR_snoc, Hl9.out, Hl7.out, Hl5.out, inss_app, inss_app, inss_app, HO'.out, HD.out, HC.out, HL5l.out, inss_one, inss_one, Nat.zero_add, ← HOl.out, ← hCe]
            simp [iSplit, iJump]
          · intro v hv
            rw [Hl9.out, Hl7.out, Hl5.out]
            exact (((HM.out v hv).app (Ims.one0 _ _ _ _ _)).app ((HCi.out v hv).key HKy.out)).app (Ims.one0 _ _ _ _ _)
    | nil =>
      have hqN2 : q = N := by
        have h1 := hq.out
        have h2 := HNi.out
        rw [List.length_cons, hcs, List.append_nil] at h2
        omega
      have b1 : decide ((q : Int) < (N : Int)) = false := decide_eq_false (by omega)
      have HOe := hid (HO.out.trans (if_pos rfl))
      clear HO hcs hq
      go_wp2_with fail
      refine E1.out.mono ?_
      rintro _ w1 ⟨rfl, b1'⟩
      have HB1 := hid (HB.out.trans (b1'.mono hz))
      have HR1 := hid (HR.out.grow b1')
      clear b1' E1 HB HR hz
      go_wp2_with fail
      go_ret
      exact ⟨aO, cO, O, rfl, HOe.out, HR1.out, HM.out, HB1.out⟩
end Go.Proofs.Ytniilphbbcbpcaa
namespace Go.Proofs.Ytniilphbbcbpcaa
open Go.RowKit ReM

theorem RIn.one {w : World} (m : Im) (b base : Nat) (hb : b = w.heap.size) (hB : base ≤ w.heap.size) (cs : Array Value) (hcs : cs = (encIn.v m).toArray) : RIn (w.alloc (.cells cs 56)) base (some ⟨b, 0, none⟩) 1 [m] := by
  subst hb; subst hcs
  refine ⟨?_, by show 1 ≤ 2199023255552; decide⟩
  have := World.ownsRow_lit (base := base) (e := 56) (size := encIn.k) w (encIn.v m).toArray 1 hB (by decide) (by simp [encIn])
  rw [show rflat encIn [m] = encIn.v m by simp [rflat]]
  simpa using this
theorem sumB_app (a b : List (List Ins)) : sumB (a ++ b) = sumB a + sumB b := by simp [sumB]
theorem InsP.first {w w1 : World} {T : List Rm} {r : List Ins} {e' : Ending} {w' : World} (hb : Below w.heap.size w w1) (h : InsP w1 T r e' w') : InsP w T r e' w' := by
  obtain ⟨a, c, L, h1, h2, h3, h4, h5⟩ := h
  exact ⟨a, c, L, h1, h2, h3.base_le hb.size, h4, hb.trans (h5.mono hb.size)⟩
set_option maxRecDepth 20000 in
set_option maxHeartbeats 32000000 in
theorem code_step (k : Nat) (IH : CodeC k) : CodeC (k + 1) := by
  intro a c T w i d t h hS hk hno hok
  have hl := h.len
  obtain ⟨hl1, hl0⟩ := hS.len
  rw [rns_len] at hl1
  obtain ⟨x, cs, rfl, hx, hc, hloc, hp⟩ := hS.kids
  have hiT : i < T.length := by omega
  have HT := hid h
  have hxi : (rgt T i).rn = x := by rw [← lgt_rns hiT]; exact hS.head.1
  have HS := hid hS
  have hcl : cs.flatten.length ≤ k := by rw [List.length_cons] at hk; omega
  have hblk := blk_kids (k := k) (x := x) hp
  obtain ⟨⟨hlo0, hlo9, hhi0, hhi9⟩, hk0, hk6⟩ := hno x (by simp)
  have hlen := okB_len hok
  have HChoC := hid (cho_step k IH)
  have HI := hid IH
  have Hno := hid hno
  have Hok := hid hok
  have Hc := hid hc
  have Hp := hid hp
  have Hloc := hid hloc
  have Hcl := hid hcl
  have hset : ∀ v, Rms v (fun _ => False) T → Sl v (rgt T i).sa (rgt T i).set := fun v hv => (hv _ (rgt_mem hiT)).set
  have Hset := hid hset
  obtain ⟨b, o, hab, r1⟩ := h.sl.rc1 hiT
  obtain ⟨x0, x1, x2, x3, x4, x5, x6⟩ := rec_re r1
  have zi : (i : Int) < (T.length : Int) := by omega
  have W0 : IntKind.i64.wrap ((i : Int) + 1) = ((i + 1 : Nat) : Int) := by rw [IntKind.wrap_i64]; omega
  clear r1 h hS hno hok IH hc hp hloc hcl hset hk
  generalize rgt T i = m at *
  obtain ⟨mk, md, ml, mh, mz, mn, ma, ms, mc⟩ := m
  dsimp only [Rm.rn] at *
  subst hxi
  dsimp only at hx
  subst hx
  have HBlk := hid hblk
  clear hblk
  obtain ⟨V, hV⟩ : ∃ V, V = w.alloc (.cells #[.int .i64 mk, .int .i64 md, .int .i64 ml, .int .i64 mh, .bool mz, .bool mn, .slice ma ms.length mc] 50) := ⟨_, rfl⟩
  have nn : NdC V w.heap.size mk md ml mh mz mn (.slice ma ms.length mc) := by subst hV; exact NdC.new _ _ _ _ _ _ _ _ _ _ rfl
  have HBV : Hid (Below w.heap.size w V) := by subst hV; exact (Below.refl _ _).alloc (Nat.le_refl _) _
  have zV : V.heap.size = w.heap.size + 1 := by subst hV; simp
  have Hab := hid hab
  obtain ⟨X, hX⟩ : ∃ X, X = blk (k + 1) (⟨mk, md, ml, mh, mz, mn, ms⟩ :: cs.flatten) := ⟨_, rfl⟩
  rw [← hX]
  have HX := hid (hX.trans HBlk.out)
  rw [← hX] at hlen
  clear hX HBlk
  dsimp only at hlo0 hlo9 hhi0 hhi9 hk0 hk6
  go_enter Try.func42, Try.ntmps42
  rw [hab]
  go_upto_region 2 with fail
  rw [← hV, ← Hab.out]
  clear hV x0 x1 x2 x3 x4 x5 x6 hab zi
  have NN := hid nn
  rcases (show mk = 2 ∨ mk = 3 ∨ mk = 4 ∨ mk = 1 ∨ mk = 6 ∨ (mk = 5 ∨ mk = 0) by omega) with rfl | rfl | rfl | rfl | rfl | h05
  · (have g0 := nn.c0; have g1 := nn.c1; have g2 := nn.c2; have g3 := nn.c3; have g4 := nn.c4; have g5 := nn.c5; have g6 := nn.c6; have gf0 := nn.fz 0; have gf1 := nn.fz 1; have gf2 := nn.fz 2; have gf3 := nn.fz 3; have gf4 := nn.fz 4; have gf5 := nn.fz 5; have gf6 := nn.fz 6; have gz := nn.lt; clear nn)
    go_wp2_with fail
    go_ret
    refine ⟨_, _, [⟨0, 0, 0, mn, ma, ms, mc⟩], rfl, HX.out.symm, RIn.one _ _ _ (by omega) (by omega) _ rfl, fun v hv q hq => ?_, HBV.out.alloc (by omega) _⟩
    rw [List.mem_singleton.1 hq]; exact Hset.out v hv
  · (have g0 := nn.c0; have g1 := nn.c1; have g2 := nn.c2; have g3 := nn.c3; have g4 := nn.c4; have g5 := nn.c5; have g6 := nn.c6; have gf0 := nn.fz 0; have gf1 := nn.fz 1; have gf2 := nn.fz 2; have gf3 := nn.fz 3; have gf4 := nn.fz 4; have gf5 := nn.fz 5; have gf6 := nn.fz 6; have gz := nn.lt; clear nn)
    go_wp2_with fail
    go_ret
    exact ⟨_, _, [⟨1, 0, 0, false, none, [], 0⟩], rfl, HX.out.symm, RIn.one _ _ _ (by omega) (by omega) _ rfl, fun v hv => Ims.one0 _ _ _ _ _, HBV.out.alloc (by omega) _⟩
  · (have g0 := nn.c0; have g1 := nn.c1; have g2 := nn.c2; have g3 := nn.c3; have g4 := nn.c4; have g5 := nn.c5; have g6 := nn.c6; have gf0 := nn.fz 0; have gf1 := nn.fz 1; have gf2 := nn.fz 2; have gf3 := nn.fz 3; have gf4 := nn.fz 4; have gf5 := nn.fz 5; have gf6 := nn.fz 6; have gz := nn.lt; clear nn)
    go_wp2_with fail
    go_ret
    exact ⟨_, _, [⟨2, 0, 0, false, none, [], 0⟩], rfl, HX.out.symm, RIn.one _ _ _ (by omega) (by omega) _ rfl, fun v hv => Ims.one0 _ _ _ _ _, HBV.out.alloc (by omega) _⟩
  · have hne : cs ≠ [] := fun h => by have := (Hloc.out.2.2.1 rfl); rw [h] at this; simp at this
    have CH := hid (HChoC.out a c T V i md _ cs (HT.out.bel HBV.out) HS.out Hc.out Hcl.out Hno.out rfl Hok.out Hp.out hne)
    (have g0 := nn.c0; have g1 := nn.c1; have g2 := nn.c2; have g3 := nn.c3; have g4 := nn.c4; have g5 := nn.c5; have g6 := nn.c6; have gf0 := nn.fz 0; have gf1 := nn.fz 1; have gf2 := nn.fz 2; have gf3 := nn.fz 3; have gf4 := nn.fz 4; have gf5 := nn.fz 5; have gf6 := nn.fz 6; have gz := nn.lt; clear nn)
    go_wp2_with fail
    refine CH.out.mono ?_
    rintro e2 w2 hx
    obtain ⟨a2, c2, L2, rfl, h2⟩ := hx
    have H2 := hid h2
    clear h2 CH
    go_wp2_with fail
    go_ret
    refine InsP.first HBV.out ⟨a2, c2, L2, rfl, ?_, H2.out.2⟩
    rw [HX.out]; exact H2.out.1
  · have hone : cs.length = 1 := (Hloc.out.2.1 rfl).1
    have hlh := (Hloc.out.2.1 rfl).2
    dsimp only at hlh
    obtain ⟨e, rfl⟩ : ∃ e, cs = [e] := by
      match cs, hone with
      | [e], _ => exact ⟨e, rfl⟩
    obtain ⟨hkid, he1, he2, he3, he4, he5, he6, he7⟩ := kid_facts (as' := []) (bs := []) HS.out Hc.out Hno.out Hp.out Hcl.out Hok.out
    rw [show i + 1 + ([] : List (List Rn)).flatten.length = i + 1 by simp] at hkid
    have CD := hid (HI.out a c T V.drew (i + 1) (md + 1) e ((HT.out.bel HBV.out).bel (Below.refl _ _).drew) hkid he1 he2 he3)
    have RD := hid (fun (C : List Im) (a3 : Option Addr) (c3 : Nat) (w3 : World) (h3 : RSl encIn w3 a3 C) (hC : inss C = blk k e) => repeated_dd ⟨6, md, ml, mh, mz, mn, ma, ms, mc⟩ a3 c3 C w3 h3 (by rw [hC]; exact he4) (by rw [← inss_len, hC]; omega) ⟨hlo0, hlo9⟩ ⟨hhi0, hhi9⟩ hlh)
    unfold rmV at RD
    dsimp only at RD
    (have g0 := nn.c0; have g1 := nn.c1; have g2 := nn.c2; have g3 := nn.c3; have g4 := nn.c4; have g5 := nn.c5; have g6 := nn.c6; have gf0 := nn.fz 0; have gf1 := nn.fz 1; have gf2 := nn.fz 2; have gf3 := nn.fz 3; have gf4 := nn.fz 4; have gf5 := nn.fz 5; have gf6 := nn.fz 6; have gz := nn.lt; clear nn)
    go_upto_region 12 with fail
    go_region_with (first | ((go_at_call 42); refine CD.out.mono ?_; rintro _ w3 ⟨a3, c3, C, rfl, hC, o3, i3, b3⟩; have HC := hid hC; have OC := hid o3.sl; have IC := hid i3; have B3 := hid (HBV.out.trans (Below.mono (w := V) (show Below V.heap.size V w3 from Below.trans (Below.refl _ _).drew b3) (by omega))); obtain ⟨m0, m1, m2, m3, m4, m5, m6, -⟩ := (show NdC w3 w.heap.size 6 md ml mh mz mn (.slice ma ms.length mc) from NN.out.same (b3.block w.heap.size (by simp; omega))); clear hC o3 i3 b3) | ((go_at_call 59); refine (RD.out C a3 c3 w3 OC.out HC.out).mono ?_; rintro _ w4 ⟨a4, c4, L4, rfl, h4, o4, i4, b4⟩; have H4 := hid h4; have O4 := hid o4; have I4 := hid i4; have B4 := hid (B3.out.trans (b4.mono B3.out.size)); clear h4 o4 i4 b4))
    all_goals
      go_wp2_with fail
      go_ret
      refine ⟨a4, c4, L4, rfl, ?_, O4.out.base_le B3.out.size, fun v hv => I4.out v (IC.out v hv), B4.out⟩
      rw [H4.out, HC.out, HX.out]
      show repB _ _ = catB (List.replicate ml.toNat (blk k [e].flatten) ++ [if mh = -1 then loopB (blk k [e].flatten) mz else optB (blk k [e].flatten) mz (mh - ml).toNat])
      rw [show ([e] : List (List Rn)).flatten = e by simp]
      rfl
  · have hsum : sumB (cs.map (blk k)) ≤ 300 := by
      have hx := HX.out
      rcases h05 with rfl | rfl
      · have hone : cs.length = 1 := Hloc.out.1 rfl
        obtain ⟨e, rfl⟩ : ∃ e, cs = [e] := by
          match cs, hone with
          | [e], _ => exact ⟨e, rfl⟩
        have h1 : X = groupB (blk k [e].flatten) ml := hx
        rw [h1, show ([e] : List (List Rn)).flatten = e by simp] at hlen
        simp only [sumB, List.map_cons, List.map_nil, List.sum_cons, List.sum_nil]
        unfold groupB at hlen
        split at hlen
        · omega
        · simp [shI_len] at hlen; omega
      · have h1 : X = catB (cs.map (blk k)) := hx
        rw [h1, catB_len] at hlen; exact hlen
    obtain ⟨pre, hpre⟩ : ∃ pre : List Ins, pre = if mk = 5 ∧ 0 < ml then [iSave (2 * ml)] else [] := ⟨_, rfl⟩
    have hpl : pre.length ≤ 1 := by rw [hpre]; split <;> simp
    have HXF := hid (show X = pre ++ shI pre.length (catB (cs.map (blk k))) ++ (if mk = 5 ∧ 0 < ml then [iSave (2 * ml + 1)] else []) by
      have hx := HX.out
      rcases h05 with rfl | rfl
      · have hone : cs.length = 1 := Hloc.out.1 rfl
        obtain ⟨e, rfl⟩ : ∃ e, cs = [e] := by
          match cs, hone with
          | [e], _ => exact ⟨e, rfl⟩
        have h1 : X = groupB (blk k [e].flatten) ml := hx
        rw [show ([e] : List (List Rn)).flatten = e by simp] at h1
        rw [h1, hpre, List.map_cons, List.map_nil, catB_one]
        by_cases hm : 0 < ml
        · rw [if_pos ⟨rfl, hm⟩, if_pos ⟨rfl, hm⟩]
          unfold groupB
          rw [if_neg (by omega)]
          rfl
        · rw [if_neg (fun h => hm h.2), if_neg (fun h => hm h.2)]
          unfold groupB
          rw [if_pos (by omega)]
          simp [shI_zero]
      · have h1 : X = catB (cs.map (blk k)) := hx
        rw [h1, hpre, if_neg (fun h => absurd h.1 (by decide)), if_neg (fun h => absurd h.1 (by decide))]
        simp [shI_zero])
    have Hpre := hid hpre
    have w2l : IntKind.i64.wrap (2 * ml) = 2 * ml := by rw [IntKind.wrap_i64]; omega
    have w2m : IntKind.i64.wrap (2 * ml + 1) = 2 * ml + 1 := by rw [IntKind.wrap_i64]; omega
    have HL2 := hid hlen
    clear hpre HX hlen
    rcases h05 with rfl | rfl
    all_goals
      (have g0 := nn.c0; have g1 := nn.c1; have g2 := nn.c2; have g3 := nn.c3; have g4 := nn.c4; have g5 := nn.c5; have g6 := nn.c6; have gf0 := nn.fz 0; have gf1 := nn.fz 1; have gf2 := nn.fz 2; have gf3 := nn.fz 3; have gf4 := nn.fz 4; have gf5 := nn.fz 5; have gf6 := nn.fz 6; have gz := nn.lt; clear nn)
      go_upto_if 50 with fail
      go_cut [6] (fun ov wx => ∃ (aO : Option Addr) (cO : Nat) (O : List Im), ov = .slice aO O.length cO ∧ Hid (inss O = pre) ∧ Hid (RIn wx V.heap.size aO cO O) ∧ Hid (∀ v, Rms v (fun _ => False) T → Ims v O) ∧ Hid (Below V.heap.size V wx))
      case first =>
        by_cases hml : 0 < ml
        · have b2 : decide (0 < ml) = true := decide_eq_true hml
          have Hml := hid hml
          clear hml
          go_wp2_with ((at_builtin; (refine wpL_rapp Try.tyIn rfl (.tmp 51) (.tmp 56) rfl V.heap.size none (some ⟨w.heap.size + 1, 0, none⟩) 0 1 0 1 [] [⟨3, 2 * ml, 0, false, none, [], 0⟩] rfl (by first | rfl | simp | omega) (ROwn.nil _ _) rfl (by first | rfl | simp | omega) (RSl.lit (E := encIn) V ⟨3, 2 * ml, 0, false, none, [], 0⟩ 56 (w.heap.size + 1) zV.symm #[.int .i64 3, .int .i64 (2 * ml), .int .i64 0, .bool false, .slice none 0 0] rfl (by decide)) (by show (0 : Nat) + 1 ≤ 2199023255552; decide) (by simp <;> omega) ?_); intro a5 c5 w5 L5 Hl5 ho5 hb5 hk5 hA5; have HA5 := hid hA5; clear hA5; have Ho5 := hid ho5; clear ho5; have Hk5 := hid hk5; clear hk5; have hz5 := hb5.size))
          any_goals (first | (exfalso; have hz9 := Hml.out; omega) | skip)
          go_meet
          first
            | exact ⟨a5, c5, L5, rfl, hid (by rw [Hl5.out, Hpre.out, if_pos (by first | exact ⟨rfl, Hml.out⟩ | exact ⟨trivial, Hml.out⟩)]; rfl), Ho5, hid (fun v hv => by rw [Hl5.out]; exact Ims.one0 _ _ _ _ _), hid (Below.trans ((Below.refl _ _).alloc (Nat.le_refl _) _) hb5)⟩
            | exact ⟨none, 0, [], rfl, hid (by rw [Hpre.out, if_neg (fun h => by have h1 := h.1; revert h1; decide)]; rfl), hid (ROwn.nil _ _), hid (fun v _ m hm => by cases hm), hid (Below.refl _ _)⟩
        · have b2 : decide (0 < ml) = false := decide_eq_false hml
          have Hml := hid hml
          clear hml
          go_wp2_with fail
          any_goals (first | (exfalso; have hz9 := Hml.out; omega) | skip)
          go_meet
          exact ⟨none, 0, [], rfl, hid (by rw [Hpre.out, if_neg (fun h => by have h1 := Hml.out; have h2 := h.2; omega)]; rfl), hid (ROwn.nil _ _), hid (fun v _ m hm => by cases hm), hid (Below.refl _ _)⟩
      case rest =>
        rename World => w5
        obtain ⟨aO0, cO0, O0, rfl, HO0, HR0, HM0, HB0⟩ := hcut
        have EC := hid (fun w' h' => end_d a c T w' i md _ h' HS.out)
        obtain ⟨N, hN⟩ : ∃ N, N = i + (⟨_, md, ml, mh, mz, mn, ms⟩ :: cs.flatten : List Rn).length := ⟨_, rfl⟩
        rw [← hN] at EC
        have HNi := hid (show N = i + 1 + cs.flatten.length by rw [hN, List.length_cons]; omega)
        have hNT : N ≤ T.length := by omega
        clear hN hl1 hl0
        go_wp2_with fail
        go_loopg [6, 7] (T.length - (i + 1) + 1) (fun gk ov kv wr => ∃ (as' bs : List (List Rn)) (q : Nat) (aO : Option Addr) (cO : Nat) (O : List Im), gk = T.length - q + 1 ∧ cs = as' ++ bs ∧ Hid (q = i + 1 + as'.flatten.length) ∧ q ≤ N ∧ ov = .slice aO O.length cO ∧ kv = .int .i64 q ∧ Hid (inss O = pre ++ shI pre.length (catB (as'.map (blk k)))) ∧ Hid (RIn wr V.heap.size aO cO O) ∧ Hid (∀ v, Rms v (fun _ => False) T → Ims v O) ∧ Hid (Below V.heap.size V wr))
        case atStart => exact ⟨[], cs, i + 1, aO0, cO0, O0, rfl, rfl, hid (by simp), by have := HNi.out; omega, rfl, rfl, hid (by rw [HO0.out]; simp [catB, shI]), HR0, HM0, HB0⟩
        case round =>
          clear HO0 HR0 HM0 HB0
          obtain ⟨as', bs, q, aO, cO, O, rfl, hcs, hq, hqN, rfl, rfl, HO, HR, HM, HB⟩ := hrel
          have hz := HB.out.size
          have HBw := hid (HBV.out.trans (HB.out.mono (show w.heap.size ≤ V.heap.size by omega)))
          have E1 := hid (EC.out wr (HT.out.bel HBw.out))
          have hOl : O.length = pre.length + sumB (as'.map (blk k)) := by rw [← inss_len, HO.out, List.length_append, shI_len, catB_len]
          have hsp : sumB (as'.map (blk k)) + sumB (bs.map (blk k)) ≤ 300 := by rw [← sumB_app, ← List.map_append, ← hcs]; exact hsum
          have hO3 : O.length ≤ 301 := by omega
          have HOl := hid hOl
          clear hOl hsp
          cases bs with
          | cons e bs =>
            have hSk := HS.out
            have hck := Hc.out
            have hnk := Hno.out
            have hpk := Hp.out
            have hkk := Hcl.out
            have hokk := Hok.out
            rw [hcs] at hSk hck hnk hpk hkk hokk
            obtain ⟨hkid, he1, he2, he3, he4, he5, he6, he7⟩ := kid_facts hSk hck hnk hpk hkk hokk
            rw [← hq.out] at hkid
            have hqe : q + e.length ≤ N := by
              rw [List.length_cons] at he6
              have h1 := HNi.out
              rw [hcs] at h1
              rw [← hq.out] at he6
              omega
            have b1 : decide ((q : Int) < (N : Int)) = true := decide_eq_true (by omega)
            have CD := hid (fun w' h' => HI.out a c T w' q (md + 1) e h' hkid he1 he2 he3)
            have E2 := hid (fun w' h' => end_d a c T w' q (md + 1) e h' hkid)
            have HEi := hid he4
            have HEl := hid he7
            have Hcs := hid (show cs = (as' ++ [e]) ++ bs by rw [hcs]; simp)
            have Hq2 : Hid (q + e.length = i + 1 + (as' ++ [e]).flatten.length) := by rw [Hid, hq.out, List.flatten_append]; simp; omega
            clear hSk hck hnk hpk hkk hokk hkid he1 he2 he3 he4 he6 he7 hcs hq
            go_wp2_with fail
            refine E1.out.mono ?_
            rintro _ w1 ⟨rfl, b1'⟩
            have HB1 := hid (HB.out.trans (b1'.mono hz))
            have HBw1 := hid (HBw.out.trans (b1'.mono (HBw.out.size)))
            have HR1 := hid (HR.out.grow b1')
            have HRl := hid (fun k (hk : Blk aO k) => (HR1.out.lt hk).2)
            have z1 := HB1.out.size
            clear b1' E1 HB HR hz HBw
            go_wp2_with fail
            refine (CD.out w1 (HT.out.bel HBw1.out)).mono ?_
            rintro _ w4 ⟨a4, c4, C, rfl, hC, o4, i4, b4'⟩
            have HC := hid hC
            have HB4 := hid (HB1.out.trans (b4'.mono z1))
            have HR4 := hid (HR1.out.grow b4')
            have HC4 := hid (o4.sl)
            have HCi := hid i4
            have z4 := HB4.out.size
            have hCl : C.length ≤ 300 := by rw [← inss_len, hC]; exact HEl.out
            have SH := hid (shifted_d a4 c4 C O.length w4 HC4.out (by omega) (by rw [HC.out]; exact HEi.out) (by omega))
            clear b4' HB1 HR1 hC o4 i4 CD HC4 HBw1
            go_wp2_with fail
            refine SH.out.mono ?_
            rintro _ w6 ⟨a6, c6, D, rfl, hD, o6, k6, b6'⟩
            have HD := hid hD
            have HKy := hid k6
            have hDl : D.length = C.length := by have := congrArg List.length k6; simpa using this
            have HR6 := hid (HR4.out.grow b6')
            have HD6 := hid o6.sl
            have HB6 := hid (HB4.out.trans (b6'.mono z4))
            have z6 := HB6.out.size
            have hsum2 : O.length + D.length ≤ 2199023255552 := by omega
            clear hD o6 k6 b6' HR4 HB4 z4 SH hDl
            go_wp2_with ((at_builtin; (refine wpL_rapp Try.tyIn rfl (.tmp 68) (.tmp 74) rfl V.heap.size aO a6 O.length D.length cO c6 O D rfl (by first | rfl | simp | omega) HR6.out rfl (by first | rfl | simp | omega) HD6.out hsum2 z6 ?_); intro a7 c7 w7 L7 Hl7 ho7 hb7 hk7 hA7; have HA7 := hid hA7; clear hA7; have Ho7 := hid ho7; clear ho7; have Hk7 := hid hk7; clear hk7; have hz7 := hb7.size))
            have HB7 := hid (HB6.out.trans hb7)
            have HBw7 := hid (HBV.out.trans (HB7.out.mono (show w.heap.size ≤ V.heap.size by omega)))
            have z7 := HB7.out.size
            clear hb7 Hk7 HA7 HR6 HD6 HB6 z6 hz7
            refine (E2.out w7 (HT.out.bel HBw7.out)).mono ?_
            rintro _ w8 ⟨rfl, b8'⟩
            have HB8 := hid (HB7.out.trans (b8'.mono z7))
            have HR8 := hid (Ho7.out.grow b8')
            clear b8' HB7 Ho7 z7 HBw7
            go_wp2_with fail
            go_roundg (T.length - (q + e.length) + 1)
            case measure => omega
            case rel =>
              refine ⟨as' ++ [e], bs, q + e.length, a7, c7, L7, rfl, Hcs.out, Hq2, hqe, rfl, by first | rfl | go_num, hid ?_, HR8, hid ?_, HB8⟩
              · rw [List.map_append, List.map_cons, List.map_nil, catB_app, catB_one, shI_app, shI_two, catB_len, Hl7.out, inss_app, HO.out, HD.out, HC.out, HOl.out, List.append_assoc]
              · intro v hv; rw [Hl7.out]; exact (HM.out v hv).app ((HCi.out v hv).key HKy.out)
          | nil =>
            have hqN2 : q = N := by
              have h1 := hq.out
              have h2 := HNi.out
              rw [hcs, List.append_nil] at h2
              omega
            have b1 : decide ((q : Int) < (N : Int)) = false := decide_eq_false (by omega)
            have hcs2 : cs = as' := by rw [hcs, List.append_nil]
            have HOe := hid (show inss O = pre ++ shI pre.length (catB (cs.map (blk k))) by rw [hcs2]; exact HO.out)
            clear HO hcs hq hcs2
            go_wp2_with fail
            refine E1.out.mono ?_
            rintro _ w1 ⟨rfl, b1'⟩
            have HB1 := hid (HB.out.trans (b1'.mono hz))
            have HR1 := hid (HR.out.grow b1')
            have z1 := HB1.out.size
            have nq := NN.out.same (HB1.out.block w.heap.size (by omega))
            clear b1' E1 HB HR hz HBw
            (have u0 := nq.c0; have u1 := nq.c1; have u2 := nq.c2; have u3 := nq.c3; have u4 := nq.c4; have u5 := nq.c5; have u6 := nq.c6; have uf0 := nq.fz 0; have uf1 := nq.fz 1; have uf2 := nq.fz 2; have uf3 := nq.fz 3; have uf4 := nq.fz 4; have uf5 := nq.fz 5; have uf6 := nq.fz 6; have uz := nq.lt; clear nq)
            by_cases hml : 0 < ml
            · have b2 : decide (0 < ml) = true := decide_eq_true hml
              have Hml := hid hml
              clear hml
              go_wp2_with ((at_builtin; (refine wpL_rapp Try.tyIn rfl (.tmp 84) (.tmp 90) rfl V.heap.size aO (some ⟨w1.heap.size, 0, none⟩) O.length 1 cO 1 O [⟨3, 2 * ml + 1, 0, false, none, [], 0⟩] rfl (by first | rfl | simp | omega) (HR1.out.grow (by (repeat' (first | exact Below.refl _ _ | assumption | refine bdrewN ?_ _ | refine Below.drew ?_ | refine bal ?_ _ | refine bthen ?_ (by assumption))))) rfl (by first | rfl | simp | omega) (RSl.lit (E := encIn) w1 ⟨3, 2 * ml + 1, 0, false, none, [], 0⟩ 56 w1.heap.size rfl #[.int .i64 3, .int .i64 (2 * ml + 1), .int .i64 0, .bool false, .slice none 0 0] rfl (by decide)) (by simp; show O.length + 1 ≤ 2199023255552; omega) (by simp; omega) ?_); intro a9 c9 w9 L9 Hl9 ho9 hb9 hk9 hA9; have HA9 := hid hA9; clear hA9; have Ho9 := hid ho9; clear ho9; have Hk9 := hid hk9; clear hk9; have hz9 := hb9.size))
              go_ret
              first
                | exact ⟨a9, c9, L9, rfl, by rw [HXF.out, if_pos (by first | exact ⟨rfl, Hml.out⟩ | exact ⟨trivial, Hml.out⟩), Hl9.out, inss_app, HOe.out]; rfl, Ho9.out.base_le (by omega), fun v hv => by rw [Hl9.out]; exact (HM.out v hv).app (Ims.one0 _ _ _ _ _), HBV.out.trans ((HB1.out.trans (Below.trans ((Below.refl _ _).alloc z1 _) hb9)).mono (by omega))⟩
                | exact ⟨aO, cO, O, rfl, by rw [HXF.out, if_neg (fun h => by have h1 := h.1; revert h1; decide), List.append_nil]; exact HOe.out, HR1.out.base_le (by omega), HM.out, HBV.out.trans (HB1.out.mono (by omega))⟩
            · have b2 : decide (0 < ml) = false := decide_eq_false hml
              have Hml := hid hml
              clear hml
              go_wp2_with fail
              go_ret
              exact ⟨aO, cO, O, rfl, by rw [HXF.out, if_neg (fun h => by have h1 := Hml.out; have h2 := h.2; omega), List.append_nil]; exact HOe.out, HR1.out.base_le (by omega), HM.out, HBV.out.trans (HB1.out.mono (by omega))⟩
theorem code_all (k : Nat) : CodeC k := by
  induction k with
  | zero => intro a c T w i d t h hS hk; have := hS.len.2; omega
  | succ k ih => exact code_step k ih
end Go.Proofs.Ytniilphbbcbpcaa
