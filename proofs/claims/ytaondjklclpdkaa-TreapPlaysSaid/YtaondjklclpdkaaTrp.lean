/- The document's own set in memory: Add, Remove, Move. -/
import Derived.Test.YtaondjklclpdkaaTro
namespace Go.Proofs.Ytaondjklclpdkaa
open Go.RowKit

set_option maxHeartbeats 8000000 in
theorem radd_c (m : Mk) (r : Nat) (l : List Mk) (w : World) (F : Nat → Prop) (h : RefL w F r l) (g : Gd l) :
    Calls Try.prog 22 #[.pointer (some ⟨r, 0, none⟩), (.agg #[.int .i64 m.id, .int .i64 m.fr, .int .i64 m.to, .int .i64 m.pr])] w fun e w' => e = .returned (.int .i64 (addE l m)) ∧ RLft w F r (addL l m) w' := by
  have h' := h
  obtain ⟨a, c, hr, hG, hC⟩ := h
  obtain ⟨w1, hw1⟩ : ∃ w1, w1 = w.alloc (.cells #[.int .i64 m.id, .int .i64 m.fr, .int .i64 m.to, .int .i64 m.pr] 33) := ⟨_, rfl⟩
  have b1 : Below w.heap.size w w1 := by subst hw1; exact (Below.refl _ _).alloc (Nat.le_refl _) _
  have k0 : Bx w1 w.heap.size m := by subst hw1; exact Bx.new w m _
  have HS := hid h'
  have H1 := hid (h'.bel b1)
  have B1 := hid b1
  obtain ⟨m0, m1, m2, m3⟩ := k0
  have hl := g.len
  have hC1 := hC.bel b1
  have hcl := hC1.cell
  have Fn := hid (rfind_c m.id r a c l w1 hC1 (by omega))
  have Pt := hid (rput_c m r l w1 F (h'.bel b1) (by omega))
  have hpl := pos_le l m.id
  clear h' hr hG hC b1 g hC1
  by_cases hs : spanOk m.fr m.to = true
  · have hs2 : (!spanOk m.fr m.to) = false := by simp [hs]
    by_cases hp : pos l m.id < l.length
    · have he : addE l m = 1 := by unfold addE; rw [if_pos hs, if_pos hp]
      have hL : addL l m = l := by unfold addL; rw [if_neg (by omega)]
      have hf : fndV l m.id = (pos l m.id : Nat) := by unfold fndV; rw [if_pos hp]
      rw [he, hL]
      rw [hf] at Fn
      have hd : decide ((0 : Int) ≤ (pos l m.id : Nat)) = true := by simp
      clear he hL hf hs hp
      go_enter Try.func22, Try.ntmps22
      go_upto_region 1 with fail
      rw [← hw1]; clear hw1
      go_wp2_with fail
      refine (bad_c m.fr m.to w1).mono ?_
      rintro e w' ⟨rfl, rfl⟩
      rw [hs2]
      go_wp2_with fail
      refine Fn.out.mono ?_
      rintro e w' ⟨rfl, rfl⟩
      go_wp2_with fail
      go_ret
      exact ⟨rfl, RLft.of HS.out B1.out⟩
    · have hf : fndV l m.id = -1 := by unfold fndV; rw [if_neg hp]
      rw [hf] at Fn
      by_cases h6 : 600 ≤ l.length
      · have he : addE l m = 3 := by unfold addE; rw [if_pos hs, if_neg hp, if_pos h6]
        have hL : addL l m = l := by unfold addL; rw [if_neg (by omega)]
        rw [he, hL]
        have hd : decide ((600 : Int) ≤ (l.length : Nat)) = true := by simp; omega
        clear he hL hf hs hp
        go_enter Try.func22, Try.ntmps22
        go_upto_region 1 with fail
        rw [← hw1]; clear hw1
        go_wp2_with fail
        refine (bad_c m.fr m.to w1).mono ?_
        rintro e w' ⟨rfl, rfl⟩
        rw [hs2]
        go_wp2_with fail
        refine Fn.out.mono ?_
        rintro e w' ⟨rfl, rfl⟩
        go_wp2_with fail
        go_ret
        exact ⟨rfl, RLft.of HS.out B1.out⟩
      · have he : addE l m = 0 := by unfold addE; rw [if_pos hs, if_neg hp, if_neg h6]
        have hL : addL l m = putM l m := by unfold addL; rw [if_pos he]
        rw [he, hL]
        have hd : decide ((600 : Int) ≤ (l.length : Nat)) = false := by simp; omega
        clear he hL hf hs hp
        go_enter Try.func22, Try.ntmps22
        go_upto_region 1 with fail
        rw [← hw1]; clear hw1
        go_wp2_with fail
        refine (bad_c m.fr m.to w1).mono ?_
        rintro e w' ⟨rfl, rfl⟩
        rw [hs2]
        go_wp2_with fail
        refine Fn.out.mono ?_
        rintro e w' ⟨rfl, rfl⟩
        go_wp2_with fail
        refine Pt.out.mono ?_
        rintro e w2 ⟨rfl, hL⟩
        have HL := hid hL
        clear hL
        go_wp2_with fail
        go_ret
        exact ⟨rfl, HL.out.on B1.out⟩
  · have hs2 : (!spanOk m.fr m.to) = true := by simp [hs]
    have he : addE l m = 2 := by unfold addE; rw [if_neg hs]
    have hL : addL l m = l := by unfold addL; rw [if_neg (by omega)]
    rw [he, hL]
    clear he hL hs
    go_enter Try.func22, Try.ntmps22
    go_upto_region 1 with fail
    rw [← hw1]; clear hw1
    go_wp2_with fail
    refine (bad_c m.fr m.to w1).mono ?_
    rintro e w' ⟨rfl, rfl⟩
    rw [hs2]
    go_wp2_with fail
    go_ret
    exact ⟨rfl, RLft.of HS.out B1.out⟩
set_option maxHeartbeats 8000000 in
theorem rremove_c (i : Int) (r : Nat) (l : List Mk) (w : World) (F : Nat → Prop) (h : RefL w F r l) (g : Gd l) :
    Calls Try.prog 25 #[.pointer (some ⟨r, 0, none⟩), .int .i64 i] w fun e w' => e = .returned (.int .i64 (remE l i)) ∧ RLft w F r (remL l i) w' := by
  have h' := h
  obtain ⟨a, c, hr, hG, hC⟩ := h
  have HS := hid h'
  have hl := g.len
  have Fn := hid (rfind_c i r a c l w hC (by omega))
  have hpl := pos_le l i
  clear hr hG hC
  by_cases hp : pos l i < l.length
  · have he : remE l i = 0 := by unfold remE; rw [if_pos hp]
    have Tk := hid (rtake_c (pos l i) r l w F h' (by omega) hp)
    have hf : fndV l i = (pos l i : Nat) := by unfold fndV; rw [if_pos hp]
    rw [hf] at Fn
    rw [he]
    unfold remL
    have hd : decide (((pos l i : Nat) : Int) < 0) = false := by simp
    generalize takM l (pos l i) = l2 at *
    clear he hf g h' hp hpl
    go_enter Try.func25, Try.ntmps25
    go_wp2_with fail
    refine Fn.out.mono ?_
    rintro e w' ⟨rfl, rfl⟩
    go_wp2_with fail
    refine Tk.out.mono ?_
    rintro e w2 ⟨rfl, hL⟩
    have HL := hid hL
    clear hL
    go_wp2_with fail
    go_ret
    exact ⟨rfl, HL.out⟩
  · have he : remE l i = 4 := by unfold remE; rw [if_neg hp]
    have hL : remL l i = l := by unfold remL; rw [takM_out _ (by omega)]
    have hf : fndV l i = -1 := by unfold fndV; rw [if_neg hp]
    rw [hf] at Fn
    rw [he, hL]
    clear he hf g h' hp hpl hL
    go_enter Try.func25, Try.ntmps25
    go_wp2_with fail
    refine Fn.out.mono ?_
    rintro e w' ⟨rfl, rfl⟩
    go_wp2_with fail
    go_ret
    exact ⟨rfl, RLft.of HS.out (by (repeat' (first | exact Below.refl _ _ | assumption | refine bdrewN ?_ _ | refine Below.drew ?_ | refine bal ?_ _ | refine bthen ?_ (by assumption))))⟩
/-- a box in a world that a turn of the set left -/
theorem rl_bx {w w' : World} {F : Nat → Prop} {r b : Nat} {l : List Mk} {m : Mk} (h : Bx w b m) (hs : RLft w F r l w') (hn : ¬ F b) : Bx w' b m := h.kpt hs.2 hn
set_option maxHeartbeats 8000000 in
theorem rmove_c (i f t0 : Int) (r : Nat) (l : List Mk) (w : World) (F : Nat → Prop) (h : RefL w F r l) (g : Gd l) :
    Calls Try.prog 27 #[.pointer (some ⟨r, 0, none⟩), .int .i64 i, .int .i64 f, .int .i64 t0] w fun e w' => e = .returned (.int .i64 (movE l i f t0)) ∧ RLft w F r (movL l i f t0) w' := by
  have h' := h
  have hlt := h.lt
  obtain ⟨a, c, hr, hG, hC⟩ := h
  have HS := hid h'
  have hl := g.len
  have Fn := hid (rfind_c i r a c l w hC (by omega))
  have hpl := pos_le l i
  by_cases hp : pos l i < l.length
  · have hf : fndV l i = (pos l i : Nat) := by unfold fndV; rw [if_pos hp]
    rw [hf] at Fn
    have hd : decide (((pos l i : Nat) : Int) < 0) = false := by simp
    by_cases hs : spanOk f t0 = true
    · have hs2 : (!spanOk f t0) = false := by simp [hs]
      have he : movE l i f t0 = 0 := by unfold movE; rw [if_pos hp, if_pos hs]
      have hL : movL l i f t0 = putM (takM l (pos l i)) ⟨i, f, t0, (mgt l (pos l i)).pr⟩ := by unfold movL; rw [if_pos he]
      have hi := pos_id hp
      rw [he, hL]
      have hcl := hC.cell
      obtain ⟨bb, off, rfl, hcs⟩ := hC.sl.at hp
      obtain ⟨k0, k1, k2, k3⟩ := hcs _ hp
      have hbl : bb < w.heap.size := World.block_lt_of_cell? w _ k0
      clear hcs
      have hrl : r < w.heap.size := hC.lt
      have hbF : Hid (¬ (F w.heap.size ∧ w.heap.size < w.heap.size)) := fun h => by omega
      have Tk : Hid (∀ w', Below w.heap.size w w' → Calls Try.prog 44 #[.pointer (some ⟨r, 0, none⟩), .int .i64 (pos l i : Nat)] w' fun e w2 => e = .returned (.tuple #[]) ∧ RLft w' (fun k => F k ∧ k < w.heap.size) r (takM l (pos l i)) w2) := fun w' hb =>
        rtake_c (pos l i) r l w' _ (hlt.bel hb) (by omega) hp
      have hl2 : (takM l (pos l i)).length ≤ 1000 := by have := takM_len hp; omega
      have Pt := hid (fun w' F (h : RefL w' F r (takM l (pos l i))) => rput_c ⟨i, f, t0, (mgt l (pos l i)).pr⟩ r (takM l (pos l i)) w' F h hl2)
      generalize takM l (pos l i) = l2 at *
      generalize mgt l (pos l i) = m at *
      generalize putM l2 ⟨i, f, t0, m.pr⟩ = l3 at *
      subst hi
      clear he hf hr hG hC hlt g h' hL hl2 hs
      go_enter Try.func27, Try.ntmps27
      go_wp2_with fail
      refine Fn.out.mono ?_
      rintro e w' ⟨rfl, rfl⟩
      go_wp2_with fail
      refine (bad_c f t0 w).mono ?_
      rintro e w' ⟨rfl, rfl⟩
      rw [hs2]
      go_upto_region 7 with fail
      obtain ⟨V, hV⟩ : ∃ V, V = w.alloc (.cells #[.int .i64 m.id, .int .i64 m.fr, .int .i64 m.to, .int .i64 m.pr] 33) := ⟨_, rfl⟩
      rw [← hV]
      have bV : Below w.heap.size w V := by subst hV; exact (Below.refl _ _).alloc (Nat.le_refl _) _
      have BV : Hid (Bx V w.heap.size m) := by subst hV; exact Bx.new w m _
      have fV : ∀ o, V.frozen? ⟨w.heap.size, o, none⟩ = false := by subst hV; intro o; simp
      clear hV k0 k1 k2 k3 hcl
      have hzV : w.heap.size < V.heap.size := World.block_lt_of_cell? V _ BV.out.1
      go_wp2_with fail
      refine (Tk.out V bV).mono ?_
      rintro e w2 ⟨rfl, hL⟩
      have HL := hid hL
      have B2 := rl_bx BV.out hL hbF.out
      have g1 : w2.frozen? ⟨w.heap.size, 1, none⟩ = false := (hL.2.frozen (p := ⟨w.heap.size, 1, none⟩) hzV hbF.out).trans (fV 1)
      have g2 : w2.frozen? ⟨w.heap.size, 2, none⟩ = false := (hL.2.frozen (p := ⟨w.heap.size, 2, none⟩) hzV hbF.out).trans (fV 2)
      obtain ⟨n0, n1, n2, n3⟩ := B2
      have hsz2 := hL.2.size
      clear hL fV
      go_upto_region 9 with fail
      obtain ⟨w3, hw3⟩ : ∃ w3, w3 = (w2.setCell ⟨w.heap.size, 1, none⟩ (.int .i64 f)).setCell ⟨w.heap.size, 2, none⟩ (.int .i64 t0) := ⟨_, rfl⟩
      rw [← hw3]
      have hb3 : Bx w3 w.heap.size ⟨m.id, f, t0, m.pr⟩ := by
        subst hw3
        refine ⟨cell_set_other (cell_set_other n0 (by decide)) (by decide), ?_, ?_, cell_set_other (cell_set_other n3 (by decide)) (by decide)⟩
        · rw [World.cell?_setCell_other (h := by simp), World.cell?_setCell_same (h := n1)]
        · rw [World.cell?_setCell_same (u := .int .i64 m.to)]
          exact cell_set_other n2 (by decide)
      have hk3 : Kpt (fun k => k = w.heap.size) w2 w3 := by subst hw3; exact ((Kpt.refl (fun k => k = w.heap.size) w2).setCell (p := ⟨w.heap.size, 1, none⟩) rfl _).setCell (p := ⟨w.heap.size, 2, none⟩) rfl _
      have hs3 : w3.heap.size = w2.heap.size := by subst hw3; simp
      have hr3 : RefL w3 (Gr (fun k => F k ∧ k < w.heap.size) V w2) r l2 := HL.out.1.kpt hk3 (by rintro k (h | h) e <;> omega)
      obtain ⟨q0, q1, q2, q3⟩ := hb3
      have hK3 := hid (And.intro hk3 hs3)
      clear hw3 n0 n1 n2 n3 g1 g2 hk3 hs3
      go_wp2_with fail
      refine (Pt.out _ _ hr3).mono ?_
      rintro e w4 ⟨rfl, hL4⟩
      have HL4 := hid hL4
      clear hL4 hr3 q0 q1 q2 q3
      go_wp2_with fail
      go_ret
      refine ⟨rfl, ?_⟩
      obtain ⟨hk3, hs3⟩ := hK3.out
      obtain ⟨x1, x2⟩ := HL.out
      obtain ⟨y1, y2⟩ := HL4.out
      have z2 := y2.size
      have hv := bV.size
      have ka : Kpt (fun k => F k ∧ k < w.heap.size) w w2 := (Kpt.of bV).tr x2
      have kb : Kpt (Gr (fun k => F k ∧ k < w.heap.size) w w2) w2 w4 := (hk3.mono fun k hk => .inr (by omega)).tr (y2.mono fun k hk => by
        rcases hk with hk | hk
        · exact .inl hk
        · exact .inr (by omega))
      refine ⟨y1.mono ?_, (ka.trans kb).mono fun k hk => hk.1⟩
      rintro k ((hk | hk) | hk)
      · exact .inl hk.1
      · exact .inr (by omega)
      · exact .inr (by omega)
    · have hs2 : (!spanOk f t0) = true := by simp [hs]
      have he : movE l i f t0 = 2 := by unfold movE; rw [if_pos hp, if_neg hs]
      have hL : movL l i f t0 = l := by unfold movL; rw [if_neg (by omega)]
      rw [he, hL]
      clear he hf hr hG hC hlt g h' hL hs
      go_enter Try.func27, Try.ntmps27
      go_wp2_with fail
      refine Fn.out.mono ?_
      rintro e w' ⟨rfl, rfl⟩
      go_wp2_with fail
      refine (bad_c f t0 w).mono ?_
      rintro e w' ⟨rfl, rfl⟩
      rw [hs2]
      go_wp2_with fail
      go_ret
      exact ⟨rfl, RLft.of HS.out (by (repeat' (first | exact Below.refl _ _ | assumption | refine bdrewN ?_ _ | refine Below.drew ?_ | refine bal ?_ _ | refine bthen ?_ (by assumption))))⟩
  · have he : movE l i f t0 = 4 := by unfold movE; rw [if_neg hp]
    have hL : movL l i f t0 = l := by unfold movL; rw [if_neg (by omega)]
    have hf : fndV l i = -1 := by unfold fndV; rw [if_neg hp]
    rw [hf] at Fn
    rw [he, hL]
    clear he hf hr hG hC hlt g h' hL hp
    go_enter Try.func27, Try.ntmps27
    go_wp2_with fail
    refine Fn.out.mono ?_
    rintro e w' ⟨rfl, rfl⟩
    go_wp2_with fail
    go_ret
    exact ⟨rfl, RLft.of HS.out (by (repeat' (first | exact Below.refl _ _ | assumption | refine bdrewN ?_ _ | refine Below.drew ?_ | refine bal ?_ _ | refine bthen ?_ (by assumption))))⟩
end Go.Proofs.Ytaondjklclpdkaa
