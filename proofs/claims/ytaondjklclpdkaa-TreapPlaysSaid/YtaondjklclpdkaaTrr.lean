/- The document's own set in memory: Depth. -/
import Derived.Test.YtaondjklclpdkaaTrq
import Derived.Deep.CutBlock
import Derived.Deep.DeepCutAuto
namespace Go.Proofs.Ytaondjklclpdkaa
open Go.RowKit

theorem lrec_app (X Y : List Mk) (top : Mk) : lrec (X ++ Y) top = lrec Y (lrec X top) := by
  induction X generalizing top with
  | nil => rfl
  | cons x X ih =>
    simp only [List.cons_append, lrec]
    split
    · rw [ih]
    · rw [ih]
theorem recs_snoc (X : List Mk) (y top : Mk) : recs (X ++ [y]) top = recs X top + (if ovr y (lrec X top) then 1 else 0) := by
  rw [recs_app]; simp only [recs, Nat.zero_add]
theorem lrec_snoc (X : List Mk) (y top : Mk) : lrec (X ++ [y]) top = if ovr y (lrec X top) then y else lrec X top := by
  rw [lrec_app]; rfl
/-- the marks ahead of place k from place j on, the nearest first -/
theorem back_step {l : List Mk} {k j : Nat} (hk : k ≤ l.length) (hj : j + 1 ≤ k) : ((l.take k).drop j).reverse = ((l.take k).drop (j + 1)).reverse ++ [mgt l j] := by
  have h : j < (l.take k).length := by simp; omega
  rw [List.drop_eq_getElem_cons h, List.reverse_cons]
  congr 2
  rw [mgt_get (by omega)]
  simp
theorem fwd_step {l : List Mk} {k q : Nat} (hk : k + 1 ≤ q) (hj : q < l.length) : (l.drop (k + 1)).take (q + 1 - (k + 1)) = (l.drop (k + 1)).take (q - (k + 1)) ++ [mgt l q] := by
  obtain ⟨j, rfl⟩ : ∃ j, q = k + 1 + j := ⟨q - (k + 1), by omega⟩
  rw [show k + 1 + j + 1 - (k + 1) = j + 1 by omega, show k + 1 + j - (k + 1) = j by omega]
  have h : j < (l.drop (k + 1)).length := by simp; omega
  rw [List.take_succ_eq_append_getElem h]
  congr 2
  rw [mgt_get (by omega)]
  simp
/-- the box of the mark on the way up, and the set behind it -/
structure Top (w : World) (X : Nat) (m : Mk) : Prop where
  bx : Bx w X m
  fr : ∀ o, w.frozen? ⟨X, o, none⟩ = false
theorem Top.bel {w w' : World} {X : Nat} {m : Mk} (h : Top w X m) (hb : Below w.heap.size w w') : Top w' X m :=
  ⟨h.bx.bel hb, fun o => by rw [World.frozen?_of_block (w := w) (w' := w') (a := ⟨X, o, none⟩) (hb.block X (World.block_lt_of_cell? w _ h.bx.1))]; exact h.fr o⟩
theorem Top.new (w : World) (m : Mk) (e : TypeId) : Top (w.alloc (.cells #[.int .i64 m.id, .int .i64 m.fr, .int .i64 m.to, .int .i64 m.pr] e)) w.heap.size m := ⟨Bx.new w m e, fun o => by simp⟩
theorem Top.set {w : World} {X : Nat} {m : Mk} (h : Top w X m) (x : Mk) :
    Top ((((w.setCell ⟨X, 0, none⟩ (.int .i64 x.id)).setCell ⟨X, 1, none⟩ (.int .i64 x.fr)).setCell ⟨X, 2, none⟩ (.int .i64 x.to)).setCell ⟨X, 3, none⟩ (.int .i64 x.pr)) X x := by
  obtain ⟨⟨h0, h1, h2, h3⟩, hf⟩ := h
  refine ⟨⟨?_, ?_, ?_, ?_⟩, fun o => by simp only [World.frozen?_setCell]; exact hf o⟩
  · exact cell_set_other (cell_set_other (cell_set_other (by rw [World.cell?_setCell_same (h := h0)]) (by decide)) (by decide)) (by decide)
  · refine cell_set_other (cell_set_other ?_ (by decide)) (by decide)
    rw [World.cell?_setCell_same (u := .int .i64 m.fr)]; exact cell_set_other h1 (by decide)
  · refine cell_set_other ?_ (by decide)
    rw [World.cell?_setCell_same (u := .int .i64 m.to)]; exact cell_set_other (cell_set_other h2 (by decide)) (by decide)
  · rw [World.cell?_setCell_same (u := .int .i64 m.pr)]; exact cell_set_other (cell_set_other (cell_set_other h3 (by decide)) (by decide)) (by decide)
set_option maxRecDepth 20000 in
set_option maxHeartbeats 16000000 in
theorem rdepth_c (i : Int) (r : Nat) (a : Option Addr) (c : Nat) (l : List Mk) (w : World) (h : RefC w r a c l) (g : Gd l) :
    Calls Try.prog 24 #[.pointer (some ⟨r, 0, none⟩), .int .i64 i] w fun e w' => e = .returned (.int .i64 (depL l i)) ∧ Below w.heap.size w w' := by
  have KC := rc_kept h
  have hl := g.len
  have hrl := h.lt
  have Fn := hid (rfind_c i r a c l w h (by omega))
  by_cases hp : pos l i < l.length
  · have hf : fndV l i = (pos l i : Nat) := by unfold fndV; rw [if_pos hp]
    have hv : depL l i = (depR (l.take (pos l i)) (mgt l (pos l i)) (l.drop (pos l i + 1)) : Nat) := by unfold depL; rw [if_pos hp]
    rw [hf] at Fn
    obtain ⟨NV, hNV⟩ : ∃ NV, NV = depR (l.take (pos l i)) (mgt l (pos l i)) (l.drop (pos l i + 1)) := ⟨_, rfl⟩
    rw [hv, ← hNV]
    have hd : decide (((pos l i : Nat) : Int) < 0) = false := by simp
    generalize pos l i = k at *
    have HNV := hid hNV
    clear hNV
    obtain ⟨bb, off, rfl, hcs⟩ := h.sl.at hp
    have hbl : bb < w.heap.size := World.block_lt_of_cell? w _ (hcs _ hp).1
    have KM : Hid (∀ w', Below w.heap.size w w' → ∀ j, j < l.length → (w'.cell? ⟨bb, off + j * 4, none⟩ = some (.int .i64 (mgt l j).id) ∧ w'.cell? ⟨bb, off + j * 4 + 1, none⟩ = some (.int .i64 (mgt l j).fr) ∧ w'.cell? ⟨bb, off + j * 4 + 2, none⟩ = some (.int .i64 (mgt l j).to) ∧ w'.cell? ⟨bb, off + j * 4 + 3, none⟩ = some (.int .i64 (mgt l j).pr)) ∧ w'.cell? ⟨r, 0, none⟩ = some (.slice (some ⟨bb, off, none⟩) l.length c)) := fun w' hb j hj => by
      obtain ⟨q1, q2⟩ := KC.out _ hb
      obtain ⟨bb', off', he, hcs⟩ := q2.at hj
      simp only [Option.some.injEq, Addr.mk.injEq, and_true] at he
      obtain ⟨rfl, rfl⟩ := he
      exact ⟨hcs j hj, q1⟩
    have kk := KM.out _ (Below.refl _ _) k hp
    obtain ⟨⟨k0, k1, k2, k3⟩, k4⟩ := kk
    clear hcs h g hf hv KC
    go_enter Try.func24, Try.ntmps24
    go_wp2_with fail
    refine Fn.out.mono ?_
    rintro e w' ⟨rfl, rfl⟩
    go_upto_region 4 with fail
    go_cut [6, 7] (fun s6 s7 wc => s6 = .int .i64 1 ∧ ∃ X, s7 = .pointer (some ⟨X, 0, none⟩) ∧ w.heap.size ≤ X ∧ Top wc X (mgt l k) ∧ Below w.heap.size w wc)
    case first =>
      go_region_with (fail)
      all_goals
        go_wp2_with fail
        go_meet
        exact ⟨rfl, _, rfl, Nat.le_refl _, (Top.new w _ _).bel (Below.refl _ _).drew, by (repeat' (first | exact Below.refl _ _ | assumption | refine bdrewN ?_ _ | refine Below.drew ?_ | refine bal ?_ _ | refine bthen ?_ (by assumption)))⟩
    case rest =>
      obtain ⟨rfl, X, rfl, hX, hT, hb⟩ := hcut
      rename World => w2
      have HT := hid hT
      clear hT k0 k1 k2 k3 k4
      obtain ⟨x, hx⟩ : ∃ x, x = mgt l k := ⟨_, rfl⟩
      rw [← hx] at HT
      have bset : ∀ (v v' : World) (o : Nat) (u : Value), Below w.heap.size w v → Below w.heap.size w (v.setCell ⟨X, o, none⟩ u) := fun v v' o u h => h.setCell hX _
      have HX := hid hX
      have Hx := hid hx
      clear hx hX bset
      go_wp2_with fail
      go_loopw [6, 8] (fun nv iv wr => ∃ (j : Nat) (R : List Mk), j ≤ k ∧ iv = .int .i64 ((j : Int) - 1) ∧ nv = .int .i64 ((1 + recs R x : Nat) : Int) ∧ Hid (R = ((l.take k).drop j).reverse) ∧ Hid (Top wr X (lrec R x)) ∧ Below w.heap.size w wr) (fun _ iv _ => (intOf iv + 1).toNat)
      case atStart => exact ⟨k, [], Nat.le_refl _, by go_num, by simp [recs], hid (by simp), HT.out, hb⟩
      case round =>
        obtain ⟨j, R, hj, rfl, rfl, hR, hTop, hbr⟩ := hrel
        have hRl : recs R x ≤ 600 := by
          have h1 := recs_le R x
          have h2 : R.length ≤ l.length := by rw [hR.out]; simp; omega
          omega
        cases j with
        | succ p =>
          have hpl : p < l.length := by omega
          have e1 : ((p + 1 : Nat) : Int) - 1 = (p : Int) := by omega
          rw [e1]
          have hc1 : decide ((0 : Int) ≤ (p : Int)) = true := by simp
          have hstep := back_step (by omega : k ≤ l.length) hj
          have hsn := recs_snoc R (mgt l p) x
          have hln := lrec_snoc R (mgt l p) x
          have Hpk := hid (show p ≤ k by omega)
          generalize hTp : lrec R x = top at *
          generalize hrv : recs R x = rv at *
          have hcut2 := hid hTp
          have hxr := hid hrv
          clear hTp hrv
          by_cases ho : ovr (mgt l p) top
          · have ho2 : decide (ovr (mgt l p) top) = true := decide_eq_true ho
            rw [if_pos ho] at hsn hln
            have Hsn := hid hsn
            have Hln := hid hln
            have hwr : IntKind.i64.wrap (((1 + rv : Nat) : Int) + 1) = ((1 + (rv + 1) : Nat) : Int) := by rw [IntKind.wrap_i64]; omega
            have kk := KM.out _ hbr.drew p hpl
            obtain ⟨⟨n0, n1, n2, n3⟩, n4⟩ := kk
            have kk := (hTop.out.bel (Below.refl _ _).drew).bx
            obtain ⟨t0, t1, t2, t3⟩ := kk
            have hstep2 := hid hstep
            clear hsn hln ho hstep e1 hj
            have Hbr := hid hbr.drew
            go_upto_region 8 with fail
            go_region_held3 (fun w' => (w'.cell? ⟨bb, off + p * 4, none⟩ = some (.int .i64 (mgt l p).id) ∧ w'.cell? ⟨bb, off + p * 4 + 1, none⟩ = some (.int .i64 (mgt l p).fr) ∧ w'.cell? ⟨bb, off + p * 4 + 2, none⟩ = some (.int .i64 (mgt l p).to) ∧ w'.cell? ⟨bb, off + p * 4 + 3, none⟩ = some (.int .i64 (mgt l p).pr)) ∧ (w'.cell? ⟨X, 0, none⟩ = some (.int .i64 top.id) ∧ w'.cell? ⟨X, 1, none⟩ = some (.int .i64 top.fr) ∧ w'.cell? ⟨X, 2, none⟩ = some (.int .i64 top.to) ∧ w'.cell? ⟨X, 3, none⟩ = some (.int .i64 top.pr)) ∧ w'.cell? ⟨r, 0, none⟩ = some (.slice (some ⟨bb, off, none⟩) l.length c)) (first | (with_reducible assumption) | exact ⟨⟨by with_reducible assumption, by with_reducible assumption, by with_reducible assumption, by with_reducible assumption⟩, ⟨by with_reducible assumption, by with_reducible assumption, by with_reducible assumption, by with_reducible assumption⟩, by with_reducible assumption⟩)
              (first | (go_at_call 43; refine (over_c (mgt l p) top _).mono ?_; rintro e v1 ⟨rfl, hb1⟩; rw [ho2]; have hx1 : Below w.heap.size w v1 := bthen Hbr.out hb1; have kk := KM.out _ hx1 p hpl; obtain ⟨⟨p0, p1, p2, p3⟩, p4⟩ := kk; have kk := ((hTop.out.bel (Below.refl _ _).drew).bel hb1).bx; obtain ⟨q0, q1, q2, q3⟩ := kk))
            have hTv := (hTop.out.bel (Below.refl _ _).drew).bel hb1
            have HTv := hid hTv
            have f0 := hTv.fr 0
            have f1 := hTv.fr 1
            have f2 := hTv.fr 2
            have f3 := hTv.fr 3
            clear hTv n0 n1 n2 n3 n4 t0 t1 t2 t3
            go_upto_region 9 with fail
            go_region
            go_wp2_with fail
            go_roundw
            case rel =>
              refine ⟨p, R ++ [mgt l p], Hpk.out, by go_num, ?_, hid (by rw [hR.out, ← hstep2.out]), hid ?_, ?_⟩
              · rw [Hsn.out]; simp only [Value.int.injEq, true_and]; omega
              · rw [Hln.out]; exact (HTv.out.set (mgt l p)).bel (Below.refl _ _).drew
              · exact ((((hx1.setCell HX.out _).setCell HX.out _).setCell HX.out _).setCell HX.out _).drew
            case measure => (simp [intOf] <;> omega)
          · have ho2 : decide (ovr (mgt l p) top) = false := decide_eq_false ho
            rw [if_neg ho] at hsn hln
            have Hsn := hid hsn
            have Hln := hid hln
            have kk := KM.out _ hbr.drew p hpl
            obtain ⟨⟨n0, n1, n2, n3⟩, n4⟩ := kk
            have kk := (hTop.out.bel (Below.refl _ _).drew).bx
            obtain ⟨t0, t1, t2, t3⟩ := kk
            have hstep2 := hid hstep
            clear hsn hln ho hstep e1 hj
            have Hbr := hid hbr.drew
            go_upto_region 8 with fail
            go_region_held3 (fun w' => (w'.cell? ⟨bb, off + p * 4, none⟩ = some (.int .i64 (mgt l p).id) ∧ w'.cell? ⟨bb, off + p * 4 + 1, none⟩ = some (.int .i64 (mgt l p).fr) ∧ w'.cell? ⟨bb, off + p * 4 + 2, none⟩ = some (.int .i64 (mgt l p).to) ∧ w'.cell? ⟨bb, off + p * 4 + 3, none⟩ = some (.int .i64 (mgt l p).pr)) ∧ (w'.cell? ⟨X, 0, none⟩ = some (.int .i64 top.id) ∧ w'.cell? ⟨X, 1, none⟩ = some (.int .i64 top.fr) ∧ w'.cell? ⟨X, 2, none⟩ = some (.int .i64 top.to) ∧ w'.cell? ⟨X, 3, none⟩ = some (.int .i64 top.pr)) ∧ w'.cell? ⟨r, 0, none⟩ = some (.slice (some ⟨bb, off, none⟩) l.length c)) (first | (with_reducible assumption) | exact ⟨⟨by with_reducible assumption, by with_reducible assumption, by with_reducible assumption, by with_reducible assumption⟩, ⟨by with_reducible assumption, by with_reducible assumption, by with_reducible assumption, by with_reducible assumption⟩, by with_reducible assumption⟩)
              (first | (go_at_call 43; refine (over_c (mgt l p) top _).mono ?_; rintro e v1 ⟨rfl, hb1⟩; rw [ho2]; have hx1 : Below w.heap.size w v1 := bthen Hbr.out hb1; have kk := KM.out _ hx1 p hpl; obtain ⟨⟨p0, p1, p2, p3⟩, p4⟩ := kk; have kk := ((hTop.out.bel (Below.refl _ _).drew).bel hb1).bx; obtain ⟨q0, q1, q2, q3⟩ := kk))
            have hTv := (hTop.out.bel (Below.refl _ _).drew).bel hb1
            have HTv := hid hTv
            clear hTv n0 n1 n2 n3 n4 t0 t1 t2 t3 p0 p1 p2 p3 p4 q0 q1 q2 q3
            go_wp2_with fail
            go_roundw
            case rel =>
              refine ⟨p, R ++ [mgt l p], Hpk.out, by go_num, ?_, hid (by rw [hR.out, ← hstep2.out]), hid ?_, hx1⟩
              · rw [Hsn.out]; (try rfl)
              · rw [Hln.out]; exact HTv.out
            case measure => (simp [intOf] <;> omega)
        | zero =>
          have hRf : Hid (R = (l.take k).reverse) := by rw [hR.out, List.drop_zero]; exact rfl
          have e0 : ((0 : Nat) : Int) - 1 = -1 := by omega
          rw [e0]
          obtain ⟨rA, hrA⟩ : ∃ rA, rA = recs R x := ⟨_, rfl⟩
          rw [← hrA] at hRl ⊢
          have HrA := hid hrA
          clear hrA e0
          have hb0 := hid hbr
          have kk := KM.out _ hbr k hp
          obtain ⟨⟨n0, n1, n2, n3⟩, n4⟩ := kk
          have kk := hTop.out.bx
          obtain ⟨t0, t1, t2, t3⟩ := kk
          have f0 := hTop.out.fr 0
          have f1 := hTop.out.fr 1
          have f2 := hTop.out.fr 2
          have f3 := hTop.out.fr 3
          have hwk : IntKind.i64.wrap ((k : Int) + 1) = ((k + 1 : Nat) : Int) := by rw [IntKind.wrap_i64]; omega
          go_upto_region 11 with fail
          rw [← Hx.out]
          obtain ⟨w5, hw5⟩ : ∃ w5, w5 = ((((wr.setCell ⟨X, 0, none⟩ (.int .i64 x.id)).setCell ⟨X, 1, none⟩ (.int .i64 x.fr)).setCell ⟨X, 2, none⟩ (.int .i64 x.to)).setCell ⟨X, 3, none⟩ (.int .i64 x.pr)) := ⟨_, rfl⟩
          rw [← hw5]
          have hT5 : Hid (Top w5 X x) := by subst hw5; exact hTop.out.set x
          have hb5 : Below w.heap.size w w5 := by subst hw5; exact (((hbr.setCell HX.out _).setCell HX.out _).setCell HX.out _).setCell HX.out _
          clear hw5 n0 n1 n2 n3 n4 t0 t1 t2 t3 f0 f1 f2 f3
          go_wp2_with fail
          go_loopw [6, 9] (fun nv iv wr => ∃ (q : Nat) (R2 : List Mk), k + 1 ≤ q ∧ q ≤ l.length ∧ iv = .int .i64 (q : Int) ∧ nv = .int .i64 ((1 + rA + recs R2 x : Nat) : Int) ∧ Hid (R2 = (l.drop (k + 1)).take (q - (k + 1))) ∧ Hid (Top wr X (lrec R2 x)) ∧ Below w.heap.size w wr) (fun _ iv _ => l.length - (intOf iv).toNat)
          case atStart => exact ⟨k + 1, [], Nat.le_refl _, by omega, by go_num, by simp [recs], hid (by simp), hT5.out, hb5⟩
          case round =>
            rename World => wr2
            obtain ⟨q, R2, hq1, hj2, rfl, rfl, hR2, hTop2, hbr2⟩ := hrel
            have hRl2 : recs R2 x ≤ 600 := by
              have h1 := recs_le R2 x
              have h2 : R2.length ≤ l.length := by rw [hR2.out]; simp; omega
              omega
            have kk := KM.out _ hbr2 k hp
            obtain ⟨-, g4⟩ := kk
            by_cases hlt : q < l.length
            · have hc1 : decide (q < l.length) = true := by simpa using hlt
              have hstep := fwd_step (l := l) (k := k) hq1 hlt
              have hsn := recs_snoc R2 (mgt l q) x
              have hln := lrec_snoc R2 (mgt l q) x
              have Hpk2 := hid (show k + 1 ≤ q + 1 ∧ q + 1 ≤ l.length by omega)
              generalize hTp : lrec R2 x = top at *
              generalize hrv : recs R2 x = rv at *
              have hcut2 := hid hTp
              have hxr := hid hrv
              clear hTp hrv
              by_cases ho : ovr (mgt l q) top
              · have ho2 : decide (ovr (mgt l q) top) = true := decide_eq_true ho
                rw [if_pos ho] at hsn hln
                have Hsn := hid hsn
                have Hln := hid hln
                have hwr : IntKind.i64.wrap (((1 + rA + rv : Nat) : Int) + 1) = ((1 + rA + (rv + 1) : Nat) : Int) := by rw [IntKind.wrap_i64]; omega
                have kk := KM.out _ hbr2.drew q hlt
                obtain ⟨⟨n0, n1, n2, n3⟩, n4⟩ := kk
                have kk := (hTop2.out.bel (Below.refl _ _).drew).bx
                obtain ⟨t0, t1, t2, t3⟩ := kk
                have hstep2 := hid hstep
                clear hsn hln ho hstep
                have Hbr := hid hbr2.drew
                go_upto_region 14 with fail
                go_region_held3 (fun w' => (w'.cell? ⟨bb, off + q * 4, none⟩ = some (.int .i64 (mgt l q).id) ∧ w'.cell? ⟨bb, off + q * 4 + 1, none⟩ = some (.int .i64 (mgt l q).fr) ∧ w'.cell? ⟨bb, off + q * 4 + 2, none⟩ = some (.int .i64 (mgt l q).to) ∧ w'.cell? ⟨bb, off + q * 4 + 3, none⟩ = some (.int .i64 (mgt l q).pr)) ∧ (w'.cell? ⟨X, 0, none⟩ = some (.int .i64 top.id) ∧ w'.cell? ⟨X, 1, none⟩ = some (.int .i64 top.fr) ∧ w'.cell? ⟨X, 2, none⟩ = some (.int .i64 top.to) ∧ w'.cell? ⟨X, 3, none⟩ = some (.int .i64 top.pr)) ∧ w'.cell? ⟨r, 0, none⟩ = some (.slice (some ⟨bb, off, none⟩) l.length c)) (first | (with_reducible assumption) | exact ⟨⟨by with_reducible assumption, by with_reducible assumption, by with_reducible assumption, by with_reducible assumption⟩, ⟨by with_reducible assumption, by with_reducible assumption, by with_reducible assumption, by with_reducible assumption⟩, by with_reducible assumption⟩)
                  (first | (go_at_call 43; refine (over_c (mgt l q) top _).mono ?_; rintro e v1 ⟨rfl, hb1⟩; rw [ho2]; have hx1 : Below w.heap.size w v1 := bthen Hbr.out hb1; have kk := KM.out _ hx1 q hlt; obtain ⟨⟨p0, p1, p2, p3⟩, p4⟩ := kk; have kk := ((hTop2.out.bel (Below.refl _ _).drew).bel hb1).bx; obtain ⟨q0, q1, q2, q3⟩ := kk))
                have hTv := (hTop2.out.bel (Below.refl _ _).drew).bel hb1
                have HTv := hid hTv
                have f0 := hTv.fr 0
                have f1 := hTv.fr 1
                have f2 := hTv.fr 2
                have f3 := hTv.fr 3
                clear hTv n0 n1 n2 n3 n4 t0 t1 t2 t3
                go_upto_region 15 with fail
                go_region
                go_wp2_with fail
                go_roundw
                case rel =>
                  refine ⟨q + 1, R2 ++ [mgt l q], Hpk2.out.1, Hpk2.out.2, by go_num, ?_, hid (by rw [hR2.out, ← hstep2.out]), hid ?_, ?_⟩
                  · rw [Hsn.out]; simp only [Value.int.injEq, true_and]; omega
                  · rw [Hln.out]; exact (HTv.out.set (mgt l q)).bel (Below.refl _ _).drew
                  · exact ((((hx1.setCell HX.out _).setCell HX.out _).setCell HX.out _).setCell HX.out _).drew
                case measure => (simp [intOf] <;> omega)
              · have ho2 : decide (ovr (mgt l q) top) = false := decide_eq_false ho
                rw [if_neg ho] at hsn hln
                have Hsn := hid hsn
                have Hln := hid hln
                have kk := KM.out _ hbr2.drew q hlt
                obtain ⟨⟨n0, n1, n2, n3⟩, n4⟩ := kk
                have kk := (hTop2.out.bel (Below.refl _ _).drew).bx
                obtain ⟨t0, t1, t2, t3⟩ := kk
                have hstep2 := hid hstep
                clear hsn hln ho hstep
                have Hbr := hid hbr2.drew
                go_upto_region 14 with fail
                go_region_held3 (fun w' => (w'.cell? ⟨bb, off + q * 4, none⟩ = some (.int .i64 (mgt l q).id) ∧ w'.cell? ⟨bb, off + q * 4 + 1, none⟩ = some (.int .i64 (mgt l q).fr) ∧ w'.cell? ⟨bb, off + q * 4 + 2, none⟩ = some (.int .i64 (mgt l q).to) ∧ w'.cell? ⟨bb, off + q * 4 + 3, none⟩ = some (.int .i64 (mgt l q).pr)) ∧ (w'.cell? ⟨X, 0, none⟩ = some (.int .i64 top.id) ∧ w'.cell? ⟨X, 1, none⟩ = some (.int .i64 top.fr) ∧ w'.cell? ⟨X, 2, none⟩ = some (.int .i64 top.to) ∧ w'.cell? ⟨X, 3, none⟩ = some (.int .i64 top.pr)) ∧ w'.cell? ⟨r, 0, none⟩ = some (.slice (some ⟨bb, off, none⟩) l.length c)) (first | (with_reducible assumption) | exact ⟨⟨by with_reducible assumption, by with_reducible assumption, by with_reducible assumption, by with_reducible assumption⟩, ⟨by with_reducible assumption, by with_reducible assumption, by with_reducible assumption, by with_reducible assumption⟩, by with_reducible assumption⟩)
                  (first | (go_at_call 43; refine (over_c (mgt l q) top _).mono ?_; rintro e v1 ⟨rfl, hb1⟩; rw [ho2]; have hx1 : Below w.heap.size w v1 := bthen Hbr.out hb1; have kk := KM.out _ hx1 q hlt; obtain ⟨⟨p0, p1, p2, p3⟩, p4⟩ := kk; have kk := ((hTop2.out.bel (Below.refl _ _).drew).bel hb1).bx; obtain ⟨q0, q1, q2, q3⟩ := kk))
                have hTv := (hTop2.out.bel (Below.refl _ _).drew).bel hb1
                have HTv := hid hTv
                clear hTv n0 n1 n2 n3 n4 t0 t1 t2 t3 p0 p1 p2 p3 p4 q0 q1 q2 q3
                go_wp2_with fail
                go_roundw
                case rel =>
                  refine ⟨q + 1, R2 ++ [mgt l q], Hpk2.out.1, Hpk2.out.2, by go_num, ?_, hid (by rw [hR2.out, ← hstep2.out]), hid ?_, hx1⟩
                  · rw [Hsn.out]; (try rfl)
                  · rw [Hln.out]; exact HTv.out
                case measure => (simp [intOf] <;> omega)
            · have hc1 : decide (q < l.length) = false := by simpa using hlt
              have hN : NV = 1 + rA + recs R2 x := by
                have e : (l.drop (k + 1)).take (q - (k + 1)) = l.drop (k + 1) := List.take_of_length_le (by simp; omega)
                rw [HNV.out, HrA.out, hR2.out, hRf.out, e, Hx.out]; rfl
              subst hN
              go_wp2_with fail
              go_ret
              exact ⟨rfl, hbr2⟩
  · have hf : fndV l i = -1 := by unfold fndV; rw [if_neg hp]
    have hv : depL l i = 0 := by unfold depL; rw [if_neg hp]
    rw [hf] at Fn
    rw [hv]
    clear h g hf hv
    go_enter Try.func24, Try.ntmps24
    go_wp2_with fail
    refine Fn.out.mono ?_
    rintro e w' ⟨rfl, rfl⟩
    go_wp2_with fail
    go_ret
    exact ⟨rfl, by (repeat' (first | exact Below.refl _ _ | assumption | refine bdrewN ?_ _ | refine Below.drew ?_ | refine bal ?_ _ | refine bthen ?_ (by assumption)))⟩
end Go.Proofs.Ytaondjklclpdkaa
