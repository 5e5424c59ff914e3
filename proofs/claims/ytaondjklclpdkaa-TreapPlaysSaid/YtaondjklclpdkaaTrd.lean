/- How deep a mark lies in a treap in memory. -/
import Derived.Test.YtaondjklclpdkaaTrc
import Derived.Deep.RegionHeld3
namespace Go.Proofs.Ytaondjklclpdkaa
open Go.RowKit

/-- the way to a mark -/
def dpt (m : Mk) : Tr → Nat
  | .nil => 0
  | .node l x r => if x = m then 1 else if ahd m x then 1 + dpt m l else 1 + dpt m r
theorem dpt_le (m : Mk) (t : Tr) : dpt m t ≤ t.size := by
  induction t with
  | nil => simp [dpt]
  | node l x r ihl ihr =>
    simp only [dpt, Tr.size]
    split
    · omega
    · split <;> omega
theorem dpt_pos {m : Mk} {t : Tr} (h : m ∈ t.ord) : 0 < dpt m t := by
  cases t with
  | nil => simp [Tr.ord] at h
  | node l x r =>
    simp only [dpt]
    split
    · omega
    · split <;> omega
/-- the parts of a tree by order, with different numbers -/
theorem ord_parts {l r : Tr} {x : Mk} (ho : Ord (Tr.node l x r).ord) (hi : Ids (Tr.node l x r).ord) :
    (Ord l.ord ∧ Ids l.ord) ∧ (Ord r.ord ∧ Ids r.ord) ∧ (∀ y, y ∈ l.ord → ahd y x ∧ y.id ≠ x.id) ∧ (∀ y, y ∈ r.ord → ahd x y ∧ x.id ≠ y.id) := by
  unfold Ord at ho
  unfold Ids at hi
  simp only [Tr.ord] at ho hi
  rw [List.pairwise_append, List.pairwise_cons] at ho hi
  exact ⟨⟨ho.1, hi.1⟩, ⟨ho.2.1.2, hi.2.1.2⟩, fun y hy => ⟨ho.2.2 y hy x (by simp), hi.2.2 y hy x (by simp)⟩, fun y hy => ⟨ho.2.1.1 y hy, hi.2.1.1 y hy⟩⟩
theorem dpt_dep {m : Mk} {t : Tr} (ho : Ord t.ord) (hi : Ids t.ord) (hm : m ∈ t.ord) : dpt m t = t.dep m.id := by
  induction t with
  | nil => simp [Tr.ord] at hm
  | node l x r ihl ihr =>
    obtain ⟨⟨ol, il⟩, ⟨or, ir⟩, hl, hr⟩ := ord_parts ho hi
    simp only [Tr.ord, List.mem_append, List.mem_cons] at hm
    simp only [dpt, Tr.dep]
    rcases hm with hm | rfl | hm
    · have h1 := hl m hm
      rw [if_neg (fun e => h1.2 (by rw [e])), if_pos h1.1, if_neg h1.2.symm, ihl ol il hm]
      rw [if_pos (by rw [← ihl ol il hm]; exact dpt_pos hm)]; omega
    · simp
    · have h1 := hr m hm
      have h0 : l.dep m.id = 0 := dep_out fun y hy e => by
        have h2 := (hl y hy).1
        have h3 := ahd_trans h2 h1.1
        unfold Ids at hi
        simp only [Tr.ord] at hi
        rw [List.pairwise_append] at hi
        exact hi.2.2 y hy m (by simp [hm]) e
      rw [if_neg (fun e => h1.2 (by rw [e])), if_neg (ahd_asymm h1.1), if_neg h1.2, h0, if_neg (by omega), ihr or ir hm]
      rw [if_pos (by rw [← ihr or ir hm]; exact dpt_pos hm)]; omega
/-- the cells of a mark in a box -/
def Bx (w : World) (b : Nat) (m : Mk) : Prop :=
  w.cell? ⟨b, 0, none⟩ = some (.int .i64 m.id) ∧ w.cell? ⟨b, 1, none⟩ = some (.int .i64 m.fr) ∧ w.cell? ⟨b, 2, none⟩ = some (.int .i64 m.to) ∧ w.cell? ⟨b, 3, none⟩ = some (.int .i64 m.pr)
theorem Bx.bel {w w' : World} {b : Nat} {m : Mk} (h : Bx w b m) (hb : Below w.heap.size w w') : Bx w' b m := by
  have hl := World.block_lt_of_cell? w _ h.1
  have c : ∀ o, w'.cell? ⟨b, o, none⟩ = w.cell? ⟨b, o, none⟩ := fun o => World.cell?_of_block (w := w) (w' := w') (a := ⟨b, o, none⟩) (hb.block b hl)
  exact ⟨by rw [c]; exact h.1, by rw [c]; exact h.2.1, by rw [c]; exact h.2.2.1, by rw [c]; exact h.2.2.2⟩
theorem Bx.kpt {w w' : World} {F : Nat → Prop} {b : Nat} {m : Mk} (h : Bx w b m) (hk : Kpt F w w') (hn : ¬ F b) : Bx w' b m := by
  have hl := World.block_lt_of_cell? w _ h.1
  have c : ∀ o, w'.cell? ⟨b, o, none⟩ = w.cell? ⟨b, o, none⟩ := fun o => World.cell?_of_block (w := w) (w' := w') (a := ⟨b, o, none⟩) (hk.block b hl hn)
  exact ⟨by rw [c]; exact h.1, by rw [c]; exact h.2.1, by rw [c]; exact h.2.2.1, by rw [c]; exact h.2.2.2⟩
theorem Bx.new (w : World) (m : Mk) (e : TypeId) : Bx (w.alloc (.cells #[.int .i64 m.id, .int .i64 m.fr, .int .i64 m.to, .int .i64 m.pr] e)) w.heap.size m :=
  ⟨by rw [cell_alloc_new]; rfl, by rw [cell_alloc_new]; rfl, by rw [cell_alloc_new]; rfl, by rw [cell_alloc_new]; rfl⟩
theorem Nd.bx {w : World} {b : Nat} {m : Mk} {pl pr : Option Addr} (h : Nd w b m pl pr) : Bx w b m := ⟨h.c0, h.c1, h.c2, h.c3⟩
/-- a node and a mark in a box, while new memory alone is written -/
theorem nb_kept {w : World} {b mb : Nat} {x m : Mk} {pl pr : Option Addr} (h : Nd w b x pl pr) (k : Bx w mb m) :
    Hid (∀ w', Below w.heap.size w w' → (w'.cell? ⟨b, 0, none⟩ = some (.int .i64 x.id) ∧ w'.cell? ⟨b, 1, none⟩ = some (.int .i64 x.fr) ∧ w'.cell? ⟨b, 2, none⟩ = some (.int .i64 x.to) ∧ w'.cell? ⟨b, 3, none⟩ = some (.int .i64 x.pr) ∧ w'.cell? ⟨b, 4, none⟩ = some (.pointer pl) ∧ w'.cell? ⟨b, 5, none⟩ = some (.pointer pr)) ∧ (w'.cell? ⟨mb, 0, none⟩ = some (.int .i64 m.id) ∧ w'.cell? ⟨mb, 1, none⟩ = some (.int .i64 m.fr) ∧ w'.cell? ⟨mb, 2, none⟩ = some (.int .i64 m.to) ∧ w'.cell? ⟨mb, 3, none⟩ = some (.int .i64 m.pr))) := fun w' hb => by
  have h' := h.bel hb
  exact ⟨⟨h'.c0, h'.c1, h'.c2, h'.c3, h'.c4, h'.c5⟩, k.bel hb⟩
set_option maxHeartbeats 8000000 in
/-- what depth tells -/
theorem depth_c (m : Mk) (t : Tr) : ∀ (w : World) (F : Nat → Prop) (p : Option Addr), TrAt w F p t → Ord t.ord → Ids t.ord → m ∈ t.ord → t.size ≤ 1099511627776 →
    Calls Try.prog 37 #[.pointer p, (.agg #[.int .i64 m.id, .int .i64 m.fr, .int .i64 m.to, .int .i64 m.pr])] w fun e w' => e = .returned (.int .i64 (dpt m t)) ∧ Below w.heap.size w w' := by
  induction t with
  | nil => intro w F p _ _ _ hm _; simp [Tr.ord] at hm
  | node l x r ihl ihr =>
    intro w F p h ho hi hm hs
    obtain ⟨b, pl, pr, Fl, Fr, rfl, hb, hn, hl, hr, hd, h1, h2⟩ := h
    obtain ⟨⟨ol, il⟩, ⟨or, ir⟩, sl, sr⟩ := ord_parts ho hi
    simp only [Tr.size] at hs
    obtain ⟨w1, hw1⟩ : ∃ w1, w1 = w.alloc (.cells #[.int .i64 m.id, .int .i64 m.fr, .int .i64 m.to, .int .i64 m.pr] 33) := ⟨_, rfl⟩
    have b1 : Below w.heap.size w w1 := by subst hw1; exact (Below.refl _ _).alloc (Nat.le_refl _) _
    have k0 : Bx w1 w.heap.size m := by subst hw1; exact Bx.new w m _
    have H1 := hid (h1.bel b1)
    have H2 := hid (h2.bel b1)
    have KF := nb_kept (hn.bel b1) k0
    have hr1 : Below w1.heap.size w1 w1.drew := (Below.refl _ _).drew
    have kk := KF.out _ (Below.refl _ _)
    obtain ⟨⟨g0, g1, g2, g3, g4, g5⟩, g6, g7, g8, g9⟩ := kk
    have B1 := hid b1
    simp only [Tr.ord, List.mem_append, List.mem_cons] at hm
    clear hn hd hl hr hb h1 h2 ho hi b1 k0
    by_cases hxm : x = m
    · subst hxm
      have hv : dpt x (.node l x r) = 1 := by simp [dpt]
      rw [hv]
      go_enter Try.func37, Try.ntmps37
      go_upto_region 1 with fail
      rw [← hw1]; clear hw1
      go_region
      go_wp2_with fail
      go_ret
      exact ⟨rfl, B1.out.drew⟩
    · have hne : (x.id == m.id) = false := by
        have : x.id ≠ m.id := by
          rcases hm with hm | hm | hm
          · exact (sl m hm).2.symm
          · exact absurd hm.symm hxm
          · exact (sr m hm).2
        simpa using this
      by_cases ha : ahd m x
      · have hv : dpt m (.node l x r) = 1 + dpt m l := by simp [dpt, hxm, ha]
        have hml : m ∈ l.ord := by
          rcases hm with hm | hm | hm
          · exact hm
          · exact absurd hm.symm hxm
          · exact absurd ha (ahd_asymm (sr m hm).1)
        have hdl := dpt_le m l
        have Hle := hid (fun w' (h : TrAt w' Fl pl l) => ihl w' Fl pl h ol il hml (by omega))
        have ha2 : decide (ahd m x) = true := decide_eq_true ha
        have hwr : IntKind.i64.wrap (1 + (dpt m l : Int)) = 1 + (dpt m l : Int) := by rw [IntKind.wrap_i64]; omega
        rw [hv]
        clear ihl ihr hxm sl sr hm ol or il ir hml ha H2 hv
        generalize dpt m l = dm at *
        have Hw := hid hwr
        clear hwr hdl hs
        go_enter Try.func37, Try.ntmps37
        go_upto_region 1 with fail
        rw [← hw1]; clear hw1
        go_region
        go_upto_region 3 with fail
        have kk := KF.out _ hr1.drew
        obtain ⟨⟨l0, l1, l2, l3, l4, l5⟩, l6, l7, l8, l9⟩ := kk
        go_region_held3 (fun w' => (w'.cell? ⟨b, 0, none⟩ = some (.int .i64 x.id) ∧ w'.cell? ⟨b, 1, none⟩ = some (.int .i64 x.fr) ∧ w'.cell? ⟨b, 2, none⟩ = some (.int .i64 x.to) ∧ w'.cell? ⟨b, 3, none⟩ = some (.int .i64 x.pr) ∧ w'.cell? ⟨b, 4, none⟩ = some (.pointer pl) ∧ w'.cell? ⟨b, 5, none⟩ = some (.pointer pr)) ∧ (w'.cell? ⟨w.heap.size, 0, none⟩ = some (.int .i64 m.id) ∧ w'.cell? ⟨w.heap.size, 1, none⟩ = some (.int .i64 m.fr) ∧ w'.cell? ⟨w.heap.size, 2, none⟩ = some (.int .i64 m.to) ∧ w'.cell? ⟨w.heap.size, 3, none⟩ = some (.int .i64 m.pr))) (first | (with_reducible assumption) | exact ⟨⟨by with_reducible assumption, by with_reducible assumption, by with_reducible assumption, by with_reducible assumption, by with_reducible assumption, by with_reducible assumption⟩, by with_reducible assumption, by with_reducible assumption, by with_reducible assumption, by with_reducible assumption⟩)
           (first | (go_at_call 50; refine (precedes_c m x _).mono ?_; rintro e v0 ⟨rfl, hb0⟩; rw [ha2]; have hx0 : Below w1.heap.size w1 v0 := bthen hr1.drew hb0; have kk := KF.out _ hx0; obtain ⟨⟨o0, o1, o2, o3, o4, o5⟩, o6, o7, o8, o9⟩ := kk))
        clear l0 l1 l2 l3 l4 l5 l6 l7 l8 l9 o0 o1 o2 o3 o4 o5 o6 o7 o8 o9
        go_upto_region 4 with fail
        have kk := KF.out _ hx0.drew
        obtain ⟨⟨l0, l1, l2, l3, l4, l5⟩, l6, l7, l8, l9⟩ := kk
        have hwr := Hw.out
        go_region_held3 (fun w' => (w'.cell? ⟨b, 0, none⟩ = some (.int .i64 x.id) ∧ w'.cell? ⟨b, 1, none⟩ = some (.int .i64 x.fr) ∧ w'.cell? ⟨b, 2, none⟩ = some (.int .i64 x.to) ∧ w'.cell? ⟨b, 3, none⟩ = some (.int .i64 x.pr) ∧ w'.cell? ⟨b, 4, none⟩ = some (.pointer pl) ∧ w'.cell? ⟨b, 5, none⟩ = some (.pointer pr)) ∧ (w'.cell? ⟨w.heap.size, 0, none⟩ = some (.int .i64 m.id) ∧ w'.cell? ⟨w.heap.size, 1, none⟩ = some (.int .i64 m.fr) ∧ w'.cell? ⟨w.heap.size, 2, none⟩ = some (.int .i64 m.to) ∧ w'.cell? ⟨w.heap.size, 3, none⟩ = some (.int .i64 m.pr))) (first | (with_reducible assumption) | exact ⟨⟨by with_reducible assumption, by with_reducible assumption, by with_reducible assumption, by with_reducible assumption, by with_reducible assumption, by with_reducible assumption⟩, by with_reducible assumption, by with_reducible assumption, by with_reducible assumption, by with_reducible assumption⟩)
           (first | (go_at_call 37; refine (Hle.out _ (H1.out.bel hx0.drew)).mono ?_; rintro e v1 ⟨rfl, hb1⟩; have hx1 : Below w1.heap.size w1 v1 := bthen hx0.drew hb1; have kk := KF.out _ hx1; obtain ⟨⟨o0, o1, o2, o3, o4, o5⟩, o6, o7, o8, o9⟩ := kk))
        clear l0 l1 l2 l3 l4 l5 l6 l7 l8 l9 o0 o1 o2 o3 o4 o5 o6 o7 o8 o9
        go_wp2_with fail
        go_ret
        exact ⟨ret_int (by push_cast; omega), bthen B1.out hx1⟩
      · have hv : dpt m (.node l x r) = 1 + dpt m r := by simp [dpt, hxm, ha]
        have hml : m ∈ r.ord := by
          rcases hm with hm | hm | hm
          · exact absurd (sl m hm).1 ha
          · exact absurd hm.symm hxm
          · exact hm
        have hdl := dpt_le m r
        have Hle := hid (fun w' (h : TrAt w' Fr pr r) => ihr w' Fr pr h or ir hml (by omega))
        have ha2 : decide (ahd m x) = false := decide_eq_false ha
        have hwr : IntKind.i64.wrap (1 + (dpt m r : Int)) = 1 + (dpt m r : Int) := by rw [IntKind.wrap_i64]; omega
        rw [hv]
        clear ihl ihr hxm sl sr hm ol or il ir hml ha H1 hv
        generalize dpt m r = dm at *
        have Hw := hid hwr
        clear hwr hdl hs
        go_enter Try.func37, Try.ntmps37
        go_upto_region 1 with fail
        rw [← hw1]; clear hw1
        go_region
        go_upto_region 3 with fail
        have kk := KF.out _ hr1.drew
        obtain ⟨⟨l0, l1, l2, l3, l4, l5⟩, l6, l7, l8, l9⟩ := kk
        go_region_held3 (fun w' => (w'.cell? ⟨b, 0, none⟩ = some (.int .i64 x.id) ∧ w'.cell? ⟨b, 1, none⟩ = some (.int .i64 x.fr) ∧ w'.cell? ⟨b, 2, none⟩ = some (.int .i64 x.to) ∧ w'.cell? ⟨b, 3, none⟩ = some (.int .i64 x.pr) ∧ w'.cell? ⟨b, 4, none⟩ = some (.pointer pl) ∧ w'.cell? ⟨b, 5, none⟩ = some (.pointer pr)) ∧ (w'.cell? ⟨w.heap.size, 0, none⟩ = some (.int .i64 m.id) ∧ w'.cell? ⟨w.heap.size, 1, none⟩ = some (.int .i64 m.fr) ∧ w'.cell? ⟨w.heap.size, 2, none⟩ = some (.int .i64 m.to) ∧ w'.cell? ⟨w.heap.size, 3, none⟩ = some (.int .i64 m.pr))) (first | (with_reducible assumption) | exact ⟨⟨by with_reducible assumption, by with_reducible assumption, by with_reducible assumption, by with_reducible assumption, by with_reducible assumption, by with_reducible assumption⟩, by with_reducible assumption, by with_reducible assumption, by with_reducible assumption, by with_reducible assumption⟩)
           (first | (go_at_call 50; refine (precedes_c m x _).mono ?_; rintro e v0 ⟨rfl, hb0⟩; rw [ha2]; have hx0 : Below w1.heap.size w1 v0 := bthen hr1.drew hb0; have kk := KF.out _ hx0; obtain ⟨⟨o0, o1, o2, o3, o4, o5⟩, o6, o7, o8, o9⟩ := kk))
        clear l0 l1 l2 l3 l4 l5 l6 l7 l8 l9 o0 o1 o2 o3 o4 o5 o6 o7 o8 o9
        go_upto_region 5 with fail
        have kk := KF.out _ hx0.drew
        obtain ⟨⟨l0, l1, l2, l3, l4, l5⟩, l6, l7, l8, l9⟩ := kk
        have hwr := Hw.out
        go_region_held3 (fun w' => (w'.cell? ⟨b, 0, none⟩ = some (.int .i64 x.id) ∧ w'.cell? ⟨b, 1, none⟩ = some (.int .i64 x.fr) ∧ w'.cell? ⟨b, 2, none⟩ = some (.int .i64 x.to) ∧ w'.cell? ⟨b, 3, none⟩ = some (.int .i64 x.pr) ∧ w'.cell? ⟨b, 4, none⟩ = some (.pointer pl) ∧ w'.cell? ⟨b, 5, none⟩ = some (.pointer pr)) ∧ (w'.cell? ⟨w.heap.size, 0, none⟩ = some (.int .i64 m.id) ∧ w'.cell? ⟨w.heap.size, 1, none⟩ = some (.int .i64 m.fr) ∧ w'.cell? ⟨w.heap.size, 2, none⟩ = some (.int .i64 m.to) ∧ w'.cell? ⟨w.heap.size, 3, none⟩ = some (.int .i64 m.pr))) (first | (with_reducible assumption) | exact ⟨⟨by with_reducible assumption, by with_reducible assumption, by with_reducible assumption, by with_reducible assumption, by with_reducible assumption, by with_reducible assumption⟩, by with_reducible assumption, by with_reducible assumption, by with_reducible assumption, by with_reducible assumption⟩)
           (first | (go_at_call 37; refine (Hle.out _ (H2.out.bel hx0.drew)).mono ?_; rintro e v1 ⟨rfl, hb1⟩; have hx1 : Below w1.heap.size w1 v1 := bthen hx0.drew hb1; have kk := KF.out _ hx1; obtain ⟨⟨o0, o1, o2, o3, o4, o5⟩, o6, o7, o8, o9⟩ := kk))
        clear l0 l1 l2 l3 l4 l5 l6 l7 l8 l9 o0 o1 o2 o3 o4 o5 o6 o7 o8 o9
        go_wp2_with fail
        go_ret
        exact ⟨ret_int (by push_cast; omega), bthen B1.out hx1⟩
end Go.Proofs.Ytaondjklclpdkaa
