/- A mark put into a treap in memory, one taken out. -/
import Derived.Test.YtaondjklclpdkaaTre
namespace Go.Proofs.Ytaondjklclpdkaa
open Go.RowKit

/-! ## with -/
theorem Lft.mono {w w' : World} {F G : Nat → Prop} {p : Option Addr} {t : Tr} (h : Lft w F p t w') (hF : ∀ k, F k → G k) : Lft w G p t w' :=
  ⟨h.1.mono fun k hk => hk.elim (fun h => .inl (hF k h)) .inr, h.2.mono hF⟩
theorem Splt.node {w w' : World} {F : Nat → Prop} {t1 t2 : Tr} {p1 p2 : Option Addr} {m : Mk} {e : TypeId} (h : Splt w F t1 t2 p1 p2 w') :
    Lft w F (some ⟨w'.heap.size, 0, none⟩) (.node t1 m t2) (w'.alloc (.cells #[.int .i64 m.id, .int .i64 m.fr, .int .i64 m.to, .int .i64 m.pr, .pointer p1, .pointer p2] e)) := by
  obtain ⟨G1, G2, h1, h2, h3, h4, h5, h6⟩ := h
  have hs := h6.size
  refine ⟨(TrAt.new h1 h2 h3).mono ?_, h6.alloc _⟩
  rintro k (hk | hk | rfl)
  · exact .inl (h4 k hk)
  · exact .inl (h5 k hk)
  · exact .inr ⟨hs, by simp⟩
theorem splt_bx {w w' : World} {F : Nat → Prop} {t1 t2 : Tr} {p1 p2 : Option Addr} {mb : Nat} {m : Mk} (h : Bx w mb m) (hs : Splt w F t1 t2 p1 p2 w') (hn : ¬ F mb) : Bx w' mb m := by
  obtain ⟨G1, G2, h1, h2, h3, h4, h5, h6⟩ := hs
  exact h.kpt h6 hn
set_option maxHeartbeats 8000000 in
theorem with_c (m : Mk) (t : Tr) : ∀ (w : World) (F : Nat → Prop) (p : Option Addr), TrAt w F p t →
    Calls Try.prog 35 #[.pointer p, (.agg #[.int .i64 m.id, .int .i64 m.fr, .int .i64 m.to, .int .i64 m.pr])] w fun e w' => ∃ p', e = .returned (.pointer p') ∧ Lft w F p' (insS m t) w' := by
  induction t with
  | nil =>
    intro w F p h
    obtain rfl : p = none := h
    obtain ⟨w1, hw1⟩ : ∃ w1, w1 = w.alloc (.cells #[.int .i64 m.id, .int .i64 m.fr, .int .i64 m.to, .int .i64 m.pr] 33) := ⟨_, rfl⟩
    have b1 : Below w.heap.size w w1 := by subst hw1; exact (Below.refl _ _).alloc (Nat.le_refl _) _
    have k0 : Bx w1 w.heap.size m := by subst hw1; exact Bx.new w m _
    have hr1 : Below w1.heap.size w1 w1.drew := (Below.refl _ _).drew
    have K0 := hid k0
    have kk := k0
    obtain ⟨l6, l7, l8, l9⟩ := kk
    clear k0
    have B1 := hid b1
    go_enter Try.func35, Try.ntmps35
    go_upto_region 2 with fail
    rw [← hw1]; clear hw1
    go_quiet (first | (go_at_call 48; fail))
    generalize nq + 1 = n2
    have kk := K0.out.bel (bdrewN (Below.refl _ _) nq)
    obtain ⟨n6, n7, n8, n9⟩ := kk
    have hr1 : Below w1.heap.size w1 (w1.drewN nq) := bdrewN (Below.refl _ _) nq
    go_wp2_with fail
    refine (split_c m .nil _ (fun _ => False) none rfl).mono ?_
    rintro e v1 ⟨p1, p2, rfl, hs⟩
    clear n6 n7 n8 n9 l6 l7 l8 l9
    have hsp := hid (hs.on hr1)
    clear hs
    have kk := splt_bx K0.out hsp.out id
    obtain ⟨q6, q7, q8, q9⟩ := kk
    go_wp2_with fail
    go_ret
    refine ⟨_, rfl, (Lft.on ((Splt.node hsp.out)) B1.out).mono (fun _ h => h.elim)⟩
  | node l x r ihl ihr =>
    intro w F p h
    have hL := hid h.lt
    have h0 := h.lt
    obtain ⟨b, pl, pr, Fl, Fr, rfl, hb, hn, hl, hr, hd, h1, h2⟩ := h0
    obtain ⟨w1, hw1⟩ : ∃ w1, w1 = w.alloc (.cells #[.int .i64 m.id, .int .i64 m.fr, .int .i64 m.to, .int .i64 m.pr] 33) := ⟨_, rfl⟩
    have b1 : Below w.heap.size w w1 := by subst hw1; exact (Below.refl _ _).alloc (Nat.le_refl _) _
    have k0 : Bx w1 w.heap.size m := by subst hw1; exact Bx.new w m _
    have H1 := hid (h1.bel b1)
    have H2 := hid (h2.bel b1)
    have HL := hid (hL.out.bel b1)
    have Hn := hid (hn.bel b1)
    have Hs := hid (And.intro hb (And.intro hl (And.intro hr hd)))
    have KF := nb_kept (hn.bel b1) k0
    have hr1 : Below w1.heap.size w1 w1.drew := (Below.refl _ _).drew
    have K0 := hid k0
    have B1 := hid b1
    have hnm : Hid (¬ (F w.heap.size ∧ w.heap.size < w.heap.size)) := fun h => by omega
    clear hn hd hl hr hb h1 h2 b1 k0 h hL
    by_cases ho : ovr m x
    · have ho2 : decide (ovr m x) = true := decide_eq_true ho
      have hv : insS m (.node l x r) = .node (spl m (.node l x r)).1 m (spl m (.node l x r)).2 := by rw [insS, if_pos ho]
      rw [hv]
      have Sp := hid (fun w' h => split_c m (.node l x r) w' (fun k => F k ∧ k < w.heap.size) (some ⟨b, 0, none⟩) h)
      clear ihl ihr ho hv
      generalize (spl m (.node l x r)).1 = t1 at *
      generalize (spl m (.node l x r)).2 = t2 at *
      go_enter Try.func35, Try.ntmps35
      go_upto_region 2 with fail
      rw [← hw1]; clear hw1
      have kk := KF.out _ hr1
      obtain ⟨⟨l0, l1, l2, l3, l4, l5⟩, l6, l7, l8, l9⟩ := kk
      go_region_held3 (fun w' => (w'.cell? ⟨b, 0, none⟩ = some (.int .i64 x.id) ∧ w'.cell? ⟨b, 1, none⟩ = some (.int .i64 x.fr) ∧ w'.cell? ⟨b, 2, none⟩ = some (.int .i64 x.to) ∧ w'.cell? ⟨b, 3, none⟩ = some (.int .i64 x.pr) ∧ w'.cell? ⟨b, 4, none⟩ = some (.pointer pl) ∧ w'.cell? ⟨b, 5, none⟩ = some (.pointer pr)) ∧ (w'.cell? ⟨w.heap.size, 0, none⟩ = some (.int .i64 m.id) ∧ w'.cell? ⟨w.heap.size, 1, none⟩ = some (.int .i64 m.fr) ∧ w'.cell? ⟨w.heap.size, 2, none⟩ = some (.int .i64 m.to) ∧ w'.cell? ⟨w.heap.size, 3, none⟩ = some (.int .i64 m.pr))) (first | (with_reducible assumption) | exact ⟨⟨by with_reducible assumption, by with_reducible assumption, by with_reducible assumption, by with_reducible assumption, by with_reducible assumption, by with_reducible assumption⟩, by with_reducible assumption, by with_reducible assumption, by with_reducible assumption, by with_reducible assumption⟩)
         (first | (go_at_call 48; refine (outranks_c m x _).mono ?_; rintro e v0 ⟨rfl, hb0⟩; rw [ho2]; have hx0 : Below w1.heap.size w1 v0 := bthen hr1 hb0; have kk := KF.out _ hx0; obtain ⟨⟨o0, o1, o2, o3, o4, o5⟩, o6, o7, o8, o9⟩ := kk))
      clear l0 l1 l2 l3 l4 l5 l6 l7 l8 l9 o0 o1 o2 o3 o4 o5
      go_wp2_with fail
      refine (Sp.out _ (HL.out.bel hx0)).mono ?_
      rintro e v1 ⟨p1, p2, rfl, hs⟩
      clear o6 o7 o8 o9
      have hsp := hid (hs.on hx0)
      clear hs
      have kk := splt_bx K0.out hsp.out hnm.out
      obtain ⟨q6, q7, q8, q9⟩ := kk
      go_wp2_with fail
      go_ret
      refine ⟨_, rfl, (Lft.on ((Splt.node hsp.out)) B1.out).mono (fun _ h => h.1)⟩
    · have ho2 : decide (ovr m x) = false := decide_eq_false ho
      by_cases ha : ahd m x
      · have ha2 : decide (ahd m x) = true := decide_eq_true ha
        have hv : insS m (.node l x r) = .node (insS m l) x r := by rw [insS, if_neg ho, if_pos ha]
        rw [hv]
        have Il := hid (fun w' h => ihl w' Fl pl h)
        clear ihl ihr ho ha hv
        generalize insS m l = t1 at *
        go_enter Try.func35, Try.ntmps35
        go_upto_region 2 with fail
        rw [← hw1]; clear hw1
        have kk := KF.out _ hr1
        obtain ⟨⟨l0, l1, l2, l3, l4, l5⟩, l6, l7, l8, l9⟩ := kk
        go_region_held3 (fun w' => (w'.cell? ⟨b, 0, none⟩ = some (.int .i64 x.id) ∧ w'.cell? ⟨b, 1, none⟩ = some (.int .i64 x.fr) ∧ w'.cell? ⟨b, 2, none⟩ = some (.int .i64 x.to) ∧ w'.cell? ⟨b, 3, none⟩ = some (.int .i64 x.pr) ∧ w'.cell? ⟨b, 4, none⟩ = some (.pointer pl) ∧ w'.cell? ⟨b, 5, none⟩ = some (.pointer pr)) ∧ (w'.cell? ⟨w.heap.size, 0, none⟩ = some (.int .i64 m.id) ∧ w'.cell? ⟨w.heap.size, 1, none⟩ = some (.int .i64 m.fr) ∧ w'.cell? ⟨w.heap.size, 2, none⟩ = some (.int .i64 m.to) ∧ w'.cell? ⟨w.heap.size, 3, none⟩ = some (.int .i64 m.pr))) (first | (with_reducible assumption) | exact ⟨⟨by with_reducible assumption, by with_reducible assumption, by with_reducible assumption, by with_reducible assumption, by with_reducible assumption, by with_reducible assumption⟩, by with_reducible assumption, by with_reducible assumption, by with_reducible assumption, by with_reducible assumption⟩)
           (first | (go_at_call 48; refine (outranks_c m x _).mono ?_; rintro e v0 ⟨rfl, hb0⟩; rw [ho2]; have hx0 : Below w1.heap.size w1 v0 := bthen hr1 hb0; have kk := KF.out _ hx0; obtain ⟨⟨o0, o1, o2, o3, o4, o5⟩, o6, o7, o8, o9⟩ := kk))
        clear l0 l1 l2 l3 l4 l5 l6 l7 l8 l9 o0 o1 o2 o3 o4 o5 o6 o7 o8 o9
        go_upto_region 5 with fail
        have kk := KF.out _ hx0.drew
        obtain ⟨⟨l0, l1, l2, l3, l4, l5⟩, l6, l7, l8, l9⟩ := kk
        go_region_held3 (fun w' => (w'.cell? ⟨b, 0, none⟩ = some (.int .i64 x.id) ∧ w'.cell? ⟨b, 1, none⟩ = some (.int .i64 x.fr) ∧ w'.cell? ⟨b, 2, none⟩ = some (.int .i64 x.to) ∧ w'.cell? ⟨b, 3, none⟩ = some (.int .i64 x.pr) ∧ w'.cell? ⟨b, 4, none⟩ = some (.pointer pl) ∧ w'.cell? ⟨b, 5, none⟩ = some (.pointer pr)) ∧ (w'.cell? ⟨w.heap.size, 0, none⟩ = some (.int .i64 m.id) ∧ w'.cell? ⟨w.heap.size, 1, none⟩ = some (.int .i64 m.fr) ∧ w'.cell? ⟨w.heap.size, 2, none⟩ = some (.int .i64 m.to) ∧ w'.cell? ⟨w.heap.size, 3, none⟩ = some (.int .i64 m.pr))) (first | (with_reducible assumption) | exact ⟨⟨by with_reducible assumption, by with_reducible assumption, by with_reducible assumption, by with_reducible assumption, by with_reducible assumption, by with_reducible assumption⟩, by with_reducible assumption, by with_reducible assumption, by with_reducible assumption, by with_reducible assumption⟩)
           (first | (go_at_call 50; refine (precedes_c m x _).mono ?_; rintro e v1 ⟨rfl, hb1⟩; rw [ha2]; have hx1 : Below w1.heap.size w1 v1 := bthen hx0.drew hb1; have kk := KF.out _ hx1; obtain ⟨⟨o0, o1, o2, o3, o4, o5⟩, o6, o7, o8, o9⟩ := kk))
        clear l0 l1 l2 l3 l4 l5 l6 l7 l8 l9 o0 o1 o2 o3 o4 o5 o6 o7 o8 o9
        go_upto_region 6 with fail
        have kk := KF.out _ hx1.drew
        obtain ⟨⟨l0, l1, l2, l3, l4, l5⟩, l6, l7, l8, l9⟩ := kk
        go_region_with
           (first | (go_at_call 35; refine (Il.out _ (H1.out.bel hx1.drew)).mono ?_; rintro e v2 ⟨p1, rfl, hs⟩; have hsp := hid (hs.on hx1.drew); clear hs; have nv := lft_nd Hn.out hsp.out (fun h => (Hs.out.2.1 b h).2 rfl); have q5 := nv.c4; have q6 := nv.f4; clear nv))
        all_goals
          clear l0 l1 l2 l3 l4 l5 l6 l7 l8 l9 q5 q6
          go_wp2_with fail
          go_ret
          obtain ⟨s1, s2, s3, s4⟩ := Hs.out
          exact ⟨_, rfl, ((Lft.nodeL s1 Hn.out s2 s3 s4 H2.out hsp.out).on B1.out).mono fun k hk => hk.1⟩
      · have ha2 : decide (ahd m x) = false := decide_eq_false ha
        have hv : insS m (.node l x r) = .node l x (insS m r) := by rw [insS, if_neg ho, if_neg ha]
        rw [hv]
        have Ir := hid (fun w' h => ihr w' Fr pr h)
        clear ihl ihr ho ha hv
        generalize insS m r = t1 at *
        go_enter Try.func35, Try.ntmps35
        go_upto_region 2 with fail
        rw [← hw1]; clear hw1
        have kk := KF.out _ hr1
        obtain ⟨⟨l0, l1, l2, l3, l4, l5⟩, l6, l7, l8, l9⟩ := kk
        go_region_held3 (fun w' => (w'.cell? ⟨b, 0, none⟩ = some (.int .i64 x.id) ∧ w'.cell? ⟨b, 1, none⟩ = some (.int .i64 x.fr) ∧ w'.cell? ⟨b, 2, none⟩ = some (.int .i64 x.to) ∧ w'.cell? ⟨b, 3, none⟩ = some (.int .i64 x.pr) ∧ w'.cell? ⟨b, 4, none⟩ = some (.pointer pl) ∧ w'.cell? ⟨b, 5, none⟩ = some (.pointer pr)) ∧ (w'.cell? ⟨w.heap.size, 0, none⟩ = some (.int .i64 m.id) ∧ w'.cell? ⟨w.heap.size, 1, none⟩ = some (.int .i64 m.fr) ∧ w'.cell? ⟨w.heap.size, 2, none⟩ = some (.int .i64 m.to) ∧ w'.cell? ⟨w.heap.size, 3, none⟩ = some (.int .i64 m.pr))) (first | (with_reducible assumption) | exact ⟨⟨by with_reducible assumption, by with_reducible assumption, by with_reducible assumption, by with_reducible assumption, by with_reducible assumption, by with_reducible assumption⟩, by with_reducible assumption, by with_reducible assumption, by with_reducible assumption, by with_reducible assumption⟩)
           (first | (go_at_call 48; refine (outranks_c m x _).mono ?_; rintro e v0 ⟨rfl, hb0⟩; rw [ho2]; have hx0 : Below w1.heap.size w1 v0 := bthen hr1 hb0; have kk := KF.out _ hx0; obtain ⟨⟨o0, o1, o2, o3, o4, o5⟩, o6, o7, o8, o9⟩ := kk))
        clear l0 l1 l2 l3 l4 l5 l6 l7 l8 l9 o0 o1 o2 o3 o4 o5 o6 o7 o8 o9
        go_upto_region 5 with fail
        have kk := KF.out _ hx0.drew
        obtain ⟨⟨l0, l1, l2, l3, l4, l5⟩, l6, l7, l8, l9⟩ := kk
        go_region_held3 (fun w' => (w'.cell? ⟨b, 0, none⟩ = some (.int .i64 x.id) ∧ w'.cell? ⟨b, 1, none⟩ = some (.int .i64 x.fr) ∧ w'.cell? ⟨b, 2, none⟩ = some (.int .i64 x.to) ∧ w'.cell? ⟨b, 3, none⟩ = some (.int .i64 x.pr) ∧ w'.cell? ⟨b, 4, none⟩ = some (.pointer pl) ∧ w'.cell? ⟨b, 5, none⟩ = some (.pointer pr)) ∧ (w'.cell? ⟨w.heap.size, 0, none⟩ = some (.int .i64 m.id) ∧ w'.cell? ⟨w.heap.size, 1, none⟩ = some (.int .i64 m.fr) ∧ w'.cell? ⟨w.heap.size, 2, none⟩ = some (.int .i64 m.to) ∧ w'.cell? ⟨w.heap.size, 3, none⟩ = some (.int .i64 m.pr))) (first | (with_reducible assumption) | exact ⟨⟨by with_reducible assumption, by with_reducible assumption, by with_reducible assumption, by with_reducible assumption, by with_reducible assumption, by with_reducible assumption⟩, by with_reducible assumption, by with_reducible assumption, by with_reducible assumption, by with_reducible assumption⟩)
           (first | (go_at_call 50; refine (precedes_c m x _).mono ?_; rintro e v1 ⟨rfl, hb1⟩; rw [ha2]; have hx1 : Below w1.heap.size w1 v1 := bthen hx0.drew hb1; have kk := KF.out _ hx1; obtain ⟨⟨o0, o1, o2, o3, o4, o5⟩, o6, o7, o8, o9⟩ := kk))
        clear l0 l1 l2 l3 l4 l5 l6 l7 l8 l9 o0 o1 o2 o3 o4 o5 o6 o7 o8 o9
        go_upto_region 1 with fail
        have kk := KF.out _ hx1.drew
        obtain ⟨⟨l0, l1, l2, l3, l4, l5⟩, l6, l7, l8, l9⟩ := kk
        go_region_with
           (first | (go_at_call 35; refine (Ir.out _ (H2.out.bel hx1.drew)).mono ?_; rintro e v2 ⟨p1, rfl, hs⟩; have hsp := hid (hs.on hx1.drew); clear hs; have nv := lft_nd Hn.out hsp.out (fun h => (Hs.out.2.2.1 b h).2 rfl); have q5 := nv.c5; have q6 := nv.f5; clear nv))
        all_goals
          clear l0 l1 l2 l3 l4 l5 l6 l7 l8 l9 q5 q6
          go_wp2_with fail
          go_ret
          obtain ⟨s1, s2, s3, s4⟩ := Hs.out
          exact ⟨_, rfl, ((Lft.nodeR s1 Hn.out s2 s3 s4 H1.out hsp.out).on B1.out).mono fun k hk => hk.1⟩
end Go.Proofs.Ytaondjklclpdkaa
