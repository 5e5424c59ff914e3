/- A treap in memory taken apart at a mark, two joined. -/
import Derived.Test.YtaondjklclpdkaaTrd
namespace Go.Proofs.Ytaondjklclpdkaa
open Go.RowKit

/-! ## split -/
/-- what split leaves: two trees in blocks of the old one, apart -/
def Splt (w : World) (F : Nat → Prop) (t1 t2 : Tr) (p1 p2 : Option Addr) (w' : World) : Prop :=
  ∃ G1 G2, TrAt w' G1 p1 t1 ∧ TrAt w' G2 p2 t2 ∧ Dis G1 G2 ∧ (∀ k, G1 k → F k) ∧ (∀ k, G2 k → F k) ∧ Kpt F w w'
theorem Splt.on {a b w' : World} {F : Nat → Prop} {t1 t2 : Tr} {p1 p2 : Option Addr} (h : Splt b F t1 t2 p1 p2 w') (hk : Below a.heap.size a b) : Splt a F t1 t2 p1 p2 w' := by
  obtain ⟨G1, G2, h1, h2, h3, h4, h5, h6⟩ := h
  exact ⟨G1, G2, h1, h2, h3, h4, h5, (Kpt.of hk).tr h6⟩
theorem Splt.nodeR {w w2 : World} {F Fl Fr : Nat → Prop} {b : Nat} {x : Mk} {pl pr p1 p2 : Option Addr} {l t1 t2 : Tr} (hb : F b) (hn : Nd w b x pl pr) (hl : ∀ k, Fl k → F k ∧ k ≠ b) (hr : ∀ k, Fr k → F k ∧ k ≠ b) (hd : Dis Fl Fr)
    (h1 : TrAt w Fl pl l) (h : Splt w Fr t1 t2 p1 p2 w2) : Splt w F (.node l x t1) t2 (some ⟨b, 0, none⟩) p2 (w2.setCell ⟨b, 5, none⟩ (.pointer p1)) := by
  obtain ⟨G1, G2, ht1, ht2, hG, g1, g2, hk⟩ := h
  have nb : ¬ Fr b := fun hf => (hr b hf).2 rfl
  have hn2 := hn.kpt hk nb
  have hset : ∀ k, k ≠ b → (w2.setCell ⟨b, 5, none⟩ (.pointer p1)).heap[k]? = w2.heap[k]? := fun k hk => Below.heap_setCell _ _ _ _ hk
  refine ⟨fun k => k = b ∨ Fl k ∨ G1 k, G2, ⟨b, pl, p1, Fl, G1, rfl, .inl rfl, hn2.setR p1, fun k hk => ⟨.inr (.inl hk), (hl k hk).2⟩, fun k hk => ⟨.inr (.inr hk), (hr k (g1 k hk)).2⟩, fun k a c => hd k a (g1 k c), ?_, ?_⟩, ?_, ?_, ?_, fun k hk => (hr k (g2 k hk)).1, ?_⟩
  · exact (h1.kpt hk hd).same fun k hk _ => hset k (hl k hk).2
  · exact ht1.same fun k hk _ => hset k (hr k (g1 k hk)).2
  · exact ht2.same fun k hk _ => hset k (hr k (g2 k hk)).2
  · rintro k (rfl | h | h) h2
    · exact nb (g2 _ h2)
    · exact hd k h (g2 k h2)
    · exact hG k h h2
  · rintro k (rfl | h | h)
    · exact hb
    · exact (hl k h).1
    · exact (hr k (g1 k h)).1
  · exact (hk.mono fun k hk => (hr k hk).1).setCell hb _
theorem Splt.nodeL {w w2 : World} {F Fl Fr : Nat → Prop} {b : Nat} {x : Mk} {pl pr p1 p2 : Option Addr} {r t1 t2 : Tr} (hb : F b) (hn : Nd w b x pl pr) (hl : ∀ k, Fl k → F k ∧ k ≠ b) (hr : ∀ k, Fr k → F k ∧ k ≠ b) (hd : Dis Fl Fr)
    (h2 : TrAt w Fr pr r) (h : Splt w Fl t1 t2 p1 p2 w2) : Splt w F t1 (.node t2 x r) p1 (some ⟨b, 0, none⟩) (w2.setCell ⟨b, 4, none⟩ (.pointer p2)) := by
  obtain ⟨G1, G2, ht1, ht2, hG, g1, g2, hk⟩ := h
  have nb : ¬ Fl b := fun hf => (hl b hf).2 rfl
  have hn2 := hn.kpt hk nb
  have hset : ∀ k, k ≠ b → (w2.setCell ⟨b, 4, none⟩ (.pointer p2)).heap[k]? = w2.heap[k]? := fun k hk => Below.heap_setCell _ _ _ _ hk
  refine ⟨G1, fun k => k = b ∨ G2 k ∨ Fr k, ?_, ⟨b, p2, pr, G2, Fr, rfl, .inl rfl, hn2.setL p2, fun k hk => ⟨.inr (.inl hk), (hl k (g2 k hk)).2⟩, fun k hk => ⟨.inr (.inr hk), (hr k hk).2⟩, fun k a c => hd k (g2 k a) c, ?_, ?_⟩, ?_, fun k hk => (hl k (g1 k hk)).1, ?_, ?_⟩
  · exact ht1.same fun k hk _ => hset k (hl k (g1 k hk)).2
  · exact ht2.same fun k hk _ => hset k (hl k (g2 k hk)).2
  · exact (h2.kpt hk hd.symm).same fun k hk _ => hset k (hr k hk).2
  · rintro k h1 (rfl | h | h)
    · exact nb (g1 _ h1)
    · exact hG k h1 h
    · exact hd k (g1 k h1) h
  · rintro k (rfl | h | h)
    · exact hb
    · exact (hl k (g2 k h)).1
    · exact (hr k h).1
  · exact (hk.mono fun k hk => (hl k hk).1).setCell hb _
/-- a mark's box behind a call that turned the tree -/
theorem bx_kept {w w' : World} {F : Nat → Prop} {mb : Nat} {m : Mk} (k : Bx w mb m) (hk : Kpt F w w') (hF : ∀ k, F k → k ≠ mb) : (w'.cell? ⟨mb, 0, none⟩ = some (.int .i64 m.id) ∧ w'.cell? ⟨mb, 1, none⟩ = some (.int .i64 m.fr) ∧ w'.cell? ⟨mb, 2, none⟩ = some (.int .i64 m.to) ∧ w'.cell? ⟨mb, 3, none⟩ = some (.int .i64 m.pr)) := k.kpt hk fun h => hF mb h rfl
theorem spl_nd {w w' : World} {F : Nat → Prop} {t1 t2 : Tr} {p1 p2 : Option Addr} {b : Nat} {x : Mk} {pl pr : Option Addr} (h : Nd w b x pl pr) (hs : Splt w F t1 t2 p1 p2 w') (hn : ¬ F b) : Nd w' b x pl pr := by
  obtain ⟨G1, G2, h1, h2, h3, h4, h5, h6⟩ := hs
  exact h.kpt h6 hn
theorem Splt.mono {w w' : World} {F G : Nat → Prop} {t1 t2 : Tr} {p1 p2 : Option Addr} (h : Splt w F t1 t2 p1 p2 w') (hF : ∀ k, F k → G k) : Splt w G t1 t2 p1 p2 w' := by
  obtain ⟨G1, G2, h1, h2, h3, h4, h5, h6⟩ := h
  exact ⟨G1, G2, h1, h2, h3, fun k hk => hF k (h4 k hk), fun k hk => hF k (h5 k hk), h6.mono hF⟩
set_option maxHeartbeats 8000000 in
theorem split_c (m : Mk) (t : Tr) : ∀ (w : World) (F : Nat → Prop) (p : Option Addr), TrAt w F p t →
    Calls Try.prog 49 #[.pointer p, (.agg #[.int .i64 m.id, .int .i64 m.fr, .int .i64 m.to, .int .i64 m.pr])] w fun e w' => ∃ p1 p2, e = .returned (.tuple #[.pointer p1, .pointer p2]) ∧ Splt w F (spl m t).1 (spl m t).2 p1 p2 w' := by
  induction t with
  | nil =>
    intro w F p h
    obtain rfl : p = none := h
    go_enter Try.func49, Try.ntmps49
    go_wp2
    go_ret2
    exact ⟨none, none, rfl, fun _ => False, fun _ => False, rfl, rfl, fun _ h => h.elim, fun _ h => h.elim, fun _ h => h.elim, Kpt.of (by (repeat' (first | exact Below.refl _ _ | assumption | refine bdrewN ?_ _ | refine Below.drew ?_ | refine bal ?_ _ | refine bthen ?_ (by assumption))))⟩
  | node l x r ihl ihr =>
    intro w F p h
    have h0 := h.lt
    obtain ⟨b, pl, pr, Fl, Fr, rfl, hb, hn, hl, hr, hd, h1, h2⟩ := h0
    obtain ⟨w1, hw1⟩ : ∃ w1, w1 = w.alloc (.cells #[.int .i64 m.id, .int .i64 m.fr, .int .i64 m.to, .int .i64 m.pr] 33) := ⟨_, rfl⟩
    have b1 : Below w.heap.size w w1 := by subst hw1; exact (Below.refl _ _).alloc (Nat.le_refl _) _
    have k0 : Bx w1 w.heap.size m := by subst hw1; exact Bx.new w m _
    have hne : b ≠ w.heap.size := by have := hb.2; omega
    have H1 := hid (h1.bel b1)
    have H2 := hid (h2.bel b1)
    have Hn := hid (hn.bel b1)
    have Hs := hid (And.intro hb (And.intro hl (And.intro hr hd)))
    have hFF : ∀ k, F k ∧ k < w.heap.size → k ≠ w.heap.size := fun k hk => by omega
    have KF := nb_kept (hn.bel b1) k0
    have hr1 : Below w1.heap.size w1 w1.drew := (Below.refl _ _).drew
    have K0 := hid k0
    have B1 := hid b1
    have HFF := hid hFF
    clear hn hd hl hr hb h1 h2 b1 k0 h hFF
    by_cases ha : ahd x m
    · have ha2 : decide (ahd x m) = true := decide_eq_true ha
      have hv : spl m (.node l x r) = (.node l x (spl m r).1, (spl m r).2) := by simp only [spl]; rw [if_pos ha]
      rw [hv]
      have Ir := hid (fun w' h => ihr w' Fr pr h)
      clear ihl ihr ha hv
      generalize (spl m r).1 = t1 at *
      generalize (spl m r).2 = t2 at *
      go_enter Try.func49, Try.ntmps49
      go_upto_region 3 with fail
      rw [← hw1]; clear hw1
      have kk := KF.out _ hr1
      obtain ⟨⟨l0, l1, l2, l3, l4, l5⟩, l6, l7, l8, l9⟩ := kk
      go_region_held3 (fun w' => (w'.cell? ⟨b, 0, none⟩ = some (.int .i64 x.id) ∧ w'.cell? ⟨b, 1, none⟩ = some (.int .i64 x.fr) ∧ w'.cell? ⟨b, 2, none⟩ = some (.int .i64 x.to) ∧ w'.cell? ⟨b, 3, none⟩ = some (.int .i64 x.pr) ∧ w'.cell? ⟨b, 4, none⟩ = some (.pointer pl) ∧ w'.cell? ⟨b, 5, none⟩ = some (.pointer pr)) ∧ (w'.cell? ⟨w.heap.size, 0, none⟩ = some (.int .i64 m.id) ∧ w'.cell? ⟨w.heap.size, 1, none⟩ = some (.int .i64 m.fr) ∧ w'.cell? ⟨w.heap.size, 2, none⟩ = some (.int .i64 m.to) ∧ w'.cell? ⟨w.heap.size, 3, none⟩ = some (.int .i64 m.pr))) (first | (with_reducible assumption) | exact ⟨⟨by with_reducible assumption, by with_reducible assumption, by with_reducible assumption, by with_reducible assumption, by with_reducible assumption, by with_reducible assumption⟩, by with_reducible assumption, by with_reducible assumption, by with_reducible assumption, by with_reducible assumption⟩)
         (first | (go_at_call 50; refine (precedes_c x m _).mono ?_; rintro e v0 ⟨rfl, hb0⟩; rw [ha2]; have hx0 : Below w1.heap.size w1 v0 := bthen hr1 hb0; have kk := KF.out _ hx0; obtain ⟨⟨o0, o1, o2, o3, o4, o5⟩, o6, o7, o8, o9⟩ := kk))
      clear l0 l1 l2 l3 l4 l5 l6 l7 l8 l9 o0 o1 o2 o3 o4 o5 o6 o7 o8 o9
      go_upto_region 4 with fail
      have kk := KF.out _ hx0.drew
      obtain ⟨⟨l0, l1, l2, l3, l4, l5⟩, l6, l7, l8, l9⟩ := kk
      go_region_with
         (first | (go_at_call 49; refine (Ir.out _ (H2.out.bel hx0.drew)).mono ?_; rintro e v1 ⟨p1, p2, rfl, hs⟩; have hsp := hid (hs.on hx0.drew); clear hs; have nv := spl_nd Hn.out hsp.out (fun h => (Hs.out.2.2.1 b h).2 rfl); have q5 := nv.c5; have q6 := nv.f5; clear nv))
      all_goals
        clear l0 l1 l2 l3 l4 l5 l6 l7 l8 l9 q5 q6
        go_wp2_with fail
        go_ret2
        obtain ⟨s1, s2, s3, s4⟩ := Hs.out
        exact ⟨_, _, rfl, ((Splt.nodeR s1 Hn.out s2 s3 s4 H1.out hsp.out).on B1.out).mono fun k hk => hk.1⟩
    · have ha2 : decide (ahd x m) = false := decide_eq_false ha
      have hv : spl m (.node l x r) = ((spl m l).1, .node (spl m l).2 x r) := by simp only [spl]; rw [if_neg ha]
      rw [hv]
      have Ir := hid (fun w' h => ihl w' Fl pl h)
      clear ihl ihr ha hv
      generalize (spl m l).1 = t1 at *
      generalize (spl m l).2 = t2 at *
      go_enter Try.func49, Try.ntmps49
      go_upto_region 3 with fail
      rw [← hw1]; clear hw1
      have kk := KF.out _ hr1
      obtain ⟨⟨l0, l1, l2, l3, l4, l5⟩, l6, l7, l8, l9⟩ := kk
      go_region_held3 (fun w' => (w'.cell? ⟨b, 0, none⟩ = some (.int .i64 x.id) ∧ w'.cell? ⟨b, 1, none⟩ = some (.int .i64 x.fr) ∧ w'.cell? ⟨b, 2, none⟩ = some (.int .i64 x.to) ∧ w'.cell? ⟨b, 3, none⟩ = some (.int .i64 x.pr) ∧ w'.cell? ⟨b, 4, none⟩ = some (.pointer pl) ∧ w'.cell? ⟨b, 5, none⟩ = some (.pointer pr)) ∧ (w'.cell? ⟨w.heap.size, 0, none⟩ = some (.int .i64 m.id) ∧ w'.cell? ⟨w.heap.size, 1, none⟩ = some (.int .i64 m.fr) ∧ w'.cell? ⟨w.heap.size, 2, none⟩ = some (.int .i64 m.to) ∧ w'.cell? ⟨w.heap.size, 3, none⟩ = some (.int .i64 m.pr))) (first | (with_reducible assumption) | exact ⟨⟨by with_reducible assumption, by with_reducible assumption, by with_reducible assumption, by with_reducible assumption, by with_reducible assumption, by with_reducible assumption⟩, by with_reducible assumption, by with_reducible assumption, by with_reducible assumption, by with_reducible assumption⟩)
         (first | (go_at_call 50; refine (precedes_c x m _).mono ?_; rintro e v0 ⟨rfl, hb0⟩; rw [ha2]; have hx0 : Below w1.heap.size w1 v0 := bthen hr1 hb0; have kk := KF.out _ hx0; obtain ⟨⟨o0, o1, o2, o3, o4, o5⟩, o6, o7, o8, o9⟩ := kk))
      clear l0 l1 l2 l3 l4 l5 l6 l7 l8 l9 o0 o1 o2 o3 o4 o5 o6 o7 o8 o9
      go_upto_region 6 with fail
      have kk := KF.out _ hx0.drew
      obtain ⟨⟨l0, l1, l2, l3, l4, l5⟩, l6, l7, l8, l9⟩ := kk
      go_region_with
         (first | (go_at_call 49; refine (Ir.out _ (H1.out.bel hx0.drew)).mono ?_; rintro e v1 ⟨p1, p2, rfl, hs⟩; have hsp := hid (hs.on hx0.drew); clear hs; have nv := spl_nd Hn.out hsp.out (fun h => (Hs.out.2.1 b h).2 rfl); have q5 := nv.c4; have q6 := nv.f4; clear nv))
      all_goals
        clear l0 l1 l2 l3 l4 l5 l6 l7 l8 l9 q5 q6
        go_wp2_with fail
        go_ret2
        obtain ⟨s1, s2, s3, s4⟩ := Hs.out
        exact ⟨_, _, rfl, ((Splt.nodeL s1 Hn.out s2 s3 s4 H2.out hsp.out).on B1.out).mono fun k hk => hk.1⟩
/-! ## join -/
/-- a node's mark and its two pointers, and another's, while new memory alone is written -/
theorem nn_kept {w : World} {b c : Nat} {x y : Mk} {pl pr ql qr : Option Addr} (h : Nd w b x pl pr) (k : Nd w c y ql qr) :
    Hid (∀ w', Below w.heap.size w w' → (w'.cell? ⟨b, 0, none⟩ = some (.int .i64 x.id) ∧ w'.cell? ⟨b, 1, none⟩ = some (.int .i64 x.fr) ∧ w'.cell? ⟨b, 2, none⟩ = some (.int .i64 x.to) ∧ w'.cell? ⟨b, 3, none⟩ = some (.int .i64 x.pr) ∧ w'.cell? ⟨b, 4, none⟩ = some (.pointer pl) ∧ w'.cell? ⟨b, 5, none⟩ = some (.pointer pr)) ∧ (w'.cell? ⟨c, 0, none⟩ = some (.int .i64 y.id) ∧ w'.cell? ⟨c, 1, none⟩ = some (.int .i64 y.fr) ∧ w'.cell? ⟨c, 2, none⟩ = some (.int .i64 y.to) ∧ w'.cell? ⟨c, 3, none⟩ = some (.int .i64 y.pr) ∧ w'.cell? ⟨c, 4, none⟩ = some (.pointer ql) ∧ w'.cell? ⟨c, 5, none⟩ = some (.pointer qr))) := fun w' hb => by
  have h' := h.bel hb
  have k' := k.bel hb
  exact ⟨⟨h'.c0, h'.c1, h'.c2, h'.c3, h'.c4, h'.c5⟩, k'.c0, k'.c1, k'.c2, k'.c3, k'.c4, k'.c5⟩
theorem lft_nd {w w' : World} {F : Nat → Prop} {t : Tr} {p : Option Addr} {b : Nat} {x : Mk} {pl pr : Option Addr} (h : Nd w b x pl pr) (hs : Lft w F p t w') (hn : ¬ F b) : Nd w' b x pl pr := h.kpt hs.2 hn
set_option maxHeartbeats 8000000 in
theorem join_c (n : Nat) : ∀ (a b : Tr), a.size + b.size ≤ n → ∀ (w : World) (F G : Nat → Prop) (p q : Option Addr), TrAt w F p a → TrAt w G q b → Dis F G →
    Calls Try.prog 51 #[.pointer p, .pointer q] w fun e w' => ∃ p', e = .returned (.pointer p') ∧ Lft w (fun k => F k ∨ G k) p' (mrg a b) w' := by
  induction n with
  | zero =>
    intro a b hs w F G p q ha hb _
    cases a with
    | node l x r => simp [Tr.size] at hs
    | nil =>
      obtain rfl : p = none := ha
      go_enter Try.func51, Try.ntmps51
      go_wp2
      go_ret
      rw [mrg_nil]
      exact ⟨q, rfl, Lft.refl (hb.mono fun k hk => .inr hk)⟩
  | succ n ih =>
    intro a b hs w F G p q ha hb hd
    cases a with
    | nil =>
      obtain rfl : p = none := ha
      go_enter Try.func51, Try.ntmps51
      go_wp2
      go_ret
      rw [mrg_nil]
      exact ⟨q, rfl, Lft.refl (hb.mono fun k hk => .inr hk)⟩
    | node l x r =>
      have ha' := ha
      obtain ⟨c, pl, pr, Fl, Fr, rfl, hc, hn, hl, hr, hdl, h1, h2⟩ := ha
      cases b with
      | nil =>
        obtain rfl : q = none := hb
        have Ha := hid ha'
        clear ha' hn hc hl hr hdl h1 h2 ih
        go_enter Try.func51, Try.ntmps51
        go_wp2
        go_ret
        rw [mrg_nil']
        exact ⟨_, rfl, Lft.refl (Ha.out.mono fun k hk => .inl hk)⟩
      | node l' y r' =>
        have hb' := hb
        obtain ⟨d, ql, qr, Gl, Gr_, rfl, hdd, hm, gl, gr, hgd, k1, k2⟩ := hb
        have Ha := hid ha'
        have Hb := hid hb'
        have KN := nn_kept hn hm
        have Hn := hid hn
        have Hm := hid hm
        have H1 := hid h1
        have H2 := hid h2
        have K1 := hid k1
        have K2 := hid k2
        have Hs := hid (And.intro hc (And.intro hl (And.intro hr (And.intro hdl hd))))
        have Hg := hid (And.intro hdd (And.intro gl (And.intro gr hgd)))
        simp only [Tr.size] at hs
        clear ha' hb' hn hm h1 h2 k1 k2 hc hl hr hdl hd hdd gl gr hgd
        have hr1 : Below w.heap.size w w.drew := (Below.refl _ _).drew
        by_cases ho : ovr x y
        · have ho2 : decide (ovr x y) = true := decide_eq_true ho
          have hv := mrg_pos (l := l) (r := r) (l' := l') (r' := r') ho
          rw [hv]
          have Ih := hid (fun w' (h : TrAt w' Fr pr r) (h' : TrAt w' G (some ⟨d, 0, none⟩) (.node l' y r')) => ih r (.node l' y r') (by simp only [Tr.size]; omega) w' Fr G pr (some ⟨d, 0, none⟩) h h' (fun k a b => Hs.out.2.2.2.2 k (Hs.out.2.2.1 k a).1 b))
          clear ih hs ho hv
          generalize mrg r (.node l' y r') = t1 at *
          go_enter Try.func51, Try.ntmps51
          go_upto_region 5 with fail
          have kk := KN.out _ hr1
          obtain ⟨⟨l0, l1, l2, l3, l4, l5⟩, l6, l7, l8, l9, l10, l11⟩ := kk
          go_region_held3 (fun w' => (w'.cell? ⟨c, 0, none⟩ = some (.int .i64 x.id) ∧ w'.cell? ⟨c, 1, none⟩ = some (.int .i64 x.fr) ∧ w'.cell? ⟨c, 2, none⟩ = some (.int .i64 x.to) ∧ w'.cell? ⟨c, 3, none⟩ = some (.int .i64 x.pr) ∧ w'.cell? ⟨c, 4, none⟩ = some (.pointer pl) ∧ w'.cell? ⟨c, 5, none⟩ = some (.pointer pr)) ∧ (w'.cell? ⟨d, 0, none⟩ = some (.int .i64 y.id) ∧ w'.cell? ⟨d, 1, none⟩ = some (.int .i64 y.fr) ∧ w'.cell? ⟨d, 2, none⟩ = some (.int .i64 y.to) ∧ w'.cell? ⟨d, 3, none⟩ = some (.int .i64 y.pr) ∧ w'.cell? ⟨d, 4, none⟩ = some (.pointer ql) ∧ w'.cell? ⟨d, 5, none⟩ = some (.pointer qr))) (first | (with_reducible assumption) | exact ⟨⟨by with_reducible assumption, by with_reducible assumption, by with_reducible assumption, by with_reducible assumption, by with_reducible assumption, by with_reducible assumption⟩, by with_reducible assumption, by with_reducible assumption, by with_reducible assumption, by with_reducible assumption, by with_reducible assumption, by with_reducible assumption⟩)
             (first | (go_at_call 48; refine (outranks_c x y _).mono ?_; rintro e v0 ⟨rfl, hb0⟩; rw [ho2]; have hx0 : Below w.heap.size w v0 := bthen hr1 hb0; have kk := KN.out _ hx0; obtain ⟨⟨o0, o1, o2, o3, o4, o5⟩, o6, o7, o8, o9, o10, o11⟩ := kk))
          clear l0 l1 l2 l3 l4 l5 l6 l7 l8 l9 l10 l11
          go_wp2_with fail
          refine (Ih.out _ (H2.out.bel hx0) (Hb.out.bel hx0)).mono ?_
          rintro e v1 ⟨p1, rfl, hs⟩
          clear o0 o1 o2 o3 o4 o5 o6 o7 o8 o9 o10 o11
          have hsp := hid (hs.on hx0)
          clear hs
          have nv := lft_nd Hn.out hsp.out (by rintro (h | h); exact (Hs.out.2.2.1 c h).2 rfl; exact Hs.out.2.2.2.2 c Hs.out.1 h)
          have q5 := nv.c5
          have q6 := nv.f5
          clear nv
          go_wp2_with fail
          go_ret
          obtain ⟨s1, s2, s3, s4, s5⟩ := Hs.out
          refine ⟨_, rfl, Lft.nodeR (Fl := Fl) (Fr := fun k => Fr k ∨ G k) (.inl s1) Hn.out (fun k h => ⟨.inl (s2 k h).1, (s2 k h).2⟩) ?_ ?_ H1.out hsp.out⟩
          · rintro k (h | h)
            · exact ⟨.inl (s3 k h).1, (s3 k h).2⟩
            · exact ⟨.inr h, fun e => s5 c s1 (e ▸ h)⟩
          · rintro k a (h | h)
            · exact s4 k a h
            · exact s5 k (s2 k a).1 h
        · have ho2 : decide (ovr x y) = false := decide_eq_false ho
          have hv := mrg_neg (l := l) (r := r) (l' := l') (r' := r') ho
          rw [hv]
          have Ih := hid (fun w' (h : TrAt w' F (some ⟨c, 0, none⟩) (.node l x r)) (h' : TrAt w' Gl ql l') => ih (.node l x r) l' (by simp only [Tr.size]; omega) w' F Gl (some ⟨c, 0, none⟩) ql h h' (fun k a b => Hs.out.2.2.2.2 k a (Hg.out.2.1 k b).1))
          clear ih hs ho hv
          generalize mrg (.node l x r) l' = t1 at *
          go_enter Try.func51, Try.ntmps51
          go_upto_region 5 with fail
          have kk := KN.out _ hr1
          obtain ⟨⟨l0, l1, l2, l3, l4, l5⟩, l6, l7, l8, l9, l10, l11⟩ := kk
          go_region_held3 (fun w' => (w'.cell? ⟨c, 0, none⟩ = some (.int .i64 x.id) ∧ w'.cell? ⟨c, 1, none⟩ = some (.int .i64 x.fr) ∧ w'.cell? ⟨c, 2, none⟩ = some (.int .i64 x.to) ∧ w'.cell? ⟨c, 3, none⟩ = some (.int .i64 x.pr) ∧ w'.cell? ⟨c, 4, none⟩ = some (.pointer pl) ∧ w'.cell? ⟨c, 5, none⟩ = some (.pointer pr)) ∧ (w'.cell? ⟨d, 0, none⟩ = some (.int .i64 y.id) ∧ w'.cell? ⟨d, 1, none⟩ = some (.int .i64 y.fr) ∧ w'.cell? ⟨d, 2, none⟩ = some (.int .i64 y.to) ∧ w'.cell? ⟨d, 3, none⟩ = some (.int .i64 y.pr) ∧ w'.cell? ⟨d, 4, none⟩ = some (.pointer ql) ∧ w'.cell? ⟨d, 5, none⟩ = some (.pointer qr))) (first | (with_reducible assumption) | exact ⟨⟨by with_reducible assumption, by with_reducible assumption, by with_reducible assumption, by with_reducible assumption, by with_reducible assumption, by with_reducible assumption⟩, by with_reducible assumption, by with_reducible assumption, by with_reducible assumption, by with_reducible assumption, by with_reducible assumption, by with_reducible assumption⟩)
             (first | (go_at_call 48; refine (outranks_c x y _).mono ?_; rintro e v0 ⟨rfl, hb0⟩; rw [ho2]; have hx0 : Below w.heap.size w v0 := bthen hr1 hb0; have kk := KN.out _ hx0; obtain ⟨⟨o0, o1, o2, o3, o4, o5⟩, o6, o7, o8, o9, o10, o11⟩ := kk))
          clear l0 l1 l2 l3 l4 l5 l6 l7 l8 l9 l10 l11
          go_wp2_with fail
          refine (Ih.out _ (Ha.out.bel hx0) (K1.out.bel hx0)).mono ?_
          rintro e v1 ⟨p1, rfl, hs⟩
          clear o0 o1 o2 o3 o4 o5 o6 o7 o8 o9 o10 o11
          have hsp := hid (hs.on hx0)
          clear hs
          have nv := lft_nd Hm.out hsp.out (by rintro (h | h); exact Hs.out.2.2.2.2 d h Hg.out.1; exact (Hg.out.2.1 d h).2 rfl)
          have q5 := nv.c4
          have q6 := nv.f4
          clear nv
          go_wp2_with fail
          go_ret
          obtain ⟨s1, s2, s3, s4, s5⟩ := Hs.out
          obtain ⟨g1, g2, g3, g4⟩ := Hg.out
          refine ⟨_, rfl, Lft.nodeL (Fl := fun k => F k ∨ Gl k) (Fr := Gr_) (.inr g1) Hm.out ?_ (fun k h => ⟨.inr (g3 k h).1, (g3 k h).2⟩) ?_ K2.out hsp.out⟩
          · rintro k (h | h)
            · exact ⟨.inl h, fun e => s5 d (e ▸ h) g1⟩
            · exact ⟨.inr (g2 k h).1, (g2 k h).2⟩
          · rintro k (h | h) a
            · exact s5 k h (g3 k a).1
            · exact g4 k h a
end Go.Proofs.Ytaondjklclpdkaa
