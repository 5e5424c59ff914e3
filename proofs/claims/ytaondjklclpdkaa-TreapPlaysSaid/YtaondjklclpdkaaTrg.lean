/- A mark taken out of a treap in memory. -/
import Derived.Test.YtaondjklclpdkaaTrf
namespace Go.Proofs.Ytaondjklclpdkaa
open Go.RowKit

def delE (m : Mk) : Tr → Tr
  | .nil => .nil
  | .node l x r => if x = m then mrg l r else if ahd m x then .node (delE m l) x r else .node l x (delE m r)
theorem delE_eq {m : Mk} {t : Tr} (ho : Ord t.ord) (hi : Ids t.ord) (hm : m ∈ t.ord) : delE m t = delS m t := by
  induction t with
  | nil => rfl
  | node l x r ihl ihr =>
    obtain ⟨⟨ol, il⟩, ⟨or, ir⟩, hl, hr⟩ := ord_parts ho hi
    simp only [Tr.ord, List.mem_append, List.mem_cons] at hm
    simp only [delE, delS]
    rcases hm with hm | rfl | hm
    · have h1 := hl m hm
      rw [if_neg (fun e => h1.2 (by rw [e])), if_pos h1.1, if_neg h1.2.symm, if_pos h1.1, ihl ol il hm]
    · rw [if_pos rfl, if_pos rfl]
    · have h1 := hr m hm
      rw [if_neg (fun e => h1.2 (by rw [e])), if_neg (ahd_asymm h1.1), if_neg h1.2, if_neg (ahd_asymm h1.1), ihr or ir hm]
set_option maxHeartbeats 8000000 in
theorem without_c (m : Mk) (t : Tr) : ∀ (w : World) (F : Nat → Prop) (p : Option Addr), TrAt w F p t → Ord t.ord → Ids t.ord → m ∈ t.ord →
    Calls Try.prog 36 #[.pointer p, (.agg #[.int .i64 m.id, .int .i64 m.fr, .int .i64 m.to, .int .i64 m.pr])] w fun e w' => ∃ p', e = .returned (.pointer p') ∧ Lft w F p' (delE m t) w' := by
  induction t with
  | nil => intro w F p _ _ _ hm; simp [Tr.ord] at hm
  | node l x r ihl ihr =>
    intro w F p h ho hi hm
    obtain ⟨⟨ol, il⟩, ⟨or, ir⟩, sl, sr⟩ := ord_parts ho hi
    have h0 := h.lt
    obtain ⟨b, pl, pr, Fl, Fr, rfl, hb, hn, hl, hr, hd, h1, h2⟩ := h0
    obtain ⟨w1, hw1⟩ : ∃ w1, w1 = w.alloc (.cells #[.int .i64 m.id, .int .i64 m.fr, .int .i64 m.to, .int .i64 m.pr] 33) := ⟨_, rfl⟩
    have b1 : Below w.heap.size w w1 := by subst hw1; exact (Below.refl _ _).alloc (Nat.le_refl _) _
    have k0 : Bx w1 w.heap.size m := by subst hw1; exact Bx.new w m _
    have H1 := hid (h1.bel b1)
    have H2 := hid (h2.bel b1)
    have Hn := hid (hn.bel b1)
    have Hs := hid (And.intro hb (And.intro hl (And.intro hr hd)))
    have KF := nb_kept (hn.bel b1) k0
    have hr1 : Below w1.heap.size w1 w1.drew := (Below.refl _ _).drew
    have kk := KF.out _ (Below.refl _ _)
    obtain ⟨⟨g0, g1, g2, g3, g4, g5⟩, g6, g7, g8, g9⟩ := kk
    have B1 := hid b1
    simp only [Tr.ord, List.mem_append, List.mem_cons] at hm
    clear hn hd hl hr hb h1 h2 b1 k0 h ho hi
    by_cases hxm : x = m
    · subst hxm
      have hv : delE x (.node l x r) = mrg l r := by simp [delE]
      rw [hv]
      have J := hid (fun w' h h' => join_c _ l r (Nat.le_refl _) w' Fl Fr pl pr h h' Hs.out.2.2.2)
      clear ihl ihr hm hv sl sr ol or il ir
      generalize mrg l r = t1 at *
      go_enter Try.func36, Try.ntmps36
      go_upto_region 2 with fail
      rw [← hw1]; clear hw1
      go_region
      go_upto_region 3 with fail
      have kk := KF.out _ hr1.drew
      obtain ⟨⟨l0, l1, l2, l3, l4, l5⟩, l6, l7, l8, l9⟩ := kk
      go_region_held3 (fun w' => w'.cell? ⟨b, 4, none⟩ = some (.pointer pl) ∧ w'.cell? ⟨b, 5, none⟩ = some (.pointer pr)) (first | (with_reducible assumption) | exact ⟨by with_reducible assumption, by with_reducible assumption⟩)
         (first | (go_at_call 51; refine (J.out _ (H1.out.bel hr1.drew) (H2.out.bel hr1.drew)).mono ?_; rintro e v1 ⟨p1, rfl, hs⟩; have hsp := hid (hs.on hr1.drew); have kk : v1.cell? ⟨b, 4, none⟩ = some (.pointer pl) ∧ v1.cell? ⟨b, 5, none⟩ = some (.pointer pr) := (by have nv := lft_nd Hn.out hsp.out (by rintro (h | h); exact (Hs.out.2.1 b h).2 rfl; exact (Hs.out.2.2.1 b h).2 rfl); exact ⟨nv.c4, nv.c5⟩); clear hs; obtain ⟨q4, q5⟩ := kk))
      clear l0 l1 l2 l3 l4 l5 l6 l7 l8 l9 g0 g1 g2 g3 g4 g5 g6 g7 g8 g9 q4 q5
      go_wp2_with fail
      go_ret
      refine ⟨_, rfl, (hsp.out.on B1.out).mono ?_⟩
      rintro k (h | h)
      · exact (Hs.out.2.1 k h).1.1
      · exact (Hs.out.2.2.1 k h).1.1
    · have hne : (x.id == m.id) = false := by
        have : x.id ≠ m.id := by
          rcases hm with hm | hm | hm
          · exact (sl m hm).2.symm
          · exact absurd hm.symm hxm
          · exact (sr m hm).2
        simpa using this
      by_cases ha : ahd m x
      · have hv : delE m (.node l x r) = .node (delE m l) x r := by simp [delE, hxm, ha]
        have hml : m ∈ l.ord := by
          rcases hm with hm | hm | hm
          · exact hm
          · exact absurd hm.symm hxm
          · exact absurd ha (ahd_asymm (sr m hm).1)
        have ha2 : decide (ahd m x) = true := decide_eq_true ha
        rw [hv]
        have Il := hid (fun w' (h : TrAt w' Fl pl l) => ihl w' Fl pl h ol il hml)
        clear ihl ihr hxm sl sr hm ol or il ir hml ha hv
        generalize delE m l = t1 at *
        go_enter Try.func36, Try.ntmps36
        go_upto_region 2 with fail
        rw [← hw1]; clear hw1
        go_region
        go_upto_region 4 with fail
        have kk := KF.out _ hr1.drew
        obtain ⟨⟨l0, l1, l2, l3, l4, l5⟩, l6, l7, l8, l9⟩ := kk
        go_region_held3 (fun w' => (w'.cell? ⟨b, 0, none⟩ = some (.int .i64 x.id) ∧ w'.cell? ⟨b, 1, none⟩ = some (.int .i64 x.fr) ∧ w'.cell? ⟨b, 2, none⟩ = some (.int .i64 x.to) ∧ w'.cell? ⟨b, 3, none⟩ = some (.int .i64 x.pr) ∧ w'.cell? ⟨b, 4, none⟩ = some (.pointer pl) ∧ w'.cell? ⟨b, 5, none⟩ = some (.pointer pr)) ∧ (w'.cell? ⟨w.heap.size, 0, none⟩ = some (.int .i64 m.id) ∧ w'.cell? ⟨w.heap.size, 1, none⟩ = some (.int .i64 m.fr) ∧ w'.cell? ⟨w.heap.size, 2, none⟩ = some (.int .i64 m.to) ∧ w'.cell? ⟨w.heap.size, 3, none⟩ = some (.int .i64 m.pr))) (first | (with_reducible assumption) | exact ⟨⟨by with_reducible assumption, by with_reducible assumption, by with_reducible assumption, by with_reducible assumption, by with_reducible assumption, by with_reducible assumption⟩, by with_reducible assumption, by with_reducible assumption, by with_reducible assumption, by with_reducible assumption⟩)
           (first | (go_at_call 50; refine (precedes_c m x _).mono ?_; rintro e v1 ⟨rfl, hb1⟩; rw [ha2]; have hx1 : Below w1.heap.size w1 v1 := bthen hr1.drew hb1; have kk := KF.out _ hx1; obtain ⟨⟨o0, o1, o2, o3, o4, o5⟩, o6, o7, o8, o9⟩ := kk))
        clear l0 l1 l2 l3 l4 l5 l6 l7 l8 l9 o0 o1 o2 o3 o4 o5 o6 o7 o8 o9 g0 g1 g2 g3 g4 g5 g6 g7 g8 g9
        go_upto_region 5 with fail
        have kk := KF.out _ hx1.drew
        obtain ⟨⟨l0, l1, l2, l3, l4, l5⟩, l6, l7, l8, l9⟩ := kk
        go_region_with
           (first | (go_at_call 36; refine (Il.out _ (H1.out.bel hx1.drew)).mono ?_; rintro e v2 ⟨p1, rfl, hs⟩; have hsp := hid (hs.on hx1.drew); clear hs; have nv := lft_nd Hn.out hsp.out (fun h => (Hs.out.2.1 b h).2 rfl); have q5 := nv.c4; have q6 := nv.f4; clear nv))
        all_goals
          clear l0 l1 l2 l3 l4 l5 l6 l7 l8 l9 q5 q6
          go_wp2_with fail
          go_ret
          obtain ⟨s1, s2, s3, s4⟩ := Hs.out
          exact ⟨_, rfl, ((Lft.nodeL s1 Hn.out s2 s3 s4 H2.out hsp.out).on B1.out).mono fun k hk => hk.1⟩
      · have hv : delE m (.node l x r) = .node l x (delE m r) := by simp [delE, hxm, ha]
        have hml : m ∈ r.ord := by
          rcases hm with hm | hm | hm
          · exact absurd (sl m hm).1 ha
          · exact absurd hm.symm hxm
          · exact hm
        have ha2 : decide (ahd m x) = false := decide_eq_false ha
        rw [hv]
        have Il := hid (fun w' (h : TrAt w' Fr pr r) => ihr w' Fr pr h or ir hml)
        clear ihl ihr hxm sl sr hm ol or il ir hml ha hv
        generalize delE m r = t1 at *
        go_enter Try.func36, Try.ntmps36
        go_upto_region 2 with fail
        rw [← hw1]; clear hw1
        go_region
        go_upto_region 4 with fail
        have kk := KF.out _ hr1.drew
        obtain ⟨⟨l0, l1, l2, l3, l4, l5⟩, l6, l7, l8, l9⟩ := kk
        go_region_held3 (fun w' => (w'.cell? ⟨b, 0, none⟩ = some (.int .i64 x.id) ∧ w'.cell? ⟨b, 1, none⟩ = some (.int .i64 x.fr) ∧ w'.cell? ⟨b, 2, none⟩ = some (.int .i64 x.to) ∧ w'.cell? ⟨b, 3, none⟩ = some (.int .i64 x.pr) ∧ w'.cell? ⟨b, 4, none⟩ = some (.pointer pl) ∧ w'.cell? ⟨b, 5, none⟩ = some (.pointer pr)) ∧ (w'.cell? ⟨w.heap.size, 0, none⟩ = some (.int .i64 m.id) ∧ w'.cell? ⟨w.heap.size, 1, none⟩ = some (.int .i64 m.fr) ∧ w'.cell? ⟨w.heap.size, 2, none⟩ = some (.int .i64 m.to) ∧ w'.cell? ⟨w.heap.size, 3, none⟩ = some (.int .i64 m.pr))) (first | (with_reducible assumption) | exact ⟨⟨by with_reducible assumption, by with_reducible assumption, by with_reducible assumption, by with_reducible assumption, by with_reducible assumption, by with_reducible assumption⟩, by with_reducible assumption, by with_reducible assumption, by with_reducible assumption, by with_reducible assumption⟩)
           (first | (go_at_call 50; refine (precedes_c m x _).mono ?_; rintro e v1 ⟨rfl, hb1⟩; rw [ha2]; have hx1 : Below w1.heap.size w1 v1 := bthen hr1.drew hb1; have kk := KF.out _ hx1; obtain ⟨⟨o0, o1, o2, o3, o4, o5⟩, o6, o7, o8, o9⟩ := kk))
        clear l0 l1 l2 l3 l4 l5 l6 l7 l8 l9 o0 o1 o2 o3 o4 o5 o6 o7 o8 o9 g0 g1 g2 g3 g4 g5 g6 g7 g8 g9
        go_upto_region 1 with fail
        have kk := KF.out _ hx1.drew
        obtain ⟨⟨l0, l1, l2, l3, l4, l5⟩, l6, l7, l8, l9⟩ := kk
        go_region_with
           (first | (go_at_call 36; refine (Il.out _ (H2.out.bel hx1.drew)).mono ?_; rintro e v2 ⟨p1, rfl, hs⟩; have hsp := hid (hs.on hx1.drew); clear hs; have nv := lft_nd Hn.out hsp.out (fun h => (Hs.out.2.2.1 b h).2 rfl); have q5 := nv.c5; have q6 := nv.f5; clear nv))
        all_goals
          clear l0 l1 l2 l3 l4 l5 l6 l7 l8 l9 q5 q6
          go_wp2_with fail
          go_ret
          obtain ⟨s1, s2, s3, s4⟩ := Hs.out
          exact ⟨_, rfl, ((Lft.nodeR s1 Hn.out s2 s3 s4 H1.out hsp.out).on B1.out).mono fun k hk => hk.1⟩
end Go.Proofs.Ytaondjklclpdkaa
