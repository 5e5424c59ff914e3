/- The methods of the set that turn it: Add, Remove, Move. -/
import Derived.Test.YtaondjklclpdkaaTrk
namespace Go.Proofs.Ytaondjklclpdkaa
open Go.RowKit

theorem lft_set {w w2 : World} {F F' : Nat → Prop} {s : Nat} {p p' : Option Addr} {t' : Tr} (hc : w.cell? ⟨s, 0, none⟩ = some (.pointer p)) (hf : w.frozen? ⟨s, 0, none⟩ = false) (hF : ∀ k, F' k → F k ∧ k ≠ s)
    (h : Lft w F' p' t' w2) : w2.cell? ⟨s, 0, none⟩ = some (.pointer p) ∧ w2.frozen? ⟨s, 0, none⟩ = false := by
  have hlt : s < w.heap.size := World.block_lt_of_cell? w _ hc
  have nb : ¬ F' s := fun hf => (hF s hf).2 rfl
  exact ⟨h.2.cell hc nb, (h.2.frozen (p := ⟨s, 0, none⟩) hlt nb).trans hf⟩
theorem cell_bel {w w' : World} {s o : Nat} {v : Value} (h : w.cell? ⟨s, o, none⟩ = some v) (hb : Below w.heap.size w w') : w'.cell? ⟨s, o, none⟩ = some v := by
  have hlt : s < w.heap.size := World.block_lt_of_cell? w _ h
  rw [World.cell?_of_block (w := w) (w' := w') (a := ⟨s, o, none⟩) (hb.block s hlt)]; exact h
theorem frozen_bel {w w' : World} {s o : Nat} {v : Value} (h : w.cell? ⟨s, o, none⟩ = some v) (hf : w.frozen? ⟨s, o, none⟩ = false) (hb : Below w.heap.size w w') : w'.frozen? ⟨s, o, none⟩ = false := by
  have hlt : s < w.heap.size := World.block_lt_of_cell? w _ h
  rw [World.frozen?_of_block (w := w) (w' := w') (a := ⟨s, o, none⟩) (hb.block s hlt)]; exact hf
set_option maxHeartbeats 8000000 in
theorem add_c (m : Mk) (s : Nat) (l : List Mk) (w : World) (F : Nat → Prop) (h : SetL w F s l) (g : Gd l) (_hi : ir m.id ∧ ir m.pr) :
    Calls Try.prog 14 #[.pointer (some ⟨s, 0, none⟩), (.agg #[.int .i64 m.id, .int .i64 m.fr, .int .i64 m.to, .int .i64 m.pr])] w fun e w' => e = .returned (.int .i64 (addE l m)) ∧ SLft w F s (addL l m) w' := by
  have h' := h
  obtain ⟨t, rfl, hh, p, F', h3, h4, h5, h6, h7⟩ := h
  obtain ⟨w1, hw1⟩ : ∃ w1, w1 = w.alloc (.cells #[.int .i64 m.id, .int .i64 m.fr, .int .i64 m.to, .int .i64 m.pr] 33) := ⟨_, rfl⟩
  have b1 : Below w.heap.size w w1 := by subst hw1; exact (Below.refl _ _).alloc (Nat.le_refl _) _
  have k0 : Bx w1 w.heap.size m := by subst hw1; exact Bx.new w m _
  have HS := hid h'
  have B1 := hid b1
  have KB : Hid (∀ w', Below w1.heap.size w1 w' → (w'.cell? ⟨w.heap.size, 0, none⟩ = some (.int .i64 m.id) ∧ w'.cell? ⟨w.heap.size, 1, none⟩ = some (.int .i64 m.fr) ∧ w'.cell? ⟨w.heap.size, 2, none⟩ = some (.int .i64 m.to) ∧ w'.cell? ⟨w.heap.size, 3, none⟩ = some (.int .i64 m.pr)) ∧ w'.cell? ⟨s, 0, none⟩ = some (.pointer p)) := fun w' hb => ⟨k0.bel hb, cell_bel (cell_bel h4 b1) hb⟩
  obtain ⟨m0, m1, m2, m3⟩ := k0
  have hl := g.len
  have hsz := t.size_ord
  by_cases hs : spanOk m.fr m.to = true
  · obtain ⟨q, hf, hc⟩ := find_v m.id t w F' p h7
    have hq := fnd_pos g hf
    have C := hid hc
    have hr1 : Below w1.heap.size w1 w1.drew := (Below.refl _ _).drew
    have hr2 : Below w.heap.size w w1.drew := b1.drew
    rcases hq with ⟨rfl, hp⟩ | ⟨b, pl, pr, rfl, hp, hn, hm⟩
    · have N := hid (count_c t (w1.drew) F' p (h7.bel b1.drew) (by omega))
      by_cases h600 : 600 ≤ t.ord.length
      · have he : addE t.ord m = 3 := by unfold addE; rw [if_pos hs, if_neg (by omega), if_pos h600]
        have hL : addL t.ord m = t.ord := by unfold addL; rw [if_neg (by omega)]
        rw [he, hL]
        have hd : decide ((600 : Int) ≤ t.size) = true := by simp; omega
        clear h7 h6 h5 hh g hf hc hp h' h3 b1 he hL hl hsz
        go_enter Try.func14, Try.ntmps14
        go_upto_region 3 with fail
        rw [← hw1]; clear hw1
        go_wp2_with fail
        refine (may_c m.fr m.to w1).mono ?_
        rintro e w' ⟨rfl, rfl⟩
        rw [hs]
        go_upto_region 5 with fail
        have kk := KB.out _ hr1
        obtain ⟨⟨l0, l1, l2, l3⟩, l4⟩ := kk
        go_region_held3 (fun w' => (w'.cell? ⟨w.heap.size, 0, none⟩ = some (.int .i64 m.id) ∧ w'.cell? ⟨w.heap.size, 1, none⟩ = some (.int .i64 m.fr) ∧ w'.cell? ⟨w.heap.size, 2, none⟩ = some (.int .i64 m.to) ∧ w'.cell? ⟨w.heap.size, 3, none⟩ = some (.int .i64 m.pr)) ∧ w'.cell? ⟨s, 0, none⟩ = some (.pointer p)) (first | (with_reducible assumption) | (exact KB.out _ (by (repeat' (first | exact Below.refl _ _ | assumption | refine bdrewN ?_ _ | refine Below.drew ?_ | refine bal ?_ _ | refine bthen ?_ (by assumption))))))
           (first | (go_at_call 33; refine (C.out _ hr2).mono ?_; rintro e v1 ⟨rfl, rfl⟩))
        go_wp2_with fail
        refine N.out.mono ?_
        rintro e w' ⟨rfl, n, rfl⟩
        clear l0 l1 l2 l3 l4 m0 m1 m2 m3
        go_wp2_with fail
        go_ret
        exact ⟨rfl, SLft.of HS.out (bdrewN B1.out _)⟩
      · have he : addE t.ord m = 0 := by unfold addE; rw [if_pos hs, if_neg (by omega), if_neg h600]
        have hL : addL t.ord m = (insS m t).ord := by unfold addL; rw [if_pos he, insS_ord g.ord (pos_none.1 hp)]
        have hH := insS_heap (m := m) hh (pos_none.1 hp)
        rw [he, hL]
        have hd : decide ((600 : Int) ≤ t.size) = false := by simp; omega
        have W := hid (fun w' h => with_c m t w' F' p h)
        have HT := hid h7
        have Hs := hid (And.intro h3 (And.intro h4 (And.intro h5 h6)))
        clear h7 h6 h5 hh g hf hc hp h' h3 b1 he hL hl hsz h600
        have HH := hid hH
        generalize insS m t = t1 at *
        clear hH
        go_enter Try.func14, Try.ntmps14
        go_upto_region 3 with fail
        rw [← hw1]; clear hw1
        go_wp2_with fail
        refine (may_c m.fr m.to w1).mono ?_
        rintro e w' ⟨rfl, rfl⟩
        rw [hs]
        go_upto_region 5 with fail
        have kk := KB.out _ hr1
        obtain ⟨⟨l0, l1, l2, l3⟩, l4⟩ := kk
        go_region_held3 (fun w' => (w'.cell? ⟨w.heap.size, 0, none⟩ = some (.int .i64 m.id) ∧ w'.cell? ⟨w.heap.size, 1, none⟩ = some (.int .i64 m.fr) ∧ w'.cell? ⟨w.heap.size, 2, none⟩ = some (.int .i64 m.to) ∧ w'.cell? ⟨w.heap.size, 3, none⟩ = some (.int .i64 m.pr)) ∧ w'.cell? ⟨s, 0, none⟩ = some (.pointer p)) (first | (with_reducible assumption) | (exact KB.out _ (by (repeat' (first | exact Below.refl _ _ | assumption | refine bdrewN ?_ _ | refine Below.drew ?_ | refine bal ?_ _ | refine bthen ?_ (by assumption))))))
           (first | (go_at_call 33; refine (C.out _ hr2).mono ?_; rintro e v1 ⟨rfl, rfl⟩))
        go_wp2_with fail
        refine N.out.mono ?_
        rintro e w' ⟨rfl, n, rfl⟩
        have hx2 : Below w1.heap.size w1 (w1.drew.drewN n) := bdrewN hr1 n
        clear l0 l1 l2 l3 l4 m0 m1 m2 m3 h4
        generalize w1.drew.drewN n = V at hx2 ⊢
        go_upto_region 9 with fail
        have hx3 : Below w.heap.size w V.drew := bthen B1.out hx2.drew
        have kk := KB.out _ hx2.drew
        obtain ⟨⟨l0, l1, l2, l3⟩, l4⟩ := kk
        go_region_with
           (first | (go_at_call 35; refine (W.out _ (HT.out.bel hx3)).mono ?_; rintro e v2 ⟨p1, rfl, hs2⟩; have hsp := hid (hs2.on hx3); clear hs2; have kk := lft_set Hs.out.2.1 Hs.out.2.2.1 Hs.out.2.2.2 hsp.out; obtain ⟨q5, q6⟩ := kk))
        all_goals
          clear l0 l1 l2 l3 l4 q5 q6
          go_wp2_with fail
          go_ret
          obtain ⟨s1, s2, s3, s4⟩ := Hs.out
          exact ⟨rfl, SLft.set s1 s2 s3 s4 hsp.out rfl HH.out⟩
    · have he : addE t.ord m = 1 := by unfold addE; rw [if_pos hs, if_pos hp]
      have hL : addL t.ord m = t.ord := by unfold addL; rw [if_neg (by omega)]
      rw [he, hL]
      clear h7 h6 h5 hh g hf hc hp h' h3 b1 he hL hl hsz hn hm
      go_enter Try.func14, Try.ntmps14
      go_upto_region 3 with fail
      rw [← hw1]; clear hw1
      go_wp2_with fail
      refine (may_c m.fr m.to w1).mono ?_
      rintro e w' ⟨rfl, rfl⟩
      rw [hs]
      go_upto_region 5 with fail
      have kk := KB.out _ hr1
      obtain ⟨⟨l0, l1, l2, l3⟩, l4⟩ := kk
      go_region_held3 (fun w' => (w'.cell? ⟨w.heap.size, 0, none⟩ = some (.int .i64 m.id) ∧ w'.cell? ⟨w.heap.size, 1, none⟩ = some (.int .i64 m.fr) ∧ w'.cell? ⟨w.heap.size, 2, none⟩ = some (.int .i64 m.to) ∧ w'.cell? ⟨w.heap.size, 3, none⟩ = some (.int .i64 m.pr)) ∧ w'.cell? ⟨s, 0, none⟩ = some (.pointer p)) (first | (with_reducible assumption) | (exact KB.out _ (by (repeat' (first | exact Below.refl _ _ | assumption | refine bdrewN ?_ _ | refine Below.drew ?_ | refine bal ?_ _ | refine bthen ?_ (by assumption))))))
         (first | (go_at_call 33; refine (C.out _ hr2).mono ?_; rintro e v1 ⟨rfl, rfl⟩))
      clear l0 l1 l2 l3 l4 m0 m1 m2 m3
      go_wp2_with fail
      go_ret
      exact ⟨rfl, SLft.of HS.out hr2⟩
  · have hs' : spanOk m.fr m.to = false := by simpa using hs
    have he : addE t.ord m = 2 := by unfold addE; rw [if_neg hs]
    have hL : addL t.ord m = t.ord := by unfold addL; rw [if_neg (by omega)]
    rw [he, hL]
    clear h7 h6 h5 hh g h' h3 b1 he hL hl hsz hs
    go_enter Try.func14, Try.ntmps14
    go_upto_region 3 with fail
    rw [← hw1]; clear hw1
    go_wp2_with fail
    refine (may_c m.fr m.to w1).mono ?_
    rintro e w' ⟨rfl, rfl⟩
    rw [hs']
    go_wp2_with fail
    go_ret
    exact ⟨rfl, SLft.of HS.out B1.out⟩
set_option maxHeartbeats 4000000 in
theorem remove_nil (i : Int) (w : World) : Calls Try.prog 15 #[.pointer none, .int .i64 i] w fun e w' => e = .returned (.int .i64 8) ∧ w = w' := by
  go_enter Try.func15, Try.ntmps15
  go_wp2
  go_ret
  exact ⟨rfl, rfl⟩
/-- the list without the mark that stands there -/
theorem delE_list {t : Tr} (g : Gd t.ord) {i : Int} (hp : pos t.ord i < t.ord.length) : (delE (mgt t.ord (pos t.ord i)) t).ord = remL t.ord i := by
  rw [delE_eq g.ord g.ids (mgt_mem hp), delS_ord g.ord g.ids (pos_split hp)]; rfl
theorem delE_heap {t : Tr} (hh : t.heap) (g : Gd t.ord) {m : Mk} (hm : m ∈ t.ord) : (delE m t).heap := by
  rw [delE_eq g.ord g.ids hm]; exact delS_heap hh g.ids
set_option maxHeartbeats 8000000 in
theorem remove_c (i : Int) (s : Nat) (l : List Mk) (w : World) (F : Nat → Prop) (h : SetL w F s l) (g : Gd l) :
    Calls Try.prog 15 #[.pointer (some ⟨s, 0, none⟩), .int .i64 i] w fun e w' => e = .returned (.int .i64 (remE l i)) ∧ SLft w F s (remL l i) w' := by
  have h' := h
  obtain ⟨t, rfl, hh, p, F', h3, h4, h5, h6, h7⟩ := h
  obtain ⟨q, hf, hc⟩ := find_v i t w F' p h7
  have hq := fnd_pos g hf
  have C := hid (hc w (Below.refl _ _))
  have HS := hid h'
  rcases hq with ⟨rfl, hp⟩ | ⟨b, pl, pr, rfl, hp, hn, hm⟩
  · have he : remE t.ord i = 4 := by unfold remE; rw [if_neg (by omega)]
    have hL : remL t.ord i = t.ord := by unfold remL; rw [takM_out _ (by omega)]
    rw [he, hL]
    clear h7 h6 h5 hh g hf hc hp h' h3 he hL
    go_enter Try.func15, Try.ntmps15
    go_wp2_with fail
    refine C.out.mono ?_
    rintro e w' ⟨rfl, rfl⟩
    go_wp2_with fail
    go_ret
    exact ⟨rfl, SLft.of HS.out (by (repeat' (first | exact Below.refl _ _ | assumption | refine bdrewN ?_ _ | refine Below.drew ?_ | refine bal ?_ _ | refine bthen ?_ (by assumption))))⟩
  · have he : remE t.ord i = 0 := by unfold remE; rw [if_pos hp]
    have hL := delE_list g hp
    have hH := delE_heap hh g hm
    rw [he, ← hL]
    have D := hid (fun w' h => without_c (mgt t.ord (pos t.ord i)) t w' F' p h g.ord g.ids hm)
    generalize mgt t.ord (pos t.ord i) = m at *
    have HH := hid hH
    clear hH hL
    generalize delE m t = t1 at *
    have HT := hid h7
    have Hs := hid (And.intro h3 (And.intro h4 (And.intro h5 h6)))
    have KB : Hid (∀ w', Below w.heap.size w w' → (w'.cell? ⟨b, 0, none⟩ = some (.int .i64 m.id) ∧ w'.cell? ⟨b, 1, none⟩ = some (.int .i64 m.fr) ∧ w'.cell? ⟨b, 2, none⟩ = some (.int .i64 m.to) ∧ w'.cell? ⟨b, 3, none⟩ = some (.int .i64 m.pr)) ∧ w'.cell? ⟨s, 0, none⟩ = some (.pointer p)) := fun w' hb => ⟨(hn.bel hb).bx, cell_bel h4 hb⟩
    clear h7 h6 h5 hh g hf hc hp h' h3 he hn hm
    go_enter Try.func15, Try.ntmps15
    go_wp2_with fail
    refine C.out.mono ?_
    rintro e w' ⟨rfl, rfl⟩
    go_upto_region 6 with fail
    have hd0 : Below w'.heap.size w' w'.drew := (Below.refl _ _).drew
    have kk := KB.out _ hd0
    obtain ⟨⟨l0, l1, l2, l3⟩, l4⟩ := kk
    clear h4
    go_region_with
       (first | (go_at_call 36; refine (D.out _ (HT.out.bel hd0)).mono ?_; rintro e v2 ⟨p1, rfl, hs2⟩; have hsp := hid (hs2.on hd0); clear hs2; have kk := lft_set Hs.out.2.1 Hs.out.2.2.1 Hs.out.2.2.2 hsp.out; obtain ⟨q5, q6⟩ := kk))
    all_goals
      clear l0 l1 l2 l3 l4 q5 q6
      go_wp2_with fail
      go_ret
      obtain ⟨s1, s2, s3, s4⟩ := Hs.out
      exact ⟨rfl, SLft.set s1 s2 s3 s4 hsp.out rfl HH.out⟩
end Go.Proofs.Ytaondjklclpdkaa
