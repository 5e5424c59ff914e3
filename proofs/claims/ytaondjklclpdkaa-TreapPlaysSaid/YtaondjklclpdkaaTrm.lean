/- The set's Move. -/
import Derived.Test.YtaondjklclpdkaaTrl
namespace Go.Proofs.Ytaondjklclpdkaa
open Go.RowKit

set_option maxHeartbeats 8000000 in
theorem move_c (i f t0 : Int) (s : Nat) (l : List Mk) (w : World) (F : Nat → Prop) (h : SetL w F s l) (g : Gd l) :
    Calls Try.prog 26 #[.pointer (some ⟨s, 0, none⟩), .int .i64 i, .int .i64 f, .int .i64 t0] w fun e w' => e = .returned (.int .i64 (movE l i f t0)) ∧ SLft w F s (movL l i f t0) w' := by
  have h' := h
  obtain ⟨t, rfl, hh, p, F', h3, h4, h5, h6, h7⟩ := h
  obtain ⟨q, hf, hc⟩ := find_v i t w F' p h7
  have hq := fnd_pos g hf
  have C := hid (hc w (Below.refl _ _))
  have HS := hid h'
  rcases hq with ⟨rfl, hp⟩ | ⟨b, pl, pr, rfl, hp, hn, hm⟩
  · have he : movE t.ord i f t0 = 4 := by unfold movE; rw [if_neg (by omega)]
    have hL : movL t.ord i f t0 = t.ord := by unfold movL; rw [if_neg (by omega)]
    rw [he, hL]
    clear h7 h6 h5 hh g hf hc hp h' h3 he hL
    go_enter Try.func26, Try.ntmps26
    go_wp2_with fail
    refine C.out.mono ?_
    rintro e w' ⟨rfl, rfl⟩
    go_wp2_with fail
    go_ret
    exact ⟨rfl, SLft.of HS.out (by (repeat' (first | exact Below.refl _ _ | assumption | refine bdrewN ?_ _ | refine Below.drew ?_ | refine bal ?_ _ | refine bthen ?_ (by assumption))))⟩
  · by_cases hs : spanOk f t0 = true
    · have he : movE t.ord i f t0 = 0 := by unfold movE; rw [if_pos hp, if_pos hs]
      have hid_ : (mgt t.ord (pos t.ord i)).id = i := pos_id hp
      have gt := g.tak (pos t.ord i)
      have hO : (delE (mgt t.ord (pos t.ord i)) t).ord = takM t.ord (pos t.ord i) := delE_list g hp
      have hH := delE_heap hh g hm
      have hno : ∀ x, x ∈ (delE (mgt t.ord (pos t.ord i)) t).ord → x.id ≠ (⟨i, f, t0, (mgt t.ord (pos t.ord i)).pr⟩ : Mk).id := by
        rw [hO]; exact pos_none.1 (takM_pos g.ids hp)
      have hL : movL t.ord i f t0 = (insS ⟨i, f, t0, (mgt t.ord (pos t.ord i)).pr⟩ (delE (mgt t.ord (pos t.ord i)) t)).ord := by
        unfold movL
        rw [if_pos he, insS_ord (by rw [hO]; exact gt.ord) hno, hO]
      have hH2 := insS_heap hH hno
      rw [he, hL]
      have D := hid (fun w' h => without_c (mgt t.ord (pos t.ord i)) t w' (fun k => F' k ∧ k < w.heap.size) p h g.ord g.ids hm)
      have W := hid (fun w' F p h => with_c ⟨i, f, t0, (mgt t.ord (pos t.ord i)).pr⟩ (delE (mgt t.ord (pos t.ord i)) t) w' F p h)
      generalize mgt t.ord (pos t.ord i) = m at *
      have HH := hid hH2
      clear hH hH2 hL hO gt hno
      generalize insS ⟨i, f, t0, m.pr⟩ (delE m t) = t2 at *
      generalize delE m t = t1 at *
      subst hid_
      have HT := hid h7.lt
      have Hs := hid (And.intro h3 (And.intro h4 (And.intro h5 (fun k (hk : F' k ∧ k < w.heap.size) => h6 k hk.1))))
      have hbl := hn.lt
      obtain ⟨n0, n1, n2, n3⟩ := hn.bx
      have hx1 : Below w.heap.size w (w.alloc (.cells #[.int .i64 m.id, .int .i64 m.fr, .int .i64 m.to, .int .i64 m.pr] 33)) := (Below.refl _ _).alloc (Nat.le_refl _) _
      clear h7 h6 h5 hh g hf hc hp h' h3 he hn hm
      go_enter Try.func26, Try.ntmps26
      go_wp2_with fail
      refine C.out.mono ?_
      rintro e w' ⟨rfl, rfl⟩
      go_wp2_with fail
      refine (may_c f t0 _).mono ?_
      rintro e w' ⟨rfl, rfl⟩
      rw [hs]
      go_upto_region 9 with fail
      obtain ⟨V, hV⟩ : ∃ V, V = w'.alloc (.cells #[.int .i64 m.id, .int .i64 m.fr, .int .i64 m.to, .int .i64 m.pr] 33) := ⟨_, rfl⟩
      rw [← hV]
      have bV : Below w'.heap.size w' V := by subst hV; exact (Below.refl _ _).alloc (Nat.le_refl _) _
      have KV : Hid (∀ w2, Below V.heap.size V w2 → (w2.cell? ⟨w'.heap.size, 0, none⟩ = some (.int .i64 m.id) ∧ w2.cell? ⟨w'.heap.size, 1, none⟩ = some (.int .i64 m.fr) ∧ w2.cell? ⟨w'.heap.size, 2, none⟩ = some (.int .i64 m.to) ∧ w2.cell? ⟨w'.heap.size, 3, none⟩ = some (.int .i64 m.pr)) ∧ w2.cell? ⟨s, 0, none⟩ = some (.pointer p)) := fun w2 hb => ⟨by subst hV; exact (Bx.new w' m _).bel hb, cell_bel (cell_bel h4 bV) hb⟩
      clear hV n0 n1 n2 n3 h4 hx1
      have hd0 : Below V.heap.size V V.drew := (Below.refl _ _).drew
      have hd1 : Below w'.heap.size w' V.drew := bV.drew
      have kk := KV.out _ hd0
      obtain ⟨⟨l0, l1, l2, l3⟩, l4⟩ := kk
      have hmb : Hid (¬ (F' w'.heap.size ∧ w'.heap.size < w'.heap.size)) := fun h => by omega
      have hB0 : Hid (Bx V.drew w'.heap.size m) := (KV.out _ hd0).1
      clear hd0 bV
      go_region_with
         (first | (go_at_call 36; refine (D.out _ (HT.out.bel hd1)).mono ?_; rintro e v2 ⟨p1, rfl, hs2⟩; have hsp := hid (hs2.on hd1); have kb := hB0.out.kpt hs2.2 hmb.out; clear hs2; obtain ⟨r0, r1, r2, r3⟩ := kb)
                | (go_at_call 35; refine (W.out _ _ p1 hsp.out.1).mono ?_; rintro e v3 ⟨p2, rfl, hs3⟩; have hsq := hid (hs3.back hsp.out.2 (fun _ h => h)); clear hs3; have kk := lft_set Hs.out.2.1 Hs.out.2.2.1 Hs.out.2.2.2 hsq.out; obtain ⟨q5, q6⟩ := kk))
      all_goals
        clear l0 l1 l2 l3 l4 q5 q6 r0 r1 r2 r3
        go_wp2_with fail
        go_ret
        obtain ⟨s1, s2, s3, s4⟩ := Hs.out
        exact ⟨rfl, SLft.set s1 s2 s3 s4 hsq.out rfl HH.out⟩
    · have hs' : spanOk f t0 = false := by simpa using hs
      have he : movE t.ord i f t0 = 2 := by unfold movE; rw [if_pos hp, if_neg hs]
      have hL : movL t.ord i f t0 = t.ord := by unfold movL; rw [if_neg (by omega)]
      rw [he, hL]
      clear h7 h6 h5 hh g hf hc hp h' h3 he hn hm hs hL
      go_enter Try.func26, Try.ntmps26
      go_wp2_with fail
      refine C.out.mono ?_
      rintro e w' ⟨rfl, rfl⟩
      go_wp2_with fail
      refine (may_c f t0 _).mono ?_
      rintro e w' ⟨rfl, rfl⟩
      rw [hs']
      go_wp2_with fail
      go_ret
      exact ⟨rfl, SLft.of HS.out (by (repeat' (first | exact Below.refl _ _ | assumption | refine bdrewN ?_ _ | refine Below.drew ?_ | refine bal ?_ _ | refine bthen ?_ (by assumption))))⟩
end Go.Proofs.Ytaondjklclpdkaa
