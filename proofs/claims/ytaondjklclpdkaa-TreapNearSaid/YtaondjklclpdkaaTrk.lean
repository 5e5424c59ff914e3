/- The methods of the set: a treap behind a pointer, told as a list of marks by order. -/
import Derived.Test.YtaondjklclpdkaaTrj
namespace Go.Proofs.Ytaondjklclpdkaa
open Go.RowKit

def SetAt (w : World) (F : Nat → Prop) (s : Nat) (t : Tr) : Prop :=
  ∃ (p : Option Addr) (F' : Nat → Prop), F s ∧ w.cell? ⟨s, 0, none⟩ = some (.pointer p) ∧ w.frozen? ⟨s, 0, none⟩ = false ∧ (∀ k, F' k → F k ∧ k ≠ s) ∧ TrAt w F' p t
/-- the set in memory, as a list -/
def SetL (w : World) (F : Nat → Prop) (s : Nat) (l : List Mk) : Prop := ∃ t : Tr, t.ord = l ∧ t.heap ∧ SetAt w F s t
theorem SetL.mono {w : World} {F G : Nat → Prop} {s : Nat} {l : List Mk} (h : SetL w F s l) (hF : ∀ k, F k → G k) : SetL w G s l := by
  obtain ⟨t, h1, h2, p, F', h3, h4, h5, h6, h7⟩ := h
  exact ⟨t, h1, h2, p, F', hF s h3, h4, h5, fun k hk => ⟨hF k (h6 k hk).1, (h6 k hk).2⟩, h7⟩
theorem SetL.lt {w : World} {F : Nat → Prop} {s : Nat} {l : List Mk} (h : SetL w F s l) : SetL w (fun k => F k ∧ k < w.heap.size) s l := by
  obtain ⟨t, h1, h2, p, F', h3, h4, h5, h6, h7⟩ := h
  exact ⟨t, h1, h2, p, _, ⟨h3, World.block_lt_of_cell? w _ h4⟩, h4, h5, fun k hk => ⟨⟨(h6 k hk.1).1, hk.2⟩, (h6 k hk.1).2⟩, h7.lt⟩
theorem SetL.same {w w' : World} {F : Nat → Prop} {s : Nat} {l : List Mk} (h : SetL w F s l) (he : ∀ k, F k → k < w.heap.size → w'.heap[k]? = w.heap[k]?) : SetL w' F s l := by
  obtain ⟨t, h1, h2, p, F', h3, h4, h5, h6, h7⟩ := h
  have hs := he s h3 (World.block_lt_of_cell? w _ h4)
  exact ⟨t, h1, h2, p, F', h3, by rw [World.cell?_of_block (w := w) (w' := w') (a := ⟨s, 0, none⟩) hs]; exact h4, by rw [World.frozen?_of_block (w := w) (w' := w') (a := ⟨s, 0, none⟩) hs]; exact h5, h6, h7.same fun k hk => he k (h6 k hk).1⟩
theorem SetL.kpt {w w' : World} {F G : Nat → Prop} {s : Nat} {l : List Mk} (h : SetL w F s l) (hk : Kpt G w w') (hd : Dis F G) : SetL w' F s l :=
  h.same fun k hf hl => hk.block k hl fun hg => hd k hf hg
theorem SetL.bel {w w' : World} {F : Nat → Prop} {s : Nat} {l : List Mk} (h : SetL w F s l) (hb : Below w.heap.size w w') : SetL w' F s l := h.same fun k _ hl => hb.block k hl
/-- what a method that turns the set leaves -/
def SLft (w : World) (F : Nat → Prop) (s : Nat) (l : List Mk) (w' : World) : Prop := SetL w' (Gr F w w') s l ∧ Kpt F w w'
theorem SLft.of {w w' : World} {F : Nat → Prop} {s : Nat} {l : List Mk} (h : SetL w F s l) (hb : Below w.heap.size w w') : SLft w F s l w' := ⟨(h.bel hb).mono fun _ hk => .inl hk, Kpt.of hb⟩
theorem SLft.on {a b w' : World} {F : Nat → Prop} {s : Nat} {l : List Mk} (h : SLft b F s l w') (hk : Below a.heap.size a b) : SLft a F s l w' :=
  ⟨h.1.mono (Gr.mono (fun _ hf => .inl hf) hk.size), (Kpt.of hk).tr h.2⟩
/-- a new tree laid under the set -/
theorem SLft.set {w w2 : World} {F F' : Nat → Prop} {s : Nat} {p p' : Option Addr} {t' : Tr} {l : List Mk} (hs : F s) (hc : w.cell? ⟨s, 0, none⟩ = some (.pointer p)) (hf : w.frozen? ⟨s, 0, none⟩ = false) (hF : ∀ k, F' k → F k ∧ k ≠ s)
    (h : Lft w F' p' t' w2) (ho : t'.ord = l) (hh : t'.heap) : SLft w F s l (w2.setCell ⟨s, 0, none⟩ (.pointer p')) := by
  obtain ⟨ht, hk⟩ := h
  have hlt : s < w.heap.size := World.block_lt_of_cell? w _ hc
  have nb : ¬ F' s := fun hf => (hF s hf).2 rfl
  have hc2 := hk.cell hc nb
  have hf2 : w2.frozen? ⟨s, 0, none⟩ = false := (hk.frozen (p := ⟨s, 0, none⟩) hlt nb).trans hf
  have hsz : (w2.setCell ⟨s, 0, none⟩ (.pointer p')).heap.size = w2.heap.size := by simp
  refine ⟨⟨t', ho, hh, p', Gr F' w w2, .inl hs, by rw [World.cell?_setCell_same (h := hc2)], by rw [World.frozen?_setCell]; exact hf2, ?_, ?_⟩, (hk.mono fun k hk => (hF k hk).1).setCell hs _⟩
  · rintro k (hk | hk)
    · exact ⟨.inl (hF k hk).1, (hF k hk).2⟩
    · exact ⟨.inr ⟨hk.1, by rw [hsz]; exact hk.2⟩, by omega⟩
  · refine ht.same fun k hk' _ => Below.heap_setCell _ _ _ _ ?_
    show k ≠ s
    rcases hk' with hk' | hk'
    · exact (hF k hk').2
    · omega
/-! ## New -/
set_option maxHeartbeats 4000000 in
theorem new_c (w : World) : Calls Try.prog 9 #[] w fun e w' => e = .returned (.pointer (some ⟨w.heap.size, 0, none⟩)) ∧ SetL w' (fun k => k = w.heap.size) w.heap.size [] ∧ Below w.heap.size w w' ∧ w'.heap.size = w.heap.size + 1 := by
  go_enter Try.func9, Try.ntmps9
  go_wp2
  go_ret
  refine ⟨rfl, ⟨.nil, rfl, trivial, none, fun _ => False, rfl, ?_, ?_, fun k h => h.elim, rfl⟩, by (repeat' (first | exact Below.refl _ _ | assumption | refine bdrewN ?_ _ | refine Below.drew ?_ | refine bal ?_ _ | refine bthen ?_ (by assumption))), by simp⟩
  · rw [cell_alloc_new]; rfl
  · simp
/-! ## the methods that read -/
set_option maxHeartbeats 4000000 in
theorem len_c (s : Nat) (l : List Mk) (w : World) (F : Nat → Prop) (h : SetL w F s l) (g : Gd l) : Calls Try.prog 23 #[.pointer (some ⟨s, 0, none⟩)] w fun e w' => e = .returned (.int .i64 l.length) ∧ Below w.heap.size w w' := by
  obtain ⟨t, rfl, hh, p, F', h3, h4, h5, h6, h7⟩ := h
  have hl := g.len
  have e := t.size_ord
  have C := hid (count_c t w F' p h7 (by omega))
  rw [e]
  clear h7 h6 h5 hh g hl e
  go_enter Try.func23, Try.ntmps23
  go_wp2_with fail
  refine C.out.mono ?_
  rintro e w' ⟨rfl, n, rfl⟩
  go_wp2
  go_ret
  exact ⟨rfl, by (repeat' (first | exact Below.refl _ _ | assumption | refine bdrewN ?_ _ | refine Below.drew ?_ | refine bal ?_ _ | refine bthen ?_ (by assumption)))⟩
set_option maxHeartbeats 4000000 in
theorem len_nil (w : World) : Calls Try.prog 23 #[.pointer none] w fun e w' => e = .returned (.int .i64 0) ∧ w = w' := by
  go_enter Try.func23, Try.ntmps23
  go_wp2
  go_ret
  exact ⟨rfl, rfl⟩
def MMakes (w : World) (l : List Mk) (e : Ending) (w' : World) : Prop := ∃ a c L, e = .returned (.slice a L.length c) ∧ Hid (L = l) ∧ MOwn w' w.heap.size a c L ∧ Below w.heap.size w w'
def IMakes (w : World) (l : List Int) (e : Ending) (w' : World) : Prop := ∃ a c L, e = .returned (.slice a L.length c) ∧ Hid (L = l) ∧ I.Own w' w.heap.size a c L ∧ Below w.heap.size w w'
theorem bel_none {w w' : World} (h : Kpt (Blk none) w w') : Below w.heap.size w w' := ⟨h.os, h.tape, h.output, h.size, fun k hk => h.block k hk (by rintro ⟨ad, ha, _⟩; cases ha)⟩
set_option maxHeartbeats 4000000 in
theorem sall_c (s : Nat) (l : List Mk) (w : World) (F : Nat → Prop) (h : SetL w F s l) (g : Gd l) : Calls Try.prog 18 #[.pointer (some ⟨s, 0, none⟩)] w (MMakes w l) := by
  obtain ⟨t, rfl, hh, p, F', h3, h4, h5, h6, h7⟩ := h
  have hl := g.len
  have e := t.size_ord
  have C := hid (all_c t w F' p w.heap.size none 0 [] h7 (MOwn.nil _ _) (Nat.le_refl _) (fun k _ h => by obtain ⟨_, h, _⟩ := h; cases h) (by simp; omega))
  clear h7 h6 h5 hh g hl e
  go_enter Try.func18, Try.ntmps18
  go_wp2_with fail
  refine C.out.mono ?_
  rintro e w' ⟨a, c, L, rfl, hL, ho, hk, hat⟩
  have Ho := hid ho
  have Hk := hid hk
  clear ho hk hat
  go_wp2
  go_ret
  exact ⟨a, c, L, rfl, hL, Ho.out, bel_none Hk.out⟩
set_option maxHeartbeats 4000000 in
theorem sstab_c (q : Int) (s : Nat) (l : List Mk) (w : World) (F : Nat → Prop) (h : SetL w F s l) (g : Gd l) : Calls Try.prog 19 #[.pointer (some ⟨s, 0, none⟩), .int .i64 q] w (IMakes w (stL q l)) := by
  obtain ⟨t, rfl, hh, p, F', h3, h4, h5, h6, h7⟩ := h
  have hl := g.len
  have e := t.size_ord
  have hx := stT_list (a := q) g.ord g.ids
  have C := hid (stab_c q t w F' p w.heap.size none 0 [] h7 (I.Own.nil _ _) (Nat.le_refl _) (fun k _ h => by obtain ⟨_, h, _⟩ := h; cases h) (fun x hx => (g.ok x hx).2.1) (by simp; omega))
  rw [hx] at C
  clear h7 h6 h5 hh g hl e hx
  go_enter Try.func19, Try.ntmps19
  go_wp2_with fail
  refine C.out.mono ?_
  rintro e w' ⟨a, c, L, rfl, hL, ho, hk, hat⟩
  have Ho := hid ho
  have Hk := hid hk
  clear ho hk hat
  go_wp2
  go_ret
  exact ⟨a, c, L, rfl, hL, Ho.out, bel_none Hk.out⟩
set_option maxHeartbeats 4000000 in
theorem swithin_c (f q : Int) (s : Nat) (l : List Mk) (w : World) (F : Nat → Prop) (h : SetL w F s l) (g : Gd l) : Calls Try.prog 20 #[.pointer (some ⟨s, 0, none⟩), .int .i64 f, .int .i64 q] w (IMakes w (wiL f q l)) := by
  obtain ⟨t, rfl, hh, p, F', h3, h4, h5, h6, h7⟩ := h
  have hl := g.len
  have e := t.size_ord
  have hx := wiT_list (f := f) (t := q) g.ord g.ids (fun x hx => (g.ok x hx).1.2.1)
  have C := hid (within_c f q t w F' p w.heap.size none 0 [] h7 (I.Own.nil _ _) (Nat.le_refl _) (fun k _ h => by obtain ⟨_, h, _⟩ := h; cases h) (fun x hx => (g.ok x hx).2.1) (by simp; omega))
  rw [hx] at C
  clear h7 h6 h5 hh g hl e hx
  go_enter Try.func20, Try.ntmps20
  go_wp2_with fail
  refine C.out.mono ?_
  rintro e w' ⟨a, c, L, rfl, hL, ho, hk, hat⟩
  have Ho := hid ho
  have Hk := hid hk
  clear ho hk hat
  go_wp2
  go_ret
  exact ⟨a, c, L, rfl, hL, Ho.out, bel_none Hk.out⟩
/-! ## the mark with a number -/
theorem fnd_pos {w : World} {t : Tr} {i : Int} {q : Option Addr} (g : Gd t.ord) (h : Fnd w t i q) :
    (q = none ∧ pos t.ord i = t.ord.length) ∨ ∃ (b : Nat) (pl pr : Option Addr), q = some ⟨b, 0, none⟩ ∧ pos t.ord i < t.ord.length ∧ Nd w b (mgt t.ord (pos t.ord i)) pl pr ∧ mgt t.ord (pos t.ord i) ∈ t.ord := by
  rcases h with ⟨h1, h2⟩ | ⟨b, m, pl, pr, h1, h2, h3, rfl⟩
  · exact .inl ⟨h1, pos_none.2 h2⟩
  · exact .inr ⟨b, pl, pr, h1, pos_mem h3, by rw [pos_of g.ids h3]; exact h2, by rw [pos_of g.ids h3]; exact h3⟩
def getV (l : List Mk) (i : Int) : Mk := if pos l i < l.length then mgt l (pos l i) else ⟨0, 0, 0, 0⟩
set_option maxHeartbeats 4000000 in
theorem get_c (i : Int) (s : Nat) (l : List Mk) (w : World) (F : Nat → Prop) (h : SetL w F s l) (g : Gd l) :
    Calls Try.prog 28 #[.pointer (some ⟨s, 0, none⟩), .int .i64 i] w fun e w' => e = .returned (.tuple #[(.agg #[.int .i64 (getV l i).id, .int .i64 (getV l i).fr, .int .i64 (getV l i).to, .int .i64 (getV l i).pr]), .bool (decide (pos l i < l.length))]) ∧ Below w.heap.size w w' := by
  obtain ⟨t, rfl, hh, p, F', h3, h4, h5, h6, h7⟩ := h
  obtain ⟨q, hf, hc⟩ := find_v i t w F' p h7
  have hq := fnd_pos g hf
  have hlt := World.block_lt_of_cell? w _ h4
  have C := hid hc
  have b1 : Below w.heap.size w (w.alloc (.cells #[.int .i64 0, .int .i64 0, .int .i64 0, .int .i64 0] 33)) := (Below.refl _ _).alloc (Nat.le_refl _) _
  rcases hq with ⟨rfl, hp⟩ | ⟨b, pl, pr, rfl, hp, hn, hm⟩
  · have hd : decide (pos t.ord i < t.ord.length) = false := by simp; omega
    have hg : getV t.ord i = ⟨0, 0, 0, 0⟩ := by unfold getV; rw [if_neg (by omega)]
    rw [hd, hg]
    clear h7 h6 h5 hh g hf hc hp hd hg
    have B1 := hid b1
    clear b1
    go_enter Try.func28, Try.ntmps28
    go_wp2_with fail
    refine (C.out _ B1.out).mono ?_
    rintro e w' ⟨rfl, rfl⟩
    go_wp2
    exact bodyPost_ret (v := _) (by simp [results, Try.results28, go_sem]) rfl ⟨rfl, by (repeat' (first | exact Below.refl _ _ | assumption | refine bdrewN ?_ _ | refine Below.drew ?_ | refine Below.setCell ?_ (Nat.le_refl _) _ | refine bal ?_ _ | refine bthen ?_ (by assumption)))⟩
  · have hd : decide (pos t.ord i < t.ord.length) = true := by simpa using hp
    have hg : getV t.ord i = mgt t.ord (pos t.ord i) := by unfold getV; rw [if_pos hp]
    rw [hd, hg]
    generalize mgt t.ord (pos t.ord i) = m at *
    have n0 := hn.c0
    have n1 := hn.c1
    have n2 := hn.c2
    have n3 := hn.c3
    have hnl := hn.lt
    clear h7 h6 h5 hh g hf hc hp hd hg hn
    have B1 := hid b1
    clear b1
    go_enter Try.func28, Try.ntmps28
    go_wp2_with fail
    refine (C.out _ B1.out).mono ?_
    rintro e w' ⟨rfl, rfl⟩
    go_wp2
    exact bodyPost_ret (v := _) (by simp [results, Try.results28, go_sem]) rfl ⟨rfl, by (repeat' (first | exact Below.refl _ _ | assumption | refine bdrewN ?_ _ | refine Below.drew ?_ | refine Below.setCell ?_ (Nat.le_refl _) _ | refine bal ?_ _ | refine bthen ?_ (by assumption)))⟩
set_option maxHeartbeats 8000000 in
theorem sdepth_c (i : Int) (s : Nat) (l : List Mk) (w : World) (F : Nat → Prop) (h : SetL w F s l) (g : Gd l) :
    Calls Try.prog 16 #[.pointer (some ⟨s, 0, none⟩), .int .i64 i] w fun e w' => e = .returned (.int .i64 (depL l i)) ∧ Below w.heap.size w w' := by
  obtain ⟨t, rfl, hh, p, F', h3, h4, h5, h6, h7⟩ := h
  obtain ⟨q, hf, hc⟩ := find_v i t w F' p h7
  have hq := fnd_pos g hf
  have C := hid (hc w (Below.refl _ _))
  have hl := g.len
  have hsz := t.size_ord
  rcases hq with ⟨rfl, hp⟩ | ⟨b, pl, pr, rfl, hp, hn, hm⟩
  · have hd : depL t.ord i = 0 := by unfold depL; rw [if_neg (by omega)]
    rw [hd]
    clear h7 h6 h5 hh g hf hc hp hd hl hsz
    go_enter Try.func16, Try.ntmps16
    go_wp2_with fail
    refine C.out.mono ?_
    rintro e w' ⟨rfl, rfl⟩
    go_wp2
    go_ret
    exact ⟨rfl, by (repeat' (first | exact Below.refl _ _ | assumption | refine bdrewN ?_ _ | refine Below.drew ?_ | refine bal ?_ _ | refine bthen ?_ (by assumption)))⟩
  · have hd : depL t.ord i = dpt (mgt t.ord (pos t.ord i)) t := by
      unfold depL depR
      rw [if_pos hp, dpt_dep g.ord g.ids hm, dep_recs hh g.ids (pos_split hp)]
    rw [hd]
    have D := hid (fun w' h => depth_c (mgt t.ord (pos t.ord i)) t w' F' p h g.ord g.ids hm (by omega))
    generalize mgt t.ord (pos t.ord i) = m at *
    generalize dpt m t = dv at *
    have HT := hid h7
    have hlt : s < w.heap.size := World.block_lt_of_cell? w _ h4
    have KB : Hid (∀ w', Below w.heap.size w w' → (w'.cell? ⟨b, 0, none⟩ = some (.int .i64 m.id) ∧ w'.cell? ⟨b, 1, none⟩ = some (.int .i64 m.fr) ∧ w'.cell? ⟨b, 2, none⟩ = some (.int .i64 m.to) ∧ w'.cell? ⟨b, 3, none⟩ = some (.int .i64 m.pr)) ∧ w'.cell? ⟨s, 0, none⟩ = some (.pointer p)) := fun w' hb => ⟨(hn.bel hb).bx, by rw [World.cell?_of_block (w := w) (w' := w') (a := ⟨s, 0, none⟩) (hb.block s hlt)]; exact h4⟩
    clear h7 h6 h5 hh g hf hc hp hd hl hsz hn hm
    go_enter Try.func16, Try.ntmps16
    go_wp2_with fail
    refine C.out.mono ?_
    rintro e w' ⟨rfl, rfl⟩
    go_upto_region 6 with fail
    have hd0 : Below w'.heap.size w' w'.drew := (Below.refl _ _).drew
    have kk := KB.out _ hd0
    obtain ⟨⟨l0, l1, l2, l3⟩, l4⟩ := kk
    go_region_held3 (fun w' => (w'.cell? ⟨b, 0, none⟩ = some (.int .i64 m.id) ∧ w'.cell? ⟨b, 1, none⟩ = some (.int .i64 m.fr) ∧ w'.cell? ⟨b, 2, none⟩ = some (.int .i64 m.to) ∧ w'.cell? ⟨b, 3, none⟩ = some (.int .i64 m.pr)) ∧ w'.cell? ⟨s, 0, none⟩ = some (.pointer p)) (first | (with_reducible assumption) | (exact KB.out _ (by (repeat' (first | exact Below.refl _ _ | assumption | refine bdrewN ?_ _ | refine Below.drew ?_ | refine bal ?_ _ | refine bthen ?_ (by assumption))))))
       (first | (go_at_call 37; refine (D.out _ (HT.out.bel hd0)).mono ?_; rintro e v1 ⟨rfl, hb1⟩; have hx1 : Below w'.heap.size w' v1 := bthen hd0 hb1))
    clear l0 l1 l2 l3 l4
    go_wp2_with fail
    go_ret
    exact ⟨rfl, hx1⟩
end Go.Proofs.Ytaondjklclpdkaa
