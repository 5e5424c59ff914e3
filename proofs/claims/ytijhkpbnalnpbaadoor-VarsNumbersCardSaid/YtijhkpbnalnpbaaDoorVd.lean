/- Layer 16: what draws tell; names and numbers named ahead. -/
import Derived.Test.YtijhkpbnalnpbaaDoorEv
namespace Go.Proofs.YtijhkpbnalnpbaaDoor
open Go.RowKit

/-- an environment with other draws -/
def withD (m : En) (da : Option Addr) (dl : List Int) (dc : Nat) : En := ⟨m.a0, m.t0, m.c0, m.a1, m.t1, m.c1, m.a2, m.t2, m.c2, m.a3, m.t3, m.c3, m.a4, m.t4, m.c4, m.a5, m.t5, m.c5, m.ix, m.k0, m.k1, m.k2, m.k3, m.k4, m.k5, m.k6, da, dl, dc⟩
theorem takes_cases {k : Nat} (hk : k < 24) : (takesN k = 0 ∧ k < 21) ∨ (takesN k = 1 ∧ 21 ≤ k ∧ k < 23) ∨ (takesN k = 5 ∧ k = 23) := by
  have h : ∀ k, k < 24 → (takesN k = 0 ∧ k < 21) ∨ (takesN k = 1 ∧ 21 ≤ k ∧ k < 23) ∨ (takesN k = 5 ∧ k = 23) := by decide
  exact h k hk
theorem tell_withD (m : En) (da : Option Addr) (dl : List Int) (dc : Nat) (u v : Nat) {k : Nat} (hk : k < 21) : tellL (withD m da dl dc) v k = tellL m u k := by
  rcases (show k = 0 ∨ k = 1 ∨ k = 2 ∨ k = 3 ∨ k = 4 ∨ k = 5 ∨ k = 6 ∨ k = 7 ∨ k = 8 ∨ k = 9 ∨ k = 10 ∨ k = 11 ∨ k = 12 ∨ k = 13 ∨ k = 14 ∨ k = 15 ∨ k = 16 ∨ k = 17 ∨ k = 18 ∨ k = 19 ∨ k = 20 by omega) with rfl | rfl | rfl | rfl | rfl | rfl | rfl | rfl | rfl | rfl | rfl | rfl | rfl | rfl | rfl | rfl | rfl | rfl | rfl | rfl | rfl <;> rfl
theorem gt_drop (l : List Int) (u j : Nat) : gt (l.drop u) j = gt l (u + j) := by simp [gt, List.getD, List.getElem?_drop]
theorem drw_drop {m f : En} {u : Nat} (h : f.dl = m.dl.drop u) (j : Nat) : drw f j = drw m (u + j) := by unfold drw; rw [h, gt_drop]
theorem hexes_drop {m f : En} {u : Nat} (h : f.dl = m.dl.drop u) : ∀ n, hexesL f 0 n = hexesL m u n
  | 0 => rfl
  | n + 1 => by
    show hexesL f 0 n ++ digs 16 6 (drw f (0 + n)) = hexesL m u n ++ digs 16 6 (drw m (u + n))
    rw [hexes_drop h n, Nat.zero_add, drw_drop h]
theorem tell_drop {m f : En} {u : Nat} (h : f.dl = m.dl.drop u) {k : Nat} (h1 : 21 ≤ k) (h2 : k < 24) : tellL f 0 k = tellL m u k := by
  rcases (show k = 21 ∨ k = 22 ∨ k = 23 by omega) with rfl | rfl | rfl
  · show digs 10 6 (drw f 0 % 1000000) = digs 10 6 (drw m u % 1000000); rw [drw_drop h, Nat.add_zero]
  · show digs 16 6 (drw f 0) = digs 16 6 (drw m u); rw [drw_drop h, Nat.add_zero]
  · show uuidL (hexesL f 0 5) = uuidL (hexesL m u 5); rw [hexes_drop h]
theorem hexes5_len (m : En) (u : Nat) : ∀ n, (hexesL m u n).length = 6 * n
  | 0 => rfl
  | n + 1 => by
    rw [show hexesL m u (n + 1) = hexesL m u n ++ digs 16 6 (drw m (u + n)) from rfl, List.length_append, hexes5_len m u n, digs_len]; omega
theorem uuid36 {H : List Int} (h : H.length = 30) : (uuidL H).length = 36 := by
  simp only [uuidL, List.length_append, List.length_take, List.length_drop, List.length_cons, List.length_nil, h]
  rfl
theorem tell_len (m : En) (u : Nat) {k : Nat} (h1 : 21 ≤ k) (h2 : k < 24) : (tellL m u k).length = 6 ∨ (tellL m u k).length = 36 := by
  rcases (show k = 21 ∨ k = 22 ∨ k = 23 by omega) with rfl | rfl | rfl
  · left; exact digs_len 10 6 _
  · left; exact digs_len 16 6 _
  · right
    exact uuid36 (hexes5_len m u 5)
theorem may_withD {m : En} {da : Option Addr} {dl : List Int} {dc : Nat} {da2 : Option Addr} {dl2 : List Int} {dc2 : Nat} (h : mayE (withD m da dl dc) = true) (hd : drE dl2 = true) : mayE (withD m da2 dl2 dc2) = true := by
  have h' : (txsE m.t0 m.t1 m.t2 m.t3 m.t4 m.t5 && (bti m.ix 0 9999 && (ckE m.k0 m.k1 m.k2 m.k3 m.k4 m.k5 m.k6 && drE dl))) = true := h
  show (txsE m.t0 m.t1 m.t2 m.t3 m.t4 m.t5 && (bti m.ix 0 9999 && (ckE m.k0 m.k1 m.k2 m.k3 m.k4 m.k5 m.k6 && drE dl2))) = true
  simp only [Bool.and_eq_true] at h' ⊢
  exact ⟨h'.1, h'.2.1, h'.2.2.1, hd⟩
theorem may_envD {m : En} (h : EnvD m) {da : Option Addr} {dl : List Int} {dc : Nat} (hd : drE dl = true) : mayE (withD m da dl dc) = true := by
  obtain ⟨h0, h1, h2, h3, h4, h5, h6, h7, h8, h9, h10, h11, h12, h13, h14⟩ := h
  show (txsE m.t0 m.t1 m.t2 m.t3 m.t4 m.t5 && (bti m.ix 0 9999 && (ckE m.k0 m.k1 m.k2 m.k3 m.k4 m.k5 m.k6 && drE dl))) = true
  rw [h0, h1, h2, h3, h4, h5, h6, h7, h8, h9, h10, h11, h12, h13, hd]
  decide +kernel
theorem drE_drop {dl : List Int} (h : drE dl = true) (u : Nat) : drE (dl.drop u) = true := by
  simp only [drE, Bool.and_eq_true, decide_eq_true_eq, List.all_eq_true] at h ⊢
  exact ⟨by rw [List.length_drop]; omega, fun x hx => h.2 x (List.mem_of_mem_drop hx)⟩
/-- what is told of an environment with draws, and of one without those ahead -/
theorem draws_tell {m : En} {da : Option Addr} {dl : List Int} {dc : Nat} {l : List Int} {u : Nat} (hok : valB (withD m da dl dc) l u = true) (_ : u ≤ 1000) :
    ∃ k, k < 24 ∧ valN (withD m da dl dc) l u = u + takesN k ∧ valL (withD m da dl dc) l u = tellL (withD m da dl dc) u k ∧
      (∀ f : En, mayE f = true → f.dl = dl.drop u → (takesN k = 0 → ∃ da2 dc2, f = withD m da2 (dl.drop u) dc2) → valB f l 0 = true ∧ valN f l 0 = takesN k ∧ valL f l 0 = valL (withD m da dl dc) l u) ∧
      mayE (withD m da dl dc) = true := by
  simp only [valB, valN, valL, Option.isSome_iff_exists] at hok ⊢
  obtain ⟨k, hk⟩ := hok
  have hmay : mayE (withD m da dl dc) = true := by
    simp only [okV] at hk; split at hk
    · rename_i h; simp only [Bool.and_eq_true] at h; exact h.1
    · cases hk
  have hrow : rowOf l = some k := by
    simp only [okV] at hk; split at hk
    · exact hk
    · cases hk
  have hk24 := (rowOf_some hrow).1
  refine ⟨k, hk24, by simp only [hk], by simp only [hk]; rw [Int.toNat_natCast], fun f hf hfd h0 => ?_, hmay⟩
  have hfk : okV f l 0 = some k := by simp only [okV, hf]; rw [show bti 0 0 1000 = true by decide]; simp [hrow]
  refine ⟨⟨k, hfk⟩, by simp only [hfk]; omega, ?_⟩
  simp only [hfk, hk, Int.toNat_natCast]
  rcases takes_cases hk24 with ⟨h1, h2⟩ | ⟨_, h2, h3⟩ | ⟨_, h3⟩
  · obtain ⟨da2, dc2, rfl⟩ := h0 h1
    show tellL _ 0 k = _
    rw [tell_withD m da2 _ dc2 0 0 h2, tell_withD m da dl dc 0 u h2]
  · exact tell_drop hfd h2 (by omega)
  · exact tell_drop hfd (by omega) hk24
theorem valN_not {m : En} {l : List Int} {u : Int} (h : valB m l u = false) : valN m l u = u ∧ valL m l u = [] := by
  simp only [valB, valN, valL] at h ⊢
  cases hk : okV m l u with
  | none => exact ⟨rfl, rfl⟩
  | some k => rw [hk] at h; cases h
theorem EnK.withD {b : Nat} {w : World} {m : En} {da : Option Addr} {dl : List Int} {dc : Nat} (h : EnK b w m) (hd : ISlK b w da dl) (hl : dl.length ≤ dc) : EnK b w (withD m da dl dc) := fun w' k =>
  have e := h w' k
  ⟨e.s0, e.s1, e.s2, e.s3, e.s4, e.s5, hd w' k, e.l0, e.l1, e.l2, e.l3, e.l4, e.l5, hl⟩
theorem islice_fromK {K : World → Prop} {a : Option Addr} {l : List Int} (h : ∀ w', K w' → I.Sl w' a l) (n c : Nat) (hn : n ≤ l.length) (hlc : l.length ≤ c) :
    ∃ a' c' D, Hid (D = l.drop n) ∧ (∀ w', K w' → I.Sl w' a' D) ∧ D.length ≤ c' ∧ ∀ w', (Instr.slice 24 (.slice a l.length c) (some (.int .i64 n)) none none).run Tryd.prog w' = .ok (.slice a' D.length c') w' := by
  have h1 := fun w' (hw : K w') => (h w' hw).cut n l.length c hn (Nat.le_refl _) hlc
  simp only [List.take_length] at h1
  refine ⟨_, c - n, _, rfl, h1, by simp; omega, fun w' => ?_⟩
  rw [run_slice_l _ _ _ _ _ I.Tryd.elemIsInt .i64 n (by omega) (by omega)]
  simp [I.Tryd.sizeIsInt, Result.andThen, sliced]
/-! ## a whole environment written over another one -/
def notR (v : Value) : Prop := ∀ x, v ≠ .int .i32 x
theorem Sl.set_other {w : World} {a : Option Addr} {l : List Int} {b j : Nat} {u v : Value} (h : Sl w a l) (hu : w.cell? ⟨b, j, none⟩ = some u) (hn : notR u) : Sl (w.setCell ⟨b, j, none⟩ v) a l := by
  refine ⟨h.len, h.rng, ?_⟩
  rcases h.cells with h0 | ⟨b', o', rfl, hc⟩
  · exact .inl h0
  · refine .inr ⟨b', o', rfl, fun i hi => ?_⟩
    have h1 := hc i hi
    by_cases e : (⟨b', o' + i, none⟩ : Addr) = ⟨b, j, none⟩
    · rw [e, hu] at h1
      exact absurd (Option.some.inj h1) (hn _)
    · rw [World.cell?_setCell_other (h := by first | exact e | exact fun h => e h.symm) ..]; exact h1
theorem Sl.chain {a : Option Addr} {l : List Int} {R : Nat} : ∀ (vs : List Value) (W : World) (j : Nat), (∀ i, i < vs.length → ∃ u, W.cell? ⟨R, j + i, none⟩ = some u ∧ notR u) → Sl W a l → Sl (chainS W R j vs) a l
  | [], _, _, _, h => h
  | v :: vs, W, j, hc, h => by
    show Sl (chainS (W.setCell ⟨R, j, none⟩ v) R (j + 1) vs) a l
    obtain ⟨u, hu, hn⟩ := hc 0 (by simp)
    refine Sl.chain vs _ (j + 1) (fun i hi => ?_) (h.set_other hu hn)
    obtain ⟨x, hx, hy⟩ := hc (i + 1) (by simp; omega)
    refine ⟨x, ?_, hy⟩
    rw [show j + 1 + i = j + (i + 1) by omega]
    exact cell_set1 hx (fun e => by simp at e <;> omega)
theorem chainS_kr {R : Nat} : ∀ (vs : List Value) (W : World) (j : Nat), KR R W (chainS W R j vs)
  | [], W, _ => Kpt.refl _ W
  | v :: vs, W, j => ((Kpt.refl _ W).set (o := j) v).tr (chainS_kr vs (W.setCell ⟨R, j, none⟩ v) (j + 1))
theorem chainS_fr {R b i : Nat} : ∀ (vs : List Value) (W : World) (j : Nat), (chainS W R j vs).frozen? ⟨b, i, none⟩ = W.frozen? ⟨b, i, none⟩
  | [], _, _ => rfl
  | v :: vs, W, j => by
    show (chainS (W.setCell ⟨R, j, none⟩ v) R (j + 1) vs).frozen? ⟨b, i, none⟩ = _
    rw [chainS_fr vs _ (j + 1), World.frozen?_setCell]
theorem BoxV.chain {w : World} {b : Nat} {vs : Array Value} (h : BoxV w b vs) (l : List Value) (hl : l.length ≤ vs.size) : BoxV (chainS w b 0 l) b l.toArray := by
  refine ⟨fun i v hv => ?_, fun i => by rw [chainS_fr]; exact h.f i, Nat.lt_of_lt_of_le h.lt (chainS_kr l w 0).size⟩
  have hv' : l[i]? = some v := by simpa using hv
  obtain ⟨hi, rfl⟩ := List.getElem?_eq_some_iff.1 hv'
  have := chainS_get l w 0 (fun k hk => ⟨_, by rw [Nat.zero_add]; exact h.c k _ (Array.getElem?_eq_getElem (by omega))⟩) i hi
  rwa [Nat.zero_add] at this
theorem enC_notR (m : En) : ∀ (i : Nat) (v : Value), (enC m)[i]? = some v → notR v := by
  intro i v h x
  have hi : i < 15 := by
    rcases Nat.lt_or_ge i 15 with h1 | h1
    · exact h1
    · rw [Array.getElem?_eq_none (by simpa [enC] using h1)] at h; cases h
  rcases (show i = 0 ∨ i = 1 ∨ i = 2 ∨ i = 3 ∨ i = 4 ∨ i = 5 ∨ i = 6 ∨ i = 7 ∨ i = 8 ∨ i = 9 ∨ i = 10 ∨ i = 11 ∨ i = 12 ∨ i = 13 ∨ i = 14 by omega) with rfl | rfl | rfl | rfl | rfl | rfl | rfl | rfl | rfl | rfl | rfl | rfl | rfl | rfl | rfl <;> (obtain rfl := Option.some.inj h; intro e; cases e)
/-- the environment m2 is written over the one in the box b, then its draws are others -/
theorem EnOk.over {w : World} {b : Nat} {m m2 : En} {da : Option Addr} {dl : List Int} {dc : Nat} (hX : BoxV w b (enC m)) (h : EnOk w m2) (hd : I.Sl ((chainS w b 0 (enC m2).toList).setCell ⟨b, 14, none⟩ (.slice da dl.length dc)) da dl) (hl : dl.length ≤ dc) :
    EnOk ((chainS w b 0 (enC m2).toList).setCell ⟨b, 14, none⟩ (.slice da dl.length dc)) (withD m2 da dl dc) := by
  have hB := hX.chain (enC m2).toList (by simp [enC])
  have K : ∀ {a : Option Addr} {l : List Int}, Sl w a l → Sl ((chainS w b 0 (enC m2).toList).setCell ⟨b, 14, none⟩ (.slice da dl.length dc)) a l := fun hs =>
    Sl.set_other (u := .slice m2.da m2.dl.length m2.dc) (Sl.chain _ w 0 (fun i hi => ⟨(enC m)[i]'(by simpa [enC] using hi), by rw [Nat.zero_add]; exact hX.c i _ (Array.getElem?_eq_getElem _), enC_notR m i _ (Array.getElem?_eq_getElem _)⟩) hs) (hB.c 14 _ rfl) (fun x e => by cases e)
  exact ⟨K h.s0, K h.s1, K h.s2, K h.s3, K h.s4, K h.s5, hd, h.l0, h.l1, h.l2, h.l3, h.l4, h.l5, hl⟩
theorem imades_eq (n : Nat) : madeCells #[.int .i64 0] n = ((List.replicate n (0 : Int)).map (Value.int .i64)).toArray := by
  apply Array.ext
  · simp [madeCells]
  · intro i h1 h2
    simp [madeCells, Nat.mod_one]
theorem isl_made (w : World) (n : Nat) (e : TypeId) (hn : n ≤ 100000) : I.Sl (w.alloc (.cells (madeCells #[.int .i64 0] n) e)) (some ⟨w.heap.size, 0, none⟩) (List.replicate n 0) :=
  I.Sl.lit' w _ e _ rfl (by simp; omega) (by intro x hx; have := List.eq_of_mem_replicate hx; subst this; omega) _ (imades_eq n)
/-! ## Index and name, named ahead -/
theorem index16_v (k : Int) (n : Nat) (hn : 0 < n) (_ : n ≤ 1000000) : ∃ d : Nat, d < n ∧ ∀ w, Calls Tryd.prog 11 #[.int .i64 k, .int .i64 n] w fun e w' => e = .returned (.int .i64 d) ∧ w = w' := by
  have hb := band_le k 4294967295 (by decide)
  rw [show ((4294967295 : Nat) : Int) = 4294967295 from rfl] at hb
  obtain ⟨m, hm⟩ := Int.eq_ofNat_of_zero_le hb.1
  rw [hm] at hb
  have hx : (bits .and .i64 k 4294967295).tmod n = ((m % n : Nat) : Int) := by rw [hm]; rfl
  have Hx := hid hx
  clear hx
  refine ⟨m % n, Nat.mod_lt _ hn, fun w => ?_⟩
  go_enter Tryd.func11, Tryd.ntmps11
  go_wp2
  go_ret
  refine ⟨ret_int ?_, rfl⟩
  first | exact Hx.out | (have := Hx.out; rw [hm] at this; exact this)
set_option maxHeartbeats 4000000 in
set_option maxRecDepth 100000 in
theorem name16_v (k : Int) : ∃ L : List Int, ∀ w, Calls Tryd.prog 9 #[.int .i64 k] w fun e w' => ∃ a c, e = .returned (.slice a L.length c) ∧ Own w' w.heap.size a c L ∧ Below w.heap.size w w' := by
  obtain ⟨i, hi, hx⟩ := index16_v k 28 (by decide) (by decide)
  have hi2 : i < nms.length := hi
  obtain ⟨s, hsn⟩ : ∃ s, s = nms[i] := ⟨_, rfl⟩
  have HSN := hid hsn
  have hsz := nms_size _ (List.getElem_mem hi2)
  rw [← hsn] at hsz
  clear hsn
  refine ⟨strL s, fun w => ?_⟩
  have HX := hid hx
  clear hx
  go_enter Tryd.func9, Tryd.ntmps9
  go_wp2_with fail
  generalize hW : World.alloc w _ = W
  have HS : Hid (StrAt W w.heap.size nms) := hid (by rw [← hW]; exact StrAt.new w nms _ _ rfl)
  have hb : Hid (Below w.heap.size w W) := hid (by rw [← hW]; exact bal (Below.refl _ _) _)
  clear hW
  refine (HX.out W).mono ?_
  rintro e w1 ⟨rfl, rfl⟩
  have ck := HS.out i hi2
  rw [← HSN.out] at ck
  clear HS
  go_wp2_with fail
  refine (plain_c s W hsz).mono ?_
  rintro _ w2 ⟨a2, c2, L, rfl, hL, ho, hb2⟩
  have Ho := hid ho
  have Hb := hid hb2
  clear ho hb2
  go_wp2_with fail
  go_ret
  exact ⟨a2, c2, by rw [hL.out]; rfl, by rw [← hL.out]; exact Ho.out.base_le hb.out.size, hb.out.trans (Hb.out.mono hb.out.size)⟩
end Go.Proofs.YtijhkpbnalnpbaaDoor
