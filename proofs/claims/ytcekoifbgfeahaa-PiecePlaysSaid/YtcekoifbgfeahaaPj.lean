/- Contracts of package piece: Splice, accepted. -/
import Derived.Test.YtcekoifbgfeahaaPi
namespace Go.Proofs.Ytcekoifbgfeahaa
open Go.RowKit

theorem POwn.toTab {w : World} {base : Nat} {a : Option Addr} {c : Nat} {l : List Pc} (h : POwn w base a c l) : PSl w a l := h.sl
theorem kpt_bel {F G : Nat → Prop} {a b c : World} (h : Below a.heap.size a b) (k : Kpt F b c) (hF : ∀ k, F k → k < a.heap.size → G k) : Kpt G a c :=
  ⟨k.os.trans h.os, k.tape.trans h.tape, k.output.trans h.output, Nat.le_trans h.size k.size, fun i hi hn => (k.block i (Nat.lt_of_lt_of_le hi h.size) fun hf => hn (hF i hf hi)).trans (h.block i hi)⟩
theorem prt_bd {s : St} (h : Wf s) (f t : Nat) : ∀ p ∈ prt s.p f t, p.fr ≤ 100000 ∧ p.n ≤ 100000 := by
  intro p hp
  have h1 := prt_lies h.lies f t p hp
  have := h.o; have := h.a
  unfold src at h1
  split at h1 <;> omega
theorem setCell_bel {w w5 : World} (h : Below w.heap.size w w5) (p : Addr) (v : Value) (B : Nat) (hB : B ≤ p.block) (hw : B ≤ w.heap.size) : Below B w (w5.setCell p v) := (h.mono hw).setCell hB v

theorem sl_off {w : World} {ax : Option Addr} {put : List Int} {F : Nat → Prop} (h : Sl w ax put) (ho : put = [] ∨ Off ax F) {p : Addr} (hF : F p.block) {v : Value} : Sl (w.setCell p v) ax put := by
  rcases ho with rfl | ho
  · exact Sl.nil _ _
  · exact h.setOther _ _ fun ad ha he => ho ad ha (he ▸ hF)
theorem gr_gr {F : Nat → Prop} {a b c : World} (h1 : a.heap.size ≤ b.heap.size) (h2 : b.heap.size ≤ c.heap.size) {k : Nat} (h : Gr (Gr F a b) b c k) : Gr F a c k := by
  rcases h with (h | h) | h
  · exact .inl h
  · exact .inr ⟨h.1, by have := h.2; omega⟩
  · exact .inr ⟨by have := h.1; omega, h.2⟩
theorem tab_two {w V1 V : World} {B : Nat} {F : Nat → Prop} {pt : Nat} {s' : St} (k1 : Kpt F w V1) (t2 : TabM V B (Gr (Gr F w V1) V1 V) pt s') (k2 : Kpt (Gr F w V1) V1 V) (hw : Wf s') : Tab V B (Gr F w V) pt s' ∧ Kpt F w V := by
  refine ⟨⟨t2.more (fun k hk => gr_gr k1.size k2.size hk) ?_, hw⟩, k1.trans k2⟩
  rintro k (hk | hk)
  · exact t2.lt k (.inl (.inl hk))
  · rcases Nat.lt_or_ge k V1.heap.size with h | h
    · exact t2.lt k (.inl (.inr ⟨hk.1, h⟩))
    · exact t2.lt k (.inr ⟨h, hk.2⟩)
set_option maxHeartbeats 4000000 in
theorem splice_yes (B : Nat) (F : Nat → Prop) (pt : Nat) (s : St) (at_ cut : Nat) (ax : Option Addr) (cx : Nat) (put : List Int) (w : World) (h : Tab w B F pt s) (hB : B ≤ w.heap.size) (hp : Sl w ax put) (hoff : put = [] ∨ Off ax F)
    (hf : fits s at_ cut put) (hm : may put = true) (hne : ¬((cut : Int) = 0 ∧ put = [])) :
    Calls Try.prog 34 #[.pointer (some ⟨pt, 0, none⟩), .int .i64 at_, .int .i64 cut, .slice ax put.length cx] w fun e w' =>
      e = .returned (.int .i64 0) ∧ Tab w' B (Gr F w w') pt (spl s at_ cut put) ∧ Kpt F w w' := by
  have hh := hid h
  have Hwf := hid (h.wf.spl hf)
  have Hw := hid h.wf
  have hlen := h.wf.len
  have htot := h.wf.tot
  have hal := h.wf.a
  have hpl := hp.len
  have hcut : at_ + cut ≤ tot s.p ∧ put.length + (tot s.p - cut) ≤ 1000 ∧ s.a.length + put.length ≤ 20000 := hf
  obtain ⟨ao, co, aa, ca, ap, cp, c0, c1, c2, o0, o1, -, -, f1, -, -, -⟩ := h.cells
  have O1 := hid o1
  have hpt := (h.lt _ h.ptF).2
  have hBpt := (h.lt _ h.ptF).1
  have hFlt : Hid (∀ k, F k → k < w.heap.size) := fun k hk => (h.lt k hk).2
  have hw : wth (tot s.p) at_ cut = true := by simp [wth]; omega
  have F1 := hid f1
  have Hoff := hid hoff
  have g1 : ¬((put.length : Int) > 1000 - (tot s.p - cut)) := by omega
  have g2 : ¬((put.length : Int) > 20000 - s.a.length) := by omega
  have g3 : ((cut : Int) == 0 && (put.length : Int) == 0) = false := by
    rw [Bool.eq_false_iff]; intro hx; simp at hx; exact hne ⟨by omega, hx.2⟩
  have Hne := hid hne
  have C2 := hid c2
  have HFz := hid h.fz
  have HFpt := hid h.ptF
  have ptn : Hid (¬ Blk aa pt) := by rintro ⟨ad, ha, hb⟩; exact (f1 ad ha).2 hb
  have hst : Hid (spl s at_ cut put = ⟨s.o, s.a ++ put, grw (prt s.p 0 at_) s.a.length put.length ++ prt s.p (at_ + cut) (tot s.p)⟩) := rfl
  clear c0 c2 h hf o0 o1 f1 hoff hne
  go_enter Try.func34, Try.ntmps34
  go_wp2_with fail
  refine (len_t B F pt s _ hh.out).mono ?_
  rintro e w1 ⟨rfl, hb1⟩
  go_wp2_with fail
  refine (within_c _ _ _ _ (by omega)).mono ?_
  rintro e w' ⟨rfl, rfl⟩
  go_wp2_with fail
  refine (may_c _ _ _ _ (hp.bel hb1)).mono ?_
  rintro e w' ⟨rfl, rfl⟩
  have d1 : w1.cell? ⟨pt, 1, none⟩ = some (.slice aa s.a.length ca) := by rw [hb1.cell (p := ⟨pt, 1, none⟩) hpt]; exact c1
  have h1 := hh.out.bel hb1
  have hp1 := part_t B F pt s 0 at_ w1 h1 (by omega) (by omega)
  rw [show ((0 : Nat) : Int) = 0 from rfl] at hp1
  have HP1 := hid hp1
  clear hp1
  have hgd : ((cut : Int) == 0) = false ∨ (((cut : Int) == 0) = true ∧ ((put.length : Int) == 0) = false) := by
    by_cases h0 : (cut : Int) = 0
    · right; refine ⟨by simpa using h0, ?_⟩; rw [Bool.eq_false_iff]; intro hx; simp at hx; exact Hne.out ⟨h0, hx⟩
    · left; simpa using h0
  have hp2 := fun w2 (hx : Below w.heap.size w w2) => part_t B F pt s (at_ + cut) (tot s.p) w2 (hh.out.bel hx) (by omega) (by omega)
  simp only [Int.natCast_add] at hp2
  have HP2 := hid hp2
  clear hp2
  have hL0 := prt_len s.p 0 at_
  have hL1 := prt_len s.p (at_ + cut) (tot s.p)
  have hbd := hid (prt_bd Hw.out 0 at_)
  generalize prt s.p 0 at_ = P0 at hst HP1 hL0 hbd
  generalize prt s.p (at_ + cut) (tot s.p) = P1 at hst HP2 hL1
  rcases hgd with hgd | ⟨hgd, hgd2⟩
  all_goals
    go_wp2_with fail
    refine HP1.out.mono ?_
    rintro e w2 ⟨a2, c2, rfl, ho2, hb2⟩
    have HO2 := hid ho2
    clear ho2
    go_wp2_with fail
    refine (HP2.out _ (bthen hb1 hb2)).mono ?_
    rintro e w3 ⟨a3, c3, rfl, ho3, hb3⟩
    have HO3 := hid ho3
    have hz1 := hb1.size; have hz2 := hb2.size; have hz3 := hb3.size
    clear ho3
    go_wp2_with fail
    refine (grown_t B F pt s w1.heap.size a2 c2 P0 put.length _ (hh.out.bel (bthen hb1 (bthen hb2 hb3))) (HO2.out.grow hb3) (fun k hk => by have := hFlt.out k hk; omega) (by omega) (by omega) (by omega) hbd.out).mono ?_
    rintro e w4 ⟨a4, c4, L, rfl, HL, ho4, hb4, hk4⟩
    have hz4 := hb4.size
    have HO4 := hid ho4
    have Hk4 := hid hk4
    have hL4 : L.length ≤ 1001 := by rw [HL.out]; have := grw_len P0 s.a.length put.length; omega
    have hs3 : Hid (PSl w4 a3 P1) := (HO3.out.same fun ad ha hl => hk4.block _ hl (by
      rintro ⟨ae, hae, he⟩
      have x2 := pown_lt HO2.out ae hae
      have x3 := pown_ge HO3.out ad ha
      omega)).sl
    clear ho4 hk4
    go_wp2_with (first | ((at_builtin; (refine wpL_papp rfl (.tmp 65) (.tmp 66) rfl w.heap.size a4 a3 L.length P1.length c4 c3 L P1 rfl (by first | rfl | simp | omega) (HO4.out.base_le (by omega)) rfl (by first | rfl | simp | omega) hs3.out (by omega) (by omega) ?_); intro a5 c5 w5 L5 Hl5 ho5 hb5 hk5 hA5; have HA5 := hid hA5; clear hA5; have Ho5 := hid ho5; clear ho5; have Hk5 := hid hk5; clear hk5; have hz5 := hb5.size); have B5 : Below w.heap.size w w5 := ((bthen hb1 (bthen hb2 hb3)).trans (hb4.mono (by omega))).trans hb5; have k52 : w5.cell? ⟨pt, 2, none⟩ = some (.slice ap s.p.length cp) := (by rw [B5.cell (p := ⟨pt, 2, none⟩) hpt]; exact C2.out); have k51 : w5.cell? ⟨pt, 1, none⟩ = some (.slice aa s.a.length ca) := (by rw [B5.cell (p := ⟨pt, 1, none⟩) hpt]; exact c1); have f52 : w5.frozen? ⟨pt, 2, none⟩ = false := (by rw [B5.frozen (p := ⟨pt, 2, none⟩) hpt]; exact HFz.out 2); have f51 : w5.frozen? ⟨pt, 1, none⟩ = false := (by rw [B5.frozen (p := ⟨pt, 1, none⟩) hpt]; exact HFz.out 1)) | (at_builtin; refine wpL_appx rfl (.tmp 74) (.tmp 75) rfl B aa ax ca cx s.a put rfl (((O1.out.same fun ad ha hl => B5.block _ hl)).setOther _ _ fun ad ha => (F1.out ad ha).2) rfl (sl_off (hp.bel B5) Hoff.out HFpt.out) (by omega) (by simp; omega) ?_; intro a6 c6 w6 ho6 hk6 hb6 hat; have HO6 := hid ho6; have HK6 := hid hk6; have HA := hid hat; clear ho6 hat; have k61 : w6.cell? ⟨pt, 1, none⟩ = some (.slice aa s.a.length ca) := hk6.cell (by rw [World.cell?_setCell_other (h := by simp)]; exact k51) ptn.out; have f61 : w6.frozen? ⟨pt, 1, none⟩ = false := (by rw [hk6.frozen (p := ⟨pt, 1, none⟩) (by simp; omega) ptn.out, World.frozen?_setCell]; exact f51)))
    go_ret
    refine ⟨rfl, ?_⟩
    have e1 : spl s at_ cut put = ⟨s.o, s.a ++ put, L5⟩ := by rw [hst.out, Hl5.out, HL.out]
    have hwf := Hwf.out
    rw [e1] at hwf ⊢
    have t1 := hh.out.toTabM.setP hB B5 a5 c5 L5 Ho5.out
    have t2 := t1.1.setA (aa := aa) (ca := ca) (by rw [World.cell?_setCell_other (h := by simp)]; exact k51) HK6.out a6 c6 (s.a ++ put) HO6.out HA.out
    have t3 := tab_two t1.2 t2.1 t2.2 hwf
    simpa [List.length_append] using t3
set_option maxHeartbeats 2000000 in
theorem splice_none (B : Nat) (F : Nat → Prop) (pt : Nat) (s : St) (at_ : Nat) (ax : Option Addr) (cx : Nat) (w : World) (h : Tab w B F pt s) (hat : at_ ≤ tot s.p) :
    Calls Try.prog 34 #[.pointer (some ⟨pt, 0, none⟩), .int .i64 at_, .int .i64 0, .slice ax 0 cx] w fun e w' => e = .returned (.int .i64 0) ∧ Below w.heap.size w w' := by
  have hh := hid h
  have hlen := h.wf.len
  have htot := h.wf.tot
  have hal := h.wf.a
  obtain ⟨ao, co, aa, ca, ap, cp, c0, c1, c2, -⟩ := h.cells
  have hpt := (h.lt _ h.ptF).2
  have hw : wth (tot s.p) at_ 0 = true := by simp [wth]; omega
  have hm : may [] = true := rfl
  have hmc := fun w => may_c ax cx [] w (Sl.nil w ax)
  simp only [List.length_nil] at hmc
  have Hmc := hid hmc
  clear c0 c2 h hmc
  go_enter Try.func34, Try.ntmps34
  go_wp2_with (first | (go_at_call 37; (with_reducible refine (len_t B F pt s _ hh.out).mono ?_); rintro e w1 ⟨rfl, hb1⟩; have d1 : w1.cell? ⟨pt, 1, none⟩ = some (.slice aa s.a.length ca) := (by rw [hb1.cell (p := ⟨pt, 1, none⟩) hpt]; exact c1)) | (go_at_call 57; (with_reducible refine (within_c _ _ _ _ (by omega)).mono ?_); rintro e w' ⟨rfl, rfl⟩) | (go_at_call 31; (with_reducible refine (Hmc.out _).mono ?_); rintro e w' ⟨rfl, rfl⟩))
  go_ret
  exact ⟨rfl, hb1⟩
/-- a splice, whatever the numbers -/
theorem splice_t (B : Nat) (F : Nat → Prop) (pt : Nat) (s : St) (at_ cut : Int) (ax : Option Addr) (cx : Nat) (put : List Int) (w : World) (h : Tab w B F pt s) (hB : B ≤ w.heap.size) (hp : Sl w ax put) (hoff : put = [] ∨ Off ax F)
    (hc : -9223372036854775808 ≤ cut ∧ cut ≤ 9223372036854775807) :
    Calls Try.prog 34 #[.pointer (some ⟨pt, 0, none⟩), .int .i64 at_, .int .i64 cut, .slice ax put.length cx] w (Spliced w B F pt s at_ cut put) := by
  by_cases hb : splE s at_ cut put = 0
  · have hw : wth (tot s.p) at_ cut = true := by
      cases hw : wth (tot s.p) at_ cut with
      | true => rfl
      | false => rw [splE_wth hw] at hb; simp at hb
    have hm : may put = true := by
      cases hm : may put with
      | true => rfl
      | false => rw [splE_may hw hm] at hb; simp at hb
    have ho : ovr s cut put = false := by
      cases ho : ovr s cut put with
      | false => rfl
      | true => rw [splE_ovr hw hm ho] at hb; simp at hb
    simp only [wth, decide_eq_true_eq] at hw
    simp only [ovr, decide_eq_false_iff_not] at ho
    obtain ⟨a, rfl⟩ := Int.eq_ofNat_of_zero_le hw.1
    obtain ⟨c, rfl⟩ := Int.eq_ofNat_of_zero_le hw.2.2.1
    by_cases hne : (c : Int) = 0 ∧ put = []
    · have hs : splS s a c put = s := by simp [splS, hne]
      obtain ⟨h1, rfl⟩ := hne
      obtain rfl : c = 0 := by omega
      refine (splice_none B F pt s a ax cx w h (by omega)).mono ?_
      rintro e w' ⟨rfl, hbl⟩
      exact ⟨by rw [hb], by rw [hs]; exact h.gr hB hbl, Kpt.of hbl⟩
    · have hs : splS s a c put = spl s a c put := by simp [splS, hb]; intro h1 h2; exact absurd ⟨by omega, h2⟩ hne
      refine (splice_yes B F pt s a c ax cx put w h hB hp hoff ⟨by omega, by omega, by omega⟩ hm hne).mono ?_
      rintro e w' ⟨rfl, ht, hk⟩
      exact ⟨by rw [hb], by rw [hs]; exact ht, hk⟩
  · exact splice_bad B F pt s at_ cut ax cx put w h hB hp hc hb
end Go.Proofs.Ytcekoifbgfeahaa
