/- The document's own table: Splice, accepted. -/
import Derived.Test.YtcekoifbgfeahaaRv
namespace Go.Proofs.Ytcekoifbgfeahaa
open Go.RowKit

theorem rsp_fin {w w2 w3 w5 : World} {B : Nat} {F G : Nat → Prop} {pt : Nat} {s : St} {aa a5 a7 : Option Addr} {ca k5 c7 : Nat} {J : List Int} {p' : List Pc} (hh : Tab w B F pt s) (hB : B ≤ w.heap.size) (hB2 : Below w.heap.size w w2)
    (d1 : w2.cell? ⟨pt, 1, none⟩ = some (.slice aa s.a.length ca)) (hoJ : Own w3 w2.heap.size a5 k5 J) (hb3 : Below w2.heap.size w2 w3)
    (hk : Kpt G (w3.setCell ⟨pt, 1, none⟩ (.slice a5 J.length k5)) w5) (hG : ∀ k, G k → w.heap.size ≤ k ∧ k < w2.heap.size) (o5 : POwn w5 w.heap.size a7 c7 p') (n7 : ∀ ad, a7 = some ad → ad.block < w2.heap.size ∨ w3.heap.size ≤ ad.block)
    (hwf : Wf ⟨s.o, J, p'⟩) :
    Tab (w5.setCell ⟨pt, 2, none⟩ (.slice a7 p'.length c7)) B (Gr F w (w5.setCell ⟨pt, 2, none⟩ (.slice a7 p'.length c7))) pt ⟨s.o, J, p'⟩ ∧ Kpt F w (w5.setCell ⟨pt, 2, none⟩ (.slice a7 p'.length c7)) := by
  have z2 := hB2.size
  have z3 := hb3.size
  have z5 := hk.size
  rw [World.size_setCell] at z5
  have t1 := (hh.toTabM.bel hB2).setA d1 (Kpt.of hb3) a5 k5 J (hoJ.base_le (by omega)) (fun ad h => .inr (own_ge hoJ ad h))
  have hd : Dis (Gr F w2 (w3.setCell ⟨pt, 1, none⟩ (.slice a5 J.length k5))) G := by
    rintro k (hf | hf) hg
    · have := (hh.lt k hf).2; have := (hG k hg).1; omega
    · have := hf.1; have := (hG k hg).2; omega
  have t2 := t1.1.setPg hk hd a7 c7 p' (o5.base_le hB) (by
    rintro ad ha (hf | hf)
    · have := (hh.lt _ hf).2; have := pown_ge o5 ad ha; omega
    · have h1 := hf.1; have h2 := hf.2; rw [World.size_setCell] at h2; have := n7 ad ha; omega)
  refine ⟨⟨t2.1.more ?_ ?_, hwf⟩, ((Kpt.of hB2).tr t1.2).to t2.2 ?_⟩
  · rintro k ((hf | hf) | ⟨ad, ha, rfl⟩)
    · exact .inl hf
    · refine .inr ⟨by have := hf.1; omega, ?_⟩
      have := hf.2; rw [World.size_setCell] at this ⊢; omega
    · refine .inr ⟨pown_ge o5 ad ha, ?_⟩
      rw [World.size_setCell]; exact pown_lt o5 ad ha
  · rintro k (hf | hf)
    · refine ⟨(hh.lt k hf).1, ?_⟩; have := (hh.lt k hf).2; rw [World.size_setCell]; omega
    · exact ⟨by have := hf.1; omega, hf.2⟩
  · rintro k hk' ((hf | hf) | hg)
    · exact hf
    · have := hf.1; omega
    · have := (hG k hg).1; omega

theorem Kpt.at {a a' : Option Addr} {V u w w' : World} (h : Kpt (Blk a) V w) (hat : At u a a') (hu : V.heap.size ≤ u.heap.size) (k : Kpt (Blk a') w w') : Kpt (Blk a) V w' :=
  h.to k (fun x hx hb => by
    obtain ⟨ad, ha, rfl⟩ := hb
    rcases hat ad ha with hb | hb
    · exact hb
    · omega)
theorem At.tr {a a' b : Option Addr} {u v : World} {X : Nat} (h1 : At u a a') (h2 : At v a' b) (hu : X ≤ u.heap.size) (hv : X ≤ v.heap.size) : ∀ ad, b = some ad → Blk a ad.block ∨ X ≤ ad.block := by
  intro ad ha
  rcases h2 ad ha with ⟨ae, hae, he⟩ | hb
  · rcases h1 ae hae with hb | hb
    · rw [← he]; exact .inl hb
    · right; omega
  · right; omega

set_option maxHeartbeats 8000000 in
theorem rsplice_yes (B : Nat) (F : Nat → Prop) (pt : Nat) (s : St) (at_ cut : Nat) (ax : Option Addr) (cx : Nat) (put : List Int) (w : World) (h : Tab w B F pt s) (hB : B ≤ w.heap.size) (hp : Sl w ax put)
    (hf : fits s at_ cut put) (hm : may put = true) (hne : ¬((cut : Int) = 0 ∧ put = [])) :
    Calls Try.prog 46 #[.pointer (some ⟨pt, 0, none⟩), .int .i64 at_, .int .i64 cut, .slice ax put.length cx] w fun e w' =>
      e = .returned (.int .i64 0) ∧ Tab w' B (Gr F w w') pt (spl s at_ cut put) ∧ Kpt F w w' := by
  have hh := hid h
  have Hwf := hid (h.wf.spl hf)
  have Hw := hid h.wf
  have hlen := h.wf.len
  have htot := h.wf.tot
  have hal := h.wf.a
  have hpl := hp.len
  have hcut : at_ + cut ≤ tot s.p ∧ put.length + (tot s.p - cut) ≤ 1000 ∧ s.a.length + put.length ≤ 20000 := hf
  obtain ⟨ao, co, aa, ca, ap, cp, c0, c1, c2, o0, o1, o2, -, f1, -, -, -⟩ := h.cells
  have O1 := hid o1
  have O2 := hid o2.sl
  have hpt := (h.lt _ h.ptF).2
  have hBpt := (h.lt _ h.ptF).1
  have hFlt : Hid (∀ k, F k → k < w.heap.size) := fun k hk => (h.lt k hk).2
  have hw : wth (tot s.p) at_ cut = true := by simp [wth]; omega
  have HFz := hid h.fz
  have ptn : Hid (¬ Blk aa pt) := by rintro ⟨ad, ha, hb⟩; exact (f1 ad ha).2 hb
  have F1 : Hid (∀ k, Blk aa k → F k) := by rintro k ⟨ad, ha, rfl⟩; exact (f1 ad ha).1
  have C2 := hid c2
  have Hne := hid hne
  have hst : Hid (spl s at_ cut put = ⟨s.o, s.a ++ put, grw (prt s.p 0 at_) s.a.length put.length ++ pst2 (pst2 s.p at_) cut⟩) := by
    rw [Hid, pst2_pst2, ← prt_post s.p (at_ + cut) (tot s.p) (Nat.le_refl _)]; rfl
  have hbd0 : Hid (∀ q ∈ s.p, q.fr ≤ 100000 ∧ q.n ≤ 100000 ∧ 1 ≤ q.n) := fun q hq => by have := Hw.out.fr hq; omega
  have hR := prt_post s.p at_ (tot s.p) (Nat.le_refl _)
  have hbdR : Hid (∀ q ∈ pst2 s.p at_, q.fr ≤ 100000 ∧ q.n ≤ 100000 ∧ 1 ≤ q.n) := fun q hq => by
    rw [← hR] at hq
    have h1 := prt_bd Hw.out at_ (tot s.p) q hq
    have h2 := prt_lies Hw.out.lies at_ (tot s.p) q hq
    omega
  have hRl := pst2_len s.p at_
  have hRt : tot (pst2 s.p at_) ≤ 1000 := by rw [← hR, prt_tot Hw.out.lies]; omega
  have hPl := prt_len s.p 0 at_
  have hQl := pst2_len (pst2 s.p at_) cut
  have hbdP := hid (prt_bd Hw.out 0 at_)
  have e1 : decide (1000 - ((tot s.p : Int) - cut) < (put.length : Int)) = false := by simp; omega
  have e2 : decide (20000 - (s.a.length : Int) < (put.length : Int)) = false := by simp; omega
  have hgd : ((cut : Int) == 0) = false ∨ (((cut : Int) == 0) = true ∧ ((put.length : Int) == 0) = false) := by
    by_cases h0 : (cut : Int) = 0
    · right; refine ⟨by simpa using h0, ?_⟩; rw [Bool.eq_false_iff]; intro hx; simp at hx; exact Hne.out ⟨h0, hx⟩
    · left; simpa using h0
  have hS1 := split_c ap cp s.p at_ w O2.out (by omega) (by omega) (by omega) hbd0.out
  have HS1 := hid hS1
  clear c0 h hf o0 o1 o2 f1 hne hR hS1
  generalize prt s.p 0 at_ = P0 at hst hPl hbdP HS1
  generalize pst2 s.p at_ = R at hst hbdR hRl hRt HS1 hQl
  generalize hQ : pst2 R cut = Q at hst hQl
  have HQ := hid hQ
  clear hQ
  go_enter Try.func46, Try.ntmps46
  go_wp2_with fail
  refine (rlen_t B F pt s _ hh.out).mono ?_
  rintro e w' ⟨rfl, rfl⟩
  go_wp2_with fail
  refine (rwithin_c _ _ _ _ (by omega)).mono ?_
  rintro e w' ⟨rfl, rfl⟩
  go_wp2_with fail
  refine (rmay_c _ _ _ _ hp).mono ?_
  rintro e w' ⟨rfl, rfl⟩
  rcases hgd with hgd | ⟨hgd, hgd2⟩
  all_goals
    go_wp2_with fail
    refine HS1.out.mono ?_
    rintro e w1 ⟨a1, k1, a2, k2, rfl, hoA, hoR, hb1⟩
    have HoA := hid hoA
    have hS2 := split_c a2 k2 R cut w1 hoR.sl (by omega) (by omega) (by omega) hbdR.out
    rw [HQ.out] at hS2
    have HS2 := hid hS2
    have hz1 := hb1.size
    clear hoA hoR hS2
    go_wp2_with fail
    refine HS2.out.mono ?_
    rintro e w2 ⟨a3, k3, a4, k4, rfl, -, hoB, hb2⟩
    have HoB := hid hoB
    have HB2 := hid (bthen hb1 hb2)
    have hz2 := hb2.size
    have d1 : w2.cell? ⟨pt, 1, none⟩ = some (.slice aa s.a.length ca) := by rw [HB2.out.cell (p := ⟨pt, 1, none⟩) hpt]; exact c1
    clear hoB
    go_wp2_with fail
    have HJ := hid (join_c aa ax ca cx s.a put w2 (O1.out.sl.bel HB2.out) (hp.bel HB2.out) (by omega))
    generalize hJ : s.a ++ put = J at HJ hst ⊢
    have HJe := hid hJ
    clear hJ
    refine HJ.out.mono ?_
    rintro e w3 ⟨a5, k5, rfl, hoJ, hb3⟩
    have HoJ := hid hoJ
    have hz3 := hb3.size
    have HB3 := hid (bthen HB2.out hb3)
    have m1 : w3.cell? ⟨pt, 1, none⟩ = some (.slice aa s.a.length ca) := by rw [HB3.out.cell (p := ⟨pt, 1, none⟩) hpt]; exact c1
    have m2 : w3.cell? ⟨pt, 2, none⟩ = some (.slice ap s.p.length cp) := by rw [HB3.out.cell (p := ⟨pt, 2, none⟩) hpt]; exact C2.out
    have mf1 : w3.frozen? ⟨pt, 1, none⟩ = false := by rw [HB3.out.frozen (p := ⟨pt, 1, none⟩) hpt]; exact HFz.out 1
    have mf2 : w3.frozen? ⟨pt, 2, none⟩ = false := by rw [HB3.out.frozen (p := ⟨pt, 2, none⟩) hpt]; exact HFz.out 2
    clear hoJ
    have HoA3 : Hid (POwn (w3.setCell ⟨pt, 1, none⟩ (.slice a5 J.length k5)) w.heap.size a1 k1 P0) := ((HoA.out.grow hb2).grow hb3).setOther _ _ fun ad ha he => by have := pown_ge HoA.out ad ha; simp at he; omega
    have K3 : Hid (Kpt (fun k => k < w1.heap.size) w2 (w3.setCell ⟨pt, 1, none⟩ (.slice a5 J.length k5))) := (Kpt.of hb3).setCell (by simp; omega) _
    have S4 : Hid (∀ w', Kpt (fun k => k < w1.heap.size) w2 w' → PSl w' a4 Q) := fun w' hk => (HoB.out.same fun ad ha hl => hk.block _ hl (by have := pown_ge HoB.out ad ha; omega)).sl
    have B1 : Hid (∀ k, Blk a1 k → w.heap.size ≤ k ∧ k < w1.heap.size) := by rintro k ⟨ad, ha, rfl⟩; exact ⟨pown_ge HoA.out ad ha, pown_lt HoA.out ad ha⟩
    have pt1 : Hid (¬ Blk a1 pt) := fun hb => by have := (B1.out pt hb).1; omega
    have n2 : Hid (∀ w', Kpt (Blk a1) (w3.setCell ⟨pt, 1, none⟩ (.slice a5 J.length k5)) w' → w'.cell? ⟨pt, 2, none⟩ = some (.slice ap s.p.length cp) ∧ w'.frozen? ⟨pt, 2, none⟩ = false) := fun w' hk =>
      ⟨hk.cell (by rw [World.cell?_setCell_other (h := by simp)]; exact m2) pt1.out, by rw [hk.frozen (p := ⟨pt, 2, none⟩) (by simp; omega) pt1.out, World.frozen?_setCell]; exact mf2⟩
    have fin : Hid (∀ w5 a7 c7 L, L = grw P0 s.a.length put.length ++ Q → Kpt (Blk a1) (w3.setCell ⟨pt, 1, none⟩ (.slice a5 J.length k5)) w5 → POwn w5 w.heap.size a7 c7 L → (∀ ad, a7 = some ad → Blk a1 ad.block ∨ w3.heap.size ≤ ad.block) →
        Tab (w5.setCell ⟨pt, 2, none⟩ (.slice a7 L.length c7)) B (Gr F w (w5.setCell ⟨pt, 2, none⟩ (.slice a7 L.length c7))) pt (spl s at_ cut put) ∧ Kpt F w (w5.setCell ⟨pt, 2, none⟩ (.slice a7 L.length c7))) := by
      intro w5 a7 c7 L hL hk ho hn
      have hs := hst.out
      rw [← hL] at hs
      have hwf := Hwf.out
      rw [hs] at hwf ⊢
      exact rsp_fin hh.out hB HB2.out d1 HoJ.out hb3 hk (fun k hb => by have := B1.out k hb; omega) ho (fun ad ha => (hn ad ha).imp (fun hb => by have := B1.out _ hb; omega) id) hwf
    have HB23 := hid (bthen hb2 hb3)
    clear hb3 hb2 hb1
    by_cases hp0 : put.length = 0
    · try (simp [hp0] at hgd2; done)
      all_goals
        have hpz : ((put.length : Int) == 0) = true := by simp [hp0]
        have hg0 : Hid (grw P0 s.a.length put.length = P0) := by simp [Hid, grw, hp0]
        have Hp0 := hid hp0
        clear hp0
        go_wp2_with ((at_builtin; (refine wpL_papp rfl (.tmp 136) (.tmp 137) rfl w.heap.size a1 a4 P0.length Q.length k1 k4 P0 Q rfl (by first | rfl | simp | omega) HoA3.out rfl (by first | rfl | simp | omega) (S4.out _ K3.out) (by omega) (by simp; omega) ?_); intro a7 c7 w7 L7 Hl7 ho7 hb7 hk7 hA7; have HA7 := hid hA7; clear hA7; have Ho7 := hid ho7; clear ho7; have Hk7 := hid hk7; clear hk7; have hz7 := hb7.size); obtain ⟨x2, xf2⟩ := n2.out _ Hk7.out)
        go_ret
        exact ⟨rfl, fin.out _ _ _ _ (by rw [Hl7.out, hg0.out]) Hk7.out Ho7.out (fun ad ha => (HA7.out ad ha).imp id (fun h => by simpa using h))⟩
    · have hpz : ((put.length : Int) == 0) = false := by simp [hp0]
      have Hp0 := hid hp0
      have hpp : pcv ⟨true, s.a.length, put.length⟩ = [.bool true, .int .i64 s.a.length, .int .i64 put.length] := rfl
      have Hpp := hid hpp
      clear hp0 hpp
      rcases Nat.eq_zero_or_pos P0.length with hk0 | hk0
      · have hP0 : P0 = [] := by simpa using hk0
        have hg0 : Hid (grw P0 s.a.length put.length = P0 ++ [⟨true, s.a.length, put.length⟩]) := by rw [Hid, hP0, grw_nil _ _ Hp0.out]; rfl
        have Hk0 := hid hk0
        clear hP0
        go_wp2
        go_region
        go_wp2_with (first | ((at_builtin; (refine wpL_papp rfl (.tmp 87) (.tmp 92) rfl w.heap.size a1 (some ⟨w3.heap.size, 0, none⟩) 0 1 k1 1 P0 [⟨true, s.a.length, put.length⟩] rfl (by first | rfl | simp | omega) (HoA3.out.grow (by (repeat' (first | exact Below.refl _ _ | assumption | refine bdrewN ?_ _ | refine Below.drew ?_ | refine bal ?_ _ | refine bthen ?_ (by assumption))))) rfl (by first | rfl | simp | omega) (PSl.drew (PSl.lit' _ _ _ _ (by simp) _ (by rw [Hpp.out]))) (by simp; omega) (by simp; omega) ?_); intro a6 c6 w6 L6 Hl6 ho6 hb6 hk6 hA6; have HA6 := hid hA6; clear hA6; have Ho6 := hid ho6; clear ho6; have Hk6 := hid hk6; clear hk6; have hz6 := hb6.size); have K6 := hid ((((Kpt.refl (Blk a1) (w3.setCell ⟨pt, 1, none⟩ (.slice a5 J.length k5))).alloc _).drew).tr Hk6.out)) | ((at_builtin; (refine wpL_papp rfl (.tmp 136) (.tmp 137) rfl w.heap.size a6 a4 L6.length Q.length c6 k4 L6 Q rfl (by first | rfl | simp | omega) Ho6.out rfl (by first | rfl | simp | omega) (S4.out _ (K3.out.tr (K6.out.mono fun k hb => (B1.out k hb).2))) (by rw [Hl6.out]; simp; omega) (by have := K6.out.size; simp at this; omega) ?_); intro a7 c7 w7 L7 Hl7 ho7 hb7 hk7 hA7; have HA7 := hid hA7; clear hA7; have Ho7 := hid ho7; clear ho7; have Hk7 := hid hk7; clear hk7; have hz7 := hb7.size); have K7 := hid (K6.out.at HA6.out (by simp) Hk7.out); obtain ⟨x2, xf2⟩ := n2.out _ K7.out))
        go_ret
        exact ⟨rfl, fin.out _ _ _ _ (by rw [Hl7.out, Hl6.out, hg0.out]) K7.out Ho7.out (At.tr HA6.out HA7.out (by simp) (by have := K6.out.size; simp at this; omega))⟩
      · obtain ⟨k, hk2⟩ : ∃ k, P0.length = k + 1 := ⟨P0.length - 1, by omega⟩
        clear hk0
        have Hk2 := hid hk2
        obtain ⟨g, hg, hgb, hgl, hgc⟩ : ∃ g, a1 = some ⟨g, 0, none⟩ ∧ w.heap.size ≤ g ∧ g < w1.heap.size ∧ P0.length ≤ k1 := by
          rcases HoA.out.shape with ⟨_, _, h0⟩ | ⟨g, h0, h1, h2, h3⟩
          · rw [h0] at hk2; simp at hk2
          · exact ⟨g, h0, h1, h2, h3⟩
        subst hg
        obtain ⟨b', o', he, hc⟩ := ((HoA.out.grow HB23.out).sl).at (i := k) (by omega)
        simp only [Option.some.injEq, Addr.mk.injEq, and_true] at he
        obtain ⟨rfl, rfl⟩ := he
        obtain ⟨q0, q1, q2⟩ := hc k (by omega)
        simp only [Nat.zero_add] at q0 q1 q2
        have hr := hbdP.out _ (pg_mem (l := P0) (i := k) (by omega))
        have Hg := hid (grw_last hk2 s.a.length put.length Hp0.out)
        have hgp : ¬ g = pt := by omega
        have hpg : ¬ pt = g := by omega
        have hfr := ((HoA.out.grow HB23.out).free (k * 3 + 2))
        clear hc
        cases hadd : (pg P0 k).add with
        | false =>
          rw [hadd] at q0
          have hg0 : Hid (grw P0 s.a.length put.length = P0 ++ [⟨true, s.a.length, put.length⟩]) := by rw [Hid, Hg.out, if_neg (by simp [hadd])]
          clear hadd
          go_wp2
          go_region
          go_wp2_with (first | ((at_builtin; (refine wpL_papp rfl (.tmp 87) (.tmp 92) rfl w.heap.size (some ⟨g, 0, none⟩) (some ⟨w3.heap.size, 0, none⟩) _ 1 k1 1 P0 [⟨true, s.a.length, put.length⟩] rfl (by first | rfl | simp | omega) (HoA3.out.grow (by (repeat' (first | exact Below.refl _ _ | assumption | refine bdrewN ?_ _ | refine Below.drew ?_ | refine bal ?_ _ | refine bthen ?_ (by assumption))))) rfl (by first | rfl | simp | omega) (PSl.drew (PSl.lit' _ _ _ _ (by simp) _ (by rw [Hpp.out]))) (by simp; omega) (by simp; omega) ?_); intro a6 c6 w6 L6 Hl6 ho6 hb6 hk6 hA6; have HA6 := hid hA6; clear hA6; have Ho6 := hid ho6; clear ho6; have Hk6 := hid hk6; clear hk6; have hz6 := hb6.size); have K6 := hid ((((Kpt.refl (Blk (some ⟨g, 0, none⟩)) (w3.setCell ⟨pt, 1, none⟩ (.slice a5 J.length k5))).alloc _).drew).tr Hk6.out)) | ((at_builtin; (refine wpL_papp rfl (.tmp 136) (.tmp 137) rfl w.heap.size a6 a4 L6.length Q.length c6 k4 L6 Q rfl (by first | rfl | simp | omega) Ho6.out rfl (by first | rfl | simp | omega) (S4.out _ (K3.out.tr (K6.out.mono fun k hb => (B1.out k hb).2))) (by rw [Hl6.out]; simp; omega) (by have := K6.out.size; simp at this; omega) ?_); intro a7 c7 w7 L7 Hl7 ho7 hb7 hk7 hA7; have HA7 := hid hA7; clear hA7; have Ho7 := hid ho7; clear ho7; have Hk7 := hid hk7; clear hk7; have hz7 := hb7.size); have K7 := hid (K6.out.at HA6.out (by simp) Hk7.out); obtain ⟨x2, xf2⟩ := n2.out _ K7.out))
          go_ret
          exact ⟨rfl, fin.out _ _ _ _ (by rw [Hl7.out, Hl6.out, hg0.out]) K7.out Ho7.out (At.tr HA6.out HA7.out (by simp) (by have := K6.out.size; simp at this; omega))⟩
        | true =>
          rw [hadd] at q0
          have Hadd := hid hadd; clear hadd
          by_cases he : (pg P0 k).fr + (pg P0 k).n = s.a.length
          · have heq : (((pg P0 k).fr : Int) + ((pg P0 k).n : Int) == (s.a.length : Int)) = true := by simp; omega
            have hg0 : Hid (grw P0 s.a.length put.length = P0.set k ⟨true, (pg P0 k).fr, (pg P0 k).n + put.length⟩) := by rw [Hid, Hg.out, if_pos ⟨Hadd.out, he⟩]
            clear he
            go_wp2
            go_region
            have K4 := hid ((Kpt.refl (Blk (some ⟨g, 0, none⟩)) (w3.setCell ⟨pt, 1, none⟩ (.slice a5 J.length k5))).setCell (p := ⟨g, k * 3 + 2, none⟩) ⟨_, rfl, rfl⟩ (.int .i64 (((pg P0 k).n : Int) + (put.length : Int))))
            have O4 : Hid (POwn ((w3.setCell ⟨pt, 1, none⟩ (.slice a5 J.length k5)).setCell ⟨g, k * 3 + 2, none⟩ (.int .i64 (((pg P0 k).n : Int) + (put.length : Int)))) w.heap.size (some ⟨g, 0, none⟩) k1 (P0.set k ⟨true, (pg P0 k).fr, (pg P0 k).n + put.length⟩)) := by
              have := HoA3.out.storedN (i := k) (by have := Hk2.out; omega) ((pg P0 k).n + put.length)
              rw [Hadd.out] at this; exact this
            have hsl : (P0.set k ⟨true, (pg P0 k).fr, (pg P0 k).n + put.length⟩).length = P0.length := by simp
            generalize P0.set k ⟨true, (pg P0 k).fr, (pg P0 k).n + put.length⟩ = P4 at hg0 O4 hsl
            go_wp2_with ((at_builtin; (refine wpL_papp rfl (.tmp 136) (.tmp 137) rfl w.heap.size (some ⟨g, 0, none⟩) a4 _ Q.length k1 k4 P4 Q rfl (by first | rfl | simp | omega) O4.out.drew rfl (by first | rfl | simp | omega) (S4.out _ (K3.out.tr (K4.out.drew.mono fun k hb => (B1.out k hb).2))) (by omega) (by simp; omega) ?_); intro a7 c7 w7 L7 Hl7 ho7 hb7 hk7 hA7; have HA7 := hid hA7; clear hA7; have Ho7 := hid ho7; clear ho7; have Hk7 := hid hk7; clear hk7; have hz7 := hb7.size); have K7 := hid (K4.out.drew.tr Hk7.out); obtain ⟨x2, xf2⟩ := n2.out _ K7.out)
            go_ret
            exact ⟨rfl, fin.out _ _ _ _ (by rw [Hl7.out, hg0.out]) K7.out Ho7.out (fun ad ha => (HA7.out ad ha).imp id (fun h => by simpa using h))⟩
          · have heq : (((pg P0 k).fr : Int) + ((pg P0 k).n : Int) == (s.a.length : Int)) = false := by simp; omega
            have hg0 : Hid (grw P0 s.a.length put.length = P0 ++ [⟨true, s.a.length, put.length⟩]) := by rw [Hid, Hg.out, if_neg (fun h => he h.2)]
            clear he
            go_wp2
            go_region
            go_wp2_with (first | ((at_builtin; (refine wpL_papp rfl (.tmp 87) (.tmp 92) rfl w.heap.size (some ⟨g, 0, none⟩) (some ⟨w3.heap.size, 0, none⟩) _ 1 k1 1 P0 [⟨true, s.a.length, put.length⟩] rfl (by first | rfl | simp | omega) (HoA3.out.grow (by (repeat' (first | exact Below.refl _ _ | assumption | refine bdrewN ?_ _ | refine Below.drew ?_ | refine bal ?_ _ | refine bthen ?_ (by assumption))))) rfl (by first | rfl | simp | omega) (PSl.drew (PSl.lit' _ _ _ _ (by simp) _ (by rw [Hpp.out]))) (by simp; omega) (by simp; omega) ?_); intro a6 c6 w6 L6 Hl6 ho6 hb6 hk6 hA6; have HA6 := hid hA6; clear hA6; have Ho6 := hid ho6; clear ho6; have Hk6 := hid hk6; clear hk6; have hz6 := hb6.size); have K6 := hid ((((Kpt.refl (Blk (some ⟨g, 0, none⟩)) (w3.setCell ⟨pt, 1, none⟩ (.slice a5 J.length k5))).alloc _).drew).tr Hk6.out)) | ((at_builtin; (refine wpL_papp rfl (.tmp 136) (.tmp 137) rfl w.heap.size a6 a4 L6.length Q.length c6 k4 L6 Q rfl (by first | rfl | simp | omega) Ho6.out rfl (by first | rfl | simp | omega) (S4.out _ (K3.out.tr (K6.out.mono fun k hb => (B1.out k hb).2))) (by rw [Hl6.out]; simp; omega) (by have := K6.out.size; simp at this; omega) ?_); intro a7 c7 w7 L7 Hl7 ho7 hb7 hk7 hA7; have HA7 := hid hA7; clear hA7; have Ho7 := hid ho7; clear ho7; have Hk7 := hid hk7; clear hk7; have hz7 := hb7.size); have K7 := hid (K6.out.at HA6.out (by simp) Hk7.out); obtain ⟨x2, xf2⟩ := n2.out _ K7.out))
            go_ret
            exact ⟨rfl, fin.out _ _ _ _ (by rw [Hl7.out, Hl6.out, hg0.out]) K7.out Ho7.out (At.tr HA6.out HA7.out (by simp) (by have := K6.out.size; simp at this; omega))⟩
end Go.Proofs.Ytcekoifbgfeahaa
