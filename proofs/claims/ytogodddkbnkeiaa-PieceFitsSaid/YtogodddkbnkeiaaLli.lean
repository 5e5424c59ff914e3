/- Layer 3's law: PieceList. -/
import Derived.Test.YtogodddkbnkeiaaLv
import Derived.Test.YtogodddkbnkeiaaDeed
namespace Go.Proofs.Ytogodddkbnkeiaa
open Go.RowKit

theorem wth_not {n : Nat} {a c : Int} (h : wth n a c = true) : ∃ x y : Nat, a = x ∧ c = y ∧ x + y ≤ n := by
  simp only [wth, decide_eq_true_eq] at h
  obtain ⟨x, rfl⟩ := Int.eq_ofNat_of_zero_le h.1
  obtain ⟨y, rfl⟩ := Int.eq_ofNat_of_zero_le h.2.2.1
  exact ⟨x, y, rfl, rfl, by omega⟩
theorem splE_zero {s : St} {a c : Int} {put : List Int} (h : splE s a c put = 0) : wth (tot s.p) a c = true ∧ may put = true ∧ ovr s c put = false := by
  cases hw : wth (tot s.p) a c with
  | false => rw [splE_wth hw] at h; simp at h
  | true =>
    cases hm : may put with
    | false => rw [splE_may hw hm] at h; simp at h
    | true =>
      cases ho : ovr s c put with
      | true => rw [splE_ovr hw hm ho] at h; simp at h
      | false => exact ⟨rfl, rfl, rfl⟩
/-- an accepted splice is the plain list's -/
theorem splS_t {s : St} (hw : Wf s) {a c : Nat} {put : List Int} (h : splE s a c put = 0) : (splS s a c put).t = s.t.take a ++ put ++ s.t.drop (a + c) := by
  by_cases hne : (c : Int) = 0 ∧ put = []
  · obtain ⟨h1, rfl⟩ := hne
    obtain rfl : c = 0 := by omega
    simp [splS]
  · have : splS s a c put = spl s a c put := by
      simp only [splS, h, true_and]
      rw [if_pos hne]; simp
    rw [this, spl_txt hw]
theorem splS_wf {s : St} {w : World} {B : Nat} {F : Nat → Prop} {pt : Nat} (h : Tab w B F pt s) : Wf s := h.wf
theorem ovr_not {s : St} (hw : Wf s) {c : Nat} {put : List Int} (hc : c ≤ tot s.p) (h : ovr s c put = false) : put.length ≤ 1000 := by
  simp only [ovr, decide_eq_false_iff_not] at h
  have := hw.tot
  omega
theorem own_off {w w' : World} {base : Nat} {a : Option Addr} {c : Nat} {l : List Int} {F : Nat → Prop} (h : Own w base a c l) (ho : Off a F) : Off a (Gr F w w') := by
  intro ad ha hf
  rcases hf with hf | hf
  · exact ho ad ha hf
  · have := own_lt h ad ha; have := hf.1; omega
theorem own_kpt {w w' : World} {base : Nat} {a : Option Addr} {c : Nat} {l : List Int} {F : Nat → Prop} (h : Own w base a c l) (ho : Off a F) (hk : Kpt F w w') : Own w' base a c l :=
  h.same fun ad ha hl => hk.block _ hl (ho ad ha)

set_option maxRecDepth 100000 in
set_option maxHeartbeats 8000000 in
theorem list_walk (a0 a1 : Option Addr) (c0 c1 n : Nat) (l : List Int) (f : Nat → Dd) (W : World) (hl : Sl W a0 l) (hc : l.length ≤ c0) (hd : Dds W a1 n f) (_hn : n ≤ 35184372087808) :
    Calls Try.prog 5 #[.slice a0 l.length c0, .slice a1 n c1] W fun e w' => e = .returned (.bool true) ∧ Below W.heap.size W w' := by
  have Hd := hid hd
  clear hd
  go_enter Try.func5, Try.ntmps5
  go_wp2_with fail
  refine (cut_c a0 c0 l 300 W hl hc (by omega)).mono ?_
  rintro e w' ⟨a2, c2, L1, rfl, HL1, s1, hc1, rfl⟩
  have hL1 : L1.length ≤ 300 := by rw [HL1.out, List.length_take]; omega
  go_wp2_with fail
  refine (clean_c a2 c2 L1 _ s1).mono ?_
  rintro e w1 ⟨a3, c3, rfl, ho2, hb1⟩
  have hS := cln_may L1
  have hSl := cln_len L1
  generalize cln L1 = S at ho2 hS hSl ⊢
  have HoS := hid ho2
  have hSl3 : S.length ≤ 300 := by omega
  have HmS := hid hS
  have B1 := hid hb1
  clear ho2 s1 hl HL1 hL1 hSl hc1 hS hb1
  go_wp2_with fail
  refine (new_t a3 c3 S w1 HoS.out.sl HmS.out (by omega)).mono ?_
  rintro e w2 ⟨pt, rfl, ht, hb2⟩
  have hstart : Hid (Tab w2 w1.heap.size (New w1 w2) pt (st0 S) ∧ Own w2 W.heap.size a3 c3 S ∧ Off a3 (New w1 w2) ∧ Below W.heap.size W w2) :=
    ⟨ht, (HoS.out.grow hb2), (fun ad ha hf => by have := own_lt HoS.out ad ha; have := hf.1; omega), bthen B1.out hb2⟩
  clear ht hb2
  go_wp2
  go_loopw [0, 7] (fun sv i wr => ∃ (k : Nat) (F : Nat → Prop) (st : St) (aS : Option Addr) (cS : Nat) (Z : List Int), i = .int .i64 k ∧ k ≤ n ∧ sv = .slice aS Z.length cS ∧ Hid (Z = st.t) ∧ Hid (Tab wr w1.heap.size F pt st) ∧ Hid (Own wr W.heap.size aS cS Z) ∧ Hid (Off aS F) ∧ Below W.heap.size W wr) (fun _ i _ => n - (intOf i).toNat)
  case atStart => exact ⟨0, New w1 w2, st0 S, a3, c3, S, rfl, Nat.zero_le _, rfl, (st0_txt S).symm, hstart.out.1, hstart.out.2.1, hstart.out.2.2.1, hstart.out.2.2.2⟩
  case round =>
    obtain ⟨k, F, st, aS, cS, Z, rfl, hk, rfl, HZ, HT, HO, HF, hb⟩ := hrel
    by_cases hlt : k < n
    · by_cases h40 : k < 40
      · have hDW := Hd.out k hlt
        generalize f k = d at hDW
        have HDW := hid hDW
        have hD := hDW.bel hb
        clear hDW
        obtain ⟨b, off, rfl, x0, x1, x2, x3⟩ := hD.cells
        have hcutr := hD.cut
        have hatr := hD.at_
        have HD := hid hD
        have hput := hD.sl.len
        have hZt : Hid (Z.length = tot st.p) := by rw [Hid, HZ.out, St.t, txt_len HT.out.wf.lies]
        have hZl : Z.length ≤ 1000 := by rw [hZt.out]; exact HT.out.wf.tot
        have htot := HT.out.wf.tot
        have hle : w1.heap.size ≤ wr.heap.size := by have := HT.out.lt _ HT.out.ptF; omega
        have hbl := World.block_lt_of_cell? wr _ x0
        have hWle := hb.size
        have hBW : W.heap.size ≤ w1.heap.size := B1.out.size
        unfold ir at hcutr hatr
        clear hD
        go_wp2_with fail
        have hV : Hid (Tab (wr.alloc (.cells #[.int .i64 d.how, .int .i64 d.at_, .int .i64 d.cut, .slice d.pa d.put.length d.pc] 44)) w1.heap.size F pt st) := HT.out.bel (by (repeat' (first | exact Below.refl _ _ | assumption | refine bdrewN ?_ _ | refine Below.drew ?_ | refine bal ?_ _ | refine bthen ?_ (by assumption))))
        have hOV : Hid (Own (wr.alloc (.cells #[.int .i64 d.how, .int .i64 d.at_, .int .i64 d.cut, .slice d.pa d.put.length d.pc] 44)) W.heap.size aS cS Z) := HO.out.grow (by (repeat' (first | exact Below.refl _ _ | assumption | refine bdrewN ?_ _ | refine Below.drew ?_ | refine bal ?_ _ | refine bthen ?_ (by assumption))))
        have hbV : Below W.heap.size W (wr.alloc (.cells #[.int .i64 d.how, .int .i64 d.at_, .int .i64 d.cut, .slice d.pa d.put.length d.pc] 44)) := bal hb _
        have q0 : (wr.alloc (.cells #[.int .i64 d.how, .int .i64 d.at_, .int .i64 d.cut, .slice d.pa d.put.length d.pc] 44)).cell? ⟨wr.heap.size, 1, none⟩ = some (.int .i64 d.at_) ∧ (wr.alloc (.cells #[.int .i64 d.how, .int .i64 d.at_, .int .i64 d.cut, .slice d.pa d.put.length d.pc] 44)).cell? ⟨wr.heap.size, 2, none⟩ = some (.int .i64 d.cut) ∧ (wr.alloc (.cells #[.int .i64 d.how, .int .i64 d.at_, .int .i64 d.cut, .slice d.pa d.put.length d.pc] 44)).cell? ⟨wr.heap.size, 3, none⟩ = some (.slice d.pa d.put.length d.pc) := by simp
        have hsV : Sl (wr.alloc (.cells #[.int .i64 d.how, .int .i64 d.at_, .int .i64 d.cut, .slice d.pa d.put.length d.pc] 44)) d.pa d.put := HD.out.sl.alloc _
        have hNF : Hid (∀ i, F i → i < wr.heap.size) := fun i hi => (HT.out.lt i hi).2
        have hoffP : Hid (d.put = [] ∨ Off d.pa F) := by
          have hsW := HDW.out.sl
          rcases hsW.cells with h0 | ⟨pb, po, hpa, hpc⟩
          · exact .inl h0
          · by_cases h0 : d.put = []
            · exact .inl h0
            · right
              intro ad ha hf
              rw [hpa] at ha
              simp only [Option.some.injEq] at ha; subst ha
              have h1 := World.block_lt_of_cell? W _ (hpc 0 (List.length_pos_iff.2 h0))
              have h2 := (HT.out.lt _ hf).1
              simp at h1 h2; omega
        generalize wr.alloc (.cells #[.int .i64 d.how, .int .i64 d.at_, .int .i64 d.cut, .slice d.pa d.put.length d.pc] 44) = V at hV hOV hbV q0 hsV ⊢
        refine (splice_t w1.heap.size F pt st d.at_ d.cut d.pa d.pc d.put V hV.out (by have := hV.out.lt _ hV.out.ptF; omega) hsV hoffP.out hcutr).mono ?_
        rintro e w3 ⟨rfl, ht3, hk3⟩
        have hVs : wr.heap.size < V.heap.size := World.block_lt_of_cell? V _ q0.1
        have T3 := hid ht3
        have O3 : Hid (Own w3 W.heap.size aS cS Z) := own_kpt hOV.out HF.out hk3
        have F3 : Hid (Off aS (Gr F V w3)) := own_off hOV.out HF.out
        have hnf : ¬ F wr.heap.size := fun hf => by have := hNF.out _ hf; omega
        have y1 : w3.cell? ⟨wr.heap.size, 1, none⟩ = some (.int .i64 d.at_) := hk3.cell q0.1 hnf
        have y2 : w3.cell? ⟨wr.heap.size, 2, none⟩ = some (.int .i64 d.cut) := hk3.cell q0.2.1 hnf
        have y3 : w3.cell? ⟨wr.heap.size, 3, none⟩ = some (.slice d.pa d.put.length d.pc) := hk3.cell q0.2.2 hnf
        have hb3 : Below W.heap.size W w3 := hbV.trans (hk3.below (fun k hf => by have := (hV.out.lt k hf).1; omega) hbV.size)
        have hs3 : Hid (d.put = [] ∨ Sl w3 d.pa d.put) := hoffP.out.imp id (fun ho => hsV.kpt ho hk3)
        clear ht3 hk3 hV hOV hbV q0 hsV hnf
        by_cases he : splE st d.at_ d.cut d.put = 0
        · obtain ⟨hw, hm, ho⟩ := splE_zero he
          obtain ⟨x, y, hx, hy, hxy⟩ := wth_not hw
          rw [hy] at ho
          have hpl := ovr_not HT.out.wf (by omega) ho
          have hcapS : Z.length ≤ cS := by
            rcases O3.out.shape with ⟨_, _, h0⟩ | ⟨_, _, _, _, h0⟩
            · simp [h0]
            · exact h0
          have hsp3 : Sl w3 d.pa d.put := by
            rcases hs3.out with h0 | h0
            · rw [h0]; exact Sl.nil _ _
            · exact h0
          have hls := lsplice_c aS d.pa cS d.pc Z d.put x y w3 O3.out.sl hsp3 hcapS (by omega) (by omega) (by rw [hZt.out]; omega)
          have hZ2 : Z.take x ++ d.put ++ Z.drop (x + y) = (splS st d.at_ d.cut d.put).t := by
            rw [hx, hy] at he ⊢
            rw [splS_t HT.out.wf he, HZ.out]
          rw [hZ2] at hls
          rw [← hx, ← hy] at hls
          have hwZ : wth Z.length d.at_ d.cut = true := by rw [hZt.out]; exact hw
          generalize splS st d.at_ d.cut d.put = st' at T3 hls
          have htl : st'.t.length = tot st'.p := by rw [St.t, txt_len T3.out.wf.lies]
          have htot' := T3.out.wf.tot
          generalize hZ' : st'.t = Z' at hls htl
          have HZ' := hid hZ'
          have HLS := hid hls
          have Htl := hid htl
          have hZl' : Z'.length ≤ 1000 := by omega
          rw [he]
          clear hls hZ2 hsp3 he hw hm ho hx hy hxy hpl hZ' htl hcapS
          go_wp2_with fail
          refine (rwithin_c Z.length d.at_ d.cut w3 (by omega)).mono ?_
          rintro e w' ⟨rfl, rfl⟩
          rw [hwZ]
          go_wp2_with fail
          refine HLS.out.mono ?_
          rintro e w4 ⟨aS2, cS2, rfl, hoS, hb4⟩
          have HS4 := hid hoS
          have T4 := hid (T3.out.bel hb4)
          have B4 := bthen hb3 hb4
          have hz4 := hb4.size
          have F4 : Hid (Off aS2 (Gr F V w3)) := fun ad ha hf => by
            have h1 := own_ge HS4.out ad ha
            have h2 := (T3.out.lt _ hf).2
            omega
          clear hoS hb4
          go_wp2_with fail
          refine (text_t _ _ pt st' w4 T4.out).mono ?_
          rintro e w5 ⟨a5, c5, rfl, ho5, hb5⟩
          rw [HZ'.out] at ho5 ⊢
          have HO5 := hid ho5
          have T5 := hid (T4.out.bel hb5)
          have S5 := hid (HS4.out.grow hb5)
          have B5 := bthen B4 hb5
          clear ho5 hb5
          go_wp2_with fail
          refine (same_b a5 aS2 c5 cS2 Z' w5 HO5.out.sl S5.out.sl).mono ?_
          rintro e w6 ⟨rfl, hb6⟩
          have T6 := hid (T5.out.bel hb6)
          have S6 := hid (S5.out.grow hb6)
          have B6 := bthen B5 hb6
          clear hb6
          go_wp2_with fail
          refine (len_t _ _ pt st' w6 T6.out).mono ?_
          rintro e w7 ⟨rfl, hb7⟩
          rw [← Htl.out]
          have T7 := hid (T6.out.bel hb7)
          have S7 := hid (S6.out.grow hb7)
          have B7 := bthen B6 hb7
          clear hb7
          go_wp2
          go_round
          case rel => exact ⟨k + 1, _, st', aS2, cS2, Z', by go_num, by omega, rfl, HZ'.out.symm, T7, S7.out.base_le (by have := hb3.size; omega), F4, B7⟩
          case measure => simp [intOf]; omega
        · have hsame : Hid (splS st d.at_ d.cut d.put = st) := splS_bad he
          rw [hsame.out] at T3
          have hX : (splE st d.at_ d.cut d.put == 0) = false := by simpa using he
          generalize splE st d.at_ d.cut d.put = X at hX
          clear he
          go_wp2_with fail
          refine (text_t _ _ pt st w3 T3.out).mono ?_
          rintro e w4 ⟨a4, c4, rfl, ho4, hb4⟩
          rw [← HZ.out] at ho4 ⊢
          have HO4 := hid ho4
          have T4 := hid (T3.out.bel hb4)
          have O4 := hid (O3.out.grow hb4)
          have B4 := bthen hb3 hb4
          clear ho4 hb4
          go_wp2_with fail
          refine (same_b a4 aS c4 cS Z w4 HO4.out.sl O4.out.sl).mono ?_
          rintro e w5 ⟨rfl, hb5⟩
          have T5 := hid (T4.out.bel hb5)
          have O5 := hid (O4.out.grow hb5)
          have B5 := bthen B4 hb5
          clear hb5
          go_wp2_with fail
          refine (len_t _ _ pt st w5 T5.out).mono ?_
          rintro e w6 ⟨rfl, hb6⟩
          rw [← hZt.out]
          have T6 := hid (T5.out.bel hb6)
          have O6 := hid (O5.out.grow hb6)
          have B6 := bthen B5 hb6
          clear hb6
          go_wp2
          go_round
          case rel => exact ⟨k + 1, _, st, aS, cS, Z, by go_num, by omega, rfl, HZ, T6, O6, F3, B6⟩
          case measure => simp [intOf]; omega
      · go_wp2_with fail
        refine (known_c wr).mono ?_
        rintro e w11 ⟨rfl, hb11⟩
        go_wp2
        go_ret
        exact ⟨rfl, bthen hb hb11⟩
    · go_wp2_with fail
      refine (known_c wr).mono ?_
      rintro e w11 ⟨rfl, hb11⟩
      go_wp2
      go_ret
      exact ⟨rfl, bthen hb hb11⟩
end Go.Proofs.Ytogodddkbnkeiaa
