/- Layer 3's law: play. -/
import Derived.Test.YtcekoifbgfeahaaTabs
import Derived.Test.YtcekoifbgfeahaaDeed
namespace Go.Proofs.Ytcekoifbgfeahaa
open Go.RowKit

/-- what a round of play begins with -/
structure Rnd (W wr : World) (B n : Nat) (F G : Nat → Prop) (pt pr : Nat) (st : St) : Prop where
  T : Tab wr B F pt st
  R : Tab wr B G pr st
  D : Dis F G
  bel : Below W.heap.size W wr

set_option maxRecDepth 100000 in
set_option maxHeartbeats 16000000 in
theorem play_c (W : World) (B : Nat) (F0 G0 : Nat → Prop) (pt0 pr : Nat) (s0 : St) (a1 : Option Addr) (c1 n : Nat) (f : Nat → Dd) (w : World) (hBW : W.heap.size ≤ B) (hd : Dds W a1 n f) (_hn : n ≤ 35184372087808) (hpb : ∀ i, i < n → (f i).put.length ≤ 35184372087808) (hbw : Below W.heap.size W w)
    (ht : Tab w B F0 pt0 s0) (hr : Tab w B G0 pr s0) (hdis : Dis F0 G0) :
    Calls Try.prog 16 #[.pointer (some ⟨pt0, 0, none⟩), .pointer (some ⟨pr, 0, none⟩), .slice a1 n c1] w fun e w' => e = .returned (.bool true) ∧ Below W.heap.size W w' := by
  have Hd := hid hd
  have Hpb := hid hpb
  have hstart : Hid (Rnd W w B n F0 G0 pt0 pr s0) := ⟨ht, hr, hdis, hbw⟩
  clear hd hpb ht hr hdis hbw
  go_enter Try.func16, Try.ntmps16
  go_wp2
  go_loopg [0, 7] n (fun gg tv i wr => ∃ (k pt : Nat) (F G : Nat → Prop) (st : St), gg = n - k ∧ tv = .pointer (some ⟨pt, 0, none⟩) ∧ i = .int .i64 k ∧ k ≤ n ∧ Hid (Rnd W wr B n F G pt pr st))
  case atStart => exact ⟨0, pt0, F0, G0, s0, rfl, rfl, rfl, Nat.zero_le _, hstart⟩
  case round =>
    obtain ⟨k, pt, F, G, st, hgk, rfl, rfl, hk, HR⟩ := hrel
    have Hgk := hid hgk
    clear hgk
    have hb := HR.out.bel
    by_cases hlt : k < n
    · by_cases h40 : k < 40
      · have hDW := Hd.out k hlt
        have hpbk := Hpb.out k hlt
        generalize f k = d at hDW hpbk
        obtain ⟨how, at_, cut, pa, put, pc⟩ := d
        have hpbk : put.length ≤ 35184372087808 := hpbk
        have HDW := hid hDW
        have hDr := hDW.bel hb
        have hcl : ∃ b off, a1 = some ⟨b, off, none⟩ ∧ wr.cell? ⟨b, off + k * 4, none⟩ = some (.int .i64 how) ∧ wr.cell? ⟨b, off + k * 4 + 1, none⟩ = some (.int .i64 at_) ∧ wr.cell? ⟨b, off + k * 4 + 2, none⟩ = some (.int .i64 cut) ∧ wr.cell? ⟨b, off + k * 4 + 3, none⟩ = some (.slice pa put.length pc) := hDr.cells
        clear hDW hDr
        obtain ⟨b, off, rfl, x0, x1, x2, x3⟩ := hcl
        have hbl := World.block_lt_of_cell? wr _ x0
        have htot := HR.out.T.wf.tot
        have hcapd : put.length ≤ pc := HDW.out.cap
        have SD : Hid (∀ w', Below W.heap.size W w' → Sl w' pa put) := fun w' hb' => HDW.out.sl.bel hb'
        have hcutr : -9223372036854775808 ≤ cut ∧ cut ≤ 9223372036854775807 := HDW.out.cut
        have hband := band_le how 3 (by decide)
        rw [show ((3 : Nat) : Int) = 3 from rfl] at hband
        have hle : B ≤ wr.heap.size := by have := HR.out.T.lt _ HR.out.T.ptF; omega
        obtain ⟨m, hm⟩ : ∃ m, bits .and .i64 how 3 = m := ⟨_, rfl⟩
        rw [hm] at hband
        have hbV : Below W.heap.size W (wr.alloc (.cells #[.int .i64 how, .int .i64 at_, .int .i64 cut, .slice pa put.length pc] 73)) := bal hb _
        have hwV : Below wr.heap.size wr (wr.alloc (.cells #[.int .i64 how, .int .i64 at_, .int .i64 cut, .slice pa put.length pc] 73)) := bal (Below.refl _ _) _
        have hsV : (wr.alloc (.cells #[.int .i64 how, .int .i64 at_, .int .i64 cut, .slice pa put.length pc] 73)).heap.size = wr.heap.size + 1 := by simp
        have y1 : (wr.alloc (.cells #[.int .i64 how, .int .i64 at_, .int .i64 cut, .slice pa put.length pc] 73)).cell? ⟨wr.heap.size, 1, none⟩ = some (.int .i64 at_) := by rw [cell_alloc_new]; rfl
        have y2 : (wr.alloc (.cells #[.int .i64 how, .int .i64 at_, .int .i64 cut, .slice pa put.length pc] 73)).cell? ⟨wr.heap.size, 2, none⟩ = some (.int .i64 cut) := by rw [cell_alloc_new]; rfl
        have y3 : (wr.alloc (.cells #[.int .i64 how, .int .i64 at_, .int .i64 cut, .slice pa put.length pc] 73)).cell? ⟨wr.heap.size, 3, none⟩ = some (.slice pa put.length pc) := by rw [cell_alloc_new]; rfl
        have hTl : st.t.length = tot st.p := st_tlx HR.out.T.wf
        have hTb : st.t.length ≤ 1000 := by omega
        rcases (show m = 1 ∨ m = 2 ∨ (m ≠ 1 ∧ m ≠ 2) by omega) with h1 | h1 | ⟨h1, h2⟩
        · subst h1
          have HTl := hid hTl
          clear hTl
          go_wp2_with fail
          generalize wr.alloc (.cells #[.int .i64 how, .int .i64 at_, .int .i64 cut, .slice pa put.length pc] 73) = V at hbV hwV hsV y1 y2 y3 ⊢
          have TV := hid (HR.out.T.bel hwV)
          have RV := hid (HR.out.R.bel hwV)
          clear x0 x1 x2 x3
          have K : Hid (∀ w', Below V.heap.size V w' → w'.cell? ⟨wr.heap.size, 1, none⟩ = some (.int .i64 at_) ∧ w'.cell? ⟨wr.heap.size, 2, none⟩ = some (.int .i64 cut)) := fun w' hb' =>
            ⟨by rw [hb'.cell (p := ⟨wr.heap.size, 1, none⟩) (by simp [hsV])]; exact y1, by rw [hb'.cell (p := ⟨wr.heap.size, 2, none⟩) (by simp [hsV])]; exact y2⟩
          clear y1 y2 y3
          cases hw : wth (tot st.p) at_ cut with
          | false =>
            refine (slice_no B F pt st at_ cut V TV.out hw).mono ?_
            have hw' : wth st.t.length at_ cut = false := by rw [HTl.out]; exact hw
            have Hw := hid hw'
            clear hw hw'
            rintro e w5 ⟨a5, c5, rfl, ho5, hb5⟩
            obtain ⟨z1, z2⟩ := K.out _ hb5
            clear ho5
            go_wp2_with fail
            refine (rtext_t B G pr st w5 (RV.out.bel hb5)).mono ?_
            rintro e w6 ⟨a6, c6, rfl, ho6, hb6⟩
            have hv6 := bthen hb5 hb6
            obtain ⟨q1, q2⟩ := K.out _ hv6
            clear ho6
            go_wp2_with fail
            refine (rwithin_c st.t.length at_ cut w6 (by omega)).mono ?_
            rw [Hw.out]
            rintro e w' ⟨rfl, rfl⟩
            have hwx : Below wr.heap.size wr w6 := hwV.trans (hv6.mono (by omega))
            go_wp2_with fail
            go_roundg (n - (k + 1))
            case measure => have := Hgk.out; omega
            case rel => exact ⟨k + 1, pt, F, G, st, rfl, rfl, by go_num, by omega, hid ⟨HR.out.T.bel hwx, HR.out.R.bel hwx, HR.out.D, bthen hb hwx⟩⟩
          | true =>
            obtain ⟨x, y, rfl, rfl, hxy⟩ := wth_natx hw
            refine (slice_yes B F pt st x y V TV.out hxy).mono ?_
            have hw' : wth st.t.length x y = true := by rw [HTl.out]; exact hw
            have Hw := hid hw'
            clear hw hw'
            have hxy2 : x + y ≤ st.t.length := by rw [HTl.out]; exact hxy
            generalize hQ : (st.t.drop x).take y = Q
            have HQ := hid hQ
            clear hQ
            rintro e w5 ⟨a5, c5, rfl, ho5, hb5⟩
            have HO5 := hid ho5
            obtain ⟨z1, z2⟩ := K.out _ hb5
            clear ho5
            go_wp2_with fail
            refine (rtext_t B G pr st w5 (RV.out.bel hb5)).mono ?_
            rintro e w6 ⟨a6, c6, rfl, ho6, hb6⟩
            have hv6 := bthen hb5 hb6
            obtain ⟨q1, q2⟩ := K.out _ hv6
            obtain ⟨a7, c7, D, HD, sD, hDc, hrun⟩ := slice_mid ho6.sl x (x + y) c6 (by omega) hxy2 (own_capx ho6)
            obtain rfl : D = Q := by rw [HD.out, ← HQ.out, List.drop_take]; congr 1; omega
            simp only [Int.natCast_add] at hrun
            have HsD := hid sD
            clear ho6 sD
            go_wp2_with fail
            refine (rwithin_c st.t.length x y w6 (by omega)).mono ?_
            rw [Hw.out]
            rintro e w' ⟨rfl, rfl⟩
            go_wp2_with fail
            refine (rsame_c a5 a7 c5 c7 D D w6 (HO5.out.sl.bel hb6) HsD.out).mono ?_
            rw [eqM_self]
            rintro e w' ⟨rfl, n7, rfl⟩
            go_wp2_with fail
            refine (spoil_c V.heap.size a5 c5 D _ ((HO5.out.grow hb6).drewN n7)).mono ?_
            rintro e w8 ⟨rfl, hb8⟩
            have hv8 : Below V.heap.size V w8 := (bdrewN hv6 n7).trans hb8
            go_wp2_with fail
            refine (same_c B B F G pt pr st w8 (TV.out.bel hv8) (RV.out.bel hv8)).mono ?_
            rintro e w9 ⟨rfl, hb9⟩
            have hv9 := bthen hv8 hb9
            have hwx : Below wr.heap.size wr w9 := hwV.trans (hv9.mono (by omega))
            go_wp2_with fail
            go_roundg (n - (k + 1))
            case measure => have := Hgk.out; omega
            case rel => exact ⟨k + 1, pt, F, G, st, rfl, rfl, by go_num, by omega, hid ⟨HR.out.T.bel hwx, HR.out.R.bel hwx, HR.out.D, bthen hb hwx⟩⟩
        · subst h1
          clear hTl hTb
          go_wp2_with fail
          generalize wr.alloc (.cells #[.int .i64 how, .int .i64 at_, .int .i64 cut, .slice pa put.length pc] 73) = V at hbV hwV hsV y1 y2 y3 ⊢
          have TV := hid (HR.out.T.bel hwV)
          have RV := hid (HR.out.R.bel hwV)
          clear x0 x1 x2 x3
          clear y1 y2 y3
          refine (copy_t B F pt st V TV.out).mono ?_
          rintro e w5 ⟨pu, rfl, tu5, hb5⟩
          have U5 := hid tu5
          have T5 := hid (TV.out.bel hb5)
          have R5 := hid (RV.out.bel hb5)
          have B5 := bthen hbV hb5
          have hFV : ∀ k, F k → B ≤ k ∧ k < V.heap.size := TV.out.lt
          have hGV : ∀ k, G k → B ≤ k ∧ k < V.heap.size := RV.out.lt
          have HFV := hid hFV
          have HGV := hid hGV
          have hz5 := hb5.size
          clear tu5 hFV hGV
          obtain ⟨E, hE⟩ : ∃ E, splE st 0 0 [122] = E := ⟨_, rfl⟩
          obtain ⟨st', hst'⟩ : ∃ st', splS st 0 0 [122] = st' := ⟨_, rfl⟩
          have HE := hid hE; have HST := hid hst'
          clear hE hst'
          go_wp2_with fail
          refine (splice_is B F pt st 0 0 (some ⟨w5.heap.size, 0, none⟩) 1 [122] _ (T5.out.bel (by (repeat' (first | exact Below.refl _ _ | assumption | refine bdrewN ?_ _ | refine Below.drew ?_ | refine bal ?_ _ | refine bthen ?_ (by assumption))))) (by simp; omega) (Sl.lit' _ [122] _ _ (by simp) (by simp) (by simp [rng]) _ rfl) (.inr (fun ad ha hf => by simp only [Option.some.injEq] at ha; subst ha; have := (HFV.out _ hf).2; simp at this; omega)) (by omega) HE.out HST.out).mono ?_
          rintro e w6 ⟨rfl, -, hk6⟩
          have U6 : Hid (Tab w6 V.heap.size (New V w5) pu st) := (U5.out.bel (by (repeat' (first | exact Below.refl _ _ | assumption | refine bdrewN ?_ _ | refine Below.drew ?_ | refine bal ?_ _ | refine bthen ?_ (by assumption))))).kpt hk6 (fun k h1 h2 => by have := h1.1; have := (HFV.out _ h2).2; omega)
          have R6 : Hid (Tab w6 B G pr st) := (R5.out.bel (by (repeat' (first | exact Below.refl _ _ | assumption | refine bdrewN ?_ _ | refine Below.drew ?_ | refine bal ?_ _ | refine bthen ?_ (by assumption))))).kpt hk6 HR.out.D.symm
          have B6 : Below W.heap.size W w6 := (bal B5 _).trans (hk6.below (fun k hf => by have := (HFV.out _ hf).1; omega) (by have := B5.size; simp; omega))
          have hz6 : w5.heap.size + 1 ≤ w6.heap.size := by have := hk6.size; simpa using this
          clear hk6
          go_wp2_with fail
          refine (rcopy_t B G pr st w6 R6.out).mono ?_
          rintro e w7 ⟨pr2, rfl, tr7, hb7⟩
          have Q7 := hid tr7
          have hz7 := hb7.size
          have U7 := hid (U6.out.bel hb7)
          have R7 := hid (R6.out.bel hb7)
          have B7 := bthen B6 hb7
          clear tr7 hb7
          go_wp2_with fail
          refine (rsplice_is w6.heap.size (New w6 w7) pr2 st 0 0 (some ⟨w7.heap.size, 0, none⟩) 1 [122] _ (Q7.out.bel (by (repeat' (first | exact Below.refl _ _ | assumption | refine bdrewN ?_ _ | refine Below.drew ?_ | refine bal ?_ _ | refine bthen ?_ (by assumption))))) (by simp; omega) (Sl.lit' _ [122] _ _ (by simp) (by simp) (by simp [rng]) _ rfl) HE.out HST.out).mono ?_
          rintro e w8 ⟨rfl, -, hk8⟩
          have U8 : Hid (Tab w8 V.heap.size (New V w5) pu st) := (U7.out.bel (by (repeat' (first | exact Below.refl _ _ | assumption | refine bdrewN ?_ _ | refine Below.drew ?_ | refine bal ?_ _ | refine bthen ?_ (by assumption))))).kpt hk8 (fun k h1 h2 => by have := h1.2; have := h2.1; omega)
          have R8 : Hid (Tab w8 B G pr st) := (R7.out.bel (by (repeat' (first | exact Below.refl _ _ | assumption | refine bdrewN ?_ _ | refine Below.drew ?_ | refine bal ?_ _ | refine bthen ?_ (by assumption))))).kpt hk8 (fun k h1 h2 => by have := (HGV.out _ h1).2; have := h2.1; omega)
          have B8 : Below W.heap.size W w8 := (bal B7 _).trans (hk8.below (fun k hf => by have := hf.1; have := B6.size; omega) (by have := B7.size; simp; omega))
          clear hk8
          go_wp2_with fail
          refine (same_c V.heap.size B (New V w5) G pu pr st w8 U8.out R8.out).mono ?_
          rintro e w9 ⟨rfl, hb9⟩
          go_wp2_with fail
          go_roundg (n - (k + 1))
          case measure => have := Hgk.out; omega
          case rel => exact ⟨k + 1, pu, New V w5, G, st, rfl, rfl, by go_num, by omega, hid ⟨(U8.out.bel hb9).base (by omega), R8.out.bel hb9, (fun k h1 h2 => by have := h1.1; have := (HGV.out _ h2).2; omega), bthen B8 hb9⟩⟩
        · have e1 : (m == 1) = false := by simpa using h1
          have e2 : (m == 2) = false := by simpa using h2
          clear hTl hTb h1 h2
          go_wp2_with fail
          generalize wr.alloc (.cells #[.int .i64 how, .int .i64 at_, .int .i64 cut, .slice pa put.length pc] 73) = V at hbV hwV hsV y1 y2 y3 ⊢
          have TV := hid (HR.out.T.bel hwV)
          have RV := hid (HR.out.R.bel hwV)
          clear x0 x1 x2 x3
          have hX : wr.heap.size < V.heap.size := by omega
          refine (lend_c pa pc put V (SD.out _ hbV) (by omega)).mono ?_
          rintro e w5 ⟨g, cx, rfl, hcx, hg, ho5, hb5⟩
          have HO5 := hid ho5
          have hg5 : g < w5.heap.size := own_lt ho5 _ rfl
          have T5 := hid (TV.out.bel hb5)
          have R5 := hid (RV.out.bel hb5)
          have B5 := bthen hbV hb5
          have HFV := hid (show ∀ k, F k → B ≤ k ∧ k < V.heap.size ∧ k ≠ wr.heap.size from fun k hf => by have := HR.out.T.lt _ hf; omega)
          have HGV := hid (show ∀ k, G k → B ≤ k ∧ k < V.heap.size ∧ k ≠ wr.heap.size from fun k hf => by have := HR.out.R.lt _ hf; omega)
          have hz5 := hb5.size
          have z1 : w5.cell? ⟨wr.heap.size, 1, none⟩ = some (.int .i64 at_) := by rw [hb5.cell (p := ⟨wr.heap.size, 1, none⟩) hX]; exact y1
          have z2 : w5.cell? ⟨wr.heap.size, 2, none⟩ = some (.int .i64 cut) := by rw [hb5.cell (p := ⟨wr.heap.size, 2, none⟩) hX]; exact y2
          have z3 : w5.cell? ⟨wr.heap.size, 3, none⟩ = some (.slice pa put.length pc) := by rw [hb5.cell (p := ⟨wr.heap.size, 3, none⟩) hX]; exact y3
          clear ho5 y1 y2 y3
          have hogF : Hid (Off (some ⟨g, 0, none⟩) F) := fun ad ha hf => by simp only [Option.some.injEq] at ha; subst ha; have := (HFV.out _ hf).2; simp at this; omega
          have hogG : Hid (Off (some ⟨g, 0, none⟩) G) := fun ad ha hf => by simp only [Option.some.injEq] at ha; subst ha; have := (HGV.out _ hf).2; simp at this; omega
          have hnF : Hid (¬ F wr.heap.size) := fun hf => (HFV.out _ hf).2.2 rfl
          have hnG : Hid (¬ G wr.heap.size) := fun hf => (HGV.out _ hf).2.2 rfl
          obtain ⟨E, hE⟩ : ∃ E, splE st at_ cut put = E := ⟨_, rfl⟩
          obtain ⟨st', hst'⟩ : ∃ st', splS st at_ cut put = st' := ⟨_, rfl⟩
          have HE := hid hE; have HST := hid hst'
          clear hE hst'
          have SL5 : Hid (Sl w5 (some ⟨g, 0, none⟩) put) := hid (by have := HO5.out.sl.take put.length; simpa using this)
          have HSP := hid (splice_is B F pt st at_ cut (some ⟨g, 0, none⟩) cx put w5.drew T5.out.drew (by simp; omega) SL5.out.drew (.inr hogF.out) hcutr HE.out HST.out)
          go_wp2
          go_region_held3 (fun w' => w'.cell? ⟨wr.heap.size, 1, none⟩ = some (.int .i64 at_) ∧ w'.cell? ⟨wr.heap.size, 2, none⟩ = some (.int .i64 cut) ∧ w'.cell? ⟨wr.heap.size, 3, none⟩ = some (.slice pa put.length pc)) (first | assumption | exact ⟨by assumption, by assumption, by assumption⟩ | go_keep)
            (first | (go_at_call 34; refine HSP.out.mono ?_; rintro e w9 ⟨rfl, ht9, hk9⟩; have T9 := hid ht9; have K9 := hid hk9; have v1 : w9.cell? ⟨wr.heap.size, 1, none⟩ = some (.int .i64 at_) := hk9.cell z1 hnF.out; have v2 : w9.cell? ⟨wr.heap.size, 2, none⟩ = some (.int .i64 cut) := hk9.cell z2 hnF.out; have v3 : w9.cell? ⟨wr.heap.size, 3, none⟩ = some (.slice pa put.length pc) := hk9.cell z3 hnF.out; clear ht9 hk9; have R9 : Hid (Tab w9 B G pr st) := R5.out.drew.kpt K9.out HR.out.D.symm; have D9 : Hid (Dis (Gr F w5.drew w9) G) := (R5.out.drew.dis HR.out.D.symm).symm; have B9 : Below W.heap.size W w9 := B5.drew.trans (K9.out.below (fun k hf => by have := (HFV.out _ hf).1; omega) (by have := B5.size; simpa using this)); have O9 : Hid (Own w9 V.heap.size (some ⟨g, 0, none⟩) cx (put ++ [-77, -78])) := HO5.out.same fun ad ha hl => K9.out.block _ (by simpa using hl) (hogF.out ad ha))
                   | (go_at_call 46; refine (rsplice_is B G pr st at_ cut pa pc put w9 R9.out (by have := K9.out.size; simp at this; omega) (SD.out _ B9) HE.out HST.out).mono ?_; rintro e w10 ⟨rfl, ht10, hk10⟩; have R10 := hid ht10; have K10 := hid hk10; have q1 : w10.cell? ⟨wr.heap.size, 1, none⟩ = some (.int .i64 at_) := hk10.cell v1 hnG.out; have q2 : w10.cell? ⟨wr.heap.size, 2, none⟩ = some (.int .i64 cut) := hk10.cell v2 hnG.out; have q3 : w10.cell? ⟨wr.heap.size, 3, none⟩ = some (.slice pa put.length pc) := hk10.cell v3 hnG.out; clear ht10 hk10; have T10 : Hid (Tab w10 B (Gr F w5.drew w9) pt st') := T9.out.kpt K10.out D9.out; have D10 : Hid (Dis (Gr F w5.drew w9) (Gr G w9 w10)) := T9.out.dis D9.out; have B10 : Below W.heap.size W w10 := B9.trans (K10.out.below (fun k hf => by have := (HGV.out _ hf).1; omega) B9.size); have O10 : Hid (Own w10 V.heap.size (some ⟨g, 0, none⟩) cx (put ++ [-77, -78])) := O9.out.same fun ad ha hl => K10.out.block _ hl (hogG.out ad ha))
                   | (go_at_call 13; refine (kept_c g cx pa pc put w10 O10.out.sl hcx (SD.out _ B10)).mono ?_; rintro e w' ⟨rfl, n11, rfl⟩))
          go_wp2_with fail
          refine (spoilk_c V.heap.size (some ⟨g, 0, none⟩) cx put _ (O10.out.pre.drewN n11)).mono ?_
          rintro e w12 ⟨rfl, hb12, hk12⟩
          have hz9 : w5.heap.size ≤ w9.heap.size := by have := K9.out.size; simpa using this
          have T12 : Hid (Tab w12 B (Gr F w5.drew w9) pt st') := (T10.out.bel (by (repeat' (first | exact Below.refl _ _ | assumption | refine bdrewN ?_ _ | refine Below.drew ?_ | refine bal ?_ _ | refine bthen ?_ (by assumption))))).kpt hk12 (by
            rintro k hf ⟨ad, ha, rfl⟩
            rcases hf with hf | hf
            · exact hogF.out ad ha hf
            · simp only [Option.some.injEq] at ha; subst ha; have := hf.1; simp at this; omega)
          have R12 : Hid (Tab w12 B (Gr G w9 w10) pr st') := (R10.out.bel (by (repeat' (first | exact Below.refl _ _ | assumption | refine bdrewN ?_ _ | refine Below.drew ?_ | refine bal ?_ _ | refine bthen ?_ (by assumption))))).kpt hk12 (by
            rintro k hf ⟨ad, ha, rfl⟩
            rcases hf with hf | hf
            · exact hogG.out ad ha hf
            · simp only [Option.some.injEq] at ha; subst ha; have := hf.1; simp at this; omega)
          have B12 : Below W.heap.size W w12 := (bdrewN B10 n11).trans (hb12.mono (by have := hbV.size; omega))
          clear hb12 hk12
          go_wp2_with fail
          refine (same_c B B (Gr F w5.drew w9) (Gr G w9 w10) pt pr st' w12 T12.out R12.out).mono ?_
          rintro e w13 ⟨rfl, hb13⟩
          go_wp2_with fail
          go_roundg (n - (k + 1))
          case measure => have := Hgk.out; omega
          case rel => exact ⟨k + 1, pt, _, _, st', rfl, rfl, by go_num, by omega, hid ⟨T12.out.bel hb13, R12.out.bel hb13, D10.out, bthen B12 hb13⟩⟩
      · go_wp2
        go_ret
        exact ⟨rfl, hb⟩
    · go_wp2
      go_ret
      exact ⟨rfl, hb⟩
end Go.Proofs.Ytcekoifbgfeahaa
