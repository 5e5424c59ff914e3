/- Layer 3's law: PieceFits. -/
import Derived.Test.YtogodddkbnkeiaaLwh
namespace Go.Proofs.Ytogodddkbnkeiaa
open Go.RowKit

theorem TabM.base {w : World} {B B' : Nat} {F : Nat → Prop} {pt : Nat} {s : St} (h : TabM w B F pt s) (hb : B' ≤ B) : TabM w B' F pt s := by
  obtain ⟨ao, co, aa, ca, ap, cp, c0, c1, c2, o0, o1, o2, r⟩ := h.cells
  exact ⟨h.pos, fun k hk => ⟨Nat.le_trans hb (h.lt k hk).1, (h.lt k hk).2⟩, h.ptF, h.fz, ao, co, aa, ca, ap, cp, c0, c1, c2, o0.base_le hb, o1.base_le hb, o2.base_le hb, r⟩
theorem Tab.base {w : World} {B B' : Nat} {F : Nat → Prop} {pt : Nat} {s : St} (h : Tab w B F pt s) (hb : B' ≤ B) : Tab w B' F pt s := ⟨h.toTabM.base hb, h.wf⟩
theorem rsplice_is (B : Nat) (F : Nat → Prop) (pt : Nat) (s : St) (at_ cut : Int) (ax : Option Addr) (cx : Nat) (put : List Int) (w : World) (h : Tab w B F pt s) (hB : B ≤ w.heap.size) (hp : Sl w ax put)
    {x : Int} {s' : St} (hx : splE s at_ cut put = x) (hs : splS s at_ cut put = s') :
    Calls Try.prog 22 #[.pointer (some ⟨pt, 0, none⟩), .int .i64 at_, .int .i64 cut, .slice ax put.length cx] w fun e w' => e = .returned (.int .i64 x) ∧ Tab w' B (Gr F w w') pt s' ∧ Kpt F w w' := by
  subst hx; subst hs; exact rsplice_t B F pt s at_ cut ax cx put w h hB hp

set_option maxRecDepth 100000 in
set_option maxHeartbeats 16000000 in
theorem fits_walk (a0 a1 : Option Addr) (c0 c1 n : Nat) (l : List Int) (f : Nat → Dd) (W : World) (hl : Sl W a0 l) (hc : l.length ≤ c0) (hd : Dds W a1 n f) (hn : n ≤ 35184372087808) :
    Calls Try.prog 4 #[.slice a0 l.length c0, .slice a1 n c1] W fun e w' => e = .returned (.bool true) ∧ Below W.heap.size W w' := by
  have Hd := hid hd
  clear hd
  go_enter Try.func4, Try.ntmps4
  go_wp2_with fail
  refine (cut_c a0 c0 l 300 W hl hc (by omega)).mono ?_
  rintro e w' ⟨a2, c2, L1, rfl, HL1, s1, hc1, rfl⟩
  have hL1 : L1.length ≤ 300 := by rw [HL1.out, List.length_take]; omega
  go_wp2_with fail
  refine (clean_c a2 c2 L1 _ s1).mono ?_
  rintro e w1 ⟨a3, c3, rfl, ho2, hb1⟩
  have hS := cln_may L1
  have hSl := cln_len L1
  generalize cln L1 = S at ho2 hS hSl ⊢
  have HoS := hid ho2
  have hSl3 : S.length ≤ 300 := by omega
  have HmS := hid hS
  have B1 := hid hb1
  clear ho2 s1 hl HL1 hL1 hSl hc1 hS hb1
  go_wp2_with fail
  refine (new_t a3 c3 S w1 HoS.out.sl HmS.out (by omega)).mono ?_
  rintro e w2 ⟨pt, rfl, ht, hb2⟩
  have HT2 := hid ht
  have HB2 := hid hb2
  clear ht hb2
  go_wp2_with fail
  refine (rnew_t a3 c3 S w2 (HoS.out.grow HB2.out).sl HmS.out (by omega)).mono ?_
  rintro e w3 ⟨pr, rfl, ht3, hb3⟩
  have hstart : Hid (Tab w3 w1.heap.size (New w1 w2) pt (st0 S) ∧ Tab w3 w1.heap.size (New w2 w3) pr (st0 S) ∧ Dis (New w1 w2) (New w2 w3) ∧ Below W.heap.size W w3) :=
    ⟨HT2.out.bel hb3, ht3.base HB2.out.size, (fun k h1 h2 => by have := h1.2; have := h2.1; omega), bthen (bthen B1.out HB2.out) hb3⟩
  have hBW : W.heap.size ≤ w1.heap.size := B1.out.size
  clear ht3 hb3
  go_wp2
  go_loopg [9] n (fun gg i wr => ∃ (k : Nat) (F G : Nat → Prop) (st : St), gg = n - k ∧ i = .int .i64 k ∧ k ≤ n ∧ Hid (Tab wr w1.heap.size F pt st) ∧ Hid (Tab wr w1.heap.size G pr st) ∧ Hid (Dis F G) ∧ Below W.heap.size W wr)
  case atStart => exact ⟨0, New w1 w2, New w2 w3, st0 S, rfl, rfl, Nat.zero_le _, hstart.out.1, hstart.out.2.1, hstart.out.2.2.1, hstart.out.2.2.2⟩
  case round =>
    obtain ⟨k, F, G, st, hgk, rfl, hk, HT, HG, HD, hb⟩ := hrel
    have Hgk := hid hgk
    clear hgk
    by_cases hlt : k < n
    · by_cases h30 : k < 30
      · have hDW := Hd.out k hlt
        generalize f k = d at hDW
        have HDW := hid hDW
        clear hDW
        obtain ⟨b, off, rfl, x0, x1, x2, x3⟩ := HDW.out.cells
        have hbW : b < W.heap.size := World.block_lt_of_cell? W _ x0
        have hkn : (k : Int) < (n : Int) := by omega
        have htot := HT.out.wf.tot
        have KD : Hid (∀ w', Below W.heap.size W w' → w'.cell? ⟨b, off + k * 4 + 1, none⟩ = some (.int .i64 d.at_) ∧ w'.cell? ⟨b, off + k * 4 + 2, none⟩ = some (.int .i64 d.cut) ∧ w'.cell? ⟨b, off + k * 4 + 3, none⟩ = some (.slice d.pa d.put.length d.pc)) := fun w' hb' => by
          refine ⟨?_, ?_, ?_⟩
          · rw [hb'.cell (p := ⟨b, off + k * 4 + 1, none⟩) hbW]; exact x1
          · rw [hb'.cell (p := ⟨b, off + k * 4 + 2, none⟩) hbW]; exact x2
          · rw [hb'.cell (p := ⟨b, off + k * 4 + 3, none⟩) hbW]; exact x3
        have SD : Hid (∀ w', Below W.heap.size W w' → Sl w' d.pa d.put) := fun w' hb' => HDW.out.sl.bel hb'
        have hcapd := HDW.out.cap
        have hz0 := hb.size
        have kk0 := KD.out _ hb
        obtain ⟨y1, y2, y3⟩ := kk0
        clear x0 x1 x2 x3
        go_upto_region 9 with fail
        go_cut [10] (fun s8 wc => ∃ (X i kc r : Nat) (C P L5 : List Int) (a7 : Option Addr) (c7 : Nat) (a8 : Option Addr) (c8 : Nat), s8 = .pointer (some ⟨X, 0, none⟩) ∧ C.length = kc ∧ i + kc ≤ st.t.length ∧ Hid (P = (cln L5).take r) ∧ P.length + (st.t.length - kc) ≤ 1000 ∧ P.length ≤ 60 ∧ Hid (FitR W wr wc X i C P a7 c7 a8 c8))
        case first =>
          have hx0 : Below W.heap.size W wr.drew := hb.drew
          have hy0 : Below wr.heap.size wr wr.drew := (Below.refl _ _).drew
          go_region_held3 (fun w' => Below W.heap.size W w' ∧ Below wr.heap.size wr w' ∧ w'.cell? ⟨b, off + k * 4 + 1, none⟩ = some (.int .i64 d.at_) ∧ w'.cell? ⟨b, off + k * 4 + 2, none⟩ = some (.int .i64 d.cut) ∧ w'.cell? ⟨b, off + k * 4 + 3, none⟩ = some (.slice d.pa d.put.length d.pc)) (first | assumption | exact ⟨by assumption, by assumption, by assumption, by assumption, by assumption⟩ | (refine ⟨(by (repeat' (first | exact Below.refl _ _ | assumption | refine bdrewN ?_ _ | refine Below.drew ?_ | refine bal ?_ _ | refine bthen ?_ (by assumption)))), (by (repeat' (first | exact Below.refl _ _ | assumption | refine bdrewN ?_ _ | refine Below.drew ?_ | refine bal ?_ _ | refine bthen ?_ (by assumption)))), ?_, ?_, ?_⟩ <;> go_keep) | (refine ⟨(((hx7.setCell (by first | omega | (simp; done) | (simp; omega)) _).setCell (by first | omega | (simp; done) | (simp; omega)) _).setCell (by first | omega | (simp; done) | (simp; omega)) _), (((hy7.setCell (by first | omega | (simp; done) | (simp; omega)) _).setCell (by first | omega | (simp; done) | (simp; omega)) _).setCell (by first | omega | (simp; done) | (simp; omega)) _), ?_, ?_, ?_⟩ <;> first | exact (KD.out _ (((hx7.setCell (by first | omega | (simp; done) | (simp; omega)) _).setCell (by first | omega | (simp; done) | (simp; omega)) _).setCell (by first | omega | (simp; done) | (simp; omega)) _)).1 | exact (KD.out _ (((hx7.setCell (by first | omega | (simp; done) | (simp; omega)) _).setCell (by first | omega | (simp; done) | (simp; omega)) _).setCell (by first | omega | (simp; done) | (simp; omega)) _)).2.1 | exact (KD.out _ (((hx7.setCell (by first | omega | (simp; done) | (simp; omega)) _).setCell (by first | omega | (simp; done) | (simp; omega)) _).setCell (by first | omega | (simp; done) | (simp; omega)) _)).2.2) | go_keep)
            (first | (go_at_call 20; refine (rtext_t w1.heap.size G pr st _ (HG.out.bel (by (repeat' (first | exact Below.refl _ _ | assumption | refine bdrewN ?_ _ | refine Below.drew ?_ | refine bal ?_ _ | refine bthen ?_ (by assumption)))))).mono ?_; rintro e w3 ⟨a4, c4, rfl, ho4, hb4⟩; have HO4 := hid ho4; have hx1 : Below W.heap.size W w3 := bthen (by (repeat' (first | exact Below.refl _ _ | assumption | refine bdrewN ?_ _ | refine Below.drew ?_ | refine bal ?_ _ | refine bthen ?_ (by assumption)))) hb4; have hy1 : Below wr.heap.size wr w3 := bthen (by (repeat' (first | exact Below.refl _ _ | assumption | refine bdrewN ?_ _ | refine Below.drew ?_ | refine bal ?_ _ | refine bthen ?_ (by assumption)))) hb4; have hz1 := hy1.size; (try (have z0 : w3.cell? ⟨wr.heap.size, 0, none⟩ = some (.int .i64 0) := (hb4.cell (p := ⟨wr.heap.size, 0, none⟩) (by first | assumption | (simp; done) | (simp; omega))).trans (by first | assumption | (simp; done)); have g0 : w3.frozen? ⟨wr.heap.size, 0, none⟩ = false := (hb4.frozen (p := ⟨wr.heap.size, 0, none⟩) (by first | assumption | (simp; done) | (simp; omega))).trans (by first | assumption | (simp; done)); have z1 : w3.cell? ⟨wr.heap.size, 1, none⟩ = some (.slice none 0 0) := (hb4.cell (p := ⟨wr.heap.size, 1, none⟩) (by first | assumption | (simp; done) | (simp; omega))).trans (by first | assumption | (simp; done)); have g1 : w3.frozen? ⟨wr.heap.size, 1, none⟩ = false := (hb4.frozen (p := ⟨wr.heap.size, 1, none⟩) (by first | assumption | (simp; done) | (simp; omega))).trans (by first | assumption | (simp; done)); have z2 : w3.cell? ⟨wr.heap.size, 2, none⟩ = some (.slice none 0 0) := (hb4.cell (p := ⟨wr.heap.size, 2, none⟩) (by first | assumption | (simp; done) | (simp; omega))).trans (by first | assumption | (simp; done)); have g2 : w3.frozen? ⟨wr.heap.size, 2, none⟩ = false := (hb4.frozen (p := ⟨wr.heap.size, 2, none⟩) (by first | assumption | (simp; done) | (simp; omega))).trans (by first | assumption | (simp; done)); have gx : wr.heap.size < w3.heap.size := World.block_lt_of_cell? _ _ z0)); have kk := KD.out _ hx1; obtain ⟨m1, m2, m3⟩ := kk)
                       | (go_at_call 18; refine (cut_c d.pa d.pc d.put 60 _ (SD.out _ (by (repeat' (first | exact Below.refl _ _ | assumption | refine bdrewN ?_ _ | refine Below.drew ?_ | refine bal ?_ _ | refine bthen ?_ (by assumption))))) hcapd (by omega)).mono ?_; rintro e w' ⟨a5, c5, L5, rfl, HL5, s5, hc5, rfl⟩)
                       | (go_at_call 17; refine (clean_c a5 c5 L5 _ (by (repeat' (first | assumption | exact Sl.nil _ _ | refine Sl.drewN ?_ _ | refine Sl.drew ?_ | refine Sl.alloc ?_ _ | refine Sl.bel ?_ (by assumption))))).mono ?_; rintro e w6 ⟨a6, c6, rfl, ho6, hb6⟩; have HO6 := hid ho6; have hx6 : Below W.heap.size W w6 := bthen (by (repeat' (first | exact Below.refl _ _ | assumption | refine bdrewN ?_ _ | refine Below.drew ?_ | refine bal ?_ _ | refine bthen ?_ (by assumption)))) hb6; have hy6 : Below wr.heap.size wr w6 := bthen (by (repeat' (first | exact Below.refl _ _ | assumption | refine bdrewN ?_ _ | refine Below.drew ?_ | refine bal ?_ _ | refine bthen ?_ (by assumption)))) hb6; have h36 : Below w3.heap.size w3 w6 := bthen (by (repeat' (first | exact Below.refl _ _ | assumption | refine bdrewN ?_ _ | refine Below.drew ?_ | refine bal ?_ _ | refine bthen ?_ (by assumption)))) hb6; have hz6 := h36.size; (try (have z0 : w6.cell? ⟨wr.heap.size, 0, none⟩ = some (.int .i64 0) := (hb6.cell (p := ⟨wr.heap.size, 0, none⟩) (by first | assumption | (simp; done) | (simp; omega))).trans (by first | assumption | (simp; done)); have g0 : w6.frozen? ⟨wr.heap.size, 0, none⟩ = false := (hb6.frozen (p := ⟨wr.heap.size, 0, none⟩) (by first | assumption | (simp; done) | (simp; omega))).trans (by first | assumption | (simp; done)); have z1 : w6.cell? ⟨wr.heap.size, 1, none⟩ = some (.slice none 0 0) := (hb6.cell (p := ⟨wr.heap.size, 1, none⟩) (by first | assumption | (simp; done) | (simp; omega))).trans (by first | assumption | (simp; done)); have g1 : w6.frozen? ⟨wr.heap.size, 1, none⟩ = false := (hb6.frozen (p := ⟨wr.heap.size, 1, none⟩) (by first | assumption | (simp; done) | (simp; omega))).trans (by first | assumption | (simp; done)); have z2 : w6.cell? ⟨wr.heap.size, 2, none⟩ = some (.slice none 0 0) := (hb6.cell (p := ⟨wr.heap.size, 2, none⟩) (by first | assumption | (simp; done) | (simp; omega))).trans (by first | assumption | (simp; done)); have g2 : w6.frozen? ⟨wr.heap.size, 2, none⟩ = false := (hb6.frozen (p := ⟨wr.heap.size, 2, none⟩) (by first | assumption | (simp; done) | (simp; omega))).trans (by first | assumption | (simp; done)); have gx : wr.heap.size < w6.heap.size := World.block_lt_of_cell? _ _ z0)); (try (have z0 : w6.cell? ⟨w3.heap.size, 0, none⟩ = some (.int .i64 0) := (hb6.cell (p := ⟨w3.heap.size, 0, none⟩) (by first | assumption | (simp; done) | (simp; omega))).trans (by first | assumption | (simp; done)); have g0 : w6.frozen? ⟨w3.heap.size, 0, none⟩ = false := (hb6.frozen (p := ⟨w3.heap.size, 0, none⟩) (by first | assumption | (simp; done) | (simp; omega))).trans (by first | assumption | (simp; done)); have z1 : w6.cell? ⟨w3.heap.size, 1, none⟩ = some (.slice none 0 0) := (hb6.cell (p := ⟨w3.heap.size, 1, none⟩) (by first | assumption | (simp; done) | (simp; omega))).trans (by first | assumption | (simp; done)); have g1 : w6.frozen? ⟨w3.heap.size, 1, none⟩ = false := (hb6.frozen (p := ⟨w3.heap.size, 1, none⟩) (by first | assumption | (simp; done) | (simp; omega))).trans (by first | assumption | (simp; done)); have z2 : w6.cell? ⟨w3.heap.size, 2, none⟩ = some (.slice none 0 0) := (hb6.cell (p := ⟨w3.heap.size, 2, none⟩) (by first | assumption | (simp; done) | (simp; omega))).trans (by first | assumption | (simp; done)); have g2 : w6.frozen? ⟨w3.heap.size, 2, none⟩ = false := (hb6.frozen (p := ⟨w3.heap.size, 2, none⟩) (by first | assumption | (simp; done) | (simp; omega))).trans (by first | assumption | (simp; done)); have gx : w3.heap.size < w6.heap.size := World.block_lt_of_cell? _ _ z0)); have kk := KD.out _ hx6; obtain ⟨n1, n2, n3⟩ := kk)
                       | (go_at_call 19; refine (fit_c a4 a6 c4 c6 st.t (cln L5) d.at_ d.cut _ (HO4.out.sl.bel (by (repeat' (first | exact Below.refl _ _ | assumption | refine bdrewN ?_ _ | refine Below.drew ?_ | refine bal ?_ _ | refine bthen ?_ (by assumption))))) (HO6.out.sl.bel (by (repeat' (first | exact Below.refl _ _ | assumption | refine bdrewN ?_ _ | refine Below.drew ?_ | refine bal ?_ _ | refine bthen ?_ (by assumption))))) (own_cap HO4.out) (by rw [st_tl HT.out.wf]; exact htot) (by rw [cln_len, HL5.out, List.length_take]; omega)).mono ?_; rintro e w7 ⟨i, kc, r, C, P, a7, c7, a8, c8, rfl, hC, hik, HC, HP, hPl, ho7, s8, hc8, hblk, hb7⟩; have HhC := hid hC; clear hC; have hx7 : Below W.heap.size W w7 := bthen (by (repeat' (first | exact Below.refl _ _ | assumption | refine bdrewN ?_ _ | refine Below.drew ?_ | refine bal ?_ _ | refine bthen ?_ (by assumption)))) hb7; have hy7 : Below wr.heap.size wr w7 := bthen (by (repeat' (first | exact Below.refl _ _ | assumption | refine bdrewN ?_ _ | refine Below.drew ?_ | refine bal ?_ _ | refine bthen ?_ (by assumption)))) hb7; have hz7 := hb7.size; (try (have z0 : w7.cell? ⟨wr.heap.size, 0, none⟩ = some (.int .i64 0) := (hb7.cell (p := ⟨wr.heap.size, 0, none⟩) (by first | assumption | (simp; done) | (simp; omega))).trans (by first | assumption | (simp; done)); have g0 : w7.frozen? ⟨wr.heap.size, 0, none⟩ = false := (hb7.frozen (p := ⟨wr.heap.size, 0, none⟩) (by first | assumption | (simp; done) | (simp; omega))).trans (by first | assumption | (simp; done)); have z1 : w7.cell? ⟨wr.heap.size, 1, none⟩ = some (.slice none 0 0) := (hb7.cell (p := ⟨wr.heap.size, 1, none⟩) (by first | assumption | (simp; done) | (simp; omega))).trans (by first | assumption | (simp; done)); have g1 : w7.frozen? ⟨wr.heap.size, 1, none⟩ = false := (hb7.frozen (p := ⟨wr.heap.size, 1, none⟩) (by first | assumption | (simp; done) | (simp; omega))).trans (by first | assumption | (simp; done)); have z2 : w7.cell? ⟨wr.heap.size, 2, none⟩ = some (.slice none 0 0) := (hb7.cell (p := ⟨wr.heap.size, 2, none⟩) (by first | assumption | (simp; done) | (simp; omega))).trans (by first | assumption | (simp; done)); have g2 : w7.frozen? ⟨wr.heap.size, 2, none⟩ = false := (hb7.frozen (p := ⟨wr.heap.size, 2, none⟩) (by first | assumption | (simp; done) | (simp; omega))).trans (by first | assumption | (simp; done)); have gx : wr.heap.size < w7.heap.size := World.block_lt_of_cell? _ _ z0)); (try (have z0 : w7.cell? ⟨w3.heap.size, 0, none⟩ = some (.int .i64 0) := (hb7.cell (p := ⟨w3.heap.size, 0, none⟩) (by first | assumption | (simp; done) | (simp; omega))).trans (by first | assumption | (simp; done)); have g0 : w7.frozen? ⟨w3.heap.size, 0, none⟩ = false := (hb7.frozen (p := ⟨w3.heap.size, 0, none⟩) (by first | assumption | (simp; done) | (simp; omega))).trans (by first | assumption | (simp; done)); have z1 : w7.cell? ⟨w3.heap.size, 1, none⟩ = some (.slice none 0 0) := (hb7.cell (p := ⟨w3.heap.size, 1, none⟩) (by first | assumption | (simp; done) | (simp; omega))).trans (by first | assumption | (simp; done)); have g1 : w7.frozen? ⟨w3.heap.size, 1, none⟩ = false := (hb7.frozen (p := ⟨w3.heap.size, 1, none⟩) (by first | assumption | (simp; done) | (simp; omega))).trans (by first | assumption | (simp; done)); have z2 : w7.cell? ⟨w3.heap.size, 2, none⟩ = some (.slice none 0 0) := (hb7.cell (p := ⟨w3.heap.size, 2, none⟩) (by first | assumption | (simp; done) | (simp; omega))).trans (by first | assumption | (simp; done)); have g2 : w7.frozen? ⟨w3.heap.size, 2, none⟩ = false := (hb7.frozen (p := ⟨w3.heap.size, 2, none⟩) (by first | assumption | (simp; done) | (simp; omega))).trans (by first | assumption | (simp; done)); have gx : w3.heap.size < w7.heap.size := World.block_lt_of_cell? _ _ z0)); (try (have z0 : w7.cell? ⟨w6.heap.size, 0, none⟩ = some (.int .i64 0) := (hb7.cell (p := ⟨w6.heap.size, 0, none⟩) (by first | assumption | (simp; done) | (simp; omega))).trans (by first | assumption | (simp; done)); have g0 : w7.frozen? ⟨w6.heap.size, 0, none⟩ = false := (hb7.frozen (p := ⟨w6.heap.size, 0, none⟩) (by first | assumption | (simp; done) | (simp; omega))).trans (by first | assumption | (simp; done)); have z1 : w7.cell? ⟨w6.heap.size, 1, none⟩ = some (.slice none 0 0) := (hb7.cell (p := ⟨w6.heap.size, 1, none⟩) (by first | assumption | (simp; done) | (simp; omega))).trans (by first | assumption | (simp; done)); have g1 : w7.frozen? ⟨w6.heap.size, 1, none⟩ = false := (hb7.frozen (p := ⟨w6.heap.size, 1, none⟩) (by first | assumption | (simp; done) | (simp; omega))).trans (by first | assumption | (simp; done)); have z2 : w7.cell? ⟨w6.heap.size, 2, none⟩ = some (.slice none 0 0) := (hb7.cell (p := ⟨w6.heap.size, 2, none⟩) (by first | assumption | (simp; done) | (simp; omega))).trans (by first | assumption | (simp; done)); have g2 : w7.frozen? ⟨w6.heap.size, 2, none⟩ = false := (hb7.frozen (p := ⟨w6.heap.size, 2, none⟩) (by first | assumption | (simp; done) | (simp; omega))).trans (by first | assumption | (simp; done)); have gx : w6.heap.size < w7.heap.size := World.block_lt_of_cell? _ _ z0)); have kk := KD.out _ hx7; obtain ⟨o1, o2, o3⟩ := kk))
          all_goals
            go_wp2_with fail
            go_meet
            have hPm : P.length ≤ 60 := by rw [HP.out, List.length_take, cln_len, HL5.out, List.length_take]; omega
            have hb3 := hblk
            first
            | exact ⟨_, i, kc, r, C, P, L5, a7, c7, a8, c8, rfl, HhC.out, hik, HP, hPl, hPm, hid (FitR.late _ hx7 hy7 s8 (fun ad ha => by have hq := hblk ad ha; first | omega | (simp at hq; omega)))⟩
            | exact ⟨_, i, kc, r, C, P, L5, a7, c7, a8, c8, rfl, HhC.out, hik, HP, hPl, hPm, hid (FitR.early hx7 hy7 (by omega) (by omega) z0 z1 z2 s8 (fun ad ha => by have hq := hblk ad ha; first | omega | (simp at hq; omega)))⟩
        case rest =>
          obtain ⟨X, i, kc, r, C, P, L5, a7, c7, a8, c8, rfl, hC, hik, HP, hPl, hP50, HR⟩ := hcut
          have TC : Hid (Tab wc w1.heap.size F pt st) := HT.out.bel HR.out.hwr
          have GC : Hid (Tab wc w1.heap.size G pr st) := HG.out.bel HR.out.hwr
          have hnF : Hid (¬ F X) := fun hx => by have := (HT.out.lt _ hx).2; have := HR.out.hX; omega
          have hnG : Hid (¬ G X) := fun hx => by have := (HG.out.lt _ hx).2; have := HR.out.hX; omega
          have hoP : Hid (Off a8 F) := fun ad ha hx => by have := (HT.out.lt _ hx).2; have := HR.out.blk ad ha; omega
          have hCl : C.length ≤ 1000 := by have := st_tl HT.out.wf; omega
          have e0 := HR.out.c0; have e1 := HR.out.c1; have e2 := HR.out.c2
          have hB0 : w1.heap.size ≤ wc.heap.size := by have := TC.out.lt _ TC.out.ptF; omega
          obtain ⟨E, hE⟩ : ∃ E, splE st i C.length P = E := ⟨_, rfl⟩
          obtain ⟨st', hst'⟩ : ∃ st', splS st i C.length P = st' := ⟨_, rfl⟩
          have HE := hid hE; have HST := hid hst'
          clear hE hst' hC hik hPl
          have HSP := hid (splice_is w1.heap.size F pt st i C.length a8 c8 P wc.drew TC.out.drew (by simpa using hB0) HR.out.sl.drew (.inr hoP.out) (by omega) HE.out HST.out)
          go_wp2
          go_region_held3 (fun w' => w'.cell? ⟨X, 0, none⟩ = some (.int .i64 i) ∧ w'.cell? ⟨X, 1, none⟩ = some (.slice a7 C.length c7) ∧ w'.cell? ⟨X, 2, none⟩ = some (.slice a8 P.length c8)) (first | assumption | exact ⟨by assumption, by assumption, by assumption⟩ | go_keep)
            (first | (go_at_call 21; refine HSP.out.mono ?_; rintro e w9 ⟨rfl, ht9, hk9⟩; have T9 := hid ht9; have K9 := hid hk9; have v0 : w9.cell? ⟨X, 0, none⟩ = some (.int .i64 i) := hk9.cell e0 hnF.out; have v1 : w9.cell? ⟨X, 1, none⟩ = some (.slice a7 C.length c7) := hk9.cell e1 hnF.out; have v2 : w9.cell? ⟨X, 2, none⟩ = some (.slice a8 P.length c8) := hk9.cell e2 hnF.out; clear ht9 hk9; have G9 : Hid (Tab w9 w1.heap.size G pr st) := GC.out.drew.kpt K9.out HD.out.symm; have S9 : Hid (Sl w9 a8 P) := HR.out.sl.drew.kpt hoP.out K9.out; have D9 : Hid (Dis (Gr F wc.drew w9) G) := (GC.out.drew.dis HD.out.symm).symm)
                       | (go_at_call 22; refine (rsplice_is w1.heap.size G pr st i C.length a8 c8 P w9 G9.out (by have := K9.out.size; simp at this; omega) S9.out HE.out HST.out).mono ?_; rintro e w10 ⟨rfl, ht10, hk10⟩; have G10 := hid ht10; have K10 := hid hk10; have q0 : w10.cell? ⟨X, 0, none⟩ = some (.int .i64 i) := hk10.cell v0 hnG.out; have q1 : w10.cell? ⟨X, 1, none⟩ = some (.slice a7 C.length c7) := hk10.cell v1 hnG.out; have q2 : w10.cell? ⟨X, 2, none⟩ = some (.slice a8 P.length c8) := hk10.cell v2 hnG.out; clear ht10 hk10; have T10 : Hid (Tab w10 w1.heap.size (Gr F wc.drew w9) pt st') := T9.out.kpt K10.out D9.out; have D10 : Hid (Dis (Gr F wc.drew w9) (Gr G w9 w10)) := T9.out.dis D9.out)
                       | (go_at_call 15; refine (same_c w1.heap.size w1.heap.size _ _ pt pr st' w10 T10.out G10.out).mono ?_; rintro e w11 ⟨rfl, hb11⟩; have T11 := hid (T10.out.bel hb11); have G11 := hid (G10.out.bel hb11); have x0' : w11.cell? ⟨X, 0, none⟩ = some (.int .i64 i) := (by rw [hb11.cell (p := ⟨X, 0, none⟩) (World.block_lt_of_cell? _ _ q0)]; exact q0); have x1' : w11.cell? ⟨X, 1, none⟩ = some (.slice a7 C.length c7) := (by rw [hb11.cell (p := ⟨X, 1, none⟩) (World.block_lt_of_cell? _ _ q1)]; exact q1); have x2' : w11.cell? ⟨X, 2, none⟩ = some (.slice a8 P.length c8) := (by rw [hb11.cell (p := ⟨X, 2, none⟩) (World.block_lt_of_cell? _ _ q2)]; exact q2)))
          have B11 : Below W.heap.size W w11 := by
            have h9 : Below W.heap.size W w9 := HR.out.hW.drew.trans (K9.out.below (fun k hf => by have := (TC.out.lt k hf).1; omega) HR.out.hW.size)
            have h10 : Below W.heap.size W w10 := h9.trans (K10.out.below (fun k hf => by have := (GC.out.lt k hf).1; omega) h9.size)
            exact bthen h10 hb11
          go_wp2
          go_roundg (n - (k + 1))
          case measure => have := Hgk.out; omega
          case rel => exact ⟨k + 1, _, _, st', rfl, by go_num, by omega, T11, G11, D10, B11⟩
      · go_wp2_with fail
        refine (known_c wr).mono ?_
        rintro e w11 ⟨rfl, hb11⟩
        go_wp2
        go_ret
        exact ⟨rfl, bthen hb hb11⟩
    · go_wp2_with fail
      refine (known_c wr).mono ?_
      rintro e w11 ⟨rfl, hb11⟩
      go_wp2
      go_ret
      exact ⟨rfl, bthen hb hb11⟩
end Go.Proofs.Ytogodddkbnkeiaa
