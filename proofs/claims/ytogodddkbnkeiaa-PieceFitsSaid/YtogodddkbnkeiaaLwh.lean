/- Layer 3's law: PieceWhole. -/
import Derived.Test.YtogodddkbnkeiaaLli
import Derived.Deep.DeepCutAuto
namespace Go.Proofs.Ytogodddkbnkeiaa
open Go.RowKit

theorem splS_fits {s : St} {a c : Nat} {put : List Int} (hf : fits s a c put) (hm : may put = true) : splE s a c put = 0 ∧ (splS s a c put).a.length = s.a.length + put.length ∧ (splS s a c put).o = s.o := by
  have h0 : splE s a c put = 0 := splE_ok (by have := hf.1; simp [wth]; omega) hm (by have := hf.2; simp [ovr]; omega)
  refine ⟨h0, ?_, ?_⟩
  · simp only [splS, h0, true_and]
    split
    · simp [spl]
    · rename_i h; have h := Decidable.not_not.1 h; rw [h.2]; simp
  · simp only [splS, h0, true_and]
    split <;> rfl
theorem lsrc {s : St} (h : Wf s) {p : Pc} (hp : p ∈ s.p) : 1 ≤ p.n ∧ p.fr + p.n ≤ (if p.add = true then s.a.length else s.o.length) := by
  have := h.lies p hp
  unfold src at this
  split at this <;> simp_all

theorem own_cap {w : World} {base : Nat} {a : Option Addr} {c : Nat} {l : List Int} (h : Own w base a c l) : l.length ≤ c := by
  rcases h.shape with ⟨_, _, h0⟩ | ⟨_, _, _, _, h0⟩
  · simp [h0]
  · exact h0
theorem st_tl {s : St} (h : Wf s) : s.t.length = tot s.p := by rw [St.t, txt_len h.lies]

/-- a change that was made for a table, in a variable of its own -/
structure FitR (W wr w : World) (X : Nat) (i : Nat) (C P : List Int) (a7 : Option Addr) (c7 : Nat) (a8 : Option Addr) (c8 : Nat) : Prop where
  hW : Below W.heap.size W w
  hwr : Below wr.heap.size wr w
  hX : wr.heap.size ≤ X
  c0 : w.cell? ⟨X, 0, none⟩ = some (.int .i64 i)
  c1 : w.cell? ⟨X, 1, none⟩ = some (.slice a7 C.length c7)
  c2 : w.cell? ⟨X, 2, none⟩ = some (.slice a8 P.length c8)
  sl : Sl w a8 P
  blk : ∀ ad, a8 = some ad → wr.heap.size ≤ ad.block
theorem FitR.late {W wr w : World} {i : Nat} {C P : List Int} {a7 : Option Addr} {c7 : Nat} {a8 : Option Addr} {c8 : Nat} (e : TypeId) (h1 : Below W.heap.size W w) (h2 : Below wr.heap.size wr w) (hs : Sl w a8 P) (hb : ∀ ad, a8 = some ad → wr.heap.size ≤ ad.block) :
    FitR W wr (w.alloc (.cells #[.int .i64 i, .slice a7 C.length c7, .slice a8 P.length c8] e)) w.heap.size i C P a7 c7 a8 c8 :=
  ⟨bal h1 _, bal h2 _, h2.size, by rw [cell_alloc_new]; rfl, by rw [cell_alloc_new]; rfl, by rw [cell_alloc_new]; rfl, hs.alloc _, hb⟩
theorem FitR.early {W wr w : World} {X : Nat} {i : Nat} {C P : List Int} {a7 : Option Addr} {c7 : Nat} {a8 : Option Addr} {c8 : Nat} (h1 : Below W.heap.size W w) (h2 : Below wr.heap.size wr w) (hW : W.heap.size ≤ X) (hX : wr.heap.size ≤ X)
    {u0 u1 u2 : Value} (z0 : w.cell? ⟨X, 0, none⟩ = some u0) (z1 : w.cell? ⟨X, 1, none⟩ = some u1) (z2 : w.cell? ⟨X, 2, none⟩ = some u2) (hs : Sl w a8 P) (hb : ∀ ad, a8 = some ad → wr.heap.size ≤ ad.block ∧ ad.block ≠ X) :
    FitR W wr (((w.setCell ⟨X, 0, none⟩ (.int .i64 i)).setCell ⟨X, 1, none⟩ (.slice a7 C.length c7)).setCell ⟨X, 2, none⟩ (.slice a8 P.length c8)) X i C P a7 c7 a8 c8 := by
  refine ⟨((h1.setCell hW _).setCell hW _).setCell hW _, ((h2.setCell hX _).setCell hX _).setCell hX _, hX, ?_, ?_, ?_, ((hs.setOther _ _ fun ad ha => (hb ad ha).2).setOther _ _ fun ad ha => (hb ad ha).2).setOther _ _ fun ad ha => (hb ad ha).2, fun ad ha => (hb ad ha).1⟩
  · rw [World.cell?_setCell_other (h := by simp), World.cell?_setCell_other (h := by simp), World.cell?_setCell_same (u := u0)]; exact z0
  · rw [World.cell?_setCell_other (h := by simp), World.cell?_setCell_same (u := u1)]
    rw [World.cell?_setCell_other (h := by simp)]; exact z1
  · rw [World.cell?_setCell_same (u := u2)]
    rw [World.cell?_setCell_other (h := by simp), World.cell?_setCell_other (h := by simp)]; exact z2

set_option maxRecDepth 100000 in
set_option maxHeartbeats 16000000 in
theorem whole_walk (a0 a1 : Option Addr) (c0 c1 n : Nat) (l : List Int) (f : Nat → Dd) (W : World) (hl : Sl W a0 l) (hc : l.length ≤ c0) (hd : Dds W a1 n f) (hn : n ≤ 35184372087808) :
    Calls Try.prog 6 #[.slice a0 l.length c0, .slice a1 n c1] W fun e w' => e = .returned (.bool true) ∧ Below W.heap.size W w' := by
  have Hd := hid hd
  clear hd
  go_enter Try.func6, Try.ntmps6
  go_wp2_with fail
  refine (cut_c a0 c0 l 300 W hl hc (by omega)).mono ?_
  rintro e w' ⟨a2, c2, L1, rfl, HL1, s1, hc1, rfl⟩
  have hL1 : L1.length ≤ 300 := by rw [HL1.out, List.length_take]; omega
  go_wp2_with fail
  refine (clean_c a2 c2 L1 _ s1).mono ?_
  rintro e w1 ⟨a3, c3, rfl, ho2, hb1⟩
  have hS := cln_may L1
  have hSl := cln_len L1
  generalize cln L1 = S at ho2 hS hSl ⊢
  have HoS := hid ho2
  have hSl3 : S.length ≤ 300 := by omega
  have HmS := hid hS
  have B1 := hid hb1
  clear ho2 s1 hl HL1 hL1 hSl hc1 hS hb1
  go_wp2_with fail
  refine (new_t a3 c3 S w1 HoS.out.sl HmS.out (by omega)).mono ?_
  rintro e w2 ⟨pt, rfl, ht, hb2⟩
  have hstart : Hid (Tab w2 w1.heap.size (New w1 w2) pt (st0 S) ∧ Below W.heap.size W w2) := ⟨ht, bthen B1.out hb2⟩
  have hBW : W.heap.size ≤ w1.heap.size := B1.out.size
  clear ht hb2
  go_wp2
  go_loopg [7] n (fun gg i wr => ∃ (k : Nat) (F : Nat → Prop) (st : St), gg = n - k ∧ i = .int .i64 k ∧ k ≤ n ∧ Hid (st.o = S ∧ st.a.length ≤ 50 * k) ∧ Hid (Tab wr w1.heap.size F pt st) ∧ Below W.heap.size W wr)
  case atStart => exact ⟨0, New w1 w2, st0 S, rfl, rfl, Nat.zero_le _, ⟨rfl, by simp [st0]⟩, hstart.out.1, hstart.out.2⟩
  case round =>
    obtain ⟨k, F, st, hgk, rfl, hk, HS, HT, hb⟩ := hrel
    have Hgk := hid hgk
    clear hgk
    by_cases hlt : k < n
    · by_cases h30 : k < 30
      · have hDW := Hd.out k hlt
        generalize f k = d at hDW
        have HDW := hid hDW
        clear hDW
        obtain ⟨b, off, rfl, x0, x1, x2, x3⟩ := HDW.out.cells
        have hbW : b < W.heap.size := World.block_lt_of_cell? W _ x0
        have hkn : (k : Int) < (n : Int) := by omega
        have htot := HT.out.wf.tot
        have hal := HS.out.2
        have KD : Hid (∀ w', Below W.heap.size W w' → w'.cell? ⟨b, off + k * 4 + 1, none⟩ = some (.int .i64 d.at_) ∧ w'.cell? ⟨b, off + k * 4 + 2, none⟩ = some (.int .i64 d.cut) ∧ w'.cell? ⟨b, off + k * 4 + 3, none⟩ = some (.slice d.pa d.put.length d.pc)) := fun w' hb' => by
          refine ⟨?_, ?_, ?_⟩
          · rw [hb'.cell (p := ⟨b, off + k * 4 + 1, none⟩) hbW]; exact x1
          · rw [hb'.cell (p := ⟨b, off + k * 4 + 2, none⟩) hbW]; exact x2
          · rw [hb'.cell (p := ⟨b, off + k * 4 + 3, none⟩) hbW]; exact x3
        have SD : Hid (∀ w', Below W.heap.size W w' → Sl w' d.pa d.put) := fun w' hb' => HDW.out.sl.bel hb'
        have hcapd := HDW.out.cap
        have hz0 := hb.size
        have kk0 := KD.out _ hb
        obtain ⟨y1, y2, y3⟩ := kk0
        clear x0 x1 x2 x3
        go_upto_region 8 with fail
        go_cut [8] (fun s8 wc => ∃ (X i kc r : Nat) (C P L5 : List Int) (a7 : Option Addr) (c7 : Nat) (a8 : Option Addr) (c8 : Nat), s8 = .pointer (some ⟨X, 0, none⟩) ∧ C.length = kc ∧ i + kc ≤ st.t.length ∧ Hid (P = (cln L5).take r) ∧ P.length + (st.t.length - kc) ≤ 1000 ∧ P.length ≤ 50 ∧ Hid (FitR W wr wc X i C P a7 c7 a8 c8))
        case first =>
          have hx0 : Below W.heap.size W wr.drew := hb.drew
          have hy0 : Below wr.heap.size wr wr.drew := (Below.refl _ _).drew
          go_region_held3 (fun w' => Below W.heap.size W w' ∧ Below wr.heap.size wr w' ∧ w'.cell? ⟨b, off + k * 4 + 1, none⟩ = some (.int .i64 d.at_) ∧ w'.cell? ⟨b, off + k * 4 + 2, none⟩ = some (.int .i64 d.cut) ∧ w'.cell? ⟨b, off + k * 4 + 3, none⟩ = some (.slice d.pa d.put.length d.pc)) (first | assumption | exact ⟨by assumption, by assumption, by assumption, by assumption, by assumption⟩ | (refine ⟨(by (repeat' (first | exact Below.refl _ _ | assumption | refine bdrewN ?_ _ | refine Below.drew ?_ | refine bal ?_ _ | refine bthen ?_ (by assumption)))), (by (repeat' (first | exact Below.refl _ _ | assumption | refine bdrewN ?_ _ | refine Below.drew ?_ | refine bal ?_ _ | refine bthen ?_ (by assumption)))), ?_, ?_, ?_⟩ <;> go_keep) | (refine ⟨(((hx7.setCell (by first | omega | (simp; done) | (simp; omega)) _).setCell (by first | omega | (simp; done) | (simp; omega)) _).setCell (by first | omega | (simp; done) | (simp; omega)) _), (((hy7.setCell (by first | omega | (simp; done) | (simp; omega)) _).setCell (by first | omega | (simp; done) | (simp; omega)) _).setCell (by first | omega | (simp; done) | (simp; omega)) _), ?_, ?_, ?_⟩ <;> first | exact (KD.out _ (((hx7.setCell (by first | omega | (simp; done) | (simp; omega)) _).setCell (by first | omega | (simp; done) | (simp; omega)) _).setCell (by first | omega | (simp; done) | (simp; omega)) _)).1 | exact (KD.out _ (((hx7.setCell (by first | omega | (simp; done) | (simp; omega)) _).setCell (by first | omega | (simp; done) | (simp; omega)) _).setCell (by first | omega | (simp; done) | (simp; omega)) _)).2.1 | exact (KD.out _ (((hx7.setCell (by first | omega | (simp; done) | (simp; omega)) _).setCell (by first | omega | (simp; done) | (simp; omega)) _).setCell (by first | omega | (simp; done) | (simp; omega)) _)).2.2) | go_keep)
            (first | (go_at_call 26; refine (text_t w1.heap.size F pt st _ (HT.out.bel (by (repeat' (first | exact Below.refl _ _ | assumption | refine bdrewN ?_ _ | refine Below.drew ?_ | refine bal ?_ _ | refine bthen ?_ (by assumption)))))).mono ?_; rintro e w3 ⟨a4, c4, rfl, ho4, hb4⟩; have HO4 := hid ho4; have hx1 : Below W.heap.size W w3 := bthen (by (repeat' (first | exact Below.refl _ _ | assumption | refine bdrewN ?_ _ | refine Below.drew ?_ | refine bal ?_ _ | refine bthen ?_ (by assumption)))) hb4; have hy1 : Below wr.heap.size wr w3 := bthen (by (repeat' (first | exact Below.refl _ _ | assumption | refine bdrewN ?_ _ | refine Below.drew ?_ | refine bal ?_ _ | refine bthen ?_ (by assumption)))) hb4; have hz1 := hy1.size; (try (have z0 : w3.cell? ⟨wr.heap.size, 0, none⟩ = some (.int .i64 0) := (hb4.cell (p := ⟨wr.heap.size, 0, none⟩) (by first | assumption | (simp; done) | (simp; omega))).trans (by first | assumption | (simp; done)); have g0 : w3.frozen? ⟨wr.heap.size, 0, none⟩ = false := (hb4.frozen (p := ⟨wr.heap.size, 0, none⟩) (by first | assumption | (simp; done) | (simp; omega))).trans (by first | assumption | (simp; done)); have z1 : w3.cell? ⟨wr.heap.size, 1, none⟩ = some (.slice none 0 0) := (hb4.cell (p := ⟨wr.heap.size, 1, none⟩) (by first | assumption | (simp; done) | (simp; omega))).trans (by first | assumption | (simp; done)); have g1 : w3.frozen? ⟨wr.heap.size, 1, none⟩ = false := (hb4.frozen (p := ⟨wr.heap.size, 1, none⟩) (by first | assumption | (simp; done) | (simp; omega))).trans (by first | assumption | (simp; done)); have z2 : w3.cell? ⟨wr.heap.size, 2, none⟩ = some (.slice none 0 0) := (hb4.cell (p := ⟨wr.heap.size, 2, none⟩) (by first | assumption | (simp; done) | (simp; omega))).trans (by first | assumption | (simp; done)); have g2 : w3.frozen? ⟨wr.heap.size, 2, none⟩ = false := (hb4.frozen (p := ⟨wr.heap.size, 2, none⟩) (by first | assumption | (simp; done) | (simp; omega))).trans (by first | assumption | (simp; done)); have gx : wr.heap.size < w3.heap.size := World.block_lt_of_cell? _ _ z0)); have kk := KD.out _ hx1; obtain ⟨m1, m2, m3⟩ := kk)
                       | (go_at_call 18; refine (cut_c d.pa d.pc d.put 50 _ (SD.out _ (by (repeat' (first | exact Below.refl _ _ | assumption | refine bdrewN ?_ _ | refine Below.drew ?_ | refine bal ?_ _ | refine bthen ?_ (by assumption))))) hcapd (by omega)).mono ?_; rintro e w' ⟨a5, c5, L5, rfl, HL5, s5, hc5, rfl⟩)
                       | (go_at_call 17; refine (clean_c a5 c5 L5 _ (by (repeat' (first | assumption | exact Sl.nil _ _ | refine Sl.drewN ?_ _ | refine Sl.drew ?_ | refine Sl.alloc ?_ _ | refine Sl.bel ?_ (by assumption))))).mono ?_; rintro e w6 ⟨a6, c6, rfl, ho6, hb6⟩; have HO6 := hid ho6; have hx6 : Below W.heap.size W w6 := bthen (by (repeat' (first | exact Below.refl _ _ | assumption | refine bdrewN ?_ _ | refine Below.drew ?_ | refine bal ?_ _ | refine bthen ?_ (by assumption)))) hb6; have hy6 : Below wr.heap.size wr w6 := bthen (by (repeat' (first | exact Below.refl _ _ | assumption | refine bdrewN ?_ _ | refine Below.drew ?_ | refine bal ?_ _ | refine bthen ?_ (by assumption)))) hb6; have h36 : Below w3.heap.size w3 w6 := bthen (by (repeat' (first | exact Below.refl _ _ | assumption | refine bdrewN ?_ _ | refine Below.drew ?_ | refine bal ?_ _ | refine bthen ?_ (by assumption)))) hb6; have hz6 := h36.size; (try (have z0 : w6.cell? ⟨wr.heap.size, 0, none⟩ = some (.int .i64 0) := (hb6.cell (p := ⟨wr.heap.size, 0, none⟩) (by first | assumption | (simp; done) | (simp; omega))).trans (by first | assumption | (simp; done)); have g0 : w6.frozen? ⟨wr.heap.size, 0, none⟩ = false := (hb6.frozen (p := ⟨wr.heap.size, 0, none⟩) (by first | assumption | (simp; done) | (simp; omega))).trans (by first | assumption | (simp; done)); have z1 : w6.cell? ⟨wr.heap.size, 1, none⟩ = some (.slice none 0 0) := (hb6.cell (p := ⟨wr.heap.size, 1, none⟩) (by first | assumption | (simp; done) | (simp; omega))).trans (by first | assumption | (simp; done)); have g1 : w6.frozen? ⟨wr.heap.size, 1, none⟩ = false := (hb6.frozen (p := ⟨wr.heap.size, 1, none⟩) (by first | assumption | (simp; done) | (simp; omega))).trans (by first | assumption | (simp; done)); have z2 : w6.cell? ⟨wr.heap.size, 2, none⟩ = some (.slice none 0 0) := (hb6.cell (p := ⟨wr.heap.size, 2, none⟩) (by first | assumption | (simp; done) | (simp; omega))).trans (by first | assumption | (simp; done)); have g2 : w6.frozen? ⟨wr.heap.size, 2, none⟩ = false := (hb6.frozen (p := ⟨wr.heap.size, 2, none⟩) (by first | assumption | (simp; done) | (simp; omega))).trans (by first | assumption | (simp; done)); have gx : wr.heap.size < w6.heap.size := World.block_lt_of_cell? _ _ z0)); (try (have z0 : w6.cell? ⟨w3.heap.size, 0, none⟩ = some (.int .i64 0) := (hb6.cell (p := ⟨w3.heap.size, 0, none⟩) (by first | assumption | (simp; done) | (simp; omega))).trans (by first | assumption | (simp; done)); have g0 : w6.frozen? ⟨w3.heap.size, 0, none⟩ = false := (hb6.frozen (p := ⟨w3.heap.size, 0, none⟩) (by first | assumption | (simp; done) | (simp; omega))).trans (by first | assumption | (simp; done)); have z1 : w6.cell? ⟨w3.heap.size, 1, none⟩ = some (.slice none 0 0) := (hb6.cell (p := ⟨w3.heap.size, 1, none⟩) (by first | assumption | (simp; done) | (simp; omega))).trans (by first | assumption | (simp; done)); have g1 : w6.frozen? ⟨w3.heap.size, 1, none⟩ = false := (hb6.frozen (p := ⟨w3.heap.size, 1, none⟩) (by first | assumption | (simp; done) | (simp; omega))).trans (by first | assumption | (simp; done)); have z2 : w6.cell? ⟨w3.heap.size, 2, none⟩ = some (.slice none 0 0) := (hb6.cell (p := ⟨w3.heap.size, 2, none⟩) (by first | assumption | (simp; done) | (simp; omega))).trans (by first | assumption | (simp; done)); have g2 : w6.frozen? ⟨w3.heap.size, 2, none⟩ = false := (hb6.frozen (p := ⟨w3.heap.size, 2, none⟩) (by first | assumption | (simp; done) | (simp; omega))).trans (by first | assumption | (simp; done)); have gx : w3.heap.size < w6.heap.size := World.block_lt_of_cell? _ _ z0)); have kk := KD.out _ hx6; obtain ⟨n1, n2, n3⟩ := kk)
                       | (go_at_call 19; refine (fit_c a4 a6 c4 c6 st.t (cln L5) d.at_ d.cut _ (HO4.out.sl.bel (by (repeat' (first | exact Below.refl _ _ | assumption | refine bdrewN ?_ _ | refine Below.drew ?_ | refine bal ?_ _ | refine bthen ?_ (by assumption))))) (HO6.out.sl.bel (by (repeat' (first | exact Below.refl _ _ | assumption | refine bdrewN ?_ _ | refine Below.drew ?_ | refine bal ?_ _ | refine bthen ?_ (by assumption))))) (own_cap HO4.out) (by rw [st_tl HT.out.wf]; exact htot) (by rw [cln_len, HL5.out, List.length_take]; omega)).mono ?_; rintro e w7 ⟨i, kc, r, C, P, a7, c7, a8, c8, rfl, hC, hik, HC, HP, hPl, ho7, s8, hc8, hblk, hb7⟩; have HhC := hid hC; clear hC; have hx7 : Below W.heap.size W w7 := bthen (by (repeat' (first | exact Below.refl _ _ | assumption | refine bdrewN ?_ _ | refine Below.drew ?_ | refine bal ?_ _ | refine bthen ?_ (by assumption)))) hb7; have hy7 : Below wr.heap.size wr w7 := bthen (by (repeat' (first | exact Below.refl _ _ | assumption | refine bdrewN ?_ _ | refine Below.drew ?_ | refine bal ?_ _ | refine bthen ?_ (by assumption)))) hb7; have hz7 := hb7.size; (try (have z0 : w7.cell? ⟨wr.heap.size, 0, none⟩ = some (.int .i64 0) := (hb7.cell (p := ⟨wr.heap.size, 0, none⟩) (by first | assumption | (simp; done) | (simp; omega))).trans (by first | assumption | (simp; done)); have g0 : w7.frozen? ⟨wr.heap.size, 0, none⟩ = false := (hb7.frozen (p := ⟨wr.heap.size, 0, none⟩) (by first | assumption | (simp; done) | (simp; omega))).trans (by first | assumption | (simp; done)); have z1 : w7.cell? ⟨wr.heap.size, 1, none⟩ = some (.slice none 0 0) := (hb7.cell (p := ⟨wr.heap.size, 1, none⟩) (by first | assumption | (simp; done) | (simp; omega))).trans (by first | assumption | (simp; done)); have g1 : w7.frozen? ⟨wr.heap.size, 1, none⟩ = false := (hb7.frozen (p := ⟨wr.heap.size, 1, none⟩) (by first | assumption | (simp; done) | (simp; omega))).trans (by first | assumption | (simp; done)); have z2 : w7.cell? ⟨wr.heap.size, 2, none⟩ = some (.slice none 0 0) := (hb7.cell (p := ⟨wr.heap.size, 2, none⟩) (by first | assumption | (simp; done) | (simp; omega))).trans (by first | assumption | (simp; done)); have g2 : w7.frozen? ⟨wr.heap.size, 2, none⟩ = false := (hb7.frozen (p := ⟨wr.heap.size, 2, none⟩) (by first | assumption | (simp; done) | (simp; omega))).trans (by first | assumption | (simp; done)); have gx : wr.heap.size < w7.heap.size := World.block_lt_of_cell? _ _ z0)); (try (have z0 : w7.cell? ⟨w3.heap.size, 0, none⟩ = some (.int .i64 0) := (hb7.cell (p := ⟨w3.heap.size, 0, none⟩) (by first | assumption | (simp; done) | (simp; omega))).trans (by first | assumption | (simp; done)); have g0 : w7.frozen? ⟨w3.heap.size, 0, none⟩ = false := (hb7.frozen (p := ⟨w3.heap.size, 0, none⟩) (by first | assumption | (simp; done) | (simp; omega))).trans (by first | assumption | (simp; done)); have z1 : w7.cell? ⟨w3.heap.size, 1, none⟩ = some (.slice none 0 0) := (hb7.cell (p := ⟨w3.heap.size, 1, none⟩) (by first | assumption | (simp; done) | (simp; omega))).trans (by first | assumption | (simp; done)); have g1 : w7.frozen? ⟨w3.heap.size, 1, none⟩ = false := (hb7.frozen (p := ⟨w3.heap.size, 1, none⟩) (by first | assumption | (simp; done) | (simp; omega))).trans (by first | assumption | (simp; done)); have z2 : w7.cell? ⟨w3.heap.size, 2, none⟩ = some (.slice none 0 0) := (hb7.cell (p := ⟨w3.heap.size, 2, none⟩) (by first | assumption | (simp; done) | (simp; omega))).trans (by first | assumption | (simp; done)); have g2 : w7.frozen? ⟨w3.heap.size, 2, none⟩ = false := (hb7.frozen (p := ⟨w3.heap.size, 2, none⟩) (by first | assumption | (simp; done) | (simp; omega))).trans (by first | assumption | (simp; done)); have gx : w3.heap.size < w7.heap.size := World.block_lt_of_cell? _ _ z0)); (try (have z0 : w7.cell? ⟨w6.heap.size, 0, none⟩ = some (.int .i64 0) := (hb7.cell (p := ⟨w6.heap.size, 0, none⟩) (by first | assumption | (simp; done) | (simp; omega))).trans (by first | assumption | (simp; done)); have g0 : w7.frozen? ⟨w6.heap.size, 0, none⟩ = false := (hb7.frozen (p := ⟨w6.heap.size, 0, none⟩) (by first | assumption | (simp; done) | (simp; omega))).trans (by first | assumption | (simp; done)); have z1 : w7.cell? ⟨w6.heap.size, 1, none⟩ = some (.slice none 0 0) := (hb7.cell (p := ⟨w6.heap.size, 1, none⟩) (by first | assumption | (simp; done) | (simp; omega))).trans (by first | assumption | (simp; done)); have g1 : w7.frozen? ⟨w6.heap.size, 1, none⟩ = false := (hb7.frozen (p := ⟨w6.heap.size, 1, none⟩) (by first | assumption | (simp; done) | (simp; omega))).trans (by first | assumption | (simp; done)); have z2 : w7.cell? ⟨w6.heap.size, 2, none⟩ = some (.slice none 0 0) := (hb7.cell (p := ⟨w6.heap.size, 2, none⟩) (by first | assumption | (simp; done) | (simp; omega))).trans (by first | assumption | (simp; done)); have g2 : w7.frozen? ⟨w6.heap.size, 2, none⟩ = false := (hb7.frozen (p := ⟨w6.heap.size, 2, none⟩) (by first | assumption | (simp; done) | (simp; omega))).trans (by first | assumption | (simp; done)); have gx : w6.heap.size < w7.heap.size := World.block_lt_of_cell? _ _ z0)); have kk := KD.out _ hx7; obtain ⟨o1, o2, o3⟩ := kk))
          all_goals
            go_wp2_with fail
            go_meet
            have hPm : P.length ≤ 50 := by rw [HP.out, List.length_take, cln_len, HL5.out, List.length_take]; omega
            have hb3 := hblk
            first
            | exact ⟨_, i, kc, r, C, P, L5, a7, c7, a8, c8, rfl, HhC.out, hik, HP, hPl, hPm, hid (FitR.late _ hx7 hy7 s8 (fun ad ha => by have hq := hblk ad ha; first | omega | (simp at hq; omega)))⟩
            | exact ⟨_, i, kc, r, C, P, L5, a7, c7, a8, c8, rfl, HhC.out, hik, HP, hPl, hPm, hid (FitR.early hx7 hy7 (by omega) (by omega) z0 z1 z2 s8 (fun ad ha => by have hq := hblk ad ha; first | omega | (simp at hq; omega)))⟩
        case rest =>
          obtain ⟨X, i, kc, r, C, P, L5, a7, c7, a8, c8, rfl, hC, hik, HP, hPl, hP50, HR⟩ := hcut
          have hmP : Hid (may P = true) := by rw [Hid, HP.out]; exact may_take (cln_may L5) r
          have hf : fits st i C.length P := ⟨by rw [st_tl HT.out.wf] at hik; omega, by rw [st_tl HT.out.wf] at hPl; omega, by omega⟩
          have hsf := splS_fits hf hmP.out
          have HC' := hid hC
          have TC : Hid (Tab wc w1.heap.size F pt st) := HT.out.bel HR.out.hwr
          have hnF : Hid (¬ F X) := fun hx => by have := (HT.out.lt _ hx).2; have := HR.out.hX; omega
          have hoP : Hid (P = [] ∨ Off a8 F) := .inr fun ad ha hx => by have := (HT.out.lt _ hx).2; have := HR.out.blk ad ha; omega
          have hCl : C.length ≤ 1000 := by have := st_tl HT.out.wf; omega
          have e0 := HR.out.c0; have e1 := HR.out.c1; have e2 := HR.out.c2
          have hB0 : w1.heap.size ≤ wc.heap.size := by have := TC.out.lt _ TC.out.ptF; omega
          have HSP := hid (splice_is w1.heap.size F pt st i C.length a8 c8 P wc.drew TC.out.drew (by simpa using hB0) HR.out.sl.drew hoP.out (by omega) hsf.1 rfl)
          have h2 := hsf.2.1
          have h3 := hsf.2.2
          generalize splS st i C.length P = st' at h2 h3 HSP
          have H3 := hid h3
          have H2 := hid h2
          have hal0 := TC.out.wf.a
          have hne : ((st'.a.length : Int) != (st.a.length : Int) + (P.length : Int)) = false := by simp; omega
          have hwr2 : IntKind.i64.wrap ((st.a.length : Int) + (P.length : Int)) = (st.a.length : Int) + (P.length : Int) := by rw [IntKind.wrap_i64]; omega
          clear hsf h2 h3 hf hik hPl hC
          go_wp2_with (go_at_call 28; refine (added_t w1.heap.size F pt st _ TC.out).mono ?_; rintro e w' ⟨rfl, rfl⟩)
          go_region_held3 (fun w' => w'.cell? ⟨X, 0, none⟩ = some (.int .i64 i) ∧ w'.cell? ⟨X, 1, none⟩ = some (.slice a7 C.length c7) ∧ w'.cell? ⟨X, 2, none⟩ = some (.slice a8 P.length c8)) (first | assumption | exact ⟨by assumption, by assumption, by assumption⟩ | go_keep)
            (first | (go_at_call 21; refine HSP.out.mono ?_; rintro e w9 ⟨rfl, ht9, hk9⟩; have T9 := hid ht9; have K9 := hid hk9; have v0 : w9.cell? ⟨X, 0, none⟩ = some (.int .i64 i) := hk9.cell e0 hnF.out; have v1 : w9.cell? ⟨X, 1, none⟩ = some (.slice a7 C.length c7) := hk9.cell e1 hnF.out; have v2 : w9.cell? ⟨X, 2, none⟩ = some (.slice a8 P.length c8) := hk9.cell e2 hnF.out; clear ht9 hk9)
                       | (go_at_call 28; refine (added_t w1.heap.size _ pt st' _ T9.out).mono ?_; rintro e w' ⟨rfl, rfl⟩))
          have B9 : Hid (Below W.heap.size W w9) := HR.out.hW.drew.trans (K9.out.below (fun k hf => by have := (TC.out.lt k hf).1; omega) HR.out.hW.size)
          have Hwf := hid T9.out.wf
          have hlen' := T9.out.wf.len
          have htot' := T9.out.wf.tot
          have hal' := T9.out.wf.a
          have ho' : st'.o.length = S.length := by rw [H3.out, HS.out.1]
          go_wp2_with fail
          refine (pieces_t _ _ pt st' w9 T9.out).mono ?_
          rintro e w10 ⟨a10, c10, rfl, ho10, hb10⟩
          have T10 := hid (T9.out.bel hb10)
          have B10 := hid (bthen B9.out hb10)
          have hsl := ho10.sl
          clear ho10 hb10
          go_wp2
          go_loopw [10, 13, 83] (fun u _ ii w' => ∃ j : Nat, j ≤ st'.p.length ∧ ii = .int .i64 j ∧ u = .int .i64 (tot (st'.p.take j)) ∧ Below w10.heap.size w10 w') (fun _ _ ii _ => st'.p.length - (intOf ii).toNat)
          case atStart => exact ⟨0, Nat.zero_le _, rfl, by simp [tot], Below.refl _ _⟩
          case round =>
            rename World => Wq
            obtain ⟨j, hj, rfl, rfl, hbj⟩ := hrel
            by_cases hjl : j < st'.p.length
            · obtain ⟨bb, oo, rfl, hcc⟩ := (hsl.bel hbj).at hjl
              obtain ⟨q0, q1, q2⟩ := hcc j hjl
              have hsrc := lsrc Hwf.out (pg_mem hjl)
              have hfr := Hwf.out.fr (pg_mem hjl)
              have Hts := hid (tot_take_succ hjl)
              have ht2 := tot_take st'.p (j + 1)
              rw [tot_take_succ hjl] at ht2
              have TJ := hid (T10.out.bel hbj)
              clear hcc
              cases hadd : (pg st'.p j).add with
              | false =>
                rw [hadd] at q0 hsrc
                rw [if_neg (by simp), ho'] at hsrc
                clear hadd
                go_wp2
                go_round
                case rel => exact ⟨j + 1, by omega, by go_num, by rw [Hts.out]; go_num, by (repeat' (first | exact Below.refl _ _ | assumption | refine bdrewN ?_ _ | refine Below.drew ?_ | refine bal ?_ _ | refine bthen ?_ (by assumption)))⟩
                case measure => simp [intOf]; omega
              | true =>
                rw [hadd] at q0 hsrc
                rw [if_pos rfl] at hsrc
                clear hadd
                go_wp2_with (go_at_call 28; refine (added_t w1.heap.size _ pt st' _ (TJ.out.bel (by (repeat' (first | exact Below.refl _ _ | assumption | refine bdrewN ?_ _ | refine Below.drew ?_ | refine bal ?_ _ | refine bthen ?_ (by assumption)))))).mono ?_; rintro e w' ⟨rfl, rfl⟩)
                go_round
                case rel => exact ⟨j + 1, by omega, by go_num, by rw [Hts.out]; go_num, by (repeat' (first | exact Below.refl _ _ | assumption | refine bdrewN ?_ _ | refine Below.drew ?_ | refine bal ?_ _ | refine bthen ?_ (by assumption)))⟩
                case measure => simp [intOf]; omega
            · rw [List.take_of_length_le (by omega)]
              have TJ := hid (T10.out.bel hbj)
              have BJ := hid (bthen B10.out hbj)
              go_wp2_with fail
              refine (len_t w1.heap.size _ pt st' _ TJ.out).mono ?_
              rintro e w12 ⟨rfl, hb12⟩
              have T12 := hid (TJ.out.bel hb12)
              have B12 := bthen BJ.out hb12
              have hS2 : Hid (st'.o = S ∧ st'.a.length ≤ 50 * (k + 1)) := ⟨H3.out.trans HS.out.1, by have := H2.out; omega⟩
              clear hb12
              go_wp2
              go_roundg (n - (k + 1))
              case measure => have := Hgk.out; omega
              case rel => exact ⟨k + 1, _, st', rfl, by go_num, by omega, hS2, T12, B12⟩
      · go_wp2_with fail
        refine (known_c wr).mono ?_
        rintro e w11 ⟨rfl, hb11⟩
        go_wp2
        go_ret
        exact ⟨rfl, bthen hb hb11⟩
    · go_wp2_with fail
      refine (known_c wr).mono ?_
      rintro e w11 ⟨rfl, hb11⟩
      go_wp2
      go_ret
      exact ⟨rfl, bthen hb hb11⟩
end Go.Proofs.Ytogodddkbnkeiaa
