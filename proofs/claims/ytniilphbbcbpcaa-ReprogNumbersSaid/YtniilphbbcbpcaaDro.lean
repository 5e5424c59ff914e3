/- The document's Groups; Spoil; a pattern's tree, both (same_w). -/
import Derived.Test.YtniilphbbcbpcaaDrY
import Derived.Test.YtniilphbbcbpcaaSme
import Derived.Test.YtniilphbbcbpcaaKno
namespace Go.Proofs.Ytniilphbbcbpcaa
open Go.RowKit ReM

set_option maxHeartbeats 8000000 in
theorem dgroups_c (a : Option Addr) (c : Nat) (M : List Rm) (w : World) (h : RSl encRe w a M) :
    Calls Try.prog 21 #[.slice a M.length c] w fun e' w' => e' = .returned (.int .i64 (gsL (rns M)).length) ∧ Below w.heap.size w w' := by
  have hl : M.length ≤ 2199023255552 := h.len
  rw [← grM_all]
  have HM := hid h
  clear h
  go_enter Try.func21, Try.ntmps21
  go_wp2
  go_loopw [3, 4] (fun nv iv wr => ∃ k : Nat, k ≤ M.length ∧ iv = .int .i64 k ∧ nv = .int .i64 (grM M k) ∧ Below w.heap.size w wr) (fun _ iv _ => M.length - (intOf iv).toNat)
  case atStart => exact ⟨0, by omega, rfl, by rw [grM_zero]; rfl, Below.refl _ _⟩
  case round =>
    obtain ⟨k, hk, rfl, rfl, hb⟩ := hrel
    by_cases hlt : k < M.length
    · obtain ⟨b, off, rfl, hc⟩ := (HM.out.bel hb).rc1 hlt
      obtain ⟨r0, r1, r2, r3, r4, r5, r6⟩ := rec_re hc
      have hle := grM_le M k
      have hgs := grM_succ M hlt
      have hblk : b < wr.heap.size := World.block_lt_of_cell? wr _ r0
      clear hc
      rcases (show (¬ (rgt M k).kind = 5) ∨ ((rgt M k).kind = 5 ∧ ¬ 0 < (rgt M k).lo) ∨ ((rgt M k).kind = 5 ∧ 0 < (rgt M k).lo) by omega) with h5 | ⟨h5, h0⟩ | ⟨h5, h0⟩
      · have b1 : ((rgt M k).kind == 5) = false := by simpa using h5
        have Hg := hid (show grM M (k + 1) = grM M k by rw [hgs, if_neg (fun h => h5 h.1)]; rfl)
        generalize rgt M k = m at *
        generalize grM M k = n at *
        clear hgs h5
        go_wp2
        go_roundw
        case rel => exact ⟨k + 1, by omega, by go_num, by rw [Hg.out], by (repeat' (first | exact Below.refl _ _ | assumption | refine bdrewN ?_ _ | refine Below.drew ?_ | refine Below.setCell ?_ (Nat.le_refl _) _ | refine bal ?_ _ | refine bthen ?_ (by assumption)))⟩
        case measure => simp [intOf]; omega
      · have b1 : ((rgt M k).kind == 5) = true := by simpa using h5
        have b2 : decide (0 < (rgt M k).lo) = false := by simpa using h0
        have Hg := hid (show grM M (k + 1) = grM M k by rw [hgs, if_neg (fun h => h0 h.2)]; rfl)
        generalize rgt M k = m at *
        generalize grM M k = n at *
        clear hgs h5 h0
        go_wp2
        go_roundw
        case rel => exact ⟨k + 1, by omega, by go_num, by rw [Hg.out], by (repeat' (first | exact Below.refl _ _ | assumption | refine bdrewN ?_ _ | refine Below.drew ?_ | refine Below.setCell ?_ (Nat.le_refl _) _ | refine bal ?_ _ | refine bthen ?_ (by assumption)))⟩
        case measure => simp [intOf]; omega
      · have b1 : ((rgt M k).kind == 5) = true := by simpa using h5
        have b2 : decide (0 < (rgt M k).lo) = true := by simpa using h0
        have Hg := hid (show grM M (k + 1) = grM M k + 1 by rw [hgs, if_pos ⟨h5, h0⟩])
        generalize rgt M k = m at *
        generalize grM M k = n at *
        clear hgs h5 h0
        go_wp2
        go_roundw
        case rel => exact ⟨k + 1, by omega, by go_num, by rw [Hg.out]; go_num, by (repeat' (first | exact Below.refl _ _ | assumption | refine bdrewN ?_ _ | refine Below.drew ?_ | refine Below.setCell ?_ (Nat.le_refl _) _ | refine bal ?_ _ | refine bthen ?_ (by assumption)))⟩
        case measure => simp [intOf]; omega
    · obtain rfl : k = M.length := by omega
      go_wp2
      go_ret
      exact ⟨rfl, hb⟩
set_option maxHeartbeats 400000 in
theorem spoil_k (base : Nat) (a : Option Addr) (c : Nat) (l : List Int) (w : World) (h : Own w base a c l) :
    Calls Try.prog 23 #[.slice a l.length c] w fun e w' => e = .returned (.tuple #[]) ∧ Kpt (Blk a) w w' := by
  have hl := h.2.2
  go_enter Try.func23, Try.ntmps23
  go_wp2
  go_loopw [2] (fun i wr => ∃ k : Nat, k ≤ l.length ∧ i = .int .i64 k ∧ Own wr base a c (half (fun _ => -9) k l) ∧ Kpt (Blk a) w wr) (fun i _ => l.length - (intOf i).toNat)
  case atStart => exact ⟨0, Nat.zero_le _, rfl, by rw [half_zero]; exact h, Kpt.refl _ _⟩
  case round =>
    obtain ⟨k, hk, rfl, hk1, hk2⟩ := hrel
    by_cases hlt : k < l.length
    · have hsh := hk1.shape
      rcases hsh with ⟨_, _, h0⟩ | ⟨g0, rfl, hg1, hg2, hg3⟩
      · have h1 := half_len (fun _ => -9) k l
        rw [h0] at h1; simp at h1; omega
      · obtain ⟨b', o', he, hcell⟩ := hk1.sl.at (i := k) (by rw [half_len]; exact hlt)
        simp only [Option.some.injEq, Addr.mk.injEq, and_true] at he
        obtain ⟨rfl, rfl⟩ := he
        have ck := hcell k (by rw [half_len]; exact hlt)
        rw [half_gt hlt, Nat.zero_add] at ck
        have fk := hk1.free k
        have Hk1 := hid hk1
        have H := hid h
        clear hcell hk1 hg3 h
        go_wp2
        go_roundw
        case rel =>
          refine ⟨k + 1, by omega, by go_num, ?_, Kpt.setCell hk2 (p := ⟨g0, k, none⟩) ⟨_, rfl, rfl⟩ _⟩
          rw [← half_set hlt]
          exact Hk1.out.stored k (-9) (by omega)
        case measure => simp [intOf]; omega
    · go_wp2
      go_end0
      exact ⟨rfl, hk2⟩
theorem Sets.rms {base : Nat} {w : World} {M : List Rm} (h : Sets base w M) : Rms w (fun _ => False) M := fun m hm => by
  have ho := h.own m hm
  refine ⟨ho.sl, ?_, fun _ _ hf => hf⟩
  rcases ho.shape with ⟨_, _, h0⟩ | ⟨g, _, _, _, h3⟩
  · rw [h0]; simp
  · exact h3
theorem rgt_set_ne {L : List Rm} {i j : Nat} {m : Rm} (h : i ≠ j) : rgt (L.set i m) j = rgt L j := by
  unfold rgt
  rw [List.getD_eq_getElem?_getD, List.getElem?_set_ne h, ← List.getD_eq_getElem?_getD]
/-- what stays while an answered list is written over -/
def SpI (w0 : World) (lo hi : Nat) (a : Option Addr) (c : Nat) (L : List Rm) (k : Nat) (wr : World) : Prop :=
  ∃ L', L'.length = L.length ∧ (∀ i, k ≤ i → i < L.length → rgt L' i = rgt L i) ∧ RO wr lo a c L' ∧ (∀ i, k ≤ i → i < L.length → Own wr lo (rgt L i).sa (rgt L i).sc (rgt L i).set) ∧ Kpt (fun b => lo ≤ b ∧ b < hi) w0 wr
theorem SpI.shape {w0 : World} {lo hi : Nat} {a : Option Addr} {c : Nat} {L : List Rm} {k : Nat} {wr : World} (h : SpI w0 lo hi a c L k wr) (hk : k < L.length) : ∃ g, a = some ⟨g, 0, none⟩ := by
  obtain ⟨L', h1, h2, h3, h4, h5⟩ := h
  rcases h3.shape with ⟨_, _, h0⟩ | ⟨g, h0, _⟩
  · rw [h0] at h1; simp at h1; omega
  · exact ⟨g, h0⟩
theorem SpI.set {w0 : World} {lo hi g : Nat} {c : Nat} {L : List Rm} {k : Nat} {wr : World} (h : SpI w0 lo hi (some ⟨g, 0, none⟩) c L k wr) (hk : k < L.length) :
    wr.cell? ⟨g, k * 7 + 6, none⟩ = some (.slice (rgt L k).sa (rgt L k).set.length (rgt L k).sc) ∧ Own wr lo (rgt L k).sa (rgt L k).sc (rgt L k).set := by
  obtain ⟨L', h1, h2, h3, h4, h5⟩ := h
  have := (rec_re (h3.at (i := k) (by omega))).2.2.2.2.2.2
  rw [h2 k (Nat.le_refl _) hk] at this
  exact ⟨this, h4 k (Nat.le_refl _) hk⟩
theorem own_off {w : World} {b1 b2 : Nat} {a1 a2 : Option Addr} {c1 c2 : Nat} {l : List Int} {L : List Rm} (h1 : Own w b1 a1 c1 l) (h2 : RO w b2 a2 c2 L) : ∀ k, Blk a1 k → ¬ Blk a2 k := fun k hk hb => by
  obtain ⟨ad, ha, rfl⟩ := hk
  obtain ⟨ae, he, hb⟩ := hb
  exact own_types h1.1 h2.1 (by decide) (k := ad.block) (by rw [ha]; rfl) (by rw [he, ← hb]; rfl)
theorem apart_at {L : List Rm} {R : Rm → Rm → Prop} (h : L.Pairwise R) {i j : Nat} (hij : i < j) (hj : j < L.length) : R (rgt L i) (rgt L j) := by
  rw [rgt_get (by omega), rgt_get hj]
  exact List.pairwise_iff_getElem.1 h i j (by omega) hj hij
theorem SpI.kept {w0 : World} {lo hi g : Nat} {c : Nat} {L : List Rm} {k : Nat} {wr wr2 : World} (h : SpI w0 lo hi (some ⟨g, 0, none⟩) c L k wr) (hk : k < L.length) (ap : L.Pairwise fun m m' => ∀ b, Blk m.sa b → ¬ Blk m'.sa b) (hset : ∀ b, Blk (rgt L k).sa b → lo ≤ b ∧ b < hi) (ks : Kpt (Blk (rgt L k).sa) wr wr2) :
    ∃ L', L'.length = L.length ∧ (∀ i, k + 1 ≤ i → i < L.length → rgt L' i = rgt L i) ∧ RO wr2 lo (some ⟨g, 0, none⟩) c L' ∧ (∀ i, k + 1 ≤ i → i < L.length → Own wr2 lo (rgt L i).sa (rgt L i).sc (rgt L i).set) ∧ Kpt (fun b => lo ≤ b ∧ b < hi) w0 wr2 := by
  obtain ⟨L', h1, h2, h3, h4, h5⟩ := h
  have hoff := own_off (h4 k (Nat.le_refl _) hk) h3
  refine ⟨L', h1, fun i hi => h2 i (by omega), ?_, fun i hi hl => ?_, Kpt.step h5 ks (fun b hb => .inl (hset b hb))⟩
  · exact h3.same fun ad ha hl => ks.block _ hl (fun hb => hoff _ hb ⟨ad, ha, rfl⟩)
  · exact (h4 i (by omega) hl).same fun ad ha hl2 => ks.block _ hl2 (fun hb => apart_at ap (show k < i by omega) hl _ hb ⟨ad, ha, rfl⟩)
theorem SpI.kind {w0 : World} {lo hi g : Nat} {c : Nat} {L : List Rm} {k : Nat} {wr wr2 : World} (h : SpI w0 lo hi (some ⟨g, 0, none⟩) c L k wr) (hk : k < L.length) (ap : L.Pairwise fun m m' => ∀ b, Blk m.sa b → ¬ Blk m'.sa b) (hset : ∀ b, Blk (rgt L k).sa b → lo ≤ b ∧ b < hi) (ks : Kpt (Blk (rgt L k).sa) wr wr2) :
    (∃ v, wr2.cell? ⟨g, k * 7, none⟩ = some (.int .i64 v)) ∧ wr2.frozen? ⟨g, k * 7, none⟩ = false := by
  obtain ⟨L', h1, h2, h3, h4, h5⟩ := h.kept hk ap hset ks
  exact ⟨⟨_, (rec_re (h3.at (i := k) (by omega))).1⟩, h3.free _⟩
theorem SpI.step {w0 : World} {lo hi g : Nat} {c : Nat} {L : List Rm} {k : Nat} {wr wr2 : World} (h : SpI w0 lo hi (some ⟨g, 0, none⟩) c L k wr) (hk : k < L.length) (ap : L.Pairwise fun m m' => ∀ b, Blk m.sa b → ¬ Blk m'.sa b) (hset : ∀ b, Blk (rgt L k).sa b → lo ≤ b ∧ b < hi) (hg : lo ≤ g ∧ g < hi) (ks : Kpt (Blk (rgt L k).sa) wr wr2) :
    SpI w0 lo hi (some ⟨g, 0, none⟩) c L (k + 1) (wr2.setCell ⟨g, k * 7, none⟩ (.int .i64 (-9))) := by
  obtain ⟨L', h1, h2, h3, h4, h5⟩ := h.kept hk ap hset ks
  refine ⟨L'.set k { rgt L' k with kind := -9 }, by simpa using h1, fun i hi hl => ?_, ?_, fun i hi hl => ?_, Kpt.setCell h5 (p := ⟨g, k * 7, none⟩) hg _⟩
  · rw [rgt_set_ne (by omega)]; exact h2 i hi hl
  · exact h3.stored k 0 { rgt L' k with kind := -9 } (.int .i64 (-9)) (by omega) (by decide) rfl
  · refine (h4 i hi hl).setOther _ _ fun ad ha hb => own_off (h4 i hi hl) h3 ad.block ⟨ad, ha, rfl⟩ ⟨_, rfl, hb.symm⟩
set_option maxRecDepth 20000 in
set_option maxHeartbeats 16000000 in
theorem same_w (a : Option Addr) (c : Nat) (p : List Int) (w : World) (h : Sl w a p) (hc : p.length ≤ c) (hb : p.length ≤ 35184373137406) :
    Calls Try.prog 7 #[.slice a p.length c] w fun e w' => e = .returned (.bool true) ∧ Below w.heap.size w w' := by
  have LC := hid (lend_c a c p w h hb)
  obtain ⟨⟨t, e, f⟩, hT⟩ : ∃ X, X = parseW p := ⟨_, rfl⟩
  have HT := hid hT
  have H0 := hid h
  clear h hT
  go_enter Try.func7, Try.ntmps7
  go_wp2_with fail
  refine LC.out.mono ?_
  rintro _ w1 ⟨g, cx, rfl, hcx, hgx, hox, b1⟩
  have OX := hid hox
  have B1 := hid b1
  have z1 := b1.size
  have PC := hid (parse_c (some ⟨g, 0, none⟩) cx p w1 (Own.pre hox).sl (by omega))
  rw [← HT.out] at PC
  clear LC hox b1
  go_wp2_with fail
  refine PC.out.mono ?_
  rintro _ w2 ⟨a2, c2, L, rfl, hr2, o2, s2, m2, b2⟩
  dsimp only at hr2
  have HR2 := hid hr2
  have z2 := b2.size
  have hlL := m2.len
  obtain ⟨V2, hV2⟩ : ∃ V2, V2 = w2.alloc (.cells #[.int .i64 e, .int .i64 f] 42) := ⟨_, rfl⟩
  have F2 : Hid (FtC V2 w2.heap.size e f) := by subst hV2; exact FtC.new _ _ _ _ _ rfl
  have bV2 : Below w2.heap.size w2 V2 := by subst hV2; (repeat' (first | exact Below.refl _ _ | assumption | refine bdrewN ?_ _ | refine Below.drew ?_ | refine bal ?_ _ | refine bthen ?_ (by assumption)))
  have zV2 : V2.heap.size = w2.heap.size + 1 := by subst hV2; simp
  have B2 := hid (B1.out.trans ((b2.trans (bV2.mono z2)).mono z1))
  have O2 := hid (o2.grow bV2)
  have S2 := hid (s2.bel bV2)
  have HL2 := hid (fun k (hk : Blk a2 k) => O2.out.lt hk)
  have HP2 := hid s2.apart
  have HS2 := hid (fun i (hi : i < L.length) k (hk : Blk (rgt L i).sa k) => (show w1.heap.size ≤ k ∧ k < V2.heap.size from (S2.out.own _ (rgt_mem hi)).1.lt k (by obtain ⟨ad, ha, rfl⟩ := hk; rw [ha]; rfl)))
  have OX2 := hid (OX.out.grow (b2.trans (bV2.mono z2)))
  have DC := hid (dparse_c a c p V2 (H0.out.bel B2.out) hc)
  rw [← HT.out] at DC
  clear hr2 o2 s2 m2 b2 bV2 PC OX
  go_wp2_with fail
  rw [← hV2]; clear hV2
  refine DC.out.mono ?_
  rintro _ w3 ⟨a3, c3, M, rfl, hr3, o3, s3, m3, b3⟩
  dsimp only at hr3
  have hrr := hr3.trans HR2.out.symm
  have z3 := b3.size
  obtain ⟨V3, hV3⟩ : ∃ V3, V3 = w3.alloc (.cells #[.int .i64 e, .int .i64 f] 42) := ⟨_, rfl⟩
  have F3 : Hid (FtC V3 w3.heap.size e f) := by subst hV3; exact FtC.new _ _ _ _ _ rfl
  have bV3 : Below w3.heap.size w3 V3 := by subst hV3; (repeat' (first | exact Below.refl _ _ | assumption | refine bdrewN ?_ _ | refine Below.drew ?_ | refine bal ?_ _ | refine bthen ?_ (by assumption)))
  have zV3 : V3.heap.size = w3.heap.size + 1 := by subst hV3; simp
  have b23 := b3.trans (bV3.mono z3)
  have F2' := F2.out.bel b23
  have B3 := hid (B2.out.trans (b23.mono (by omega)))
  have O3 := hid (O2.out.grow b23)
  have S3 := hid (S2.out.bel b23)
  have OX3 := hid (OX2.out.grow b23)
  have OM := hid (o3.grow bV3)
  have SM := hid (s3.bel bV3)
  have q0 := F2'.c0
  have q1 := F2'.c1
  have q2 := F3.out.c0
  have q3 := F3.out.c1
  have SR := hid (samere_c a2 a3 c2 c3 L M V3 O3.out.sl OM.out.sl S3.out.rms SM.out.rms hrr.symm)
  have HRR := hid hrr
  clear hr3 o3 s3 m3 b3 bV3 b23 DC O2 S2 OX2 hrr
  go_upto_region 4 with fail
  rw [← hV3]; clear hV3
  go_wp2_with fail
  refine SR.out.mono ?_
  rintro _ w5 ⟨rfl, b5⟩
  have z5 := b5.size
  have O5 := hid (O3.out.grow b5)
  have OM5 := hid (OM.out.grow b5)
  have S5 := hid (S3.out.bel b5)
  have SM5 := hid (SM.out.bel b5)
  have OX5 := hid (OX3.out.grow b5)
  have B5 := hid (B3.out.trans (b5.mono (by omega)))
  clear b5 SR O3 OM S3 SM OX3 q0 q1 q2 q3
  go_wp2_with fail
  refine (groups_c a2 c2 L w5 O5.out.sl).mono ?_
  rintro _ w6 ⟨rfl, b6⟩
  have z6 := b6.size
  have O6 := hid (O5.out.grow b6)
  have OM6 := hid (OM5.out.grow b6)
  have S6 := hid (S5.out.bel b6)
  have SM6 := hid (SM5.out.bel b6)
  have OX6 := hid (OX5.out.grow b6)
  have B6 := hid (B5.out.trans (b6.mono (by omega)))
  clear b6 O5 OM5 S5 SM5 OX5
  go_wp2_with fail
  refine (dgroups_c a3 c3 M w6 OM6.out.sl).mono ?_
  rw [HRR.out]
  rintro _ w7 ⟨rfl, b7⟩
  have z7 := b7.size
  have O7 := hid (O6.out.grow b7)
  have OM7 := hid (OM6.out.grow b7)
  have S7 := hid (S6.out.bel b7)
  have SM7 := hid (SM6.out.bel b7)
  have OX7 := hid (OX6.out.grow b7)
  have B7 := hid (B6.out.trans (b7.mono (by omega)))
  clear b7 O6 OM6 S6 SM6 OX6
  generalize (gsL (rns L)).length = gn at *
  go_wp2_with fail
  refine (kept_c g cx a c p w7 OX7.out.sl hcx (H0.out.bel B7.out)).mono ?_
  rintro _ w8' ⟨rfl, n8, hn8⟩
  obtain ⟨w8, hw8⟩ : ∃ w8, w8 = w8' := ⟨_, rfl⟩
  rw [← hw8]
  have e8 : w8 = w7.drewN n8 := hw8.trans hn8
  have b8 : Below w7.heap.size w7 w8 := by rw [e8]; exact bdrewN (Below.refl _ _) _
  have O8 := hid (O7.out.grow b8)
  have OM8 := hid (OM7.out.grow b8)
  have S8 := hid (S7.out.bel b8)
  have SM8 := hid (SM7.out.bel b8)
  have B8 := hid (B7.out.trans (b8.mono (by omega)))
  have z8 := b8.size
  have P0 := hid (show SpI w8 w1.heap.size V2.heap.size a2 c2 L 0 w8 from ⟨L, rfl, fun _ _ _ => rfl, O8.out, fun i _ hl => S8.out.own _ (rgt_mem hl), Kpt.refl _ _⟩)
  clear hn8 hw8 e8 b8 O7 OM7 S7 SM7 OX7 O8 S8
  go_wp2_with fail
  go_loopg [47] L.length (fun gk v wr => ∃ k : Nat, gk = L.length - k ∧ k ≤ L.length ∧ v = .int .i64 k ∧ Hid (SpI w8 w1.heap.size V2.heap.size a2 c2 L k wr))
  case atStart => exact ⟨0, rfl, by omega, rfl, P0⟩
  case round =>
    clear P0
    obtain ⟨k, rfl, hk, rfl, HI⟩ := hrel
    by_cases hkl : k < L.length
    · obtain ⟨g2, rfl⟩ := HI.out.shape hkl
      obtain ⟨ck, ok⟩ := HI.out.set hkl
      have hgg := HL2.out g2 ⟨_, rfl, rfl⟩
      have SC := hid (spoil_k _ _ _ _ wr ok)
      have Hst := hid (fun wr2 (ks : Kpt (Blk (rgt L k).sa) wr wr2) => HI.out.step hkl HP2.out (HS2.out k hkl) hgg ks)
      have Hki := hid (fun wr2 (ks : Kpt (Blk (rgt L k).sa) wr wr2) => HI.out.kind hkl HP2.out (HS2.out k hkl) ks)
      have zkl : (k : Int) < (L.length : Int) := by omega
      clear ok
      generalize rgt L k = m at *
      go_wp2_with fail
      refine SC.out.mono ?_
      rintro _ wr2 ⟨rfl, ks⟩
      obtain ⟨⟨v, cv⟩, fv⟩ := Hki.out wr2 ks
      have Hs2 := hid (Hst.out wr2 ks)
      clear ks Hki Hst ck
      go_wp2_with fail
      go_roundg (L.length - (k + 1))
      case measure => omega
      case rel => exact ⟨k + 1, rfl, by omega, by go_num, Hs2⟩
    · obtain ⟨_, -, -, -, -, hkk⟩ := HI.out
      have bk := hkk.below (B := w1.heap.size) (fun q hq => hq.1) (by omega)
      have B9 := hid (B8.out.trans (bk.mono z1))
      have okk := hid (OM8.out.sl.kpt (fun q hq hf => by have := (OM8.out.lt ⟨q, hq, rfl⟩).1; omega) hkk)
      have OM9 := hid (OM8.out.stay fun q hq hl => hkk.block q hl (fun hf => by omega))
      have SM9 := hid (SM8.out.stay fun q hq hl => hkk.block q hl (fun hf => by omega))
      have PC := hid (parse_c a c p wr (H0.out.bel B9.out) hc)
      rw [← HT.out] at PC
      obtain rfl : k = L.length := by omega
      clear hkk bk OM8 SM8 okk
      go_wp2_with fail
      refine PC.out.mono ?_
      rintro _ w10 ⟨a10, c10, L10, rfl, hr10, o10, s10, m10, b10⟩
      dsimp only at hr10
      have hr11 := hr10.trans (HR2.out.symm.trans HRR.out.symm)
      obtain ⟨V10, hV10⟩ : ∃ V10, V10 = w10.alloc (.cells #[.int .i64 e, .int .i64 f] 42) := ⟨_, rfl⟩
      have bV10 : Below w10.heap.size w10 V10 := by subst hV10; (repeat' (first | exact Below.refl _ _ | assumption | refine bdrewN ?_ _ | refine Below.drew ?_ | refine bal ?_ _ | refine bthen ?_ (by assumption)))
      have b11 := b10.trans (bV10.mono b10.size)
      have B11 := hid (B9.out.trans (b11.mono B9.out.size))
      have SR := hid (samere_c a10 a3 c10 c3 L10 M V10 (o10.grow bV10).sl (OM9.out.grow b11).sl (s10.bel bV10).rms (SM9.out.bel b11).rms hr11)
      have zV10 := B11.out.size
      clear hr10 o10 s10 m10 b10 bV10 b11 hr11
      go_upto_region 13 with fail
      rw [← hV10]; clear hV10
      go_wp2_with fail
      refine SR.out.mono ?_
      rintro _ w12 ⟨rfl, b12⟩
      have B12 := hid (B11.out.trans (b12.mono zV10))
      clear b12
      go_wp2_with fail
      go_ret
      exact ⟨rfl, B12.out⟩
end Go.Proofs.Ytniilphbbcbpcaa
