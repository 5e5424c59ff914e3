/- ResynRows: the walk. -/
import Derived.Test.YtdjhnlihalihlaaKno
import Derived.Test.YtdjhnlihalihlaaPlb
import Derived.Deep.CutBlock
import Derived.Deep.DeepCutAuto
namespace Go.Proofs.Ytdjhnlihalihlaa
open Go.RowKit ReM

theorem alt_nb (p : List Int) : ∀ c i, altP CC p.length (4 * p.length + 8) p 0 0 = .bad c i → c ≠ 0 :=
  fun c i h => (enough CC p.length (4 * p.length + 8)).1 p 0 0 (by omega) c i h
/-- what is told, in two kinds -/
theorem parseW_cases (p : List Int) : (∃ e f, parseW p = ([], e, f) ∧ e ≠ 0) ∨
    (∃ l g, parseW p = (l, 0, 0) ∧ altP CC p.length (4 * p.length + 8) p 0 0 = .ok l [] g ∧ parse CC p = (l, 0, 0) ∧ p.length ≤ 60 ∧ ¬ fbad p < p.length) := by
  unfold parseW
  by_cases h60 : 60 < p.length
  · rw [if_pos h60]; exact .inl ⟨3, 60, rfl, by decide⟩
  rw [if_neg h60]
  by_cases hf : fbad p < p.length
  · rw [if_pos hf]; exact .inl ⟨1, _, rfl, by decide⟩
  rw [if_neg hf]
  cases hA : altP CC p.length (4 * p.length + 8) p 0 0 with
  | bad e f =>
    have he := alt_nb p e f hA
    exact .inl ⟨e, f, by unfold parse; rw [hA], he⟩
  | ok l s g =>
    cases s with
    | nil =>
      have : parse CC p = (l, 0, 0) := parse_is hA
      exact .inr ⟨l, g, this, rfl, this, by omega, hf⟩
    | cons q t => exact .inl ⟨5, _, by unfold parse; rw [hA], by decide⟩
/-- the tree that a parser told, in memory -/
structure TreeM (L : List Rm) : Prop where
  node : NodAt 0 (rns L)
  head : ∃ x t, rns L = x :: t ∧ (x = nRow ∨ x = nAlt)
  groups : ∃ g, gsL (rns L) = upto 0 g
theorem TreeM.of {p : List Int} {L : List Rm} (h : parse CC p = (rns L, 0, 0)) : TreeM L := by
  obtain ⟨h1, h2, h3⟩ := parse_tree (c := 0) (i := 0) h rfl (alt_nb p)
  exact ⟨h1, h2, h3⟩
theorem TreeM.at {L : List Rm} (h : TreeM L) {k : Nat} (hk : k < L.length) : ReM.Loc (rgt L k).rn (kidsN (rgt L k).deep ((rns L).drop (k + 1))) ∧ (0 < k → 1 ≤ (rgt L k).deep) ∧ (k = 0 → (rgt L k).deep = 0) := by
  have := tree_at h.node (i := k) (by rw [rns_len]; exact hk)
  rwa [rns_get L hk] at this
theorem TreeM.step {L : List Rm} (h : TreeM L) {k : Nat} (hk : k + 1 < L.length) : (rgt L (k + 1)).deep ≤ (rgt L k).deep + 1 := by
  have := tree_step h.node (i := k) (by rw [rns_len]; exact hk)
  rwa [rns_get L hk, rns_get L (by omega)] at this
theorem TreeM.group {L : List Rm} (h : TreeM L) {k : Nat} (hk : k < L.length) (h5 : (rgt L k).kind = 5) (h0 : 0 < (rgt L k).lo) : (rgt L k).lo = grM L k + 1 := by
  obtain ⟨g, hg⟩ := h.groups
  have := group_at hg (i := k) (by rw [rns_len]; exact hk) (by rw [rns_get L hk]; exact h5) (by rw [rns_get L hk]; exact h0)
  rwa [rns_get L hk] at this
/-- the kids counted so far -/
def cN (L : List Rm) (k j : Nat) : Nat := cntN (rgt L k).deep (rns L) (k + 1) (j - (k + 1))
theorem cN_start (L : List Rm) (k : Nat) : cN L k (k + 1) = 0 := by unfold cN; rw [Nat.sub_self, cnt_zero]
theorem cN_le (L : List Rm) (k j : Nat) : cN L k j ≤ j := by
  have := cnt_le (rgt L k).deep (rns L) (k + 1) (j - (k + 1))
  unfold cN; omega
theorem cN_step (L : List Rm) {k j : Nat} (h : k + 1 ≤ j) (hj : j < L.length) : cN L k (j + 1) = cN L k j + if (rgt L j).deep = (rgt L k).deep + 1 then 1 else 0 := by
  obtain ⟨m, rfl⟩ : ∃ m, j = k + 1 + m := ⟨j - (k + 1), by omega⟩
  unfold cN
  rw [show k + 1 + m + 1 - (k + 1) = m + 1 by omega, show k + 1 + m - (k + 1) = m by omega, cnt_succ _ _ _ _ (by rw [rns_len]; exact hj), rns_get L hj]
  rfl
theorem cN_end (L : List Rm) {k j : Nat} (h : k + 1 ≤ j) (hj : j ≤ L.length) (ha : ∀ q, k + 1 ≤ q → q < j → (rgt L k).deep < (rgt L q).deep) (he : j < L.length → (rgt L j).deep ≤ (rgt L k).deep) :
    kidsN (rgt L k).deep ((rns L).drop (k + 1)) = cN L k j := by
  obtain ⟨m, rfl⟩ : ∃ m, j = k + 1 + m := ⟨j - (k + 1), by omega⟩
  unfold cN
  rw [show k + 1 + m - (k + 1) = m by omega]
  refine cnt_end (by rw [rns_len]; exact hj) (fun q hq => ?_) (fun hk => ?_)
  · rw [rns_get L (by omega)]
    exact ha _ (by omega) (by omega)
  · rw [rns_len] at hk
    rw [rns_get L hk]
    exact he hk
set_option maxRecDepth 20000 in
set_option maxHeartbeats 60000000 in
theorem rows_w (a0 : Option Addr) (c0 : Nat) (l0 : List Int) (W : World) (h0 : I.Sl W a0 l0) :
    Calls Try.prog 4 #[.slice a0 l0.length c0] W fun e w' => e = .returned (.bool true) ∧ Below W.heap.size W w' := by
  obtain ⟨V, hV⟩ : ∃ V, V = W.alloc (.cells #[.slice a0 l0.length c0, .int .i64 0] 26) := ⟨_, rfl⟩
  have tV : TapeAt V W.heap.size a0 l0 c0 0 := by
    subst hV
    exact ⟨by simp, by rw [cell_alloc_new]; rfl, by rw [cell_alloc_new]; rfl, by simp, by omega⟩
  have bV : Below W.heap.size W V := by subst hV; (repeat' (first | exact Below.refl _ _ | assumption | refine bdrewN ?_ _ | refine Below.drew ?_ | refine bal ?_ _ | refine bthen ?_ (by assumption)))
  have zV : V.heap.size = W.heap.size + 1 := by subst hV; simp
  have SV : ∀ w', Below W.heap.size V w' → I.Sl w' a0 l0 := fun w' hb => h0.bel (bV.trans hb)
  have C := hid (pattern_all W.heap.size a0 l0 c0 3 (by omega) V ⟨_, tV⟩ SV)
  clear tV SV h0
  go_enter Try.func4, Try.ntmps4
  go_wp2_with fail
  rw [← hV]; clear hV
  refine C.out.mono ?_
  rintro _ w1 ⟨a1, c1, p, rfl, ho, -, hpl, -, hk⟩
  have B1 := hid (bV.trans (hk.belowp (by omega)))
  have PC := hid (parse_c a1 c1 p w1 ho.sl (by rcases ho.shape with ⟨_, _, h⟩ | ⟨_, _, _, _, h⟩; simp [h]; exact h))
  have zw1 := hk.size
  clear ho hk C hpl
  go_wp2_with fail
  refine PC.out.mono ?_
  rintro e2 w2 hx
  clear PC
  rcases parseW_cases p with ⟨e, f, hP, he⟩ | ⟨l, g, hP, -, hP2, -, -⟩
  · rw [hP] at hx
    obtain ⟨a2, c2, L, rfl, hrn, -, -, -, b2⟩ := hx
    have hL0 : L.length = 0 := by rw [← rns_len, hrn]; rfl
    have b1 : (e != 0) = true := by simpa using he
    have B2 := hid (B1.out.trans (b2.mono (by omega)))
    have zw2 := b2.size
    clear hrn b2 he hP B1
    as_aux_lemma =>
    go_wp2_with fail
    have B3 := hid (Below.alloc B2.out (by omega) (.cells #[.int .i64 e, .int .i64 f] 36))
    refine (known_c _).mono ?_
    rintro _ w3 ⟨rfl, b3⟩
    have B4 := hid (B3.out.trans (b3.mono (by simp; omega)))
    clear b3 B3 B2
    go_wp2_with fail
    go_ret
    exact ⟨rfl, B4.out⟩
  · rw [hP] at hx
    obtain ⟨a2, c2, L, rfl, hrn, ho, hS, hsm, b2⟩ := hx
    dsimp only at hrn
    have hT := hid (TreeM.of (p := p) (L := L) (by rw [hP2, hrn]))
    have hlen : 0 < L.length := by
      obtain ⟨x, t, hxt, _⟩ := hT.out.head
      rw [← rns_len, hxt]; simp
    obtain ⟨g2, rfl, hg1, hg2, hg3⟩ : ∃ g2, a2 = some ⟨g2, 0, none⟩ ∧ w1.heap.size ≤ g2 ∧ g2 < w2.heap.size ∧ L.length ≤ c2 := by
      rcases ho.shape with ⟨_, _, h0⟩ | h0
      · rw [h0] at hlen; simp at hlen
      · exact h0
    have KB := hid (fun w' (hb : Below w2.heap.size w2 w') => ho.grow hb)
    have Hsm := hid hsm
    have HSet := hid hS
    have hm0 := hT.out.at hlen
    have hd0 : (rgt L 0).deep = 0 := hm0.2.2 rfl
    have hk0 : (rgt L 0).kind = 0 ∨ (rgt L 0).kind = 1 := by
      obtain ⟨x, t, hxt, hx⟩ := hT.out.head
      have e := rns_at hxt (i := 0) hlen
      simp only [List.getD_cons_zero] at e
      have e2 : (rgt L 0).kind = x.kind := congrArg Rn.kind e
      rcases hx with rfl | rfl
      · exact .inl e2
      · exact .inr e2
    have B2 := hid (B1.out.trans (b2.mono (by omega)))
    have zw2 := b2.size
    have r0 := (rec_re (ho.at hlen)).1
    have r1 := (rec_re (ho.at hlen)).2.1
    rw [hd0] at r1
    have hll : L.length ≤ 5000 := hsm.len
    have z0 : ((L.length : Int) == 0) = false := by
      rw [beq_eq_false_iff_ne]; omega
    clear hrn ho hS hsm b2 hP hP2 hm0 B1
    obtain ⟨kd, hkd⟩ : ∃ kd, kd = (rgt L 0).kind := ⟨_, rfl⟩
    rw [← hkd] at r0 hk0
    change w2.cell? ⟨g2, 0 * 7, none⟩ = _ at r0
    change w2.cell? ⟨g2, 0 * 7 + 1, none⟩ = _ at r1
    simp only [Nat.zero_mul, Nat.zero_add] at r0 r1
    clear hkd hd0
    have hLP : ∀ Q : Prop, (kd = 0 ∨ kd = 1) → (kd = 0 → Q) → (kd = 1 → Q) → Q := fun Q h a b => h.elim a b
    go_upto_region 4 with fail
    go_cut [49] (fun v wx => v = .bool false ∧ Below w2.heap.size w2 wx)
    case first =>
      rcases hk0 with rfl | rfl
      all_goals
        as_aux_lemma =>
        go_wp2_with fail
        go_meet
        exact ⟨rfl, by (repeat' (first | exact Below.refl _ _ | assumption | refine bdrewN ?_ _ | refine Below.drew ?_ | refine Below.setCell ?_ (Nat.le_refl _) _ | refine bal ?_ _ | refine bthen ?_ (by assumption)))⟩
    case rest =>
      rename World => w3
      obtain ⟨rfl, hb3⟩ := hcut
      clear r0 r1 hk0 hLP z0
      have hT2 := hT
      go_wp2_with fail
      go_loopw [5, 52] (fun nv iv wr => ∃ k : Nat, k ≤ L.length ∧ iv = .int .i64 k ∧ nv = .int .i64 (grM L k) ∧ Below w2.heap.size w2 wr) (fun _ iv _ => L.length - (intOf iv).toNat)
      case atStart => exact ⟨0, by omega, rfl, by rw [grM_zero]; rfl, hb3⟩
      case round =>
        obtain ⟨k, hk, rfl, rfl, hb⟩ := hrel
        by_cases hlt : k < L.length
        · have hat := hT.out.at hlt
          have hLoc := hid hat.1
          have hgs := hid (grM_succ L hlt)
          have hgl := grM_le L k
          have hgp : 0 < (rgt L k).lo → (rgt L k).kind = 5 → (rgt L k).lo = grM L k + 1 := fun h h5 => hT.out.group hlt h5 h
          have Hgp := hid hgp
          have hdk := Hsm.out.deep _ (rgt_mem hlt)
          have RC := hid (fun w' (h : Below w2.heap.size w2 w') => rec_re ((KB.out w' h).at hlt))
          obtain ⟨kn, hkn⟩ : ∃ kn, kn = k := ⟨_, rfl⟩
          have z1 : (k : Int) < (L.length : Int) := by omega
          go_wp2_with fail
          go_cut [79] (fun v wx => v = .bool false ∧ Below w2.heap.size w2 wx)
          case first =>
            rename_i J0 K0 hJ0 hK0
            obtain ⟨q0, q1, -⟩ := RC.out wr hb
            change wr.cell? ⟨g2, k * 7 + 1, none⟩ = _ at q1
            by_cases hk0 : k = 0
            · have b1 : decide ((0 : Int) < (k : Int)) = false := by simp; omega
              clear q0 q1
              as_aux_lemma =>
              go_quiet (fail)
              refine hK0 _ _ ?_
              go_meet
              exact ⟨rfl, bdrewN hb _⟩
            · obtain ⟨k1, rfl⟩ : ∃ k1, k = k1 + 1 := ⟨k - 1, by omega⟩
              have hst := hT.out.step hlt
              have hp := hat.2.1 (by omega)
              have hd1 := Hsm.out.deep _ (rgt_mem (show k1 < L.length by omega))
              obtain ⟨-, q2, -⟩ := rec_re ((KB.out wr hb).at (show k1 < L.length by omega))
              change wr.cell? ⟨g2, k1 * 7 + 1, none⟩ = _ at q2
              obtain ⟨dk, hdk'⟩ : ∃ dk, dk = (rgt L (k1 + 1)).deep := ⟨_, rfl⟩
              obtain ⟨dp, hdp'⟩ : ∃ dp, dp = (rgt L k1).deep := ⟨_, rfl⟩
              rw [← hdk'] at q1 hst hp hdk
              rw [← hdp'] at q2 hst hd1
              have b1 : decide ((0 : Int) < ((k1 + 1 : Nat) : Int)) = true := by first | (simp; done) | (simp; omega)
              have b2 : decide (dk < 1) = false := by simp; omega
              have b3 : decide (dp + 1 < dk) = false := by simp; omega
              have w1' : IntKind.i64.wrap (((k1 + 1 : Nat) : Int) - 1) = (k1 : Int) := by rw [IntKind.wrap_i64]; omega
              have w2' : IntKind.i64.wrap (dp + 1) = dp + 1 := by rw [IntKind.wrap_i64]; omega
              have z2 : (k1 : Int) < (L.length : Int) := by omega
              clear q0 hst hp hdk' hdp'
              as_aux_lemma =>
              go_quiet (fail)
              refine hK0 _ _ ?_
              go_meet
              exact ⟨rfl, bdrewN hb _⟩
          case rest =>
            rename World => v3
            obtain ⟨rfl, hb3⟩ := hcut
            have w1' : IntKind.i64.wrap ((k : Int) + 1) = ((k + 1 : Nat) : Int) := by rw [IntKind.wrap_i64]; omega
            go_upto_block 2 with fail
            go_cut [7] (fun v wx => v = .int .i64 (kidsN (rgt L k).deep ((rns L).drop (k + 1))) ∧ Below w2.heap.size w2 wx)
            case first =>
              rename_i J1 K1 hJ1 hK1
              go_wp2_with fail
              go_loopw [7, 8] (fun cv jv wz => ∃ j : Nat, k + 1 ≤ j ∧ j ≤ L.length ∧ jv = .int .i64 j ∧ cv = .int .i64 (cN L k j) ∧ Hid (∀ q, k + 1 ≤ q → q < j → (rgt L k).deep < (rgt L q).deep) ∧ Below w2.heap.size w2 wz) (fun _ jv _ => L.length - (intOf jv).toNat)
              case atStart => exact ⟨k + 1, Nat.le_refl _, by omega, rfl, by rw [cN_start]; rfl, (fun q h1 h2 => by omega), hb3⟩
              case round =>
                obtain ⟨j, hkj, hj, rfl, rfl, hall, hbz⟩ := hrel
                have RCk := RC.out wr hbz
                obtain ⟨-, q1, -⟩ := RCk
                change wr.cell? ⟨g2, k * 7 + 1, none⟩ = _ at q1
                obtain ⟨dk, hdk'⟩ : ∃ dk, dk = (rgt L k).deep := ⟨_, rfl⟩
                rw [← hdk'] at q1 hdk
                have HDK := hid hdk'
                clear hdk'
                by_cases hjl : j < L.length
                · obtain ⟨-, q2, -⟩ := rec_re ((KB.out wr hbz).at hjl)
                  change wr.cell? ⟨g2, j * 7 + 1, none⟩ = _ at q2
                  have hdj := Hsm.out.deep _ (rgt_mem hjl)
                  have HcS := hid (cN_step L hkj hjl)
                  have hcl := cN_le L k j
                  obtain ⟨dj, hdj'⟩ : ∃ dj, dj = (rgt L j).deep := ⟨_, rfl⟩
                  rw [← hdj'] at q2 hdj
                  have HDJ := hid hdj'
                  have bN : decide (j < L.length) = true := by simpa using hjl
                  have z5 : (j : Int) < (L.length : Int) := by omega
                  obtain ⟨cc, hcc⟩ : ∃ cc, cc = cN L k j := ⟨_, rfl⟩
                  rw [← hcc] at hcl ⊢
                  have HCC := hid hcc
                  clear hdj' hcc
                  by_cases hdd : dk < dj
                  · have bD : decide (dk < dj) = true := by simpa using hdd
                    have w5' : IntKind.i64.wrap (dk + 1) = dk + 1 := by rw [IntKind.wrap_i64]; omega
                    have Hall2 := hid (show ∀ q, k + 1 ≤ q → q < j + 1 → (rgt L k).deep < (rgt L q).deep from fun q h1 h2 => by
                      rcases Nat.lt_or_ge q j with h | h
                      · exact hall.out q h1 h
                      · obtain rfl : q = j := by omega
                        rw [← HDK.out, ← HDJ.out]; exact hdd)
                    by_cases he : dj = dk + 1
                    · have bE : (dj == dk + 1) = true := by simpa using he
                      have Hc2 := hid (show cN L k (j + 1) = cc + 1 by rw [HcS.out, HCC.out, if_pos (by rw [← HDK.out, ← HDJ.out]; exact he)])
                      clear he hdd
                      as_aux_lemma =>
                      go_upto_region 14 with fail
                      go_quiet (fail)
                      go_wp2_with fail
                      go_quiet (fail)
                      go_wp2_with fail
                      go_roundw
                      case rel => exact ⟨j + 1, by omega, by omega, by go_num, by rw [Hc2.out]; go_num, Hall2, bdrewN hbz _⟩
                      case measure => simp [intOf]; omega
                    · have bE : (dj == dk + 1) = false := by simpa using he
                      have Hc2 := hid (show cN L k (j + 1) = cc by rw [HcS.out, HCC.out, if_neg (by rw [← HDK.out, ← HDJ.out]; exact he)]; rfl)
                      clear he hdd
                      as_aux_lemma =>
                      go_upto_region 14 with fail
                      go_quiet (fail)
                      go_wp2_with fail
                      go_quiet (fail)
                      go_wp2_with fail
                      go_roundw
                      case rel => exact ⟨j + 1, by omega, by omega, by go_num, by rw [Hc2.out], Hall2, bdrewN hbz _⟩
                      case measure => simp [intOf]; omega
                  · have bD : decide (dk < dj) = false := by simpa using hdd
                    have He := hid (cN_end L hkj hj hall.out (fun _ => by rw [← HDK.out, ← HDJ.out]; omega))
                    clear hdd
                    as_aux_lemma =>
                    go_upto_region 14 with fail
                    go_quiet (fail)
                    go_wp2_with fail
                    go_meet
                    exact ⟨by rw [He.out, HCC.out], bdrewN hbz _⟩
                · obtain rfl : j = L.length := by omega
                  have bN : decide (L.length < L.length) = false := by simp
                  have He := hid (cN_end L hkj hj hall.out (fun h => absurd h (by omega)))
                  clear q1
                  as_aux_lemma =>
                  go_upto_region 14 with fail
                  go_quiet (fail)
                  go_wp2_with fail
                  go_meet
                  exact ⟨by rw [He.out], bdrewN hbz _⟩
            case rest =>
              rename World => v4
              obtain ⟨rfl, hb4⟩ := hcut
              obtain ⟨l5, l6, l1, l2⟩ := hLoc.out
              change (rgt L k).kind = 5 → _ at l5
              change (rgt L k).kind = 6 → _ ∧ (0 ≤ (rgt L k).hi → (rgt L k).lo ≤ (rgt L k).hi) at l6
              change (rgt L k).kind = 1 → _ at l1
              change (rgt L k).kind = 2 → _ ∧ (rgt L k).set ≠ [] ∧ (rgt L k).set.length % 2 = 0 at l2
              obtain ⟨r0, -, r2, r3, -, -, r6⟩ := RC.out v4 hb4
              change v4.cell? ⟨g2, k * 7, none⟩ = _ at r0
              change v4.cell? ⟨g2, k * 7 + 2, none⟩ = _ at r2
              change v4.cell? ⟨g2, k * 7 + 3, none⟩ = _ at r3
              change v4.cell? ⟨g2, k * 7 + 6, none⟩ = _ at r6
              have hst : ((rgt L k).set ≠ [] ∧ (rgt L k).set.length % 2 = 0) → 0 < (rgt L k).set.length ∧ ((rgt L k).set.length : Int).tmod 2 = 0 := fun h => by
                refine ⟨List.length_pos_iff.2 h.1, ?_⟩
                obtain ⟨q, hq⟩ : ∃ q, (rgt L k).set.length = 2 * q := ⟨(rgt L k).set.length / 2, by omega⟩
                rw [hq]
                push_cast
                exact Int.mul_tmod_right 2 q
              have hgs2 := hgs.out
              have hsl : (rgt L k).set.length ≤ 35184372088832 := (HSet.out.own _ (rgt_mem hlt)).2.2
              have hgp2 := Hgp.out
              have hn5 : grM L k ≤ 5000 := by omega
              obtain ⟨K, hK⟩ : ∃ K, K = kidsN (rgt L k).deep ((rns L).drop (k + 1)) := ⟨_, rfl⟩
              rw [← hK] at l5 l6 l1 l2 ⊢
              obtain ⟨n1, hn1⟩ : ∃ n1, n1 = grM L (k + 1) := ⟨_, rfl⟩
              rw [← hn1] at hgs2
              have HN1 := hid hn1
              generalize (rgt L k).kind = kd at *
              generalize (rgt L k).lo = lo at *
              generalize (rgt L k).hi = hi at *
              generalize (rgt L k).set.length = sl at *
              generalize (rgt L k).set = st at *
              generalize (rgt L k).sa = sa at *
              generalize (rgt L k).sc = sc at *
              generalize grM L k = n at *
              clear hK hn1 hgs hgp Hgp hLoc hat RC hdk
              by_cases k5 : kd = 5
              · have hK1 := l5 k5
                subst hK1
                subst k5
                clear l5 l6 l1 l2 hst r3 r6
                by_cases hlo : 0 < lo
                · have e1 : lo = n + 1 := hgp2 hlo rfl
                  have e2 : n1 = n + 1 := by rw [hgs2, if_pos ⟨rfl, hlo⟩]
                  subst e1
                  have w6 : IntKind.i64.wrap ((n : Int) + 1) = (n : Int) + 1 := by rw [IntKind.wrap_i64]; omega
                  have bL : decide ((0 : Int) < (n : Int) + 1) = true := by first | (simp; done) | (simp; omega)
                  have He := hid e2
                  clear hgp2 hgs2 hlo e2
                  as_aux_lemma =>
                  go_wp2_with fail
                  exact ⟨⟨k + 1, by omega, by go_num, by rw [← HN1.out, He.out]; go_num, hb4⟩, by simp [intOf]; omega⟩
                · have e2 : n1 = n := by rw [hgs2, if_neg (fun h => hlo h.2)]; rfl
                  have bL : decide ((0 : Int) < lo) = false := by simp; omega
                  have hlo' : lo ≤ 0 := by omega
                  have He := hid e2
                  clear hgp2 hgs2 hlo e2
                  as_aux_lemma =>
                  go_wp2_with fail
                  exact ⟨⟨k + 1, by omega, by go_num, by rw [← HN1.out, He.out], hb4⟩, by simp [intOf]; omega⟩
              have e2 : n1 = n := by rw [hgs2, if_neg (fun h => k5 h.1)]; rfl
              have He := hid e2
              have b5 : (kd == 5) = false := by simpa using k5
              clear l5 hgp2 hgs2 e2 k5
              by_cases k6 : kd = 6
              · obtain ⟨hK1, hlh⟩ := l6 k6
                subst hK1
                subst k6
                clear l6 l1 l2 hst r6 b5
                by_cases hhi : 0 ≤ hi
                · have bH : decide ((0 : Int) ≤ hi) = true := by simpa using hhi
                  have bG : decide (hi < lo) = false := by have := hlh hhi; simp; omega
                  clear hlh hhi
                  as_aux_lemma =>
                  go_upto_region 24 with fail
                  go_quiet (fail)
                  go_wp2_with fail
                  go_roundw
                  case rel => exact ⟨k + 1, by omega, by go_num, by rw [← HN1.out, He.out], bdrewN hb4 _⟩
                  case measure => simp [intOf]; omega
                · have bH : decide ((0 : Int) ≤ hi) = false := by simpa using hhi
                  clear hlh hhi
                  as_aux_lemma =>
                  go_upto_region 24 with fail
                  go_quiet (fail)
                  go_wp2_with fail
                  go_roundw
                  case rel => exact ⟨k + 1, by omega, by go_num, by rw [← HN1.out, He.out], bdrewN hb4 _⟩
                  case measure => simp [intOf]; omega
              have b6 : (kd == 6) = false := by simpa using k6
              clear l6 k6
              by_cases k1 : kd = 1
              · have hK1 := l1 k1
                subst k1
                have bK : decide ((K : Int) < 2) = false := by simp; omega
                clear l1 l2 hst r6 b5 b6 hK1
                as_aux_lemma =>
                go_wp2_with fail
                go_roundw
                case rel => exact ⟨k + 1, by omega, by go_num, by rw [← HN1.out, He.out], hb4⟩
                case measure => simp [intOf]; omega
              have b1 : (kd == 1) = false := by simpa using k1
              clear l1 k1
              by_cases k2 : kd = 2
              · obtain ⟨hK1, hs1, hs2⟩ := l2 k2
                obtain ⟨hs3, hs4⟩ := hst ⟨hs1, hs2⟩
                subst hK1
                subst k2
                have bS : ((sl : Int) == 0) = false := by rw [beq_eq_false_iff_ne]; omega
                clear l2 hst b5 b6 b1 hs1 hs2 hs3
                as_aux_lemma =>
                go_wp2_with fail
                go_roundw
                case rel => exact ⟨k + 1, by omega, by go_num, by rw [← HN1.out, He.out], hb4⟩
                case measure => simp [intOf]; omega
              have b2 : (kd == 2) = false := by simpa using k2
              clear l2 k2 hst r6
              as_aux_lemma =>
              go_wp2_with fail
              go_roundw
              case rel => exact ⟨k + 1, by omega, by go_num, by rw [← HN1.out, He.out], hb4⟩
              case measure => simp [intOf]; omega
        · obtain rfl : k = L.length := by omega
          have GC := groups_c (some ⟨g2, 0, none⟩) c2 L wr (KB.out wr hb).sl
          rw [← grM_all] at GC
          obtain ⟨m, hm⟩ : ∃ m, m = grM L L.length := ⟨_, rfl⟩
          rw [← hm] at GC ⊢
          have GC2 := hid GC
          clear GC hm
          as_aux_lemma =>
          go_wp2_with fail
          refine GC2.out.mono ?_
          rintro _ w5 ⟨rfl, b5⟩
          have B5 := hid (B2.out.trans ((hb.trans (b5.mono hb.size)).mono B2.out.size))
          clear b5 GC2
          go_wp2_with fail
          refine (known_c _).mono ?_
          rintro _ w6 ⟨rfl, b6⟩
          have B6 := hid (B5.out.trans (b6.mono B5.out.size))
          clear b6 B5
          go_wp2_with fail
          go_ret
          exact ⟨rfl, B6.out⟩
end Go.Proofs.Ytdjhnlihalihlaa
