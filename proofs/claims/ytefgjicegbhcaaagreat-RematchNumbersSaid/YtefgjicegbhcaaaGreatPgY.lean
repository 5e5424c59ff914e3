/- Compile's tree walk: what a node's method leaves (NodeC), and the methods that call it: group, times, loop. Compile's tree walk: times. Compile's tree walk: options. Compile's tree walk: alternatives. Compile's tree walk: node, all rounds. The code's Compile: its plain function is compW. What every compiler answers that is one (standishlaw9.known). ReprogTargets: the walk. -/
import Derived.Test.YtefgjicegbhcaaaGreatPgA
import Derived.Test.YtefgjicegbhcaaaGreatCpA
import Derived.Deep.RegionHeld3
import Derived.Deep.CutBlock
import Derived.Deep.DeepCutAuto
namespace Go.Proofs.YtefgjicegbhcaaaGreat
open Go.RowKit ReM

/-- a tree in memory that lies ahead of the program -/
structure Tre (B r : Nat) (w : World) (a : Option Addr) (c : Nat) (T : List Rm) : Prop where
  sl : RSl encRe w a T
  cap : T.length ≤ c
  blk : ∀ k, Blk a k → k < B ∧ k ≠ r
  sets : ∀ m, m ∈ T → Own w 0 m.sa m.sc m.set ∧ ∀ k, Blk m.sa k → k < B ∧ k ≠ r
theorem Tre.same {B r : Nat} {w w' : World} {a : Option Addr} {c : Nat} {T : List Rm} (h : Tre B r w a c T) (hb : ∀ k, k < w.heap.size → k < B → k ≠ r → w'.heap[k]? = w.heap[k]?) : Tre B r w' a c T :=
  ⟨h.sl.same fun ad ha hl => by have := h.blk _ ⟨ad, ha, rfl⟩; exact hb _ hl this.1 this.2, h.cap, h.blk,
   fun m hm => ⟨(h.sets m hm).1.same fun ad ha hl => by have := (h.sets m hm).2 _ ⟨ad, ha, rfl⟩; exact hb _ hl this.1 this.2, (h.sets m hm).2⟩⟩
theorem Tre.bel {B r : Nat} {w w' : World} {a : Option Addr} {c : Nat} {T : List Rm} (h : Tre B r w a c T) (hb : Below w.heap.size w w') : Tre B r w' a c T := h.same fun k hk _ _ => hb.block k hk
theorem Tre.fr {B r : Nat} {w w' : World} {a : Option Addr} {c : Nat} {T : List Rm} (h : Tre B r w a c T) {pa pa' : Option Addr} {pc : Nat} {L : List Im} (p : Pg B w r pa pc L) (f : Fr r w w' pa pa') : Tre B r w' a c T :=
  h.same fun _ _ hB hr => (p.ahead hB hr).same f
theorem Tre.sub {B r : Nat} {w : World} {a : Option Addr} {c : Nat} {T : List Rm} (h : Tre B r w a c T) {a' : Option Addr} {c' : Nat} {T' : List Rm} (h1 : RSl encRe w a' T') (h2 : T'.length ≤ c') (h3 : ∀ k, Blk a' k → Blk a k) (h4 : ∀ m, m ∈ T' → m ∈ T) : Tre B r w a' c' T' :=
  ⟨h1, h2, fun k hk => h.blk k (h3 k hk), fun m hm => h.sets m (h4 m hm)⟩
/-- what node leaves, k rounds deep -/
def NodeC (k : Nat) : Prop := ∀ (B : Nat) (w : World) (r : Nat) (a : Option Addr) (c : Nat) (L : List Im) (ta : Option Addr) (tc : Nat) (T : List Rm) (d : Int), Pg B w r a c L → Tre B r w ta tc T → NodAt d (rns T) → T.length ≤ k → T.length ≤ 5000 → Los (rns T) → L.length ≤ 900000000 →
  Calls Tryz.prog 67 #[.pointer (some ⟨r, 0, none⟩), .slice ta T.length tc] w (PgP B r w a (nodeE k (rns T) (inss L)) (.tuple #[]))
theorem KK_top {n : Nat} (h : n ≤ 5000) : KK n ≤ 26000000 := Nat.le_trans (KK_mono h) (by decide)
/-- how long the list is behind node -/
theorem node_len {k : Nat} {T : List Rm} {L L' : List Im} (h5 : T.length ≤ 5000) (hL : Los (rns T)) (h : inss L' = nodeE k (rns T) (inss L)) : L.length ≤ L'.length ∧ L'.length ≤ max L.length 26000300 := by
  have g := node_gw k (rns T) hL
  have h1 := g.ge (inss L)
  have h2 := g.any (inss L)
  rw [← h, inss_len, inss_len] at h1 h2
  rw [rns_len] at h2
  have := KK_top h5
  exact ⟨h1, by omega⟩
theorem gw_node {k : Nat} {T : List Rm} (h5 : T.length ≤ 5000) (hL : Los (rns T)) : Gw (nodeE k (rns T)) 26000000 := (node_gw k (rns T) hL).mono (by rw [rns_len]; exact KK_top h5)
set_option maxHeartbeats 8000000 in
theorem ngroup_c {k : Nat} (N : NodeC k) (B : Nat) (w : World) (r : Nat) (a : Option Addr) (c : Nat) (L : List Im) (ta : Option Addr) (tc : Nat) (T : List Rm) (d : Int) (h : Pg B w r a c L) (hT : Tre B r w ta tc T) (hn : NodAt d (rns T)) (hk : T.length ≤ k) (h5 : T.length ≤ 5000) (hS : Los (rns T)) (hl : L.length ≤ 300)
    (no : Int) (hno : 0 ≤ no ∧ no ≤ 9) :
    Calls Tryz.prog 94 #[.pointer (some ⟨r, 0, none⟩), .int .i64 no, .slice ta T.length tc] w (PgP B r w a (groupE (nodeE k (rns T)) no (inss L)) (.tuple #[])) := by
  have HN := hid N
  have P0 := hid h
  have T0 := hid hT
  have HK := hid hk
  clear N h hT hk
  by_cases h0 : no = 0
  · have b1 : (no == 0) = true := by simpa using h0
    have e : groupE (nodeE k (rns T)) no (inss L) = nodeE k (rns T) (inss L) := by unfold groupE; rw [if_pos h0]
    rw [e]
    clear e h0
    go_enter Tryz.func94, Tryz.ntmps94
    go_wp2_with fail
    refine (HN.out B w r a c L ta tc T d P0.out T0.out hn HK.out h5 hS (by omega)).mono ?_
    rintro _ w1 ⟨a1, c1, L1, rfl, hp, hL1, hf⟩
    have P1 := hid hp
    have F1 := hid hf
    clear hp hf
    go_wp2_with fail
    go_end0
    exact ⟨a1, c1, L1, rfl, P1.out, hL1, F1.out⟩
  · have b1 : (no == 0) = false := by simpa using h0
    have e : groupE (nodeE k (rns T)) no (inss L) = nodeE k (rns T) (inss L ++ [iSave (2 * no)]) ++ [iSave (2 * no + 1)] := by unfold groupE; rw [if_neg h0]
    rw [e]
    have w1' : IntKind.i64.wrap (2 * no) = 2 * no := by rw [IntKind.wrap_i64]; omega
    have w2' : IntKind.i64.wrap (2 * no + 1) = 2 * no + 1 := by rw [IntKind.wrap_i64]; omega
    clear e h0
    go_enter Tryz.func94, Tryz.ntmps94
    go_wp2_with fail
    refine (save_c B w r a c L P0.out (by omega) (2 * no)).mono ?_
    rintro _ w1 ⟨a1, c1, L1, rfl, hp, hL1, hf⟩
    have P1 := hid hp
    have F1 := hid hf
    have hl1 : L1.length = L.length + 1 := by rw [← inss_len, hL1.out]; simp [inss_len]
    have T1 := hid (T0.out.fr P0.out hf)
    have Hl1 := hid hl1
    clear hp hf hl1
    go_wp2_with fail
    refine (HN.out B w1 r a1 c1 L1 ta tc T d P1.out T1.out hn HK.out h5 hS (by have := Hl1.out; omega)).mono ?_
    rintro _ w2 ⟨a2, c2, L2, rfl, hp, hL2, hf⟩
    have P2 := hid hp
    have F2 := hid (F1.out.tr hf)
    have Hl2 := hid (node_len h5 hS hL2.out)
    clear hp hf
    go_wp2_with fail
    refine (save_c B w2 r a2 c2 L2 P2.out (by have := Hl1.out; have := Hl2.out; omega) (2 * no + 1)).mono ?_
    rintro _ w3 ⟨a3, c3, L3, rfl, hp, hL3, hf⟩
    have P3 := hid hp
    have F3 := hid (F2.out.tr hf)
    clear hp hf
    go_wp2_with fail
    go_end0
    exact ⟨a3, c3, L3, rfl, P3.out, by rw [hL3.out, hL2.out, hL1.out]; exact hid rfl, F3.out⟩
set_option maxHeartbeats 8000000 in
theorem nloop_c {k : Nat} (N : NodeC k) (B : Nat) (w : World) (r : Nat) (a : Option Addr) (c : Nat) (L : List Im) (ta : Option Addr) (tc : Nat) (T : List Rm) (d : Int) (h : Pg B w r a c L) (hT : Tre B r w ta tc T) (hn : NodAt d (rns T)) (hk : T.length ≤ k) (h5 : T.length ≤ 5000) (hS : Los (rns T)) (hl : L.length ≤ 100000000)
    (z : Bool) :
    Calls Tryz.prog 96 #[.pointer (some ⟨r, 0, none⟩), .slice ta T.length tc, .bool z] w (PgP B r w a (loopE (nodeE k (rns T)) z (inss L)) (.tuple #[])) := by
  have HN := hid N
  have P0 := hid h
  have T0 := hid hT
  have HK := hid hk
  have e : loopE (nodeE k (rns T)) z (inss L) = aimE (nodeE k (rns T) (inss L ++ [iSplit 0 0]) ++ [iJump L.length]) L.length z := by unfold loopE; rw [inss_len]
  rw [e]
  clear N h hT hk e
  go_enter Tryz.func96, Tryz.ntmps96
  go_wp2_with fail
  refine (split_c B w r a c L P0.out (by omega)).mono ?_
  rintro _ w1 ⟨a1, c1, L1, rfl, hp, hL1, hf⟩
  have P1 := hid hp
  have F1 := hid hf
  have hl1 : L1.length = L.length + 1 := by rw [← inss_len, hL1.out]; simp [inss_len]
  have T1 := hid (T0.out.fr P0.out hf)
  have Hl1 := hid hl1
  clear hp hf hl1
  go_wp2_with fail
  refine (HN.out B w1 r a1 c1 L1 ta tc T d P1.out T1.out hn HK.out h5 hS (by have := Hl1.out; omega)).mono ?_
  rintro _ w2 ⟨a2, c2, L2, rfl, hp, hL2, hf⟩
  have P2 := hid hp
  have F2 := hid (F1.out.tr hf)
  have Hl2 := hid (node_len h5 hS hL2.out)
  clear hp hf
  go_wp2_with fail
  refine (add0_c B w2 r a2 c2 L2 P2.out (by have := Hl1.out; have := Hl2.out; omega) 5 L.length 0).mono ?_
  rintro _ w3 ⟨a3, c3, L3, rfl, hp, hL3, hf⟩
  have P3 := hid hp
  have F3 := hid (F2.out.tr hf)
  have Hl3 : Hid (L3.length = L2.length + 1) := hid (by rw [← inss_len, hL3.out]; simp [inss_len])
  clear hp hf
  go_wp2_with fail
  refine (aim_c B w3 r a3 c3 L3 P3.out (by have := Hl1.out; have := Hl2.out; have := Hl3.out; omega) L.length (by have := Hl1.out; have := Hl2.out; have := Hl3.out; omega) z).mono ?_
  rintro _ w4 ⟨a4, c4, L4, rfl, hp, hL4, hf⟩
  have P4 := hid hp
  have F4 := hid (F3.out.tr hf)
  clear hp hf
  go_wp2_with fail
  go_end0
  exact ⟨a4, c4, L4, rfl, P4.out, by rw [hL4.out, hL3.out, hL2.out, hL1.out]; exact hid rfl, F4.out⟩
end Go.Proofs.YtefgjicegbhcaaaGreat
namespace Go.Proofs.YtefgjicegbhcaaaGreat
open Go.RowKit ReM

set_option maxHeartbeats 8000000 in
theorem ntimes_c {k : Nat} (N : NodeC k) (B : Nat) (w : World) (r : Nat) (a : Option Addr) (c : Nat) (L : List Im) (ta : Option Addr) (tc : Nat) (T : List Rm) (d : Int) (h : Pg B w r a c L) (hT : Tre B r w ta tc T) (hn : NodAt d (rns T)) (hk : T.length ≤ k) (h5 : T.length ≤ 5000) (hS : Los (rns T)) (hl : L.length ≤ 300)
    (n : Nat) (hn9 : n ≤ 10) :
    Calls Tryz.prog 95 #[.pointer (some ⟨r, 0, none⟩), .int .i64 n, .slice ta T.length tc] w (PgP B r w a (timesE (nodeE k (rns T)) n (inss L)) (.tuple #[])) := by
  have HN := hid N
  have P0 := hid h
  have T0 := hid hT
  have HK := hid hk
  clear N h hT hk
  go_enter Tryz.func95, Tryz.ntmps95
  go_wp2_with fail
  go_loopw [8] (fun iv wr => ∃ i : Nat, ∃ a1 c1, ∃ L1 : List Im, iv = .int .i64 i ∧ i ≤ n ∧ Hid (Pg B wr r a1 c1 L1) ∧ Hid (timesE (nodeE k (rns T)) n (inss L) = timesE (nodeE k (rns T)) (n - i) (inss L1)) ∧ L1.length ≤ 26000300 ∧ Hid (Fr r w wr a a1)) (fun iv _ => n - (intOf iv).toNat)
  case atStart => exact ⟨0, a, c, L, rfl, by omega, P0, hid rfl, by omega, hid (Fr.refl _ _ _)⟩
  case round =>
    obtain ⟨i, a1, c1, L1, rfl, hi, P1, HE, hl1, F1⟩ := hrel
    by_cases hlt : i < n
    · have z1 : (i : Int) < (n : Int) := by omega
      have w1' : IntKind.i64.wrap ((i : Int) + 1) = ((i + 1 : Nat) : Int) := by rw [IntKind.wrap_i64]; omega
      have c0 := P1.out.c0
      have T1 := hid (T0.out.fr P0.out F1.out)
      have Hs : Hid (timesE (nodeE k (rns T)) (n - i) (inss L1) = if (nodeE k (rns T) (inss L1)).length = L1.length then nodeE k (rns T) (inss L1) else timesE (nodeE k (rns T)) (n - (i + 1)) (nodeE k (rns T) (inss L1))) := by
        rw [show n - i = (n - (i + 1)) + 1 from by omega, timesE, inss_len]
        exact hid rfl
      go_wp2_with fail
      refine (HN.out B wr r a1 c1 L1 ta tc T d P1.out T1.out hn HK.out h5 hS (by omega)).mono ?_
      rintro _ w2 ⟨a2, c2, L2, rfl, hp, hL2, hf⟩
      have P2 := hid hp
      have F2 := hid (F1.out.tr hf)
      have Hl2 := hid (node_len h5 hS hL2.out)
      have HL2 := hid hL2.out
      clear hp hf c0 hL2
      have c0 := P2.out.c0
      have hlen : (nodeE k (rns T) (inss L1)).length = L2.length := by rw [← HL2.out, inss_len]
      by_cases he : L2.length = L1.length
      · have b1 : ((L2.length : Int) == (L1.length : Int)) = true := by rw [beq_iff_eq]; omega
        have HX : Hid (inss L2 = timesE (nodeE k (rns T)) n (inss L)) := by
          rw [HE.out, Hs.out, if_pos (by rw [hlen]; exact he)]
          exact hid HL2.out
        clear he hlen
        go_wp2_with fail
        go_end0
        exact ⟨a2, c2, L2, rfl, P2.out, HX, F2.out⟩
      · have b1 : ((L2.length : Int) == (L1.length : Int)) = false := by rw [beq_eq_false_iff_ne]; omega
        have HX : Hid (timesE (nodeE k (rns T)) n (inss L) = timesE (nodeE k (rns T)) (n - (i + 1)) (inss L2)) := by
          rw [HE.out, Hs.out, if_neg (by rw [hlen]; exact he), HL2.out]
          exact hid rfl
        clear he hlen
        go_wp2_with fail
        exact ⟨⟨i + 1, a2, c2, L2, by go_num, by omega, P2, HX, by have := Hl2.out; omega, F2⟩, by simp [intOf]; omega⟩
    · obtain rfl : i = n := by omega
      go_wp2_with fail
      go_end0
      exact ⟨a1, c1, L1, rfl, P1.out, by rw [HE.out, Nat.sub_self, timesE]; exact hid rfl, F1.out⟩
end Go.Proofs.YtefgjicegbhcaaaGreat
namespace Go.Proofs.YtefgjicegbhcaaaGreat
open Go.RowKit ReM

def ints (l : List Nat) : List Int := List.map Int.ofNat l
theorem ints_len (l : List Nat) : (ints l).length = l.length := by simp [ints]
theorem ints_app (l r : List Nat) : ints (l ++ r) = ints l ++ ints r := by simp [ints]
theorem ints_gt {l : List Nat} {i : Nat} (h : i < l.length) : gt (ints l) i = ((l[i] : Nat) : Int) := by
  rw [gt_get (by rw [ints_len]; exact h)]; simp [ints]
/-- a list of numbers that was made beside the program -/
theorem I.Own.fr {b2 B : Nat} {w w' : World} {aj : Option Addr} {cj : Nat} {J : List Int} (h : I.Own w b2 aj cj J) {r : Nat} {a a' : Option Addr} {c : Nat} {L : List Im} (p : Pg B w r a c L) (hB : B ≤ b2) (f : Fr r w w' a a') : I.Own w' b2 aj cj J :=
  h.same fun ad ha _ => (p.other h.1 hB (by decide) (k := ad.block) (by rw [ha]; rfl)).same f
theorem I.Own.lt {w : World} {b2 : Nat} {aj : Option Addr} {cj : Nat} {J : List Int} (h : I.Own w b2 aj cj J) {k : Nat} (hk : Blk aj k) : b2 ≤ k ∧ k < w.heap.size := h.1.lt k (by obtain ⟨ad, ha, hb⟩ := hk; rw [ha, ← hb]; rfl)
/-- the program beside it, when it grows -/
theorem Pg.ints {B : Nat} {w w' : World} {r : Nat} {a : Option Addr} {c : Nat} {L : List Im} (h : Pg B w r a c L) {b2 : Nat} {aj : Option Addr} {cj : Nat} {J : List Int} (ho : I.Own w b2 aj cj J) (hB : B ≤ b2) (k : Kpt (Blk aj) w w') : Pg B w' r a c L :=
  h.beside ho.1 hB (by decide) (by decide) k
theorem Fr.beside {r : Nat} {w w1 w2 : World} {a a1 : Option Addr} (h : Fr r w w1 a a1) {aj : Option Addr} (hj : ∀ k, Blk aj k → w.heap.size ≤ k) (k : Kpt (Blk aj) w1 w2) : Fr r w w2 a a1 :=
  ⟨⟨k.os.trans h.kpt.os, k.tape.trans h.kpt.tape, k.output.trans h.kpt.output, Nat.le_trans h.size k.size, fun j hl hn => (k.block j (Nat.lt_of_lt_of_le hl h.size) (fun hb => by have := hj j hb; omega)).trans (h.kpt.block j hl hn)⟩, h.loc⟩
theorem foldl_drop {α : Type} {f : List Ins → α → List Ins} {l : List α} {i : Nat} (h : i < l.length) (o : List Ins) : (l.drop i).foldl f o = (l.drop (i + 1)).foldl f (f o l[i]) := by
  rw [List.drop_eq_getElem_cons h, List.foldl_cons]
set_option maxRecDepth 20000 in
set_option maxHeartbeats 16000000 in
theorem nopt_c {k : Nat} (N : NodeC k) (B : Nat) (w : World) (r : Nat) (a : Option Addr) (c : Nat) (L : List Im) (ta : Option Addr) (tc : Nat) (T : List Rm) (d : Int) (h : Pg B w r a c L) (hT : Tre B r w ta tc T) (hn : NodAt d (rns T)) (hk : T.length ≤ k) (h5 : T.length ≤ 5000) (hS : Los (rns T)) (hl : L.length ≤ 26000300)
    (n : Nat) (hn9 : n ≤ 10) (z : Bool) :
    Calls Tryz.prog 97 #[.pointer (some ⟨r, 0, none⟩), .int .i64 n, .slice ta T.length tc, .bool z] w (PgP B r w a (optE (nodeE k (rns T)) n z (inss L)) (.tuple #[])) := by
  have HN := hid N
  have P0 := hid h
  have T0 := hid hT
  have HK := hid hk
  have HB : B ≤ w.heap.size := h.Bw
  have G := gw_node (k := k) h5 hS
  have GO := hid (fun i => gw_opt G (inss L) i)
  clear N h hT hk G
  go_enter Tryz.func97, Tryz.ntmps97
  go_wp2_with fail
  go_loopw [8, 12] (fun jv iv wr => ∃ i : Nat, ∃ a1 c1, ∃ L1 : List Im, ∃ aj cj, ∃ J : List Int, jv = .slice aj J.length cj ∧ iv = .int .i64 i ∧ i ≤ n ∧ Hid (Pg B wr r a1 c1 L1) ∧ Hid (I.Own wr w.heap.size aj cj J) ∧ J.length = i ∧
    Hid (ints (optRows (nodeE k (rns T)) (inss L) i).1 = J ∧ (optRows (nodeE k (rns T)) (inss L) i).2 = inss L1) ∧ Hid (Fr r w wr a a1)) (fun _ iv _ => n - (intOf iv).toNat)
  case atStart => exact ⟨0, a, c, L, none, 0, [], rfl, rfl, by omega, P0, hid (I.Own.nil _ _), rfl, hid ⟨rfl, rfl⟩, hid (Fr.refl _ _ _)⟩
  case round =>
    obtain ⟨i, a1, c1, L1, aj, cj, J, rfl, rfl, hi, P1, O1, hji, HE, F1⟩ := hrel
    have HB1 : w.heap.size ≤ wr.heap.size := F1.out.size
    have hl1 : L1.length ≤ 26000310 := by
      have := (GO.out i).2.1
      rw [HE.out.2, inss_len, inss_len] at this
      omega
    by_cases hlt : i < n
    · have z1 : (i : Int) < (n : Int) := by omega
      have w1' : IntKind.i64.wrap ((i : Int) + 1) = ((i + 1 : Nat) : Int) := by rw [IntKind.wrap_i64]; omega
      have Hji := hid hji
      clear hji
      go_wp2_with fail
      refine (split_c B wr r a1 c1 L1 P1.out (by omega)).mono ?_
      rintro _ w2 ⟨a2, c2, L2, rfl, hp, hL2, hf⟩
      have P2 := hid hp
      have T2 := hid (T0.out.fr P0.out (F1.out.tr hf))
      have O2 := hid (O1.out.fr P1.out HB hf)
      have F2 := hid (F1.out.tr hf)
      have HL2 := hid hL2.out
      have hl2 : L2.length = L1.length + 1 := by rw [← inss_len, HL2.out]; simp [inss_len]
      have Hl2 := hid hl2
      have HB2 : w.heap.size ≤ w2.heap.size := F2.out.size
      clear hp hf hL2 hl2
      go_wp2_with ((at_builtin; go_loud (refine I.wpL_appn rfl (.tmp 14) (.tmp 17) rfl w.heap.size aj (some ⟨w2.heap.size, 0, none⟩) J.length 1 cj 1 J [(L1.length : Int)] rfl (by first | rfl | simp | omega) (O2.out.grow ((Below.refl _ _).alloc (Nat.le_refl _) _)) rfl (by first | rfl | simp | omega) (I.Sl.lit' w2 [(L1.length : Int)] _ _ rfl (by simp) (I.rng_one (by omega)) _ rfl) (by simp; have := Hji.out; omega) (by simp; omega) ?_); intro a3 c3 w3 L3 Hl3 ho3 hb3 hk3 hA3; have HA3 := hid hA3; clear hA3; have Ho3 := hid ho3; clear ho3; have Hk3 := hid hk3; clear hk3; have hz3 := hb3.size))
      have KJ : Kpt (Blk aj) w2 w3 := Kpt.tr ((Kpt.refl _ _).alloc _) Hk3.out
      have P3 := hid (P2.out.ints O2.out HB KJ)
      have T3 := hid (T2.out.same fun k hk hkB _ => KJ.block k hk fun hb => by have := (O2.out.lt hb).1; omega)
      have F3 := hid (F2.out.beside (fun k hb => (O2.out.lt hb).1) KJ)
      have O3 := hid Ho3.out
      have HL3 := hid Hl3.out
      clear KJ Ho3 Hk3 HA3 Hl3 hb3 hz3
      refine (HN.out B w3 r a2 c2 L2 ta tc T d P3.out T3.out hn HK.out h5 hS (by have := Hl2.out; omega)).mono ?_
      rintro _ w4 ⟨a4, c4, L4, rfl, hp, hL4, hf⟩
      have P4 := hid hp
      have F4 := hid (F3.out.tr hf)
      have O4 := hid (O3.out.fr P3.out HB hf)
      have HE4 : Hid (ints (optRows (nodeE k (rns T)) (inss L) (i + 1)).1 = L3 ∧ (optRows (nodeE k (rns T)) (inss L) (i + 1)).2 = inss L4) := by
        refine hid ⟨?_, ?_⟩
        · rw [optRows, HL3.out, ints_app, HE.out.1, HE.out.2, inss_len]; rfl
        · rw [optRows, hL4.out, HL2.out, HE.out.2]
      have hl3 := hid (show L3.length = i + 1 by rw [HL3.out]; simp; exact Hji.out)
      clear hp hf hL4 P1 P2 P3 O1 O2 O3 F1 F2 F3 T2 T3 HE HL2 HL3
      go_wp2_with fail
      exact ⟨⟨i + 1, a4, c4, L4, a3, c3, L3, rfl, by go_num, by omega, P4, O4, hl3.out, HE4, F4⟩, by simp [intOf]; omega⟩
    · obtain rfl : i = n := by omega
      have hJ10 : J.length ≤ 10 := by omega
      clear hji
      have hpos := (GO.out i).2.2
      rw [HE.out.2, inss_len] at hpos
      have HP := hid hpos
      obtain ⟨ps, hps⟩ : ∃ ps, ps = (optRows (nodeE k (rns T)) (inss L) i).1 := ⟨_, rfl⟩
      have HJ : Hid (J = ints ps) := by rw [hps]; exact hid HE.out.1.symm
      have HX : Hid (optE (nodeE k (rns T)) i z (inss L) = ps.foldl (fun o j => aimE o j z) (inss L1)) := by
        rw [hps]; unfold optE; rw [HE.out.2]; exact hid rfl
      rw [← hps] at HP
      have hpl : ps.length = J.length := by rw [HJ.out, ints_len]
      clear hps hpos HE GO hlt
      go_wp2_with fail
      go_loopw [25] (fun iv wx => ∃ j : Nat, ∃ a2 c2, ∃ L2 : List Im, iv = .int .i64 j ∧ j ≤ J.length ∧ Hid (Pg B wx r a2 c2 L2) ∧ L2.length = L1.length ∧ Hid (I.Own wx w.heap.size aj cj J) ∧
        Hid (ps.foldl (fun o j => aimE o j z) (inss L1) = (ps.drop j).foldl (fun o j => aimE o j z) (inss L2)) ∧ Hid (Fr r w wx a a2)) (fun iv _ => J.length - (intOf iv).toNat)
      case atStart => exact ⟨0, a1, c1, L1, rfl, by omega, P1, rfl, O1, hid rfl, F1⟩
      case round =>
        obtain ⟨j, a2, c2, L2, rfl, hj, P2, hl2, O2, HD, F2⟩ := hrel
        by_cases hjl : j < J.length
        · have z1 : (j : Int) < (J.length : Int) := by omega
          have w1' : IntKind.i64.wrap ((j : Int) + 1) = ((j + 1 : Nat) : Int) := by rw [IntKind.wrap_i64]; omega
          obtain ⟨g, o, rfl, hc⟩ := O2.out.sl.at hjl
          have y0 := hc j hjl
          rw [HJ.out, ints_gt (by omega)] at y0
          have Hq := hid (HP.out _ (List.getElem_mem (show j < ps.length by omega)))
          have HD2 := hid (HD.out.trans (foldl_drop (show j < ps.length by omega) (inss L2)))
          generalize ps[j] = q at y0 Hq HD2
          have Hl2 := hid hl2
          clear hc hl2 HD
          go_wp2_with fail
          refine (aim_c B _ r a2 c2 L2 P2.out (by have := Hl2.out; omega) q (by have := Hl2.out; have := Hq.out; omega) z).mono ?_
          rintro _ w5 ⟨a5, c5, L5, rfl, hp, hL5, hf⟩
          have P5 := hid hp
          have F5 := hid (F2.out.tr hf)
          have O5 := hid (O2.out.fr P2.out HB hf)
          have hl5 : L5.length = L1.length := by rw [← inss_len L5, hL5.out, aim_len, inss_len]; exact Hl2.out
          rw [← hL5.out] at HD2
          clear hp hf hL5 y0
          go_wp2_with fail
          exact ⟨⟨j + 1, a5, c5, L5, by go_num, by omega, P5, hl5, O5, HD2, F5⟩, by simp [intOf]; omega⟩
        · obtain rfl : j = J.length := by omega
          go_wp2_with fail
          go_end0
          exact ⟨a2, c2, L2, rfl, P2.out, by rw [HX.out, HD.out, List.drop_of_length_le (by omega)]; exact hid rfl, F2.out⟩
end Go.Proofs.YtefgjicegbhcaaaGreat
namespace Go.Proofs.YtefgjicegbhcaaaGreat
open Go.RowKit ReM Go.ChangeShapes Go.WideShapes Go.ChangeAt

/-- rows that may be walked -/
def Rws (B r k : Nat) (w : World) (d : Int) (R : List Pt) : Prop := ∀ q, q ∈ R → Tre B r w q.a q.c q.l ∧ NodAt d (rns q.l) ∧ q.l.length ≤ k ∧ q.l.length ≤ 5000 ∧ Los (rns q.l)
theorem Rws.fr {B r k : Nat} {w w' : World} {d : Int} {R : List Pt} (h : Rws B r k w d R) {a a' : Option Addr} {c : Nat} {L : List Im} (p : Pg B w r a c L) (f : Fr r w w' a a') : Rws B r k w' d R :=
  fun q hq => ⟨(h q hq).1.fr p f, (h q hq).2⟩
theorem Rws.ints {B r k : Nat} {w w' : World} {d : Int} {R : List Pt} (h : Rws B r k w d R) {b2 : Nat} {aj : Option Addr} {cj : Nat} {J : List Int} (ho : I.Own w b2 aj cj J) (hB : B ≤ b2) (kk : Kpt (Blk aj) w w') : Rws B r k w' d R :=
  fun q hq => ⟨(h q hq).1.same fun j hj hjB _ => kk.block j hj fun hb => by have := (ho.lt hb).1; omega, (h q hq).2⟩
abbrev PtO (w : World) (b : Nat) (a : Option Addr) (c : Nat) (R : List Pt) : Prop := ROwn encPt 82 w b a c R
theorem pto_fr {b2 B : Nat} {w w' : World} {ra : Option Addr} {rc : Nat} {R : List Pt} (h : PtO w b2 ra rc R) {r : Nat} {a a' : Option Addr} {c : Nat} {L : List Im} (p : Pg B w r a c L) (hB : B ≤ b2) (f : Fr r w w' a a') : PtO w' b2 ra rc R :=
  h.same fun ad ha _ => (p.other h.1 hB (by decide) (k := ad.block) (by rw [ha]; rfl)).same f
theorem pto_ints {b2 : Nat} {w w' : World} {ra : Option Addr} {rc : Nat} {R : List Pt} (h : PtO w b2 ra rc R) {b3 : Nat} {aj : Option Addr} {cj : Nat} {J : List Int} (ho : I.Own w b3 aj cj J) (kk : Kpt (Blk aj) w w') : PtO w' b2 ra rc R :=
  h.same fun ad ha hl => kk.block _ hl fun hb => by
    obtain ⟨ae, he, hb⟩ := hb
    exact own_types ho.1 h.1 (by decide) (k := ad.block) (by rw [he, ← hb]; rfl) (by rw [ha]; rfl)
/-- a cell of theirs -/
theorem pto_at {w : World} {b g c : Nat} {R : List Pt} (h : PtO w b (some ⟨g, 0, none⟩) c R) {i : Nat} (hi : i < R.length) : w.cell? ⟨g, i, none⟩ = some (.slice (rgt R i).a (rgt R i).l.length (rgt R i).c) := by
  have := rec_pt (h.at (i := i) hi)
  have e : i * encPt.k = i := Nat.mul_one i
  rwa [e] at this
theorem pto_to {w' : World} (g n c m : Nat) (hm : m ≤ n) (hc : n ≤ c) (_ : n ≤ 100000) : (Instr.slice 147 (.slice (some ⟨g, 0, none⟩) n c) none (some (.int .i64 m)) none).run Tryz.prog w' = .ok (.slice (some ⟨g, 0, none⟩) m c) w' := by
  rw [run_slice_h _ _ _ _ _ Tryz.tyPt.elem .i64 m (by omega) (by omega)]
  simp [Tryz.tyPt.size, Result.andThen, sliced, Addr.add]
theorem alt_snoc {f : List Rn → Wr} {rows : List (List Rn)} {i : Nat} (h : i < rows.length) (o : List Ins) : altRows f (rows.take (i + 1)) o = altStep f (altRows f (rows.take i) o) rows[i] := by
  unfold altRows
  rw [List.take_succ_eq_append_getElem h, List.foldl_append]; rfl
def rowsR (R : List Pt) : List (List Rn) := R.map fun q => rns q.l
theorem rowsR_get {R : List Pt} {i : Nat} (h : i < R.length) : (rowsR R)[i]'(by simpa [rowsR] using h) = rns (rgt R i).l := by
  rw [rgt_get h]; simp [rowsR]
set_option maxRecDepth 20000 in
set_option maxHeartbeats 16000000 in
theorem nalt_c {k : Nat} (N : NodeC k) (B : Nat) (w : World) (r : Nat) (a : Option Addr) (c : Nat) (L : List Im) (ra : Option Addr) (rc b2 : Nat) (R : List Pt) (d : Int) (h : Pg B w r a c L) (hR : Rws B r k w d R) (hO : PtO w b2 ra rc R) (hb2 : B ≤ b2) (hr1 : 1 ≤ R.length) (hr2 : R.length ≤ 5000) (hl : L.length ≤ 300) :
    Calls Tryz.prog 92 #[.pointer (some ⟨r, 0, none⟩), .slice ra R.length rc] w (PgP B r w a (altE (nodeE k) (rowsR R) (inss L)) (.tuple #[])) := by
  have HN := hid N
  have P0 := hid h
  have R0 := hid hR
  have W0 := hid hO
  have HB : B ≤ w.heap.size := h.Bw
  obtain ⟨g, rfl, -, -, hrc⟩ : ∃ g, ra = some ⟨g, 0, none⟩ ∧ b2 ≤ g ∧ g < w.heap.size ∧ R.length ≤ rc := by
    rcases hO.shape with ⟨_, _, h0⟩ | h0
    · rw [h0] at hr1; simp at hr1
    · exact h0
  have HRc := hid hrc
  have G : ∀ q, q ∈ R → Gw (nodeE k (rns q.l)) 26000000 := fun q hq => gw_node (hR q hq).2.2.2.1 (hR q hq).2.2.2.2
  have GA := hid (fun i => gw_alt (f := nodeE k) (K := 26000000) ((rowsR R).take i) (fun x hx => by
    obtain ⟨q, hq, rfl⟩ := List.mem_map.1 (List.mem_of_mem_take hx)
    exact G q hq) ([], inss L) (fun j hj => by cases hj))
  obtain ⟨m, hm⟩ : ∃ m, R.length = m + 1 := ⟨R.length - 1, by omega⟩
  have hrun := fun w' => pto_to (w' := w') g R.length rc m (by omega) hrc (by omega)
  have wl : IntKind.i64.wrap ((R.length : Int) - 1) = (m : Int) := by rw [IntKind.wrap_i64]; omega
  have i0 : (0 : Int) ≤ (m : Int) := by omega
  have i1 : (m : Int) ≤ (R.length : Int) := by omega
  have i2 : (m : Int) < (R.length : Int) := by omega
  have HM := hid hm
  clear N h hR hO hrc G hm
  go_enter Tryz.func92, Tryz.ntmps92
  go_wp2_with fail
  go_loopw [5, 18] (fun jv iv wr => ∃ i : Nat, ∃ a1 c1, ∃ L1 : List Im, ∃ aj cj, ∃ J : List Int, jv = .slice aj J.length cj ∧ iv = .int .i64 i ∧ i ≤ m ∧ Hid (Pg B wr r a1 c1 L1) ∧ Hid (I.Own wr w.heap.size aj cj J) ∧ Hid (J.length = i) ∧
    Hid (ints (altRows (nodeE k) ((rowsR R).take i) (inss L)).1 = J ∧ (altRows (nodeE k) ((rowsR R).take i) (inss L)).2 = inss L1) ∧ Hid (PtO wr b2 (some ⟨g, 0, none⟩) rc R) ∧ Hid (Rws B r k wr d R) ∧ Hid (Fr r w wr a a1)) (fun _ iv _ => m - (intOf iv).toNat)
  case atStart => exact ⟨0, a, c, L, none, 0, [], rfl, rfl, by omega, P0, hid (I.Own.nil _ _), hid rfl, hid ⟨rfl, rfl⟩, W0, R0, hid (Fr.refl _ _ _)⟩
  case round =>
    obtain ⟨i, a1, c1, L1, aj, cj, J, rfl, rfl, hi, P1, O1, Hji, HE, W1, R1, F1⟩ := hrel
    have HB1 : w.heap.size ≤ wr.heap.size := F1.out.size
    have hl1 : L1.length ≤ 26020000 := by
      have := (GA.out i).2.1
      have e : ((rowsR R).take i).foldl (altStep (nodeE k)) ([], inss L) = altRows (nodeE k) ((rowsR R).take i) (inss L) := rfl
      rw [e, HE.out.2, inss_len] at this
      simp only [inss_len, List.length_take] at this
      have := HM.out
      omega
    by_cases hlt : i < m
    · have z1 : (i : Int) < (m : Int) := by omega
      have hiR : i < R.length := by have := HM.out; omega
      have y0 := pto_at W1.out hiR
      have w1' : IntKind.i64.wrap ((i : Int) + 1) = ((i + 1 : Nat) : Int) := by rw [IntKind.wrap_i64]; have := HM.out; omega
      obtain ⟨q, hq⟩ : ∃ q, q = rgt R i := ⟨_, rfl⟩
      have hqm : q ∈ R := by rw [hq]; exact rgt_mem hiR
      have hst : altRows (nodeE k) ((rowsR R).take (i + 1)) (inss L) = altStep (nodeE k) (altRows (nodeE k) ((rowsR R).take i) (inss L)) (rns q.l) := by
        rw [hq, ← rowsR_get hiR]; exact alt_snoc _ _
      rw [← hq] at y0
      have HST := hid hst
      have HQM := hid hqm
      clear hq hqm hst
      go_wp2_with fail
      refine (split_c B wr r a1 c1 L1 P1.out (by omega)).mono ?_
      rintro _ w2 ⟨a2, c2, L2, rfl, hp, hL2, hf⟩
      have P2 := hid hp
      have R2 := hid (R1.out.fr P1.out hf)
      have W2 := hid (pto_fr W1.out P1.out hb2 hf)
      have O2 := hid (O1.out.fr P1.out HB hf)
      have F2 := hid (F1.out.tr hf)
      have HL2 := hid hL2.out
      have Hl2 : Hid (L2.length = L1.length + 1) := hid (by rw [← inss_len, HL2.out]; simp [inss_len])
      have HB2 : w.heap.size ≤ w2.heap.size := F2.out.size
      clear hp hf hL2 y0
      go_wp2_with fail
      obtain ⟨t1, t2, t3, t4, t5⟩ := R2.out q HQM.out
      refine (HN.out B w2 r a2 c2 L2 q.a q.c q.l d P2.out t1 t2 t3 t4 t5 (by have := Hl2.out; omega)).mono ?_
      rintro _ w3 ⟨a3, c3, L3, rfl, hp, hL3, hf⟩
      have P3 := hid hp
      have R3 := hid (R2.out.fr P2.out hf)
      have W3 := hid (pto_fr W2.out P2.out hb2 hf)
      have O3 := hid (O2.out.fr P2.out HB hf)
      have F3 := hid (F2.out.tr hf)
      have HL3 := hid hL3.out
      have Hl3 := hid (node_len t4 t5 hL3.out)
      clear hp hf hL3 t1 t2 t3 t4 t5 P1 R1 W1 O1 F1
      go_wp2_with fail
      refine (add0_c B w3 r a3 c3 L3 P3.out (by have := Hl2.out; have := Hl3.out; omega) 5 0 0).mono ?_
      rintro _ w4 ⟨a4, c4, L4, rfl, hp, hL4, hf⟩
      have P4 := hid hp
      have R4 := hid (R3.out.fr P3.out hf)
      have W4 := hid (pto_fr W3.out P3.out hb2 hf)
      have O4 := hid (O3.out.fr P3.out HB hf)
      have F4 := hid (F3.out.tr hf)
      have HL4 := hid hL4.out
      have Hl4 : Hid (L4.length = L3.length + 1) := hid (by rw [← inss_len, HL4.out]; simp [inss_len])
      have HB4 : w.heap.size ≤ w4.heap.size := F4.out.size
      have l3i : 0 ≤ (L3.length : Int) ∧ (L3.length : Int) ≤ 9000000000 := by have := Hl2.out; have := Hl3.out; omega
      clear hp hf hL4 P2 R2 W2 O2 F2 P3 R3 W3 O3 F3
      go_wp2_with ((at_builtin; go_loud (refine I.wpL_appn rfl (.tmp 27) (.tmp 31) rfl w.heap.size aj (some ⟨w4.heap.size, 0, none⟩) J.length 1 cj 1 J [(L3.length : Int)] rfl (by first | rfl | simp | omega) (O4.out.grow ((Below.refl _ _).alloc (Nat.le_refl _) _)) rfl (by first | rfl | simp | omega) (I.Sl.lit' w4 [(L3.length : Int)] _ _ rfl (by simp) (I.rng_one (by omega)) _ rfl) (by simp; have := Hji.out; have := HM.out; omega) (by simp; omega) ?_); intro a5 c5 w5 L5 Hl5 ho5 hb5 hk5 hA5; have HA5 := hid hA5; clear hA5; have Ho5 := hid ho5; clear ho5; have Hk5 := hid hk5; clear hk5; have hz5 := hb5.size))
      have KJ : Kpt (Blk aj) w4 w5 := Kpt.tr ((Kpt.refl _ _).alloc _) Hk5.out
      have P5 := hid (P4.out.ints O4.out HB KJ)
      have R5 := hid (R4.out.ints O4.out HB KJ)
      have W5 := hid (pto_ints W4.out O4.out KJ)
      have F5 := hid (F4.out.beside (fun k hb => (O4.out.lt hb).1) KJ)
      have O5 := hid Ho5.out
      have HL5 := hid Hl5.out
      clear KJ Ho5 Hk5 HA5 Hl5 hb5 hz5 P4 R4 W4 O4 F4
      refine (aim_c B w5 r a4 c4 L4 P5.out (by have := Hl2.out; have := Hl3.out; have := Hl4.out; omega) L1.length (by have := Hl2.out; have := Hl3.out; have := Hl4.out; omega) false).mono ?_
      rintro _ w6 ⟨a6, c6, L6, rfl, hp, hL6, hf⟩
      have P6 := hid hp
      have R6 := hid (R5.out.fr P5.out hf)
      have W6 := hid (pto_fr W5.out P5.out hb2 hf)
      have O6 := hid (O5.out.fr P5.out HB hf)
      have F6 := hid (F5.out.tr hf)
      have HE6 : Hid (ints (altRows (nodeE k) ((rowsR R).take (i + 1)) (inss L)).1 = L5 ∧ (altRows (nodeE k) ((rowsR R).take (i + 1)) (inss L)).2 = inss L6) := by
        rw [HST.out]
        unfold altStep
        dsimp only
        rw [HE.out.2, ← HL2.out, ← HL3.out]
        refine hid ⟨?_, ?_⟩
        · rw [HL5.out, ints_app, HE.out.1, inss_len]; rfl
        · rw [hL6.out, HL4.out, inss_len]; rfl
      have hl5 := hid (show L5.length = i + 1 by rw [HL5.out]; simp; exact Hji.out)
      clear hp hf hL6 P5 R5 W5 O5 F5 HE HL2 HL3 HL4 HL5 HST
      go_wp2_with fail
      exact ⟨⟨i + 1, a6, c6, L6, a5, c5, L5, rfl, by go_num, by omega, P6, O6, hl5, HE6, W6, R6, F6⟩, by simp [intOf]; omega⟩
    · obtain rfl : i = m := by omega
      have him : i < R.length := by have := HM.out; omega
      have y0 := pto_at W1.out him
      obtain ⟨q, hq⟩ : ∃ q, q = rgt R i := ⟨_, rfl⟩
      have hqm : q ∈ R := by rw [hq]; exact rgt_mem him
      have hlast : (rowsR R).getD ((rowsR R).length - 1) [] = rns q.l := by
        have hlen : (rowsR R).length = R.length := by simp [rowsR]
        have e : (rowsR R).length - 1 = i := by have := HM.out; omega
        rw [e, List.getD_eq_getElem?_getD, List.getElem?_eq_getElem (by rw [hlen]; exact him), rowsR_get him, ← hq]; rfl
      have hla : (rowsR R).length - 1 = i := by have := HM.out; simp [rowsR]; omega
      have hpos := (GA.out i).2.2
      have e : ((rowsR R).take i).foldl (altStep (nodeE k)) ([], inss L) = altRows (nodeE k) ((rowsR R).take i) (inss L) := rfl
      rw [e, HE.out.2, inss_len] at hpos
      have HP := hid hpos
      obtain ⟨ps, hps⟩ : ∃ ps, ps = (altRows (nodeE k) ((rowsR R).take i) (inss L)).1 := ⟨_, rfl⟩
      have HJ : Hid (J = ints ps) := by rw [hps]; exact hid HE.out.1.symm
      have HX : Hid (altE (nodeE k) (rowsR R) (inss L) = ps.foldl landE (nodeE k (rns q.l) (inss L1))) := by
        rw [hps]; unfold altE; rw [hlast, hla, HE.out.2]; exact hid rfl
      rw [← hps] at HP
      rw [← hq] at y0
      have hpl := hid (show ps.length = J.length by rw [HJ.out, ints_len])
      have HQM := hid hqm
      have HJ5 : Hid (J.length ≤ 5000) := hid (by have := Hji.out; have := HM.out; omega)
      clear hps hpos HE GA hlt hla hlast e hq hqm
      go_wp2_with fail
      obtain ⟨t1, t2, t3, t4, t5⟩ := R1.out q HQM.out
      refine (HN.out B wr r a1 c1 L1 q.a q.c q.l d P1.out t1 t2 t3 t4 t5 (by omega)).mono ?_
      rintro _ w2 ⟨a2, c2, L2, rfl, hp, hL2, hf⟩
      have P2 := hid hp
      have O2 := hid (O1.out.fr P1.out HB hf)
      have F2 := hid (F1.out.tr hf)
      have HL2 := hid hL2.out
      have Hl2 := hid (node_len t4 t5 hL2.out)
      clear hp hf hL2 t1 t2 t3 t4 t5 P1 R1 W1 O1 F1 y0
      go_wp2_with fail
      go_loopw [45] (fun iv wx => ∃ j : Nat, ∃ a3 c3, ∃ L3 : List Im, iv = .int .i64 j ∧ j ≤ J.length ∧ Hid (Pg B wx r a3 c3 L3) ∧ Hid (L3.length = L2.length) ∧ Hid (I.Own wx w.heap.size aj cj J) ∧
        Hid (ps.foldl landE (inss L2) = (ps.drop j).foldl landE (inss L3)) ∧ Hid (Fr r w wx a a3)) (fun iv _ => J.length - (intOf iv).toNat)
      case atStart => exact ⟨0, a2, c2, L2, rfl, by omega, P2, hid rfl, O2, hid rfl, F2⟩
      case round =>
        obtain ⟨j, a3, c3, L3, rfl, hj, P3, Hl3, O3, HD, F3⟩ := hrel
        by_cases hjl : j < J.length
        · have z1 : (j : Int) < (J.length : Int) := by omega
          have w1' : IntKind.i64.wrap ((j : Int) + 1) = ((j + 1 : Nat) : Int) := by rw [IntKind.wrap_i64]; have := HJ5.out; omega
          obtain ⟨gj, o, rfl, hc⟩ := O3.out.sl.at hjl
          have y0 := hc j hjl
          have hjp : j < ps.length := by have := hpl.out; omega
          rw [HJ.out, ints_gt hjp] at y0
          have Hq := hid (HP.out _ (List.getElem_mem hjp))
          have HD2 := hid (HD.out.trans (foldl_drop hjp (inss L3)))
          generalize ps[j] = x at y0 Hq HD2
          clear hc HD hjp
          have hx3 : x < L3.length := by have := Hl3.out; have := Hl2.out; have := Hq.out; omega
          obtain ⟨gp, rfl⟩ := P3.out.addr hx3
          have c0 := P3.out.c0
          have r1 := (rec_in (P3.out.own.at (i := x) hx3)).2.1
          change World.cell? _ ⟨gp, x * 5 + 1, none⟩ = _ at r1
          have f1 := P3.out.own.free (x * 5 + 1)
          have zx : (x : Int) < (L3.length : Int) := by omega
          have zx0 : (0 : Int) ≤ (x : Int) := by omega
          have P4 := hid (P3.out.put (i := x) (j := 1) (x := { rgt L3 x with x := (L3.length : Int) }) (u := .int .i64 (L3.length : Int)) hx3 (by decide) rfl rfl)
          have F4 := hid (F3.out.put rfl (o := x * 5 + 1) (.int .i64 (L3.length : Int)))
          have F4' := hid ((Fr.refl r wr (some ⟨gp, 0, none⟩)).put rfl (o := x * 5 + 1) (.int .i64 (L3.length : Int)))
          have O4 := hid (O3.out.fr P3.out HB F4'.out)
          have HI := hid (igt_inss hx3)
          go_upto_region 14 with fail
          go_region
          all_goals
            have hl4 : Hid ((L3.set x { rgt L3 x with x := (L3.length : Int) }).length = L2.length) := hid (by rw [List.length_set]; exact Hl3.out)
            have HD4 : Hid (ps.foldl landE (inss L2) = (ps.drop (j + 1)).foldl landE (inss (L3.set x { rgt L3 x with x := (L3.length : Int) }))) := by
              rw [inss_set]
              have e := HD2.out
              unfold landE at e ⊢
              rw [HI.out, inss_len] at e
              exact hid e
            obtain ⟨L4, hL4⟩ : ∃ L4, L4 = L3.set x { rgt L3 x with x := (L3.length : Int) } := ⟨_, rfl⟩
            rw [← hL4] at P4 hl4 HD4
            clear hL4 c0 r1 f1 y0 HD2 HI P3 O3 F3 F4'
            go_wp2_with fail
            exact ⟨⟨j + 1, _, c3, L4, by go_num, by omega, hid (P4.out.bel (by (repeat' (first | exact Below.refl _ _ | assumption | refine bdrewN ?_ _ | refine Below.drew ?_ | refine Below.setCell ?_ (Nat.le_refl _) _ | refine bal ?_ _ | refine bthen ?_ (by assumption))))), hl4, hid (O4.out.grow (by (repeat' (first | exact Below.refl _ _ | assumption | refine bdrewN ?_ _ | refine Below.drew ?_ | refine Below.setCell ?_ (Nat.le_refl _) _ | refine bal ?_ _ | refine bthen ?_ (by assumption))))), HD4, hid (F4.out.bel (by (repeat' (first | exact Below.refl _ _ | assumption | refine bdrewN ?_ _ | refine Below.drew ?_ | refine Below.setCell ?_ (Nat.le_refl _) _ | refine bal ?_ _ | refine bthen ?_ (by assumption)))))⟩, by simp [intOf]; omega⟩
        · obtain rfl : j = J.length := by omega
          go_wp2_with fail
          go_end0
          exact ⟨a3, c3, L3, rfl, P3.out, by rw [HX.out, ← HL2.out, HD.out, List.drop_of_length_le (by have := hpl.out; omega)]; exact hid rfl, F3.out⟩
end Go.Proofs.YtefgjicegbhcaaaGreat
namespace Go.Proofs.YtefgjicegbhcaaaGreat
open Go.RowKit ReM Go.ChangeShapes Go.WideShapes Go.ChangeAt

theorem rws_parts {B r k : Nat} {w w2 : World} {aD : Option Addr} {cD : Nat} {D : List Rm} {S : List Pt} {d : Int} {cs : List (List Rn)} (TV : Tre B r w aD cD D) (hm : S.map (fun q => rns q.l) = partsL (rns D))
    (hg : ∀ q, q ∈ S → RSl encRe w q.a q.l ∧ q.l.length ≤ q.c ∧ (∀ k, Blk q.a k → Blk aD k) ∧ (∀ m, m ∈ q.l → m ∈ D)) (b : Below w.heap.size w w2) (hc : ∀ c, c ∈ cs → NodAt d c) (hcs : rns D = cs.flatten) (hk : D.length ≤ k) (h5 : D.length ≤ 5000) (hS : Los (rns D)) :
    rowsR S = cs ∧ Rws B r k w2 d S ∧ S.length ≤ D.length := by
  have e : rowsR S = cs := by
    show S.map _ = _
    rw [hm, hcs]; exact parts_flat cs hc
  refine ⟨e, fun q hq => ?_, ?_⟩
  · have hmem : rns q.l ∈ cs := by rw [← e]; exact List.mem_map_of_mem hq
    obtain ⟨g1, g2, g3, g4⟩ := hg q hq
    have hlen : q.l.length ≤ D.length := by
      have := len_flat hmem
      rw [← hcs, rns_len, rns_len] at this
      exact this
    refine ⟨(TV.sub g1 g2 g3 g4).bel b, hc _ hmem, by omega, by omega, fun y hy => ?_⟩
    obtain ⟨mm, hmm, rfl⟩ := List.mem_map.1 hy
    exact hS _ (List.mem_map_of_mem (g4 mm hmm))
  · have := (partsF_mem (rns D).length (rns D)).1
    rw [rns_len] at this
    have e2 : S.length = (partsL (rns D)).length := by rw [← hm, List.length_map]
    rw [e2]
    unfold partsL
    rw [rns_len]
    exact this
theorem stk_add {B : Nat} {V w2 : World} {K : List Skey} (hs : Stk B V K) (hB : B ≤ V.heap.size) (b : Below V.heap.size V w2) {a2 : Option Addr} {c2 : Nat} {s : List Int} (ho : Own w2 V.heap.size a2 c2 s) : Stk B w2 (K ++ [(a2, s, c2)]) :=
  (hs.bel b).snoc (ho.base_le hB) fun q hq k hk hk2 => by
    have h1 := (hs.lt hq hk).2
    have h2 := (ho.1.lt k (by obtain ⟨ad, ha, hb⟩ := hk2; rw [ha, ← hb]; rfl)).1
    omega
set_option maxRecDepth 20000 in
set_option maxHeartbeats 60000000 in
theorem node_step {k : Nat} (N : NodeC k) : NodeC (k + 1) := by
  intro B w r a c L ta tc T d h hT hn hk h5 hS hl
  have HN := hid N
  have P0 := hid h
  have T0 := hid hT
  have hrw : r < w.heap.size := h.lt
  have HBw : B ≤ w.heap.size := h.Bw
  have hrB : r < B := h.rB
  obtain ⟨t, hrt⟩ : ∃ t, rns T = t := ⟨_, rfl⟩
  rw [hrt] at hn hS
  obtain ⟨_, x, cs, hx, hc, hloc⟩ := hn
  obtain ⟨m, T', rfl⟩ : ∃ m T', T = m :: T' := by
    cases T with
    | nil => simp [rns] at hrt
    | cons m T' => exact ⟨m, T', rfl⟩
  have hrt2 : m.rn = x ∧ rns T' = cs.flatten := by simpa [rns] using hrt
  obtain ⟨rfl, hcs⟩ := hrt2
  rw [List.length_cons] at hk h5
  have e0 : nodeE (k + 1) (rns (m :: T')) (inss L) = if 300 < L.length then inss L else (
      if m.kind = 0 then (partsL (rns T')).foldl (fun o l => nodeE k l o) (inss L)
      else if m.kind = 1 then altE (nodeE k) (partsL (rns T')) (inss L)
      else if m.kind = 2 then inss L ++ [iSet m.not m.set]
      else if m.kind = 3 then inss L ++ [iStart]
      else if m.kind = 4 then inss L ++ [iEnd]
      else if m.kind = 5 then groupE (nodeE k (rns T')) m.lo (inss L)
      else if m.kind = 6 then
        if m.hi = -1 then loopE (nodeE k (rns T')) m.lazy (timesE (nodeE k (rns T')) m.lo.toNat (inss L))
        else optE (nodeE k (rns T')) (m.hi - m.lo).toNat m.lazy (timesE (nodeE k (rns T')) m.lo.toNat (inss L))
      else inss L) := by
    show (if 300 < (inss L).length then inss L else _) = _
    rw [inss_len]; rfl
  rw [e0]
  have hS' : Los (rns T') := fun y hy => hS y (by rw [← hcs]; exact List.mem_cons_of_mem _ hy)
  have hSm : LoOk m.rn := hS m.rn (by simp)
  have FC := hid (full_c B w r a c L h)
  clear e0 N h hT hrt
  by_cases hful : 300 < L.length
  · rw [if_pos hful]
    have b1 : decide ((300 : Int) < (L.length : Int)) = true := decide_eq_true (by omega)
    go_enter Tryz.func67, Tryz.ntmps67
    go_wp2_with fail
    refine FC.out.mono ?_
    rintro _ w1 ⟨rfl, b1'⟩
    have Hb1 := hid b1'
    clear b1'
    go_wp2_with fail
    go_end0
    exact ⟨a, c, L, rfl, P0.out.bel Hb1.out, hid rfl, Fr.of Hb1.out⟩
  · rw [if_neg hful]
    generalize hO : (ite (m.kind = 0) _ _ : List Ins) = O
    have HO := hid hO
    clear hO
    have b1 : decide ((300 : Int) < (L.length : Int)) = false := decide_eq_false (by omega)
    obtain ⟨n, hnl⟩ : ∃ n, n = (m :: T').length := ⟨_, rfl⟩
    rw [← hnl]
    have Hnl := hid hnl
    clear hnl
    go_enter Tryz.func67, Tryz.ntmps67
    go_wp2_with fail
    refine FC.out.mono ?_
    rintro _ w1 ⟨rfl, b1'⟩
    rw [b1]
    have P1 := hid (P0.out.bel b1')
    have F1 := hid (Fr.of (r := r) (a := a) b1')
    have T1 := hid (T0.out.bel b1')
    have hz1 := b1'.size
    clear b1' P0 T0 FC b1
    obtain ⟨bt, ot, rfl, hct⟩ := T1.out.sl.at (i := 0) (by simp)
    obtain ⟨x0, x1, x2, x3, x4, x5, x6⟩ := rec_re (hct 0 (by simp))
    change World.cell? _ ⟨bt, ot, none⟩ = some (.int .i64 m.kind) at x0
    change World.cell? _ ⟨bt, ot + 1, none⟩ = some (.int .i64 m.deep) at x1
    change World.cell? _ ⟨bt, ot + 2, none⟩ = some (.int .i64 m.lo) at x2
    change World.cell? _ ⟨bt, ot + 3, none⟩ = some (.int .i64 m.hi) at x3
    change World.cell? _ ⟨bt, ot + 4, none⟩ = some (.bool m.lazy) at x4
    change World.cell? _ ⟨bt, ot + 5, none⟩ = some (.bool m.not) at x5
    change World.cell? _ ⟨bt, ot + 6, none⟩ = some (.slice m.sa m.set.length m.sc) at x6
    clear hct
    have hcut := T1.out.sl.cut 1 (m :: T').length tc (by simp) (Nat.le_refl _) T1.out.cap
    rw [List.take_length] at hcut
    obtain ⟨aD, haD⟩ : ∃ aD, aD = if tc = 1 then (some ⟨bt, ot, none⟩ : Option Addr) else some ⟨bt, ot + 7, none⟩ := ⟨_, rfl⟩
    have sD : RSl encRe w1 aD T' := by
      rw [haD]
      have e : ((some ⟨bt, ot, none⟩ : Option Addr).map (·.add (1 * encRe.k))) = some ⟨bt, ot + 7, none⟩ := by simp [Addr.add, encRe]
      rw [e] at hcut
      exact hcut
    have hbD : ∀ k, Blk aD k → Blk (some ⟨bt, ot, none⟩) k := fun k hk => by
      rw [haD] at hk
      split at hk
      · exact hk
      · obtain ⟨ad, ha, rfl⟩ := hk
        cases ha
        exact ⟨_, rfl, rfl⟩
    obtain ⟨cD, hcD⟩ : ∃ cD, cD = tc - 1 := ⟨_, rfl⟩
    have hcD2 : T'.length ≤ cD := by have := T1.out.cap; rw [List.length_cons] at this; omega
    have hn1 : n - 1 = T'.length := by rw [Hnl.out]; simp
    have i1 : (0 : Int) < (n : Int) := by rw [Hnl.out, List.length_cons]; omega
    have i2 : (1 : Int) ≤ (n : Int) := by omega
    have i3 : 0 < n := by omega
    have TD := hid (T1.out.sub sD hcD2 hbD (fun y hy => List.mem_cons_of_mem _ hy))
    have TM := hid (T1.out.sets m (by simp))
    have HaD := hid haD
    have HcD := hid hcD
    have Hn1 := hid hn1
    clear sD hcD hcD2 hbD hcut haD hn1 T1
    have hbt : bt < w1.heap.size := World.block_lt_of_cell? w1 _ x0
    have KX := hid (fun (w' : World) (hw : Below w1.heap.size w1 w') => show w'.cell? ⟨bt, ot, none⟩ = some (.int .i64 m.kind) ∧ w'.cell? ⟨bt, ot + 1, none⟩ = some (.int .i64 m.deep) ∧ w'.cell? ⟨bt, ot + 2, none⟩ = some (.int .i64 m.lo) ∧ w'.cell? ⟨bt, ot + 3, none⟩ = some (.int .i64 m.hi) ∧ w'.cell? ⟨bt, ot + 4, none⟩ = some (.bool m.lazy) ∧ w'.cell? ⟨bt, ot + 5, none⟩ = some (.bool m.not) ∧ w'.cell? ⟨bt, ot + 6, none⟩ = some (.slice m.sa m.set.length m.sc) from
      ⟨(hw.cell hbt).trans x0, (hw.cell hbt).trans x1, (hw.cell hbt).trans x2, (hw.cell hbt).trans x3, (hw.cell hbt).trans x4, (hw.cell hbt).trans x5, (hw.cell hbt).trans x6⟩)
    go_upto_region 1 with fail
    go_region_held3 (fun w' => w'.cell? ⟨bt, ot, none⟩ = some (.int .i64 m.kind) ∧ w'.cell? ⟨bt, ot + 1, none⟩ = some (.int .i64 m.deep) ∧ w'.cell? ⟨bt, ot + 2, none⟩ = some (.int .i64 m.lo) ∧ w'.cell? ⟨bt, ot + 3, none⟩ = some (.int .i64 m.hi) ∧ w'.cell? ⟨bt, ot + 4, none⟩ = some (.bool m.lazy) ∧ w'.cell? ⟨bt, ot + 5, none⟩ = some (.bool m.not) ∧ w'.cell? ⟨bt, ot + 6, none⟩ = some (.slice m.sa m.set.length m.sc)) (first | assumption | exact ⟨by assumption, by assumption, by assumption, by assumption, by assumption, by assumption, by assumption⟩ | (exact KX.out _ (by (repeat' (first | exact Below.refl _ _ | assumption | refine bdrewN ?_ _ | refine Below.drew ?_ | refine Below.setCell ?_ (Nat.le_refl _) _ | refine bal ?_ _ | refine bthen ?_ (by assumption)))))) (fail)
    rw [← HaD.out, Hn1.out, ← HcD.out]
    obtain ⟨V, hV⟩ : ∃ V, V = (w1.alloc (.cells #[.int .i64 m.kind, .int .i64 m.deep, .int .i64 m.lo, .int .i64 m.hi, .bool m.lazy, .bool m.not, .slice m.sa m.set.length m.sc] 128)).drew := ⟨_, rfl⟩
    have nn : NdC V w1.heap.size m.kind m.deep m.lo m.hi m.lazy m.not (.slice m.sa m.set.length m.sc) := by subst hV; exact (NdC.new w1 _ _ _ _ _ _ _ _ _ rfl).same rfl
    have bV : Below w1.heap.size w1 V := by subst hV; (repeat' (first | exact Below.refl _ _ | assumption | refine bdrewN ?_ _ | refine Below.drew ?_ | refine Below.setCell ?_ (Nat.le_refl _) _ | refine bal ?_ _ | refine bthen ?_ (by assumption)))
    have zV : V.heap.size = w1.heap.size + 1 := by subst hV; simp
    rw [← hV]
    have PV := hid (P1.out.bel bV)
    have FV := hid (F1.out.bel bV)
    have TV := hid (TD.out.bel bV)
    have MV : Hid (Own V 0 m.sa m.sc m.set) := hid (TM.out.1.grow bV)
    have hNp : Np V r a w1.heap.size := ⟨by omega, by omega, fun hb => by have := (P1.out.own.lt hb).2; omega⟩
    have HNp := hid hNp
    have HNN := hid nn
    have HPS := hid (parts_flat cs hc)
    have HCS := hid hcs
    clear hV x0 x1 x2 x3 x4 x5 x6 KX hbt P1 F1 TD TM i1 i2 i3 hNp bV HaD HcD Hn1 hcs hx
    obtain ⟨n0, n1, n2, n3, n4, n5, n6⟩ := nn
    by_cases h0 : m.kind = 0
    · have b0 : (m.kind == 0) = true := by simpa using h0
      have HO2 := HO.out
      rw [if_pos h0] at HO2
      have HO3 := hid HO2
      clear h0 HO HO2 n1 n2 n3 n4 n5 n6
      as_aux_lemma =>
      go_wp2_with fail
      refine (parts_c aD cD T' V TV.out.sl TV.out.cap (by omega)).mono ?_
      rintro _ w2 ⟨aS, cS, S, rfl, hoS, hmS, hgS, b2⟩
      obtain ⟨hR, hW, hSl⟩ := rws_parts (k := k) TV.out hmS.out hgS b2 hc HCS.out (by omega) (by omega) hS'
      have hBV : B ≤ V.heap.size := PV.out.Bw
      have P2 := hid (PV.out.bel b2)
      have F2 := hid (FV.out.bel b2)
      have O2 := hid hoS
      have R2 := hid hW
      have HE : Hid (O = (rowsR S).foldl (fun o l => nodeE k l o) (inss L)) := by
        rw [← HO3.out, hR, HCS.out, HPS.out]; exact hid rfl
      have HBV := hid hBV
      clear hoS hmS hgS b2 hW hBV PV FV TV MV HO3 hR n0
      go_wp2_with fail
      go_loopw [22] (fun iv wr => ∃ i : Nat, ∃ a1 c1, ∃ L1 : List Im, iv = .int .i64 i ∧ i ≤ S.length ∧ Hid (Pg B wr r a1 c1 L1) ∧ Hid ((rowsR S).foldl (fun o l => nodeE k l o) (inss L) = ((rowsR S).drop i).foldl (fun o l => nodeE k l o) (inss L1)) ∧ L1.length ≤ 26000300 ∧ Hid (PtO wr V.heap.size aS cS S) ∧ Hid (Rws B r k wr (d + 1) S) ∧ Hid (Fr r w wr a a1)) (fun iv _ => S.length - (intOf iv).toNat)
      case atStart => exact ⟨0, a, c, L, rfl, by omega, P2, hid rfl, by omega, O2, R2, F2⟩
      case round =>
        obtain ⟨i, a1, c1, L1, rfl, hi, P1, HD, hl1, O1, R1, F1⟩ := hrel
        by_cases hlt : i < S.length
        · have z1 : (i : Int) < (S.length : Int) := by omega
          have w1' : IntKind.i64.wrap ((i : Int) + 1) = ((i + 1 : Nat) : Int) := by rw [IntKind.wrap_i64]; omega
          obtain ⟨gS, rfl⟩ : ∃ g, aS = some ⟨g, 0, none⟩ := by
            rcases O1.out.shape with ⟨_, _, h0⟩ | ⟨g, h0, _⟩
            · rw [h0] at hlt; simp at hlt
            · exact ⟨g, h0⟩
          have y0 := pto_at O1.out hlt
          obtain ⟨q, hq⟩ : ∃ q, q = rgt S i := ⟨_, rfl⟩
          have hqm := hid (show q ∈ S by rw [hq]; exact rgt_mem hlt)
          have HD2 : Hid ((rowsR S).foldl (fun o l => nodeE k l o) (inss L) = ((rowsR S).drop (i + 1)).foldl (fun o l => nodeE k l o) (nodeE k (rns q.l) (inss L1))) := by
            have hlr : i < (rowsR S).length := by simpa [rowsR] using hlt
            rw [HD.out, foldl_drop hlr, rowsR_get hlt, hq]
            exact hid rfl
          rw [← hq] at y0
          clear hq HD
          go_wp2_with fail
          obtain ⟨t1, t2, t3, t4, t5⟩ := R1.out q hqm.out
          refine (HN.out B wr r a1 c1 L1 q.a q.c q.l (d + 1) P1.out t1 t2 t3 t4 t5 (by omega)).mono ?_
          rintro _ w5 ⟨a5, c5, L5, rfl, hp, hL5, hf⟩
          have P5 := hid hp
          have R5 := hid (R1.out.fr P1.out hf)
          have O5 := hid (pto_fr O1.out P1.out HBV.out hf)
          have F5 := hid (F1.out.tr hf)
          have Hl5 := hid (node_len t4 t5 hL5.out)
          rw [← hL5.out] at HD2
          clear hp hf hL5 t1 t2 t3 t4 t5 y0
          go_wp2_with fail
          exact ⟨⟨i + 1, a5, c5, L5, by go_num, by omega, P5, HD2, by have := Hl5.out; omega, O5, R5, F5⟩, by simp [intOf]; omega⟩
        · obtain rfl : i = S.length := by omega
          go_wp2_with fail
          go_end0
          exact ⟨a1, c1, L1, rfl, P1.out, by rw [HE.out, HD.out, List.drop_of_length_le (by simp [rowsR])]; exact hid rfl, F1.out⟩
    · have b0 : (m.kind == 0) = false := by simpa using h0
      have HO2 := HO.out
      rw [if_neg h0] at HO2
      clear HO
      by_cases h1 : m.kind = 1
      · have b1 : (m.kind == 1) = true := by simpa using h1
        rw [if_pos h1] at HO2
        have HO3 := hid HO2
        have h2c := hloc.2.2.1 h1
        clear h0 h1 HO2 n1 n2 n3 n4 n5 n6
        as_aux_lemma =>
        go_wp2_with fail
        refine (parts_c aD cD T' V TV.out.sl TV.out.cap (by omega)).mono ?_
        rintro _ w2 ⟨aS, cS, S, rfl, hoS, hmS, hgS, b2⟩
        obtain ⟨hR, hW, hSl⟩ := rws_parts (k := k) TV.out hmS.out hgS b2 hc HCS.out (by omega) (by omega) hS'
        have hSc : S.length = cs.length := by rw [← hR]; simp [rowsR]
        have hBV : B ≤ V.heap.size := PV.out.Bw
        have P2 := hid (PV.out.bel b2)
        have F2 := hid (FV.out.bel b2)
        have O2 := hid hoS
        have R2 := hid hW
        have HE : Hid (O = altE (nodeE k) (rowsR S) (inss L)) := by
          rw [← HO3.out, hR, HCS.out, HPS.out]; exact hid rfl
        have HBV := hid hBV
        have HSc := hid hSc
        clear hoS hmS hgS b2 hW hBV PV FV TV MV HO3 hR n0 hSc
        go_wp2_with fail
        refine (nalt_c HN.out B w2 r a c L aS cS V.heap.size S (d + 1) P2.out R2.out O2.out HBV.out (by have := HSc.out; omega) (by omega) (by omega)).mono ?_
        rintro _ w3 ⟨a3, c3, L3, rfl, hp, hL3, hf⟩
        have P3 := hid hp
        have F3 := hid (F2.out.tr hf)
        clear hp hf
        go_wp2_with fail
        go_end0
        exact ⟨a3, c3, L3, rfl, P3.out, by rw [HE.out]; exact hL3, F3.out⟩
      · have b1 : (m.kind == 1) = false := by simpa using h1
        rw [if_neg h1] at HO2
        by_cases h2 : m.kind = 2
        · have b2 : (m.kind == 2) = true := by simpa using h2
          rw [if_pos h2] at HO2
          have HO3 := hid HO2
          clear h0 h1 h2 HO2 n1 n2 n3 n4
          as_aux_lemma =>
          have hBV : B ≤ V.heap.size := PV.out.Bw
          have hV1 : w1.heap.size < V.heap.size := by omega
          have KY := hid (fun (w' : World) (hw : Below V.heap.size V w') => show w'.cell? ⟨w1.heap.size, 5, none⟩ = some (.bool m.not) ∧ w'.cell? ⟨w1.heap.size, 6, none⟩ = some (.slice m.sa m.set.length m.sc) from ⟨(hw.cell (by exact hV1)).trans n5, (hw.cell (by exact hV1)).trans n6⟩)
          go_upto_region 12 with fail
          go_region_held3 (fun w' => w'.cell? ⟨w1.heap.size, 5, none⟩ = some (.bool m.not) ∧ w'.cell? ⟨w1.heap.size, 6, none⟩ = some (.slice m.sa m.set.length m.sc)) (first | (with_reducible assumption) | exact ⟨by with_reducible assumption, by with_reducible assumption⟩ | (exact KY.out _ (by (repeat' (first | exact Below.refl _ _ | assumption | refine bdrewN ?_ _ | refine Below.drew ?_ | refine Below.setCell ?_ (Nat.le_refl _) _ | refine bal ?_ _ | refine bthen ?_ (by assumption))))))
            (first | (go_at_call 93; refine (clone_c m.sa m.sc m.set _ 0 (MV.out.grow (by (repeat' (first | exact Below.refl _ _ | assumption | refine bdrewN ?_ _ | refine Below.drew ?_ | refine Below.setCell ?_ (Nat.le_refl _) _ | refine bal ?_ _ | refine bthen ?_ (by assumption)))))).mono ?_; rintro e w2 ⟨a2, c2, rfl, ho2, b2'⟩; have bv2 : Below V.heap.size V w2 := bthen (by (repeat' (first | exact Below.refl _ _ | assumption | refine bdrewN ?_ _ | refine Below.drew ?_ | refine Below.setCell ?_ (Nat.le_refl _) _ | refine bal ?_ _ | refine bthen ?_ (by assumption)))) b2'; have O2 := hid (ho2.base_le (show V.heap.size ≤ _ by simp)); clear ho2 b2')
                   | (go_at_call 68; refine (add_c B _ r a c L (PV.out.bel (by (repeat' (first | exact Below.refl _ _ | assumption | refine bdrewN ?_ _ | refine Below.drew ?_ | refine Below.setCell ?_ (Nat.le_refl _) _ | refine bal ?_ _ | refine bthen ?_ (by assumption))))) ⟨0, 0, 0, m.not, a2, m.set, c2⟩ (by omega) (by rw [List.map_append]; exact (stk_add PV.out.sets hBV bv2 O2.out).bel (by (repeat' (first | exact Below.refl _ _ | assumption | refine bdrewN ?_ _ | refine Below.drew ?_ | refine Below.setCell ?_ (Nat.le_refl _) _ | refine bal ?_ _ | refine bthen ?_ (by assumption)))))).mono ?_; rintro e w3 ⟨a3, c3, L3, rfl, hp, hL3, hf⟩; have P3 := hid hp; have F3 := hid ((FV.out.bel (by (repeat' (first | exact Below.refl _ _ | assumption | refine bdrewN ?_ _ | refine Below.drew ?_ | refine Below.setCell ?_ (Nat.le_refl _) _ | refine bal ?_ _ | refine bthen ?_ (by assumption))))).tr hf); have nn3 := NdC.fr (HNN.out.same (Below.block (by (repeat' (first | exact Below.refl _ _ | assumption | refine bdrewN ?_ _ | refine Below.drew ?_ | refine Below.setCell ?_ (Nat.le_refl _) _ | refine bal ?_ _ | refine bthen ?_ (by assumption)))) _ hV1)) hf (Np.fr HNp.out (Fr.of (by (repeat' (first | exact Below.refl _ _ | assumption | refine bdrewN ?_ _ | refine Below.drew ?_ | refine Below.setCell ?_ (Nat.le_refl _) _ | refine bal ?_ _ | refine bthen ?_ (by assumption)))))); have m5 := nn3.c5; have m6 := nn3.c6; clear hp nn3))
          all_goals
            clear m5 m6 hf
            go_wp2_with fail
            go_end0
            exact ⟨a3, c3, L3, rfl, P3.out, by rw [← HO3.out, hL3.out, inss_app]; exact hid rfl, F3.out⟩
        have b2 : (m.kind == 2) = false := by simpa using h2
        rw [if_neg h2] at HO2
        clear MV
        by_cases h3 : m.kind = 3
        · have b3 : (m.kind == 3) = true := by simpa using h3
          rw [if_pos h3] at HO2
          have HO3 := hid HO2
          clear h0 h1 h2 h3 HO2 n1 n2 n3 n4 n5 n6
          as_aux_lemma =>
          go_wp2_with fail
          refine (add0_c B V r a c L PV.out (by omega) 1 0 0).mono ?_
          rintro _ w3 ⟨a3, c3, L3, rfl, hp, hL3, hf⟩
          have P3 := hid hp
          have F3 := hid (FV.out.tr hf)
          clear hp hf
          go_wp2_with fail
          go_end0
          exact ⟨a3, c3, L3, rfl, P3.out, by rw [← HO3.out]; exact hL3, F3.out⟩
        have b3 : (m.kind == 3) = false := by simpa using h3
        rw [if_neg h3] at HO2
        by_cases h4 : m.kind = 4
        · have b4 : (m.kind == 4) = true := by simpa using h4
          rw [if_pos h4] at HO2
          have HO3 := hid HO2
          clear h0 h1 h2 h3 h4 HO2 n1 n2 n3 n4 n5 n6
          as_aux_lemma =>
          go_wp2_with fail
          refine (add0_c B V r a c L PV.out (by omega) 2 0 0).mono ?_
          rintro _ w3 ⟨a3, c3, L3, rfl, hp, hL3, hf⟩
          have P3 := hid hp
          have F3 := hid (FV.out.tr hf)
          clear hp hf
          go_wp2_with fail
          go_end0
          exact ⟨a3, c3, L3, rfl, P3.out, by rw [← HO3.out]; exact hL3, F3.out⟩
        have b4 : (m.kind == 4) = false := by simpa using h4
        rw [if_neg h4] at HO2
        have one : cs.length = 1 → NodAt (d + 1) (rns T') := fun e => by
          match cs, e, hc, HCS with
          | [c], _, hc, HCS => have := HCS.out; simp at this; rw [this]; exact hc c (by simp)
        by_cases h5' : m.kind = 5
        · have b5 : (m.kind == 5) = true := by simpa using h5'
          rw [if_pos h5'] at HO2
          have HO3 := hid HO2
          have hn1 := one (hloc.1 h5')
          have hlo : 0 ≤ m.lo ∧ m.lo ≤ 9 := ⟨hSm.1, hSm.2.1⟩
          clear h0 h1 h2 h3 h4 h5' HO2 n1 n3 n4 n5 n6 one
          as_aux_lemma =>
          go_wp2_with fail
          refine (ngroup_c HN.out B V r a c L aD cD T' (d + 1) PV.out TV.out hn1 (by omega) (by omega) hS' (by omega) m.lo hlo).mono ?_
          rintro _ w3 ⟨a3, c3, L3, rfl, hp, hL3, hf⟩
          have P3 := hid hp
          have F3 := hid (FV.out.tr hf)
          clear hp hf
          go_wp2_with fail
          go_end0
          exact ⟨a3, c3, L3, rfl, P3.out, by rw [← HO3.out]; exact hL3, F3.out⟩
        have b5 : (m.kind == 5) = false := by simpa using h5'
        rw [if_neg h5'] at HO2
        by_cases h6 : m.kind = 6
        · have b6 : (m.kind == 6) = true := by simpa using h6
          rw [if_pos h6] at HO2
          have hn1 := one (hloc.2.1 h6).1
          have hlh := (hloc.2.1 h6).2
          have hlo : 0 ≤ m.lo ∧ m.lo ≤ 9 ∧ -1 ≤ m.hi ∧ m.hi ≤ 9 := hSm
          change 0 ≤ m.hi → m.lo ≤ m.hi at hlh
          obtain ⟨lo, hlo2⟩ : ∃ lo : Nat, m.lo = lo := ⟨m.lo.toNat, by omega⟩
          have hlt : m.lo.toNat = lo := by omega
          rw [hlo2] at n2
          have NN2 := HNN.out
          rw [hlo2] at NN2
          have HNN2 := hid NN2
          rw [hlt] at HO2
          clear h0 h1 h2 h3 h4 h5' h6 n1 n3 n4 n5 n6 one NN2 HNN hlt
          go_wp2_with fail
          refine (ntimes_c HN.out B V r a c L aD cD T' (d + 1) PV.out TV.out hn1 (by omega) (by omega) hS' (by omega) lo (by omega)).mono ?_
          rintro _ w3 ⟨a3, c3, L3, rfl, hp, hL3, hf⟩
          have P3 := hid hp
          have F3 := hid (FV.out.tr hf)
          have T3 := hid (TV.out.fr PV.out hf)
          have n3 := HNN2.out.fr hf HNp.out
          have HL3 := hid hL3.out
          have hl3 : L3.length ≤ 26000300 := by
            have := (gw_times (gw_node (k := k) (T := T') (by omega) hS') lo (inss L)).2
            rw [← hL3.out, inss_len, inss_len] at this
            omega
          clear hp hf n0 n2 hL3
          obtain ⟨n0, n1, n2, n3', n4, n5, n6⟩ := n3
          by_cases hhi : m.hi = -1
          · have b7 : (m.hi == -1) = true := by simpa using hhi
            rw [if_pos hhi] at HO2
            have HO3 := hid HO2
            clear n0 n1 n2 n5 n6 hhi HO2
            as_aux_lemma =>
            go_wp2_with fail
            refine (nloop_c HN.out B w3 r a3 c3 L3 aD cD T' (d + 1) P3.out T3.out hn1 (by omega) (by omega) hS' (by omega) m.lazy).mono ?_
            rintro _ w4 ⟨a4, c4, L4, rfl, hp, hL4, hf⟩
            have P4 := hid hp
            have F4 := hid (F3.out.tr hf)
            clear hp hf
            go_wp2_with fail
            go_end0
            exact ⟨a4, c4, L4, rfl, P4.out, by rw [← HO3.out, ← HL3.out]; exact hL4, F4.out⟩
          · have b7 : (m.hi == -1) = false := by simpa using hhi
            rw [if_neg hhi] at HO2
            obtain ⟨no, hno⟩ : ∃ no : Nat, m.hi - lo = no := ⟨(m.hi - lo).toNat, by omega⟩
            have e7 : (m.hi - m.lo).toNat = no := by omega
            rw [e7] at HO2
            have HO3 := hid HO2
            have w7 : IntKind.i64.wrap (m.hi - (lo : Int)) = (no : Int) := by rw [IntKind.wrap_i64]; omega
            clear n0 n1 n5 n6 hhi HO2 e7
            as_aux_lemma =>
            go_wp2_with fail
            refine (nopt_c HN.out B w3 r a3 c3 L3 aD cD T' (d + 1) P3.out T3.out hn1 (by omega) (by omega) hS' (by omega) no (by omega) m.lazy).mono ?_
            rintro _ w4 ⟨a4, c4, L4, rfl, hp, hL4, hf⟩
            have P4 := hid hp
            have F4 := hid (F3.out.tr hf)
            clear hp hf
            go_wp2_with fail
            go_end0
            exact ⟨a4, c4, L4, rfl, P4.out, by rw [← HO3.out, ← HL3.out]; exact hL4, F4.out⟩
        have b6 : (m.kind == 6) = false := by simpa using h6
        rw [if_neg h6] at HO2
        have HO3 := hid HO2
        clear h0 h1 h2 h3 h4 h5' h6 HO2 n1 n2 n3 n4 n5 n6 one
        as_aux_lemma =>
        go_wp2_with fail
        go_end0
        exact ⟨a, c, L, rfl, PV.out, by rw [← HO3.out]; exact hid rfl, FV.out⟩
theorem node_all : ∀ k, NodeC k
  | 0 => fun B w r a c L ta tc T d _ _ hn hk _ _ _ => by
    obtain ⟨x, t, e, -, -⟩ := hn.head
    have := congrArg List.length e
    rw [rns_len] at this
    simp at this
    omega
  | k + 1 => node_step (node_all k)
end Go.Proofs.YtefgjicegbhcaaaGreat
namespace Go.Proofs.YtefgjicegbhcaaaGreat
open Go.RowKit ReM Go.ChangeShapes Go.WideShapes Go.ChangeAt

theorem parseW_ok {p : List Int} {l : List Rn} {f : Int} (h : parseW p = (l, 0, f)) : f = 0 ∧ NodAt 0 l ∧ Los l ∧ p.length ≤ 60 ∧ ∃ g, g ≤ 9 ∧ gsL l = upto 0 g ∧ altP CC p.length (4 * p.length + 8) p 0 0 = .ok l [] g := by
  rcases parseW_cases p with ⟨e, f', h', he⟩ | ⟨l', g, h', hA, hp, hl, hf⟩
  · rw [h] at h'
    simp only [Prod.mk.injEq] at h'
    exact absurd h'.2.1.symm he
  · rw [h] at h'
    simp only [Prod.mk.injEq, true_and] at h'
    obtain ⟨rfl, rfl⟩ := h'
    have t := parse_tree hp rfl (fun c i => alt_nb p c i)
    exact ⟨rfl, t.1, (all_lo CC p.length _).1 _ _ _ _ _ _ hA, hl, g, alt_nine hA, ((all_gs CC p.length _).1 _ _ _ _ _ _ hA).2, hA⟩
/-- what a compiler tells: the program, the fault -/
def CompP (w : World) (res : List Ins × Int × Int) (e' : Ending) (w' : World) : Prop :=
  ∃ a' c' L, e' = .returned (.tuple #[.slice a' L.length c', .agg #[.int .i64 res.2.1, .int .i64 res.2.2]]) ∧ inss L = res.1 ∧ L.length ≤ 300 ∧ ROwn encIn 121 w' w.heap.size a' c' L ∧ Stk w.heap.size w' (L.map Im.key) ∧ Below w.heap.size w w'
theorem Stk.base_le {base base' : Nat} {w : World} {K : List Skey} (h : Stk base w K) (hb : base' ≤ base) : Stk base' w K := ⟨fun q hq => (h.own q hq).base_le hb, h.apart⟩
theorem Pg.new (w : World) (r : Nat) (hr : r = w.heap.size) : Pg (r + 1) (w.alloc (.cells #[.slice none 0 0] 116)) r none 0 [] := by
  subst hr
  exact ⟨by rw [cell_alloc_new]; rfl, by simp, ROwn.nil _ _, Stk.nil _ _, by omega, by simp⟩
set_option maxRecDepth 20000 in
set_option maxHeartbeats 16000000 in
theorem compile_c (a : Option Addr) (c : Nat) (p : List Int) (w : World) (h : Sl w a p) (hc : p.length ≤ c) :
    Calls Tryz.prog 43 #[.slice a p.length c] w (CompP w (compW p)) := by
  have hlen := h.len
  obtain ⟨V, hV⟩ : ∃ V, V = w.alloc (.cells #[.int .i64 0, .int .i64 0] 47) := ⟨_, rfl⟩
  have bV : Below w.heap.size w V := by subst hV; (repeat' (first | exact Below.refl _ _ | assumption | refine bdrewN ?_ _ | refine Below.drew ?_ | refine bal ?_ _ | refine bthen ?_ (by assumption)))
  have F0 : Hid (FtC V w.heap.size 0 0) := by subst hV; exact FtC.new _ _ _ _ _ rfl
  have zV : V.heap.size = w.heap.size + 1 := by subst hV; simp
  have PC := hid (parse_c a c p V (h.bel bV) hc)
  have BV := hid bV
  clear h bV
  obtain ⟨⟨t, e, f⟩, hX⟩ : ∃ X, X = parseW p := ⟨_, rfl⟩
  rw [← hX] at PC
  have HX := hid hX
  clear hX
  go_enter Tryz.func43, Tryz.ntmps43
  go_upto_region 1 with fail
  rw [← hV]; clear hV
  go_wp2_with fail
  refine PC.out.mono ?_
  rintro _ w1 ⟨a1, c1, T, rfl, hr1, ho1, hs1, hm1, b1⟩
  dsimp only at hr1
  have HT := hid hr1
  have O1 := hid ho1
  have S1 := hid hs1
  have hT5 := hm1.len
  have B1 := hid (BV.out.trans (b1.mono (by omega)))
  have F1 := hid (F0.out.bel b1)
  have zw1 := b1.size
  clear hr1 ho1 hs1 hm1 b1 PC F0
  go_upto_region 2 with fail
  obtain ⟨V2, hV2⟩ : ∃ V2, V2 = w1.alloc (.cells #[.int .i64 e, .int .i64 f] 47) := ⟨_, rfl⟩
  have G2 : Hid (FtC V2 w1.heap.size e f) := by subst hV2; exact FtC.new _ _ _ _ _ rfl
  have bV2 : Below w1.heap.size w1 V2 := by subst hV2; (repeat' (first | exact Below.refl _ _ | assumption | refine bdrewN ?_ _ | refine Below.drew ?_ | refine bal ?_ _ | refine bthen ?_ (by assumption)))
  have zV2 : V2.heap.size = w1.heap.size + 1 := by subst hV2; simp
  have F2 := hid (F1.out.bel bV2)
  have B2 := hid (B1.out.trans (bV2.mono B1.out.size))
  have O2 := hid (O1.out.grow bV2)
  have S2 := hid (S1.out.bel bV2)
  rw [← hV2]
  clear hV2 bV2 F1 B1 O1 S1
  have y0 := G2.out.c0
  have y1 := G2.out.c1
  by_cases he : e = 0
  · have b1 : (e != 0) = false := by simpa using he
    have he2 := hid he
    clear he
    go_upto_region 5 with fail
    obtain ⟨r, hr⟩ : ∃ r, r = w1.heap.size + 1 := ⟨_, rfl⟩
    obtain ⟨V3, hV3⟩ : ∃ V3, V3 = V2.alloc (.cells #[.slice none 0 0] 116) := ⟨_, rfl⟩
    have bV3 : Below V2.heap.size V2 V3 := by subst hV3; (repeat' (first | exact Below.refl _ _ | assumption | refine bdrewN ?_ _ | refine Below.drew ?_ | refine bal ?_ _ | refine bthen ?_ (by assumption)))
    have P3 : Hid (Pg (r + 1) V3 r none 0 []) := by rw [hV3]; exact hid (Pg.new V2 r (by omega))
    have zV3 : V3.heap.size = V2.heap.size + 1 := by subst hV3; simp
    have T3 : Hid (Tre (r + 1) r V3 a1 c1 T) := by
      refine hid ⟨(O2.out.grow bV3).sl, O2.out.cap, fun k hk => by have := (O2.out.lt hk).2; omega, fun m hm => ⟨((S2.out.own m hm).grow bV3).base_le (by omega), fun k hk => by have := S2.out.lt m hm k hk; omega⟩⟩
    have F3 := hid (F2.out.bel bV3)
    have B3 := hid (B2.out.trans (bV3.mono B2.out.size))
    have hX0 := HX.out
    rw [he2.out, ← HT.out] at hX0
    obtain ⟨hf0, hnod, hlos, -, -⟩ := parseW_ok hX0.symm
    have hcW : compW p = if 300 < (outW (rns T)).length then ([], 3, (p.length : Int)) else (outW (rns T), 0, 0) := by
      unfold compW
      rw [← hX0, if_neg (by simp)]
    have HC := hid hcW
    have hrw : w.heap.size < r := by omega
    have HL := hid hlos
    rw [← hr, ← hV3]
    have Hr := hid hr
    clear hV3 bV3 F2 B2 O2 S2 hX0 HX hcW y0 y1 G2 hlos hr
    go_wp2_with fail
    refine (save_c (r + 1) V3 r none 0 [] P3.out (by simp) 0).mono ?_
    rintro _ w4 ⟨a4, c4, L4, rfl, hp, hL4, hf⟩
    have P4 := hid hp
    have Q4 := hid hf
    have T4 := hid (T3.out.fr P3.out hf)
    have Hl4 : Hid (L4.length = 1) := hid (by rw [← inss_len, hL4.out]; simp [inss])
    have HL4 := hid (show inss L4 = [iSave 0] by rw [hL4.out]; rfl)
    clear hp hf hL4 T3
    go_wp2_with fail
    refine (node_all T.length (r + 1) w4 r a4 c4 L4 a1 c1 T 0 P4.out T4.out hnod (Nat.le_refl _) (by omega) HL.out (by have := Hl4.out; omega)).mono ?_
    rintro _ w5 ⟨a5, c5, L5, rfl, hp, hL5, hf⟩
    have P5 := hid hp
    have Q5 := hid (Q4.out.tr hf)
    have Hl5 := hid (node_len (k := T.length) (by omega) HL.out hL5.out)
    have HL5 := hid (show inss L5 = nodeE T.length (rns T) [iSave 0] by rw [hL5.out, HL4.out])
    clear hp hf hL5 T4 HL4
    go_wp2_with fail
    refine (save_c (r + 1) w5 r a5 c5 L5 P5.out (by have := Hl5.out; have := Hl4.out; omega) 1).mono ?_
    rintro _ w6 ⟨a6, c6, L6, rfl, hp, hL6, hf⟩
    have P6 := hid hp
    have Q6 := hid (Q5.out.tr hf)
    have Hl6 : Hid (L6.length = L5.length + 1) := hid (by rw [← inss_len, hL6.out]; simp [inss_len])
    have HL6 := hid hL6.out
    clear hp hf hL6
    go_wp2_with fail
    refine (add0_c (r + 1) w6 r a6 c6 L6 P6.out (by have := Hl6.out; have := Hl5.out; have := Hl4.out; omega) 6 0 0).mono ?_
    rintro _ w7 ⟨a7, c7, L7, rfl, hp, hL7, hf⟩
    have P7 := hid hp
    have Q7 := hid (Q6.out.tr hf)
    have HO : Hid (inss L7 = outW (rns T)) := by
      rw [hL7.out, HL6.out, HL5.out]
      unfold outW
      rw [rns_len]; exact hid rfl
    have hol : (outW (rns T)).length = L7.length := by rw [← HO.out, inss_len]
    have HC2 := HC.out
    rw [hol] at HC2
    have hNw : Np V3 r none w.heap.size := P3.out.ahead (by omega) (by omega)
    have F7 : Hid (FtC w7 w.heap.size 0 0) := hid (F3.out.same (hNw.same Q7.out))
    have hbl : ∀ k, (k = r ∨ Blk none k) → w.heap.size ≤ k := fun k hk => by
      rcases hk with rfl | hk
      · omega
      · exact (blk_none hk).elim
    have B7 : Hid (Below w.heap.size w w7) := hid (B3.out.trans (Q7.out.kpt.below hbl B3.out.size))
    have HC3 := hid HC2
    clear HC2 hbl
    clear hp hf hL7 hol P4 P5 P6 Q4 Q5 Q6 Hl4 Hl5 Hl6 HL5 HL6 Q7 F3 B3 hNw P3
    go_wp2_with fail
    refine (full_c (r + 1) w7 r a7 c7 L7 P7.out).mono ?_
    rintro _ w8 ⟨rfl, b8⟩
    have P8 := hid (P7.out.bel b8)
    have F8 := F7.out.bel b8
    have HF8 := hid F8
    have B8 := hid (B7.out.trans (b8.mono B7.out.size))
    have m0 := F8.c0
    have m1 := F8.c1
    have m2 := F8.fz 0
    have m3 := F8.fz 1
    clear b8 F8 F7 B7 P7
    by_cases hful : 300 < L7.length
    · have b2 : decide ((300 : Int) < (L7.length : Int)) = true := decide_eq_true (by omega)
      have HC2 := HC3.out
      rw [if_pos hful] at HC2
      have E := hid HC2
      clear hful HC2 HC3
      go_wp2_with fail
      refine ret_tf Tryz.results43 rfl rfl rfl (FtC.put (e := 0) (f := 0) ?_ 3 p.length) ?_
      · exact HF8.out
      · rw [E.out]
        exact ⟨none, 0, [], rfl, rfl, by simp, ROwn.nil _ _, Stk.nil _ _, (B8.out.setCell (by exact Nat.le_refl _) _).setCell (by exact Nat.le_refl _) _⟩
    · have b2 : decide ((300 : Int) < (L7.length : Int)) = false := decide_eq_false (by omega)
      have HC2 := HC3.out
      rw [if_neg hful] at HC2
      have E := hid HC2
      have y0 := P8.out.c0
      clear HC2 HC3
      go_wp2_with fail
      have e : ∀ k v o, k ≠ w.heap.size → ((w8.setCell ⟨w.heap.size, 0, none⟩ v).setCell ⟨w.heap.size, 1, none⟩ o).heap[k]? = w8.heap[k]? := fun k v o hk =>
        (Below.heap_setCell _ _ _ _ (fun e => hk e)).trans (Below.heap_setCell _ _ _ _ (fun e => hk e))
      refine ret_tf Tryz.results43 rfl rfl rfl (FtC.put (e := 0) (f := 0) ?_ 0 0) ?_
      · exact HF8.out
      · rw [E.out]
        refine ⟨a7, c7, L7, rfl, HO.out, by omega, (P8.out.own.base_le (by omega)).same fun ad ha _ => e _ _ _ ?_, (P8.out.sets.base_le (by omega)).same fun q hq k hk _ => e _ _ _ ?_, (B8.out.setCell (by exact Nat.le_refl _) _).setCell (by exact Nat.le_refl _) _⟩
        · have := (P8.out.own.lt (k := ad.block) ⟨ad, ha, rfl⟩).1; omega
        · have := (P8.out.sets.lt hq hk).1; omega
  · have b1 : (e != 0) = true := by simpa using he
    have E : Hid (compW p = ([], e, f)) := by
      unfold compW
      rw [← HX.out, if_pos he]; exact hid rfl
    have m0 := F2.out.c0
    have m1 := F2.out.c1
    have m2 := F2.out.fz 0
    have m3 := F2.out.fz 1
    clear he
    go_upto_region 3 with fail
    go_region
    all_goals
      go_wp2_with fail
      refine ret_tf Tryz.results43 rfl rfl rfl (FtC.put (e := 0) (f := 0) (w := V2.drew) ?_ e f) ?_
      · exact F2.out.same rfl
      · rw [E.out]
        exact ⟨none, 0, [], rfl, rfl, by simp, ROwn.nil _ _, Stk.nil _ _, (B2.out.drew.setCell (by exact Nat.le_refl _) _).setCell (by exact Nat.le_refl _) _⟩
end Go.Proofs.YtefgjicegbhcaaaGreat
namespace Go.Proofs.YtefgjicegbhcaaaGreat
open Go.RowKit ReM

end Go.Proofs.YtefgjicegbhcaaaGreat
namespace Go.Proofs.YtefgjicegbhcaaaGreat
open Go.RowKit ReM

theorem compW_cases (p : List Int) : (∃ e f, compW p = ([], e, f) ∧ e ≠ 0) ∨
    ∃ l g, parseW p = (l, 0, 0) ∧ NodAt 0 l ∧ Los l ∧ g ≤ 9 ∧ gsL l = upto 0 g ∧ p.length ≤ 60 ∧ altP CC p.length (4 * p.length + 8) p 0 0 = .ok l [] g ∧ compW p = (codeW l, 0, 0) ∧ (codeW l).length ≤ 300 := by
  obtain ⟨⟨l, e, f⟩, h⟩ : ∃ X, parseW p = X := ⟨_, rfl⟩
  unfold compW
  rw [h]
  dsimp only
  by_cases he : e = 0
  · subst he
    obtain ⟨rfl, h1, h2, h3, g, h4, h5, h6⟩ := parseW_ok h
    rw [if_neg (by simp)]
    obtain ⟨o1, o2⟩ := out_eq h1
    by_cases hl : (codeW l).length ≤ 300
    · rw [o1 hl, if_neg (by omega)]
      exact .inr ⟨l, g, rfl, h1, h2, h4, h5, h3, h6, rfl, hl⟩
    · rw [if_pos (o2 (by omega))]
      exact .inl ⟨3, _, rfl, by decide⟩
  · rw [if_pos he]
    exact .inl ⟨e, f, rfl, he⟩
theorem lo_le {l : List Rn} {g : Nat} (h : gsL l = upto 0 g) (hL : Los l) : ∀ x, x ∈ l → x.kind = 5 → 0 ≤ x.lo ∧ x.lo ≤ (g : Int) := by
  intro x hx h5
  refine ⟨(hL x hx).1, ?_⟩
  by_cases h0 : 0 < x.lo
  · have : x.lo ∈ gsL l := by
      unfold gsL
      refine List.mem_map_of_mem (List.mem_filter.2 ⟨hx, by simp [h5, h0]⟩)
    rw [h] at this
    simp only [upto, List.mem_map, List.mem_range] at this
    obtain ⟨i, hi, e⟩ := this
    omega
  · omega
theorem code_first (l : List Rn) : igt (codeW l) 0 = iSave 0 := rfl
theorem code_last {l : List Rn} {j : Nat} (h : (codeW l).length = j + 2) : igt (codeW l) j = iSave 1 ∧ igt (codeW l) (j + 1) = iMatch := by
  have hl : j = (blk l.length l).length + 1 := by rw [codeW_len] at h; omega
  have e : codeW l = (iSave 0 :: shI 1 (blk l.length l)) ++ [iSave 1, iMatch] := by simp [codeW]
  have hl2 : (iSave 0 :: shI 1 (blk l.length l)).length = j := by simp [shI_len]; omega
  rw [e]
  unfold igt
  rw [List.getD_eq_getElem?_getD, List.getD_eq_getElem?_getD, List.getElem?_append_right (by omega), List.getElem?_append_right (by omega), hl2]
  simp
end Go.Proofs.YtefgjicegbhcaaaGreat
