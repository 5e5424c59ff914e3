/- The document's Compile (dcompile_c), for patterns whose codes are small (chkB). ReprogNumbers: one pattern, both compilers (same9_w). ReprogNumbers: the patterns of its list; their codes are small (chk_all); repeated. ReprogNumbers: repeated; the walk. ReprogNumbers: the walk. -/
import Derived.Test.YtefgjicegbhcaaaGreatDcW
import Derived.Test.YtefgjicegbhcaaaGreatDrU
import Derived.Test.YtefgjicegbhcaaaGreatPgY
import Derived.Test.YtefgjicegbhcaaaGreatPlq
import Derived.Deep.CutBlock
import Derived.Deep.DeepCutAuto
namespace Go.Proofs.YtefgjicegbhcaaaGreat
open Go.RowKit ReM

def knd (x : Rn) : Bool := decide (0 ≤ x.kind) && decide (x.kind ≤ 6)
/-- a pattern that is refused, or too long, or whose nodes' codes are small -/
def chkB (p : List Int) : Bool := match parseW p with
  | (l, e, _) => e != 0 || (l.all knd && (decide (300 < szN l.length l + 3) || okB l.length l))
/-- readable wherever the blocks from base on are as they are here -/
def AgI (base : Nat) (w : World) (M : List Im) : Prop := ∀ v : World, (∀ q, base ≤ q → q < w.heap.size → v.heap[q]? = w.heap[q]?) → Ims v M
theorem AgI.ims {base : Nat} {w : World} {M : List Im} (h : AgI base w M) : Ims w M := h w fun _ _ _ => rfl
theorem AgI.step {base : Nat} {w w' : World} {M : List Im} (h : AgI base w M) (hs : w.heap.size ≤ w'.heap.size) (he : ∀ q, base ≤ q → q < w.heap.size → w'.heap[q]? = w.heap[q]?) : AgI base w' M :=
  fun v hv => h v fun q h1 h2 => (hv q h1 (Nat.lt_of_lt_of_le h2 hs)).trans (he q h1 h2)
theorem AgI.bel {base : Nat} {w w' : World} {M : List Im} (h : AgI base w M) (hb : Below w.heap.size w w') : AgI base w' M := h.step hb.size fun q _ h2 => hb.block q h2
theorem AgI.nil (base : Nat) (w : World) : AgI base w [] := fun v _ m hm => by cases hm
/-- what the document's compiler tells -/
def DCmP (w : World) (res : List Ins × Int × Int) (e' : Ending) (w' : World) : Prop :=
  ∃ a' c' L, e' = .returned (.tuple #[.slice a' L.length c', .agg #[.int .i64 res.2.1, .int .i64 res.2.2]]) ∧ inss L = res.1 ∧ L.length ≤ 310 ∧ RIn w' w.heap.size a' c' L ∧ AgI w.heap.size w' L ∧ Below w.heap.size w w'
theorem Sets.rms' {base : Nat} {w : World} {M : List Rm} (h : Sets base w M) : Rms w (fun _ => False) M := fun m hm => by
  have ho := h.own m hm
  refine ⟨ho.sl, ?_, fun _ _ hf => hf⟩
  rcases ho.shape with ⟨_, _, h0⟩ | ⟨g, _, _, _, h3⟩
  · rw [h0]; simp
  · exact h3
theorem RSl.lit2 (w : World) (x y : Im) (e : TypeId) (b : Nat) (hb : b = w.heap.size) (cs : Array Value) (hcs : cs = (encIn.v x ++ encIn.v y).toArray) : RSl encIn (w.alloc (.cells cs e)) (some ⟨b, 0, none⟩) [x, y] := by
  subst hb
  refine ⟨by show 2 ≤ 2199023255552; decide, .inr ⟨_, _, rfl, fun n u hu => ?_⟩⟩
  rw [Nat.zero_add, cell_alloc_new, hcs]
  simpa [rflat] using hu
set_option maxRecDepth 20000 in
set_option maxHeartbeats 16000000 in
theorem dcompile_c (a : Option Addr) (c : Nat) (p : List Int) (w : World) (h : Sl w a p) (hc : p.length ≤ c) (hk : chkB p = true) :
    Calls Tryz.prog 52 #[.slice a p.length c] w (DCmP w (compW p)) := by
  have hlen := h.len
  obtain ⟨X, hX⟩ : ∃ X, X = compW p := ⟨_, rfl⟩
  rw [← hX]
  obtain ⟨V, hV⟩ : ∃ V, V = w.alloc (.cells #[.int .i64 0, .int .i64 0] 47) := ⟨_, rfl⟩
  have bV : Hid (Below w.heap.size w V) := by subst hV; exact (Below.refl _ _).alloc (Nat.le_refl _) _
  have F0 : Hid (FtC V w.heap.size 0 0) := by subst hV; exact FtC.new _ _ _ _ _ rfl
  have zV : V.heap.size = w.heap.size + 1 := by subst hV; simp
  have PC := dparse_c a c p V (h.bel bV.out) hc
  obtain ⟨⟨l, e, f⟩, hP⟩ : ∃ Y, parseW p = Y := ⟨_, rfl⟩
  rw [hP] at PC
  have PC := hid PC
  unfold compW at hX
  rw [hP] at hX
  unfold chkB at hk
  rw [hP] at hk
  dsimp only at hX hk
  have HX0 := hid hX
  have HK0 := hid hk
  have HP := hid hP
  clear h hX hk hP
  go_enter Tryz.func52, Tryz.ntmps52
  go_upto_region 1 with fail
  rw [← hV]; clear hV
  go_wp2_with fail
  refine PC.out.mono ?_
  rintro _ w1 ⟨a2, c2, L, rfl, hr, o2, s2, m2, b2⟩
  dsimp only at hr
  have hLl := m2.len
  obtain ⟨V1, hV1⟩ : ∃ V1, V1 = w1.alloc (.cells #[.int .i64 e, .int .i64 f] 47) := ⟨_, rfl⟩
  have bV1 : Below w1.heap.size w1 V1 := by subst hV1; (repeat' (first | exact Below.refl _ _ | assumption | refine bdrewN ?_ _ | refine Below.drew ?_ | refine bal ?_ _ | refine bthen ?_ (by assumption)))
  have F1 : FtC V1 w1.heap.size e f := by subst hV1; exact FtC.new _ _ _ _ _ rfl
  have zV1 : V1.heap.size = w1.heap.size + 1 := by subst hV1; simp
  have z1 := b2.size
  have b21 := b2.trans (bV1.mono z1)
  have F2 := hid (F0.out.bel b21)
  have HB := hid (bV.out.trans (b21.mono (by omega)))
  have F2' := F2.out
  have m0 := F2'.c0
  have m1 := F2'.c1
  have q0 := F2'.fz 0
  have q1 := F2'.fz 1
  have m4 := F2'.lt
  have n0 := F1.c0
  have n1 := F1.c1
  clear F2' F0 PC
  have hX := HX0.out
  have hk := HK0.out
  have hP := HP.out
  clear HX0 HK0 HP
  by_cases he : e = 0
  · subst he
    obtain ⟨rfl, hno, hlos, hp60, -⟩ := parseW_ok hP
    obtain ⟨o1, o2'⟩ := out_eq hno
    rw [codeW_len, ← sz_blk] at o1 o2'
    rw [if_neg (by simp)] at hX
    simp only [bne_self_eq_false, Bool.false_or, Bool.and_eq_true, Bool.or_eq_true, decide_eq_true_eq] at hk
    have hnum : NumOk l := fun x hx => by
      have h1 := List.all_eq_true.1 hk.1 x hx
      unfold knd at h1
      rw [Bool.and_eq_true] at h1
      exact ⟨hlos x hx, of_decide_eq_true h1.1, of_decide_eq_true h1.2⟩
    have hk2 := hk.2
    have TM := hid (show TrM V1 a2 L from ⟨(o2.grow bV1).sl, (s2.bel bV1).rms', hLl⟩)
    have hS := SubT.whole hno
    rw [← hr] at hS hno hnum
    have hls : l.length = (rns L).length := by rw [hr]
    have SZ := hid (size_all (rns L).length a2 c2 L V1 0 0 (rns L) TM.out hS (Nat.le_refl _) hnum)
    have CD := hid (fun w' h' hok => code_all (rns L).length a2 c2 L w' 0 0 (rns L) h' hS (Nat.le_refl _) hnum hok)
    rw [← hr] at hX o1 o2' hk2
    have HX := hid hX
    have O1 := hid o1
    have O2 := hid o2'
    have HK := hid hk2
    have Hno := hid hno
    have Hnum := hid hnum
    have HSs := hid (s2.bel bV1)
    clear hX o1 o2' hk2 hk hno hnum hlos hls hS o2 s2 m2 b2 b21 bV1 F1 hr hP hlen
    rw [← sz_blk] at SZ
    obtain ⟨n, hn⟩ : ∃ n, n = szN (rns L).length (rns L) := ⟨_, rfl⟩
    rw [← hn] at SZ O1 O2 HK
    have HN := hid hn
    clear hn
    go_upto_region 4 with fail
    rw [← hV1]; clear hV1
    go_wp2_with fail
    refine SZ.out.mono ?_
    rintro _ w3 ⟨s, rfl, hs, hs12, b3⟩
    have hs0 := hs.2.2
    have Ws : IntKind.i64.wrap (s + 3) = s + 3 := by rw [IntKind.wrap_i64]; omega
    have F3 := hid (F2.out.bel b3)
    have HB3 := hid (HB.out.trans (b3.mono HB.out.size))
    have TM3 := hid (TM.out.bel b3)
    have HS := hid hs
    have z3 := HB3.out.size
    have hv3 := b3.size
    have Hb3 := hid b3
    clear b3 SZ hs m0 m1 q0 q1 m4 n0 n1 F2 HB TM
    by_cases hbig : 300 < n + 3
    · have hb : 300 < s + 3 := by
        have h1 := HS.out
        rcases Nat.lt_or_ge 300 n with h | h
        · have := h1.2.1 h; omega
        · have := h1.1 h; omega
      have b1 : decide ((300 : Int) < s + 3) = true := decide_eq_true hb
      have E := hid (HX.out.trans (if_pos (O2.out hbig)))
      have F3' := F3.out
      have m0 := F3'.c0
      have m1 := F3'.c1
      have q0 := F3'.fz 0
      have q1 := F3'.fz 1
      have m4 := F3'.lt
      clear F3' hb hbig
      go_wp2_with fail
      refine ret_tf Tryz.results52 rfl rfl rfl (F3.out.put 3 p.length) ?_
      rw [E.out]
      exact ⟨none, 0, [], rfl, rfl, by simp, ROwn.nil _ _, AgI.nil _ _, (HB3.out.setCell (by exact Nat.le_refl _) _).setCell (by exact Nat.le_refl _) _⟩
    · have hb : ¬ 300 < s + 3 := by
        have h1 := HS.out.1 (by omega); omega
      have b1 : decide ((300 : Int) < s + 3) = false := decide_eq_false hb
      have hok : okB (rns L).length (rns L) = true := by
        rcases HK.out with h | h
        · omega
        · exact h
      have E := hid (HX.out.trans (show (if 300 < (outW (rns L)).length then (([] : List Ins), (3 : Int), (p.length : Int)) else (outW (rns L), 0, 0)) = (codeW (rns L), 0, 0) from by rw [O1.out (by omega), if_neg (by rw [codeW_len, ← sz_blk, ← HN.out]; omega)]))
      have hinb := blk_inb (Nat.le_refl _) Hno.out Hnum.out hok
      have hbl : (blk (rns L).length (rns L)).length ≤ 300 := okB_len hok
      have CC' := hid (fun w' h' => CD.out w' h' hok)
      have HInb := hid hinb
      have HBl := hid hbl
      clear hb hbig hok CD hinb hbl
      have hwV : w.heap.size < w3.heap.size := by omega
      go_upto_region 7 with fail
      obtain ⟨w4, hw4⟩ : ∃ w4, w4 = w3.alloc (.cells #[.int .i64 3, .int .i64 0, .int .i64 0, .bool false, .slice none 0 0] 121) := ⟨_, rfl⟩
      have R4 : Hid (RIn w4 w3.heap.size (some ⟨w3.heap.size, 0, none⟩) 1 [⟨3, 0, 0, false, none, [], 0⟩]) := by rw [hw4]; exact RIn.one _ _ _ rfl (Nat.le_refl _) _ rfl
      have b34 : Below w3.heap.size w3 w4 := by rw [hw4]; (repeat' (first | exact Below.refl _ _ | assumption | refine bdrewN ?_ _ | refine Below.drew ?_ | refine bal ?_ _ | refine bthen ?_ (by assumption)))
      have z4 : w4.heap.size = w3.heap.size + 1 := by rw [hw4]; simp
      have TM4 := hid (TM3.out.bel b34)
      have B4 := hid b34
      rw [← hw4]
      clear hw4 b34
      go_wp2_with fail
      refine (CC'.out w4 TM4.out).mono ?_
      rintro _ w5 ⟨a5, c5, C, rfl, hC, o5, i5, b5⟩
      have HC := hid hC
      have hCl : C.length ≤ 300 := by rw [← inss_len, hC]; exact HBl.out
      have B5 := hid (B4.out.trans (b5.mono (by omega)))
      have R5 := hid (R4.out.grow b5)
      have I5 := hid i5
      have SH := hid (shifted_d a5 c5 C 1 w5 o5.sl (by omega) (by rw [hC]; exact HInb.out) (by omega))
      have z5 := b5.size
      clear hC o5 i5 b5 B4 R4 CC'
      go_wp2_with fail
      refine SH.out.mono ?_
      rintro _ w6 ⟨a6, c6, D, rfl, hD, o6, k6, b6⟩
      have HD := hid hD
      have hDl : D.length = C.length := by have := congrArg List.length k6; simpa using this
      have B6 := hid (B5.out.trans (b6.mono (by omega)))
      have R6 := hid (R5.out.grow b6)
      have D6 := hid o6.sl
      have K6 := hid k6
      have z6 := b6.size
      have hDl' : D.length ≤ 300 := by omega
      have hs2 : 1 + D.length ≤ 2199023255552 := by omega
      clear hD o6 k6 b6 B5 R5 SH hDl
      go_upto_region 8 with ((at_builtin; (refine wpL_rapp Tryz.tyIn rfl (.tmp 25) (.tmp 28) rfl w3.heap.size (some ⟨w3.heap.size, 0, none⟩) a6 1 D.length 1 c6 [⟨3, 0, 0, false, none, [], 0⟩] D rfl (by first | rfl | simp | omega) R6.out rfl (by first | rfl | simp | omega) D6.out hs2 (by omega) ?_); intro a7 c7 w7 L7 Hl7 ho7 hb7 hk7 hA7; have HA7 := hid hA7; clear hA7; have Ho7 := hid ho7; clear ho7; have Hk7 := hid hk7; clear hk7; have hz7 := hb7.size))
      have B7 := hid (B6.out.trans hb7)
      have hL7 : L7.length = D.length + 1 := by rw [Hl7.out, List.length_append]; show 1 + D.length = _; omega
      have HL7 := hid hL7
      have hL7b : L7.length ≤ 301 := by omega
      have z7 := B7.out.size
      have F7 := F3.out.bel B7.out
      have F7' := hid F7
      have m0 := F7.c0
      have m1 := F7.c1
      have q0 := F7.fz 0
      have q1 := F7.fz 1
      have m4 := F7.lt
      clear hb7 hz7 Hk7 HA7 B6 R6 D6 hL7 F7
      have FX := hid (fun w9 (hb9 : Below w3.heap.size (w7.alloc (.cells #[.int .i64 3, .int .i64 1, .int .i64 0, .bool false, .slice none 0 0, .int .i64 6, .int .i64 0, .int .i64 0, .bool false, .slice none 0 0] 121)) w9) => (show FtC w9 w.heap.size 0 0 ∧ Below w3.heap.size w3 w9 from by
        have h1 : Below w3.heap.size w3 w9 := B7.out.trans (Below.trans ((Below.refl _ _).alloc z7 _) hb9)
        exact ⟨F3.out.bel h1, h1⟩))
      go_wp2_with ((at_builtin; (refine wpL_rapp Tryz.tyIn rfl (.tmp 30) (.tmp 33) rfl w3.heap.size a7 (some ⟨w7.heap.size, 0, none⟩) L7.length 2 c7 2 L7 [⟨3, 1, 0, false, none, [], 0⟩, ⟨6, 0, 0, false, none, [], 0⟩] rfl (by first | rfl | simp | omega) (Ho7.out.grow (by (repeat' (first | exact Below.refl _ _ | assumption | refine bdrewN ?_ _ | refine Below.drew ?_ | refine bal ?_ _ | refine bthen ?_ (by assumption))))) rfl (by first | rfl | simp | omega) (RSl.lit2 w7 ⟨3, 1, 0, false, none, [], 0⟩ ⟨6, 0, 0, false, none, [], 0⟩ 121 w7.heap.size rfl #[.int .i64 3, .int .i64 1, .int .i64 0, .bool false, .slice none 0 0, .int .i64 6, .int .i64 0, .int .i64 0, .bool false, .slice none 0 0] rfl) (by simp; show L7.length + 2 ≤ 2199023255552; omega) (by simp; omega) ?_); intro a9 c9 w9 L9 Hl9 ho9 hb9 hk9 hA9; have HA9 := hid hA9; clear hA9; have Ho9 := hid ho9; clear ho9; have Hk9 := hid hk9; clear hk9; have hz9 := hb9.size); obtain ⟨F9, B9⟩ := FX.out w9 hb9; have F9' := hid F9; have B9' := hid B9; have m0' := F9.c0; have m1' := F9.c1; have q0' := F9.fz 0; have q1' := F9.fz 1; have m4' := F9.lt; clear F9 B9)
      refine ret_tf Tryz.results52 rfl rfl rfl (F9'.out.put 0 0) ?_
      rw [E.out]
      refine ⟨a9, c9, L9, rfl, ?_, ?_, ?_, ?_, ((HB3.out.trans (B9'.out.mono (by omega))).setCell (by exact Nat.le_refl _) _).setCell (by exact Nat.le_refl _) _⟩
      · rw [Hl9.out, Hl7.out, inss_app, inss_app, HD.out, HC.out]
        show _ = codeW (rns L)
        unfold codeW
        simp [inss, Im.ins, iSave, iMatch]
      · rw [Hl9.out, List.length_append]; show L7.length + 2 ≤ 310; omega
      · exact (Ho9.out.stay fun q hq _ => (Below.heap_setCell _ _ _ _ (by show q ≠ w.heap.size; omega)).trans (Below.heap_setCell _ _ _ _ (by show q ≠ w.heap.size; omega))).base_le (by omega)
      · rw [Hl9.out, Hl7.out]
        intro v hv
        have hR : Rms v (fun _ => False) L := Sets.rms' (base := V.heap.size) (HSs.out.stay fun q hq hl => by
          have hq9 : q < w9.heap.size := by have := B9'.out.size; omega
          refine (hv q (by omega) (by simpa using hq9)).trans ?_
          refine ((Below.heap_setCell _ _ _ _ (by show q ≠ w.heap.size; omega)).trans (Below.heap_setCell _ _ _ _ (by show q ≠ w.heap.size; omega))).trans ((B9'.out.block q (by omega)).trans (Hb3.out.block q hl)))
        exact ((Ims.one0 _ _ _ _ _).app ((I5.out _ hR).key K6.out)).app ((Ims.one0 _ 3 1 0 false).app (Ims.one0 _ 6 0 0 false))
  · have hcs : X = ([], e, f) := by rw [hX, if_pos he]
    have b1 : (e != 0) = true := by simpa using he
    have E := hid hcs
    clear hX hk hP hcs he o2 s2 m2 b2 b21 bV1 F1 hr hlen
    go_upto_region 2 with fail
    rw [← hV1]; clear hV1
    go_upto_region 3 with fail
    go_region
    all_goals
      go_wp2_with fail
      refine ret_tf Tryz.results52 rfl rfl rfl (FtC.put (e := 0) (f := 0) (w := V1.drew) ?_ e f) ?_
      · exact F2.out.same rfl
      · rw [E.out]
        exact ⟨none, 0, [], rfl, rfl, by simp, ROwn.nil _ _, AgI.nil _ _, (HB.out.drew.setCell (by exact Nat.le_refl _) _).setCell (by exact Nat.le_refl _) _⟩
end Go.Proofs.YtefgjicegbhcaaaGreat
