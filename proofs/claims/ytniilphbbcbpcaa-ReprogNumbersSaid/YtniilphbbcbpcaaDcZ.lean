/- The document's Compile (dcompile_c), for patterns whose codes are small (chkB). ReprogNumbers: one pattern, both compilers (same9_w). ReprogNumbers: the patterns of its list; their codes are small (chk_all); repeated. ReprogNumbers: repeated; the walk. ReprogNumbers: the walk. -/
import Derived.Test.YtniilphbbcbpcaaDcY
import Derived.Test.YtniilphbbcbpcaaDrY
import Derived.Test.YtniilphbbcbpcaaPgY
import Derived.Test.YtniilphbbcbpcaaDro
import Derived.Test.YtniilphbbcbpcaaPla
import Derived.Deep.CutBlock
import Derived.Deep.DeepCutAuto
namespace Go.Proofs.Ytniilphbbcbpcaa
open Go.RowKit ReM

def knd (x : Rn) : Bool := decide (0 ≤ x.kind) && decide (x.kind ≤ 6)
/-- a pattern that is refused, or too long, or whose nodes' codes are small -/
def chkB (p : List Int) : Bool := match parseW p with
  | (l, e, _) => e != 0 || (l.all knd && (decide (300 < szN l.length l + 3) || okB l.length l))
/-- readable wherever the blocks from base on are as they are here -/
def AgI (base : Nat) (w : World) (M : List Im) : Prop := ∀ v : World, (∀ q, base ≤ q → q < w.heap.size → v.heap[q]? = w.heap[q]?) → Ims v M
theorem AgI.ims {base : Nat} {w : World} {M : List Im} (h : AgI base w M) : Ims w M := h w fun _ _ _ => rfl
theorem AgI.step {base : Nat} {w w' : World} {M : List Im} (h : AgI base w M) (hs : w.heap.size ≤ w'.heap.size) (he : ∀ q, base ≤ q → q < w.heap.size → w'.heap[q]? = w.heap[q]?) : AgI base w' M :=
  fun v hv => h v fun q h1 h2 => (hv q h1 (Nat.lt_of_lt_of_le h2 hs)).trans (he q h1 h2)
theorem AgI.bel {base : Nat} {w w' : World} {M : List Im} (h : AgI base w M) (hb : Below w.heap.size w w') : AgI base w' M := h.step hb.size fun q _ h2 => hb.block q h2
theorem AgI.nil (base : Nat) (w : World) : AgI base w [] := fun v _ m hm => by cases hm
/-- what the document's compiler tells -/
def DCmP (w : World) (res : List Ins × Int × Int) (e' : Ending) (w' : World) : Prop :=
  ∃ a' c' L, e' = .returned (.tuple #[.slice a' L.length c', .agg #[.int .i64 res.2.1, .int .i64 res.2.2]]) ∧ inss L = res.1 ∧ L.length ≤ 310 ∧ RIn w' w.heap.size a' c' L ∧ AgI w.heap.size w' L ∧ Below w.heap.size w w'
theorem Sets.rms' {base : Nat} {w : World} {M : List Rm} (h : Sets base w M) : Rms w (fun _ => False) M := fun m hm => by
  have ho := h.own m hm
  refine ⟨ho.sl, ?_, fun _ _ hf => hf⟩
  rcases ho.shape with ⟨_, _, h0⟩ | ⟨g, _, _, _, h3⟩
  · rw [h0]; simp
  · exact h3
theorem RSl.lit2 (w : World) (x y : Im) (e : TypeId) (b : Nat) (hb : b = w.heap.size) (cs : Array Value) (hcs : cs = (encIn.v x ++ encIn.v y).toArray) : RSl encIn (w.alloc (.cells cs e)) (some ⟨b, 0, none⟩) [x, y] := by
  subst hb
  refine ⟨by show 2 ≤ 2199023255552; decide, .inr ⟨_, _, rfl, fun n u hu => ?_⟩⟩
  rw [Nat.zero_add, cell_alloc_new, hcs]
  simpa [rflat] using hu
set_option maxRecDepth 20000 in
set_option maxHeartbeats 16000000 in
theorem dcompile_c (a : Option Addr) (c : Nat) (p : List Int) (w : World) (h : Sl w a p) (hc : p.length ≤ c) (hk : chkB p = true) :
    Calls Try.prog 25 #[.slice a p.length c] w (DCmP w (compW p)) := by
  have hlen := h.len
  obtain ⟨X, hX⟩ : ∃ X, X = compW p := ⟨_, rfl⟩
  rw [← hX]
  obtain ⟨V, hV⟩ : ∃ V, V = w.alloc (.cells #[.int .i64 0, .int .i64 0] 42) := ⟨_, rfl⟩
  have bV : Hid (Below w.heap.size w V) := by subst hV; exact (Below.refl _ _).alloc (Nat.le_refl _) _
  have F0 : Hid (FtC V w.heap.size 0 0) := by subst hV; exact FtC.new _ _ _ _ _ rfl
  have zV : V.heap.size = w.heap.size + 1 := by subst hV; simp
  have PC := dparse_c a c p V (h.bel bV.out) hc
  obtain ⟨⟨l, e, f⟩, hP⟩ : ∃ Y, parseW p = Y := ⟨_, rfl⟩
  rw [hP] at PC
  have PC := hid PC
  unfold compW at hX
  rw [hP] at hX
  unfold chkB at hk
  rw [hP] at hk
  dsimp only at hX hk
  have HX0 := hid hX
  have HK0 := hid hk
  have HP := hid hP
  clear h hX hk hP
  go_enter Try.func25, Try.ntmps25
  go_upto_region 1 with fail
  rw [← hV]; clear hV
  go_wp2_with fail
  refine PC.out.mono ?_
  rintro _ w1 ⟨a2, c2, L, rfl, hr, o2, s2, m2, b2⟩
  dsimp only at hr
  have hLl := m2.len
  obtain ⟨V1, hV1⟩ : ∃ V1, V1 = w1.alloc (.cells #[.int .i64 e, .int .i64 f] 42) := ⟨_, rfl⟩
  have bV1 : Below w1.heap.size w1 V1 := by subst hV1; (repeat' (first | exact Below.refl _ _ | assumption | refine bdrewN ?_ _ | refine Below.drew ?_ | refine bal ?_ _ | refine bthen ?_ (by assumption)))
  have F1 : FtC V1 w1.heap.size e f := by subst hV1; exact FtC.new _ _ _ _ _ rfl
  have zV1 : V1.heap.size = w1.heap.size + 1 := by subst hV1; simp
  have z1 := b2.size
  have b21 := b2.trans (bV1.mono z1)
  have F2 := hid (F0.out.bel b21)
  have HB := hid (bV.out.trans (b21.mono (by omega)))
  have F2' := F2.out
  have m0 := F2'.c0
  have m1 := F2'.c1
  have q0 := F2'.fz 0
  have q1 := F2'.fz 1
  have m4 := F2'.lt
  have n0 := F1.c0
  have n1 := F1.c1
  clear F2' F0 PC
  have hX := HX0.out
  have hk := HK0.out
  have hP := HP.out
  clear HX0 HK0 HP
  by_cases he : e = 0
  · subst he
    obtain ⟨rfl, hno, hlos, hp60, -⟩ := parseW_ok hP
    obtain ⟨o1, o2'⟩ := out_eq hno
    rw [codeW_len, ← sz_blk] at o1 o2'
    rw [if_neg (by simp)] at hX
    simp only [bne_self_eq_false, Bool.false_or, Bool.and_eq_true, Bool.or_eq_true, decide_eq_true_eq] at hk
    have hnum : NumOk l := fun x hx => by
      have h1 := List.all_eq_true.1 hk.1 x hx
      unfold knd at h1
      rw [Bool.and_eq_true] at h1
      exact ⟨hlos x hx, of_decide_eq_true h1.1, of_decide_eq_true h1.2⟩
    have hk2 := hk.2
    have TM := hid (show TrM V1 a2 L from ⟨(o2.grow bV1).sl, (s2.bel bV1).rms', hLl⟩)
    have hS := SubT.whole hno
    rw [← hr] at hS hno hnum
    have hls : l.length = (rns L).length := by rw [hr]
    have SZ := hid (size_all (rns L).length a2 c2 L V1 0 0 (rns L) TM.out hS (Nat.le_refl _) hnum)
    have CD := hid (fun w' h' hok => code_all (rns L).length a2 c2 L w' 0 0 (rns L) h' hS (Nat.le_refl _) hnum hok)
    rw [← hr] at hX o1 o2' hk2
    have HX := hid hX
    have O1 := hid o1
    have O2 := hid o2'
    have HK := hid hk2
    have Hno := hid hno
    have Hnum := hid hnum
    have HSs := hid (s2.bel bV1)
    clear hX o1 o2' hk2 hk hno hnum hlos hls hS o2 s2 m2 b2 b21 bV1 F1 hr hP hlen
    rw [← sz_blk] at SZ
    obtain ⟨n, hn⟩ : ∃ n, n = szN (rns L).length (rns L) := ⟨_, rfl⟩
    rw [← hn] at SZ O1 O2 HK
    have HN := hid hn
    clear hn
    go_upto_region 4 with fail
    rw [← hV1]; clear hV1
    go_wp2_with fail
    refine SZ.out.mono ?_
    rintro _ w3 ⟨s, rfl, hs, hs12, b3⟩
    have hs0 := hs.2.2
    have Ws : IntKind.i64.wrap (s + 3) = s + 3 := by rw [IntKind.wrap_i64]; omega
    have F3 := hid (F2.out.bel b3)
    have HB3 := hid (HB.out.trans (b3.mono HB.out.size))
    have TM3 := hid (TM.out.bel b3)
    have HS := hid hs
    have z3 := HB3.out.size
    have hv3 := b3.size
    have Hb3 := hid b3
    clear b3 SZ hs m0 m1 q0 q1 m4 n0 n1 F2 HB TM
    by_cases hbig : 300 < n + 3
    · have hb : 300 < s + 3 := by
        have h1 := HS.out
        rcases Nat.lt_or_ge 300 n with h | h
        · have := h1.2.1 h; omega
        · have := h1.1 h; omega
      have b1 : decide ((300 : Int) < s + 3) = true := decide_eq_true hb
      have E := hid (HX.out.trans (if_pos (O2.out hbig)))
      have F3' := F3.out
      have m0 := F3'.c0
      have m1 := F3'.c1
      have q0 := F3'.fz 0
      have q1 := F3'.fz 1
      have m4 := F3'.lt
      clear F3' hb hbig
      go_wp2_with fail
      refine ret_tf Try.results25 rfl rfl rfl (F3.out.put 3 p.length) ?_
      rw [E.out]
      exact ⟨none, 0, [], rfl, rfl, by simp, ROwn.nil _ _, AgI.nil _ _, (HB3.out.setCell (by exact Nat.le_refl _) _).setCell (by exact Nat.le_refl _) _⟩
    · have hb : ¬ 300 < s + 3 := by
        have h1 := HS.out.1 (by omega); omega
      have b1 : decide ((300 : Int) < s + 3) = false := decide_eq_false hb
      have hok : okB (rns L).length (rns L) = true := by
        rcases HK.out with h | h
        · omega
        · exact h
      have E := hid (HX.out.trans (show (if 300 < (outW (rns L)).length then (([] : List Ins), (3 : Int), (p.length : Int)) else (outW (rns L), 0, 0)) = (codeW (rns L), 0, 0) from by rw [O1.out (by omega), if_neg (by rw [codeW_len, ← sz_blk, ← HN.out]; omega)]))
      have hinb := blk_inb (Nat.le_refl _) Hno.out Hnum.out hok
      have hbl : (blk (rns L).length (rns L)).length ≤ 300 := okB_len hok
      have CC' := hid (fun w' h' => CD.out w' h' hok)
      have HInb := hid hinb
      have HBl := hid hbl
      clear hb hbig hok CD hinb hbl
      have hwV : w.heap.size < w3.heap.size := by omega
      go_upto_region 7 with fail
      obtain ⟨w4, hw4⟩ : ∃ w4, w4 = w3.alloc (.cells #[.int .i64 3, .int .i64 0, .int .i64 0, .bool false, .slice none 0 0] 56) := ⟨_, rfl⟩
      have R4 : Hid (RIn w4 w3.heap.size (some ⟨w3.heap.size, 0, none⟩) 1 [⟨3, 0, 0, false, none, [], 0⟩]) := by rw [hw4]; exact RIn.one _ _ _ rfl (Nat.le_refl _) _ rfl
      have b34 : Below w3.heap.size w3 w4 := by rw [hw4]; (repeat' (first | exact Below.refl _ _ | assumption | refine bdrewN ?_ _ | refine Below.drew ?_ | refine bal ?_ _ | refine bthen ?_ (by assumption)))
      have z4 : w4.heap.size = w3.heap.size + 1 := by rw [hw4]; simp
      have TM4 := hid (TM3.out.bel b34)
      have B4 := hid b34
      rw [← hw4]
      clear hw4 b34
      go_wp2_with fail
      refine (CC'.out w4 TM4.out).mono ?_
      rintro _ w5 ⟨a5, c5, C, rfl, hC, o5, i5, b5⟩
      have HC := hid hC
      have hCl : C.length ≤ 300 := by rw [← inss_len, hC]; exact HBl.out
      have B5 := hid (B4.out.trans (b5.mono (by omega)))
      have R5 := hid (R4.out.grow b5)
      have I5 := hid i5
      have SH := hid (shifted_d a5 c5 C 1 w5 o5.sl (by omega) (by rw [hC]; exact HInb.out) (by omega))
      have z5 := b5.size
      clear hC o5 i5 b5 B4 R4 CC'
      go_wp2_with fail
      refine SH.out.mono ?_
      rintro _ w6 ⟨a6, c6, D, rfl, hD, o6, k6, b6⟩
      have HD := hid hD
      have hDl : D.length = C.length := by have := congrArg List.length k6; simpa using this
      have B6 := hid (B5.out.trans (b6.mono (by omega)))
      have R6 := hid (R5.out.grow b6)
      have D6 := hid o6.sl
      have K6 := hid k6
      have z6 := b6.size
      have hDl' : D.length ≤ 300 := by omega
      have hs2 : 1 + D.length ≤ 2199023255552 := by omega
      clear hD o6 k6 b6 B5 R5 SH hDl
      go_upto_region 8 with ((at_builtin; (refine wpL_rapp Try.tyIn rfl (.tmp 25) (.tmp 28) rfl w3.heap.size (some ⟨w3.heap.size, 0, none⟩) a6 1 D.length 1 c6 [⟨3, 0, 0, false, none, [], 0⟩] D rfl (by first | rfl | simp | omega) R6.out rfl (by first | rfl | simp | omega) D6.out hs2 (by omega) ?_); intro a7 c7 w7 L7 Hl7 ho7 hb7 hk7 hA7; have HA7 := hid hA7; clear hA7; have Ho7 := hid ho7; clear ho7; have Hk7 := hid hk7; clear hk7; have hz7 := hb7.size))
      have B7 := hid (B6.out.trans hb7)
      have hL7 : L7.length = D.length + 1 := by rw [Hl7.out, List.length_append]; show 1 + D.length = _; omega
      have HL7 := hid hL7
      have hL7b : L7.length ≤ 301 := by omega
      have z7 := B7.out.size
      have F7 := F3.out.bel B7.out
      have F7' := hid F7
      have m0 := F7.c0
      have m1 := F7.c1
      have q0 := F7.fz 0
      have q1 := F7.fz 1
      have m4 := F7.lt
      clear hb7 hz7 Hk7 HA7 B6 R6 D6 hL7 F7
      have FX := hid (fun w9 (hb9 : Below w3.heap.size (w7.alloc (.cells #[.int .i64 3, .int .i64 1, .int .i64 0, .bool false, .slice none 0 0, .int .i64 6, .int .i64 0, .int .i64 0, .bool false, .slice none 0 0] 56)) w9) => (show FtC w9 w.heap.size 0 0 ∧ Below w3.heap.size w3 w9 from by
        have h1 : Below w3.heap.size w3 w9 := B7.out.trans (Below.trans ((Below.refl _ _).alloc z7 _) hb9)
        exact ⟨F3.out.bel h1, h1⟩))
      go_wp2_with ((at_builtin; (refine wpL_rapp Try.tyIn rfl (.tmp 30) (.tmp 33) rfl w3.heap.size a7 (some ⟨w7.heap.size, 0, none⟩) L7.length 2 c7 2 L7 [⟨3, 1, 0, false, none, [], 0⟩, ⟨6, 0, 0, false, none, [], 0⟩] rfl (by first | rfl | simp | omega) (Ho7.out.grow (by (repeat' (first | exact Below.refl _ _ | assumption | refine bdrewN ?_ _ | refine Below.drew ?_ | refine bal ?_ _ | refine bthen ?_ (by assumption))))) rfl (by first | rfl | simp | omega) (RSl.lit2 w7 ⟨3, 1, 0, false, none, [], 0⟩ ⟨6, 0, 0, false, none, [], 0⟩ 56 w7.heap.size rfl #[.int .i64 3, .int .i64 1, .int .i64 0, .bool false, .slice none 0 0, .int .i64 6, .int .i64 0, .int .i64 0, .bool false, .slice none 0 0] rfl) (by simp; show L7.length + 2 ≤ 2199023255552; omega) (by simp; omega) ?_); intro a9 c9 w9 L9 Hl9 ho9 hb9 hk9 hA9; have HA9 := hid hA9; clear hA9; have Ho9 := hid ho9; clear ho9; have Hk9 := hid hk9; clear hk9; have hz9 := hb9.size); obtain ⟨F9, B9⟩ := FX.out w9 hb9; have F9' := hid F9; have B9' := hid B9; have m0' := F9.c0; have m1' := F9.c1; have q0' := F9.fz 0; have q1' := F9.fz 1; have m4' := F9.lt; clear F9 B9)
      refine ret_tf Try.results25 rfl rfl rfl (F9'.out.put 0 0) ?_
      rw [E.out]
      refine ⟨a9, c9, L9, rfl, ?_, ?_, ?_, ?_, ((HB3.out.trans (B9'.out.mono (by omega))).setCell (by exact Nat.le_refl _) _).setCell (by exact Nat.le_refl _) _⟩
      · rw [Hl9.out, Hl7.out, inss_app, inss_app, HD.out, HC.out]
        show _ = codeW (rns L)
        unfold codeW
        simp [inss, Im.ins, iSave, iMatch]
      · rw [Hl9.out, List.length_append]; show L7.length + 2 ≤ 310; omega
      · exact (Ho9.out.stay fun q hq _ => (Below.heap_setCell _ _ _ _ (by show q ≠ w.heap.size; omega)).trans (Below.heap_setCell _ _ _ _ (by show q ≠ w.heap.size; omega))).base_le (by omega)
      · rw [Hl9.out, Hl7.out]
        intro v hv
        have hR : Rms v (fun _ => False) L := Sets.rms' (base := V.heap.size) (HSs.out.stay fun q hq hl => by
          have hq9 : q < w9.heap.size := by have := B9'.out.size; omega
          refine (hv q (by omega) (by simpa using hq9)).trans ?_
          refine ((Below.heap_setCell _ _ _ _ (by show q ≠ w.heap.size; omega)).trans (Below.heap_setCell _ _ _ _ (by show q ≠ w.heap.size; omega))).trans ((B9'.out.block q (by omega)).trans (Hb3.out.block q hl)))
        exact ((Ims.one0 _ _ _ _ _).app ((I5.out _ hR).key K6.out)).app ((Ims.one0 _ 3 1 0 false).app (Ims.one0 _ 6 0 0 false))
  · have hcs : X = ([], e, f) := by rw [hX, if_pos he]
    have b1 : (e != 0) = true := by simpa using he
    have E := hid hcs
    clear hX hk hP hcs he o2 s2 m2 b2 b21 bV1 F1 hr hlen
    go_upto_region 2 with fail
    rw [← hV1]; clear hV1
    go_upto_region 3 with fail
    go_region
    all_goals
      go_wp2_with fail
      refine ret_tf Try.results25 rfl rfl rfl (FtC.put (e := 0) (f := 0) (w := V1.drew) ?_ e f) ?_
      · exact F2.out.same rfl
      · rw [E.out]
        exact ⟨none, 0, [], rfl, rfl, by simp, ROwn.nil _ _, AgI.nil _ _, (HB.out.drew.setCell (by exact Nat.le_refl _) _).setCell (by exact Nat.le_refl _) _⟩
end Go.Proofs.Ytniilphbbcbpcaa
namespace Go.Proofs.Ytniilphbbcbpcaa
open Go.RowKit ReM

theorem Stk.ims {base : Nat} {w : World} {L : List Im} (h : Stk base w (L.map Im.key)) : Ims w L := fun m hm => (h.own m.key (List.mem_map.2 ⟨m, hm, rfl⟩)).sl
theorem igt_set_ne {L : List Im} {i j : Nat} {m : Im} (h : i ≠ j) : rgt (L.set i m) j = rgt L j := by
  unfold rgt
  rw [List.getD_eq_getElem?_getD, List.getElem?_set_ne h, ← List.getD_eq_getElem?_getD]
/-- what stays while an answered list is written over -/
def SpJ (w0 : World) (lo hi : Nat) (a : Option Addr) (c : Nat) (L : List Im) (k : Nat) (wr : World) : Prop :=
  ∃ L', L'.length = L.length ∧ (∀ i, k ≤ i → i < L.length → rgt L' i = rgt L i) ∧ RIn wr lo a c L' ∧ (∀ i, k ≤ i → i < L.length → Own wr lo (rgt L i).sa (rgt L i).sc (rgt L i).set) ∧ Kpt (fun b => lo ≤ b ∧ b < hi) w0 wr
theorem SpJ.shape {w0 : World} {lo hi : Nat} {a : Option Addr} {c : Nat} {L : List Im} {k : Nat} {wr : World} (h : SpJ w0 lo hi a c L k wr) (hk : k < L.length) : ∃ g, a = some ⟨g, 0, none⟩ := by
  obtain ⟨L', h1, h2, h3, h4, h5⟩ := h
  rcases h3.shape with ⟨_, _, h0⟩ | ⟨g, h0, _⟩
  · rw [h0] at h1; simp at h1; omega
  · exact ⟨g, h0⟩
theorem SpJ.set {w0 : World} {lo hi g : Nat} {c : Nat} {L : List Im} {k : Nat} {wr : World} (h : SpJ w0 lo hi (some ⟨g, 0, none⟩) c L k wr) (hk : k < L.length) :
    wr.cell? ⟨g, k * 5 + 4, none⟩ = some (.slice (rgt L k).sa (rgt L k).set.length (rgt L k).sc) ∧ Own wr lo (rgt L k).sa (rgt L k).sc (rgt L k).set := by
  obtain ⟨L', h1, h2, h3, h4, h5⟩ := h
  have := (rec_in (h3.at (i := k) (by omega))).2.2.2.2
  rw [h2 k (Nat.le_refl _) hk] at this
  exact ⟨this, h4 k (Nat.le_refl _) hk⟩
theorem own_offI {w : World} {b1 b2 : Nat} {a1 a2 : Option Addr} {c1 c2 : Nat} {l : List Int} {L : List Im} (h1 : Own w b1 a1 c1 l) (h2 : RIn w b2 a2 c2 L) : ∀ k, Blk a1 k → ¬ Blk a2 k := fun k hk hb => by
  obtain ⟨ad, ha, rfl⟩ := hk
  obtain ⟨ae, he, hb⟩ := hb
  exact own_types h1.1 h2.1 (by decide) (k := ad.block) (by rw [ha]; rfl) (by rw [he, ← hb]; rfl)
theorem apart_atI {L : List Im} {R : Im → Im → Prop} (h : L.Pairwise R) {i j : Nat} (hij : i < j) (hj : j < L.length) : R (rgt L i) (rgt L j) := by
  rw [rgt_get (by omega), rgt_get hj]
  exact List.pairwise_iff_getElem.1 h i j (by omega) hj hij
theorem SpJ.kept {w0 : World} {lo hi g : Nat} {c : Nat} {L : List Im} {k : Nat} {wr wr2 : World} (h : SpJ w0 lo hi (some ⟨g, 0, none⟩) c L k wr) (hk : k < L.length) (ap : L.Pairwise fun m m' => ∀ b, Blk m.sa b → ¬ Blk m'.sa b) (hset : ∀ b, Blk (rgt L k).sa b → lo ≤ b ∧ b < hi) (ks : Kpt (Blk (rgt L k).sa) wr wr2) :
    ∃ L', L'.length = L.length ∧ (∀ i, k + 1 ≤ i → i < L.length → rgt L' i = rgt L i) ∧ RIn wr2 lo (some ⟨g, 0, none⟩) c L' ∧ (∀ i, k + 1 ≤ i → i < L.length → Own wr2 lo (rgt L i).sa (rgt L i).sc (rgt L i).set) ∧ Kpt (fun b => lo ≤ b ∧ b < hi) w0 wr2 := by
  obtain ⟨L', h1, h2, h3, h4, h5⟩ := h
  have hoff := own_offI (h4 k (Nat.le_refl _) hk) h3
  refine ⟨L', h1, fun i hi => h2 i (by omega), ?_, fun i hi hl => ?_, Kpt.step h5 ks (fun b hb => .inl (hset b hb))⟩
  · exact h3.same fun ad ha hl => ks.block _ hl (fun hb => hoff _ hb ⟨ad, ha, rfl⟩)
  · exact (h4 i (by omega) hl).same fun ad ha hl2 => ks.block _ hl2 (fun hb => apart_atI ap (show k < i by omega) hl _ hb ⟨ad, ha, rfl⟩)
theorem SpJ.kind {w0 : World} {lo hi g : Nat} {c : Nat} {L : List Im} {k : Nat} {wr wr2 : World} (h : SpJ w0 lo hi (some ⟨g, 0, none⟩) c L k wr) (hk : k < L.length) (ap : L.Pairwise fun m m' => ∀ b, Blk m.sa b → ¬ Blk m'.sa b) (hset : ∀ b, Blk (rgt L k).sa b → lo ≤ b ∧ b < hi) (ks : Kpt (Blk (rgt L k).sa) wr wr2) :
    (∃ v, wr2.cell? ⟨g, k * 5, none⟩ = some (.int .i64 v)) ∧ wr2.frozen? ⟨g, k * 5, none⟩ = false := by
  obtain ⟨L', h1, h2, h3, h4, h5⟩ := h.kept hk ap hset ks
  exact ⟨⟨_, (rec_in (h3.at (i := k) (by omega))).1⟩, h3.free _⟩
theorem SpJ.step {w0 : World} {lo hi g : Nat} {c : Nat} {L : List Im} {k : Nat} {wr wr2 : World} (h : SpJ w0 lo hi (some ⟨g, 0, none⟩) c L k wr) (hk : k < L.length) (ap : L.Pairwise fun m m' => ∀ b, Blk m.sa b → ¬ Blk m'.sa b) (hset : ∀ b, Blk (rgt L k).sa b → lo ≤ b ∧ b < hi) (hg : lo ≤ g ∧ g < hi) (ks : Kpt (Blk (rgt L k).sa) wr wr2) :
    SpJ w0 lo hi (some ⟨g, 0, none⟩) c L (k + 1) (wr2.setCell ⟨g, k * 5, none⟩ (.int .i64 (-9))) := by
  obtain ⟨L', h1, h2, h3, h4, h5⟩ := h.kept hk ap hset ks
  refine ⟨L'.set k { rgt L' k with op := -9 }, by simpa using h1, fun i hi hl => ?_, ?_, fun i hi hl => ?_, Kpt.setCell h5 (p := ⟨g, k * 5, none⟩) hg _⟩
  · rw [igt_set_ne (by omega)]; exact h2 i hi hl
  · exact h3.stored k 0 { rgt L' k with op := -9 } (.int .i64 (-9)) (by omega) (by decide) rfl
  · refine (h4 i hi hl).setOther _ _ fun ad ha hb => own_offI (h4 i hi hl) h3 ad.block ⟨ad, ha, rfl⟩ ⟨_, rfl, hb.symm⟩
set_option maxRecDepth 20000 in
set_option maxHeartbeats 16000000 in
theorem same9_w (a : Option Addr) (c : Nat) (p : List Int) (w : World) (h : Sl w a p) (hc : p.length ≤ c) (hb : p.length ≤ 35184373137406) (hk : chkB p = true) :
    Calls Try.prog 10 #[.slice a p.length c] w fun e w' => e = .returned (.bool true) ∧ Below w.heap.size w w' := by
  have LC := hid (lend_c a c p w h hb)
  obtain ⟨⟨t, e, f⟩, hT⟩ : ∃ X, X = compW p := ⟨_, rfl⟩
  have HT := hid hT
  have H0 := hid h
  clear h hT
  go_enter Try.func10, Try.ntmps10
  go_wp2_with fail
  refine LC.out.mono ?_
  rintro _ w1 ⟨g, cx, rfl, hcx, hgx, hox, b1⟩
  have OX := hid hox
  have B1 := hid b1
  have z1 := b1.size
  have PC := hid (compile_c (some ⟨g, 0, none⟩) cx p w1 (Own.pre hox).sl (by omega))
  rw [← HT.out] at PC
  clear LC hox b1
  go_wp2_with fail
  refine PC.out.mono ?_
  rintro _ w2 ⟨a2, c2, L, rfl, hr2, m2, o2, s2, b2⟩
  dsimp only at hr2
  have HR2 := hid hr2
  have z2 := b2.size
  have hlL := m2
  obtain ⟨V2, hV2⟩ : ∃ V2, V2 = w2.alloc (.cells #[.int .i64 e, .int .i64 f] 42) := ⟨_, rfl⟩
  have F2 : Hid (FtC V2 w2.heap.size e f) := by subst hV2; exact FtC.new _ _ _ _ _ rfl
  have bV2 : Below w2.heap.size w2 V2 := by subst hV2; (repeat' (first | exact Below.refl _ _ | assumption | refine bdrewN ?_ _ | refine Below.drew ?_ | refine bal ?_ _ | refine bthen ?_ (by assumption)))
  have zV2 : V2.heap.size = w2.heap.size + 1 := by subst hV2; simp
  have B2 := hid (B1.out.trans ((b2.trans (bV2.mono z2)).mono z1))
  have O2 := hid (o2.grow bV2)
  have S2 := hid (s2.bel bV2)
  have HL2 := hid (fun k (hk : Blk a2 k) => O2.out.lt hk)
  have HP2 := hid (List.pairwise_map.1 s2.apart)
  have HS2 := hid (fun i (hi : i < L.length) k (hk : Blk (rgt L i).sa k) => (show w1.heap.size ≤ k ∧ k < V2.heap.size from (S2.out.own _ (List.mem_map.2 ⟨_, rgt_mem hi, rfl⟩)).1.lt k (by obtain ⟨ad, ha, rfl⟩ := hk; show (Value.slice (rgt L i).sa _ _).ownBlock = _; rw [ha]; rfl)))
  have OX2 := hid (OX.out.grow (b2.trans (bV2.mono z2)))
  have DC := hid (dcompile_c a c p V2 (H0.out.bel B2.out) hc hk)
  rw [← HT.out] at DC
  clear hr2 o2 s2 m2 b2 bV2 PC OX
  go_wp2_with fail
  rw [← hV2]; clear hV2
  refine DC.out.mono ?_
  rintro _ w3 ⟨a3, c3, M, rfl, hr3, m3, o3, s3, b3⟩
  dsimp only at hr3
  have hrr := hr3.trans HR2.out.symm
  have z3 := b3.size
  obtain ⟨V3, hV3⟩ : ∃ V3, V3 = w3.alloc (.cells #[.int .i64 e, .int .i64 f] 42) := ⟨_, rfl⟩
  have F3 : Hid (FtC V3 w3.heap.size e f) := by subst hV3; exact FtC.new _ _ _ _ _ rfl
  have bV3 : Below w3.heap.size w3 V3 := by subst hV3; (repeat' (first | exact Below.refl _ _ | assumption | refine bdrewN ?_ _ | refine Below.drew ?_ | refine bal ?_ _ | refine bthen ?_ (by assumption)))
  have zV3 : V3.heap.size = w3.heap.size + 1 := by subst hV3; simp
  have b23 := b3.trans (bV3.mono z3)
  have F2' := F2.out.bel b23
  have B3 := hid (B2.out.trans (b23.mono (by omega)))
  have O3 := hid (O2.out.grow b23)
  have S3 := hid (S2.out.bel b23)
  have OX3 := hid (OX2.out.grow b23)
  have OM := hid (o3.grow bV3)
  have SM := hid (s3.bel bV3)
  have q0 := F2'.c0
  have q1 := F2'.c1
  have q2 := F3.out.c0
  have q3 := F3.out.c1
  have SR := hid (sameinst_c a2 a3 c2 c3 L M V3 O3.out.sl OM.out.sl S3.out.ims SM.out.ims hrr.symm)
  have HRR := hid hrr
  clear hr3 o3 s3 m3 b3 bV3 b23 DC O2 S2 OX2 hrr
  go_upto_region 4 with fail
  rw [← hV3]; clear hV3
  go_wp2_with fail
  refine SR.out.mono ?_
  rintro _ w5 ⟨rfl, b5⟩
  have z5 := b5.size
  have O5 := hid (O3.out.grow b5)
  have OM5 := hid (OM.out.grow b5)
  have S5 := hid (S3.out.bel b5)
  have SM5 := hid (SM.out.bel b5)
  have OX5 := hid (OX3.out.grow b5)
  have B5 := hid (B3.out.trans (b5.mono (by omega)))
  clear b5 SR O3 OM S3 SM OX3 q0 q1 q2 q3
  go_wp2_with fail
  refine (kept_c g cx a c p w5 OX5.out.sl hcx (H0.out.bel B5.out)).mono ?_
  rintro _ w8' ⟨rfl, n8, hn8⟩
  obtain ⟨w8, hw8⟩ : ∃ w8, w8 = w8' := ⟨_, rfl⟩
  rw [← hw8]
  have e8 : w8 = w5.drewN n8 := hw8.trans hn8
  have b8 : Below w5.heap.size w5 w8 := by rw [e8]; exact bdrewN (Below.refl _ _) _
  have O8 := hid (O5.out.grow b8)
  have OM8 := hid (OM5.out.grow b8)
  have S8 := hid (S5.out.bel b8)
  have SM8 := hid (SM5.out.bel b8)
  have B8 := hid (B5.out.trans (b8.mono (by omega)))
  have z8 := b8.size
  have P0 := hid (show SpJ w8 w1.heap.size V2.heap.size a2 c2 L 0 w8 from ⟨L, rfl, fun _ _ _ => rfl, O8.out, fun i _ hl => S8.out.own _ (List.mem_map.2 ⟨_, rgt_mem hl, rfl⟩), Kpt.refl _ _⟩)
  clear hn8 hw8 e8 b8 O5 OM5 S5 SM5 OX5 O8 S8
  go_wp2_with fail
  go_loopg [40] L.length (fun gk v wr => ∃ k : Nat, gk = L.length - k ∧ k ≤ L.length ∧ v = .int .i64 k ∧ Hid (SpJ w8 w1.heap.size V2.heap.size a2 c2 L k wr))
  case atStart => exact ⟨0, rfl, by omega, rfl, P0⟩
  case round =>
    clear P0
    obtain ⟨k, rfl, hk, rfl, HI⟩ := hrel
    by_cases hkl : k < L.length
    · obtain ⟨g2, rfl⟩ := HI.out.shape hkl
      obtain ⟨ck, ok⟩ := HI.out.set hkl
      have hgg := HL2.out g2 ⟨_, rfl, rfl⟩
      have SC := hid (spoil_k _ _ _ _ wr ok)
      have Hst := hid (fun wr2 (ks : Kpt (Blk (rgt L k).sa) wr wr2) => HI.out.step hkl HP2.out (HS2.out k hkl) hgg ks)
      have Hki := hid (fun wr2 (ks : Kpt (Blk (rgt L k).sa) wr wr2) => HI.out.kind hkl HP2.out (HS2.out k hkl) ks)
      have zkl : (k : Int) < (L.length : Int) := by omega
      clear ok
      generalize rgt L k = m at *
      go_wp2_with fail
      refine SC.out.mono ?_
      rintro _ wr2 ⟨rfl, ks⟩
      obtain ⟨⟨v, cv⟩, fv⟩ := Hki.out wr2 ks
      have Hs2 := hid (Hst.out wr2 ks)
      clear ks Hki Hst ck
      go_wp2_with fail
      go_roundg (L.length - (k + 1))
      case measure => omega
      case rel => exact ⟨k + 1, rfl, by omega, by go_num, Hs2⟩
    · obtain ⟨_, -, -, -, -, hkk⟩ := HI.out
      have bk := hkk.below (B := w1.heap.size) (fun q hq => hq.1) (by omega)
      have B9 := hid (B8.out.trans (bk.mono z1))
      have okk := hid (OM8.out.sl.kpt (fun q hq hf => by have := (OM8.out.lt ⟨q, hq, rfl⟩).1; omega) hkk)
      have OM9 := hid (OM8.out.stay fun q hq hl => hkk.block q hl (fun hf => by omega))
      have SM9 := hid (SM8.out.step hkk.size (fun q h1 h2 => hkk.block q h2 (fun hf => by omega)))
      have PC := hid (compile_c a c p wr (H0.out.bel B9.out) hc)
      rw [← HT.out] at PC
      obtain rfl : k = L.length := by omega
      clear hkk bk OM8 SM8 okk
      go_wp2_with fail
      refine PC.out.mono ?_
      rintro _ w10 ⟨a10, c10, L10, rfl, hr10, m10, o10, s10, b10⟩
      dsimp only at hr10
      have hr11 := hr10.trans (HR2.out.symm.trans HRR.out.symm)
      obtain ⟨V10, hV10⟩ : ∃ V10, V10 = w10.alloc (.cells #[.int .i64 e, .int .i64 f] 42) := ⟨_, rfl⟩
      have bV10 : Below w10.heap.size w10 V10 := by subst hV10; (repeat' (first | exact Below.refl _ _ | assumption | refine bdrewN ?_ _ | refine Below.drew ?_ | refine bal ?_ _ | refine bthen ?_ (by assumption)))
      have b11 := b10.trans (bV10.mono b10.size)
      have B11 := hid (B9.out.trans (b11.mono B9.out.size))
      have SR := hid (sameinst_c a10 a3 c10 c3 L10 M V10 (o10.grow bV10).sl (OM9.out.grow b11).sl (s10.bel bV10).ims (SM9.out.bel b11).ims hr11)
      have zV10 := B11.out.size
      clear hr10 o10 s10 m10 b10 bV10 b11 hr11
      go_upto_region 13 with fail
      rw [← hV10]; clear hV10
      go_wp2_with fail
      refine SR.out.mono ?_
      rintro _ w12 ⟨rfl, b12⟩
      have B12 := hid (B11.out.trans (b12.mono zV10))
      clear b12
      go_wp2_with fail
      go_ret
      exact ⟨rfl, B12.out⟩
end Go.Proofs.Ytniilphbbcbpcaa
namespace Go.Proofs.Ytniilphbbcbpcaa
open Go.RowKit ReM

def repL : List Int → Nat → List Int → List Int
  | p, 0, _ => p
  | p, n + 1, r => repL ([40, 63, 58] ++ p ++ [41] ++ r) n r
def ssP : List ByteArray := [⟨#[]⟩, ⟨#[97]⟩, ⟨#[94, 36]⟩, ⟨#[97, 124, 98]⟩, ⟨#[97, 124, 98, 124, 99]⟩, ⟨#[40, 97, 124, 41]⟩, ⟨#[40, 97, 41, 40, 98, 41]⟩, ⟨#[40, 63, 58, 97, 41]⟩, ⟨#[91, 94, 97, 45, 99, 93]⟩]
def ssQ : List ByteArray := [⟨#[]⟩, ⟨#[42]⟩, ⟨#[43]⟩, ⟨#[63]⟩, ⟨#[42, 63]⟩, ⟨#[43, 63]⟩, ⟨#[63, 63]⟩, ⟨#[123, 51, 125]⟩, ⟨#[123, 48, 125]⟩, ⟨#[123, 48, 44, 125]⟩, ⟨#[123, 50, 44, 125]⟩, ⟨#[123, 50, 44, 125, 63]⟩, ⟨#[123, 48, 44, 51, 125]⟩, ⟨#[123, 49, 44, 51, 125, 63]⟩, ⟨#[123, 57, 125]⟩]
set_option maxRecDepth 100000 in
theorem chk_all : (ssP.all fun s => ssQ.all fun r => (List.range 4).all fun n => chkB (repL (strL s) n (strL r))) = true := by kernel_rfl
set_option maxRecDepth 100000 in
theorem chk_some : (chkB (repL [] 8 [123, 57, 125]) && chkB (repL [] 7 [123, 48, 44, 57, 125]) && chkB (repL [97] 2 [123, 57, 125]) && chkB (repL [97] 3 [123, 57, 125]) && chkB (repL [] 6 [123, 57, 44, 125])) = true := by kernel_rfl
end Go.Proofs.Ytniilphbbcbpcaa
namespace Go.Proofs.Ytniilphbbcbpcaa
open Go.RowKit ReM

set_option maxHeartbeats 8000000 in
theorem repeated9_c (a : Option Addr) (c : Nat) (p : List Int) (n : Nat) (s : ByteArray) (w : World) (h : Sl w a p) (hc : p.length ≤ c) (hn : n ≤ 8) (hp : p.length ≤ 100) (hs : s.size ≤ 10) :
    Calls Try.prog 11 #[.slice a p.length c, .int .i64 n, .string s] w fun e' w' => ∃ a' c' L, e' = .returned (.slice a' L.length c') ∧ Hid (L = repL p n (strL s)) ∧ Sl w' a' L ∧ L.length ≤ c' ∧ L.length ≤ 300 ∧ Below w.heap.size w w' := by
  have H := hid h
  clear h
  go_enter Try.func11, Try.ntmps11
  go_wp2_with fail
  go_loopw [0, 7] (fun pv kv wr => ∃ (k : Nat) (aP : Option Addr) (cP : Nat) (P : List Int), k ≤ n ∧ kv = .int .i64 k ∧ pv = .slice aP P.length cP ∧ Hid (repL P (n - k) (strL s) = repL p n (strL s)) ∧ Hid (Sl wr aP P) ∧ P.length ≤ cP ∧ P.length ≤ 100 + 14 * k ∧ Hid (Below w.heap.size w wr)) (fun _ kv _ => n - (intOf kv).toNat)
  case atStart => exact ⟨0, a, c, p, by omega, rfl, rfl, hid rfl, H, hc, by omega, hid (by (repeat' (first | exact Below.refl _ _ | assumption | refine bdrewN ?_ _ | refine Below.drew ?_ | refine Below.setCell ?_ (Nat.le_refl _) _ | refine bal ?_ _ | refine bthen ?_ (by assumption))))⟩
  case round =>
    obtain ⟨k, aP, cP, P, hk, rfl, rfl, HE, HP, hPc, hPl, HB⟩ := hrel
    have hz := HB.out.size
    by_cases hlt : k < n
    · have b1 : decide ((k : Int) < (n : Int)) = true := decide_eq_true (by omega)
      have W1 : IntKind.i64.wrap ((k : Int) + 1) = ((k + 1 : Nat) : Int) := by rw [IntKind.wrap_i64]; omega
      have hPl2 : P.length ≤ 220 := by omega
      have HPl := hid hPl
      clear hPl
      go_upto_region 5 with (first | (at_builtin; (refine wpL_appn rfl (.tmp 13) (.tmp 14) rfl wr.heap.size (some ⟨wr.heap.size, 0, none⟩) aP 3 P.length 3 cP [40, 63, 58] P rfl (by first | rfl | simp | omega) (Own.lit' wr [40, 63, 58] _ _ 3 rfl (Nat.le_refl _) (by decide) (by unfold rng; simp) _ rfl rfl) rfl (by first | rfl | simp | omega) (HP.out.bel (by (repeat' (first | exact Below.refl _ _ | assumption | refine bdrewN ?_ _ | refine Below.drew ?_ | refine bal ?_ _ | refine bthen ?_ (by assumption))))) (by simp; omega) (by first | (simp; done) | (simp; omega)) ?_); intro a3 c3 w3 L3 Hl3 ho3 hb3 hk3 hA3; have HA3 := hid hA3; clear hA3; have Ho3 := hid ho3; clear ho3; have Hk3 := hid hk3; clear hk3; have hz3 := hb3.size) | (at_builtin; (refine wpL_appn rfl (.tmp 15) (.tmp 16) rfl wr.heap.size a3 (some ⟨w3.heap.size, 0, none⟩) L3.length 1 c3 1 L3 [41] rfl (by first | rfl | simp | omega) (Ho3.out.grow (by (repeat' (first | exact Below.refl _ _ | assumption | refine bdrewN ?_ _ | refine Below.drew ?_ | refine bal ?_ _ | refine bthen ?_ (by assumption))))) rfl (by first | rfl | simp | omega) (Sl.lit' _ [41] _ _ (by simp) (by simp) (by simp [rng]) _ rfl) (by rw [Hl3.out, List.length_append]; simp; omega) (by have := hz3; simp only [World.size_alloc] at this ⊢; omega) ?_); intro a5 c5 w5 L5 Hl5 ho5 hb5 hk5 hA5; have HA5 := hid hA5; clear hA5; have Ho5 := hid ho5; clear ho5; have Hk5 := hid hk5; clear hk5; have hz5 := hb5.size))
      have z3 : wr.heap.size ≤ w3.heap.size := by have := hz3; simp only [World.size_alloc] at this; omega
      have HB5 := hid (show Below wr.heap.size wr w5 from (Below.trans (by (repeat' (first | exact Below.refl _ _ | assumption | refine bdrewN ?_ _ | refine Below.drew ?_ | refine bal ?_ _ | refine bthen ?_ (by assumption)))) hb3).trans (Below.trans ((Below.refl _ _).alloc z3 _) hb5))
      have HL5 := hid (show L5 = [40, 63, 58] ++ P ++ [41] by rw [Hl5.out, Hl3.out])
      have hL5l : L5.length = P.length + 4 := by rw [HL5.out]; simp
      have hL5b : L5.length ≤ 224 := by omega
      have HL5l := hid hL5l
      have z5 := HB5.out.size
      clear hb3 hb5 Hl3 Hl5 Ho3 hz3 hz5 Hk3 Hk5 HA3 HA5 hL5l z3
      go_wp2_with fail
      refine (plain_c s w5 (by omega)).mono ?_
      rintro _ w6 ⟨a6, c6, S, rfl, hS, o6, b6⟩
      have HO6 := hid (Ho5.out.grow b6)
      have HS6 := hid o6.sl
      have HB6 := hid (HB5.out.trans (b6.mono z5))
      have hSl : S.length ≤ 10 := by rw [hS.out, strL_len]; exact hs
      have HS := hid hS.out
      have z6 := HB6.out.size
      clear hS o6 b6 Ho5 HB5 z5
      go_wp2_with ((at_builtin; (refine wpL_appn rfl (.tmp 18) (.tmp 20) rfl wr.heap.size a5 a6 L5.length S.length c5 c6 L5 S rfl (by first | rfl | simp | omega) HO6.out rfl (by first | rfl | simp | omega) HS6.out (by omega) z6 ?_); intro a7 c7 w7 L7 Hl7 ho7 hb7 hk7 hA7; have HA7 := hid hA7; clear hA7; have Ho7 := hid ho7; clear ho7; have Hk7 := hid hk7; clear hk7; have hz7 := hb7.size))
      have hL7 : L7.length = P.length + 4 + S.length := by rw [Hl7.out, List.length_append, HL5l.out]
      have hc7 : L7.length ≤ c7 := by rcases Ho7.out.shape with ⟨_, _, h⟩ | ⟨_, _, _, _, h⟩; simp [h]; exact h
      have HL7 := hid hL7
      clear hL7
      go_roundw
      case rel =>
        refine ⟨k + 1, a7, c7, L7, by omega, by go_num, rfl, hid ?_, hid Ho7.out.sl, hc7, ?_, hid (HB.out.trans ((HB6.out.trans hb7).mono hz))⟩
        · rw [← HE.out, show n - k = (n - (k + 1)) + 1 by omega, repL, Hl7.out, HL5.out, HS.out]
        · have h1 := HL7.out
          have h2 := HPl.out
          omega
      case measure => simp [intOf]; omega
    · obtain rfl : k = n := by omega
      have b1 : decide ((k : Int) < (k : Int)) = false := decide_eq_false (by omega)
      go_wp2_with fail
      go_ret
      refine ⟨aP, cP, P, rfl, hid ?_, HP.out, hPc, by omega, HB.out⟩
      have := HE.out
      rwa [Nat.sub_self] at this
end Go.Proofs.Ytniilphbbcbpcaa
namespace Go.Proofs.Ytniilphbbcbpcaa
open Go.RowKit ReM

theorem StrAt.bel {w w' : World} {b D : Nat} {ss : List ByteArray} (h : StrAt w b ss) (hb : Below D w w') (hD : b < D) : StrAt w' b ss := fun i hi => by
  rw [World.cell?_of_block (w := w) (w' := w') (a := ⟨b, i, none⟩) (hb.block b hD)]; exact h i hi
theorem chk_at {i j n : Nat} (hi : i < ssP.length) (hj : j < ssQ.length) (hn : n < 4) : chkB (repL (strL (ssP[i]'hi)) n (strL (ssQ[j]'hj))) = true := by
  have h1 := List.all_eq_true.1 chk_all _ (List.getElem_mem hi)
  have h2 := List.all_eq_true.1 h1 _ (List.getElem_mem hj)
  exact List.all_eq_true.1 h2 n (List.mem_range.2 hn)
theorem ssP_size {i : Nat} (hi : i < ssP.length) : (ssP[i]'hi).size ≤ 10 := by
  have h : ∀ s, s ∈ ssP → s.size ≤ 10 := by unfold ssP; simp only [List.mem_cons, List.not_mem_nil, or_false]; intro s hs; rcases hs with rfl | rfl | rfl | rfl | rfl | rfl | rfl | rfl | rfl <;> decide
  exact h _ (List.getElem_mem hi)
theorem ssQ_size {i : Nat} (hi : i < ssQ.length) : (ssQ[i]'hi).size ≤ 10 := by
  have h : ∀ s, s ∈ ssQ → s.size ≤ 10 := by unfold ssQ; simp only [List.mem_cons, List.not_mem_nil, or_false]; intro s hs; rcases hs with rfl | rfl | rfl | rfl | rfl | rfl | rfl | rfl | rfl | rfl | rfl | rfl | rfl | rfl | rfl <;> decide
  exact h _ (List.getElem_mem hi)
theorem chk_s : chkB (repL [] 8 [123, 57, 125]) = true ∧ chkB (repL [] 7 [123, 48, 44, 57, 125]) = true ∧ chkB (repL [97] 2 [123, 57, 125]) = true ∧ chkB (repL [97] 3 [123, 57, 125]) = true ∧ chkB (repL [] 6 [123, 57, 44, 125]) = true := by
  have h := chk_some
  simp only [Bool.and_eq_true] at h
  exact ⟨h.1.1.1.1, h.1.1.1.2, h.1.1.2, h.1.2, h.2⟩
/-- a pattern repeated, and what is said of it -/
theorem rep9 (a : Option Addr) (c : Nat) (p : List Int) (n : Nat) (N : Int) (hN : N = n) (m : Nat) (hm : m = p.length) (s : ByteArray) (S : List Int) (hS : strL s = S) (w : World) (h : Sl w a p) (hc : p.length ≤ c) (hn : n ≤ 8) (hp : p.length ≤ 100) (hs : s.size ≤ 10) (hk : chkB (repL p n S) = true) :
    Calls Try.prog 11 #[.slice a m c, .int .i64 N, .string s] w fun e' w' => ∃ a' c' k, e' = .returned (.slice a' k c') ∧ Below w.heap.size w w' ∧ Hid (Calls Try.prog 10 #[.slice a' k c'] w' fun e w2 => e = .returned (.bool true) ∧ Below w'.heap.size w' w2) := by
  subst hN; subst hm; subst hS
  refine (repeated9_c a c p n s w h hc hn hp hs).mono ?_
  rintro _ w1 ⟨a1, c1, L, rfl, hL, s1, k1, l1, b1⟩
  exact ⟨a1, c1, L.length, rfl, b1, hid (same9_w a1 c1 L w1 s1 k1 (by omega) (by rw [hL.out]; exact hk))⟩
set_option maxRecDepth 20000 in
set_option maxHeartbeats 32000000 in
theorem rnumbers_w (W : World) : Calls Try.prog 4 #[] W fun e w' => e = .returned (.bool true) ∧ Below W.heap.size W w' := by
  have hP9 : ssP.length = 9 := rfl
  have hQ15 : ssQ.length = 15 := rfl
  have HP9 := hid hP9
  have HQ15 := hid hQ15
  clear hP9 hQ15
  go_enter Try.func4, Try.ntmps4
  go_wp2_with fail
  go_loopw [8] (fun iv wr => ∃ i : Nat, i ≤ 9 ∧ iv = .int .i64 i ∧ Hid (StrAt wr W.heap.size ssP) ∧ Hid (Below W.heap.size W wr) ∧ W.heap.size < wr.heap.size) (fun iv _ => 9 - (intOf iv).toNat)
  case atStart => exact ⟨0, by omega, rfl, hid (StrAt.new W ssP _ _ rfl), hid (by (repeat' (first | exact Below.refl _ _ | assumption | refine bdrewN ?_ _ | refine Below.drew ?_ | refine bal ?_ _ | refine bthen ?_ (by assumption)))), by simp⟩
  case round =>
    obtain ⟨i, hi, rfl, HS, HB, hz⟩ := hrel
    by_cases hi9 : i < 9
    · have hiP : i < ssP.length := by rw [HP9.out]; exact hi9
      have ck := HS.out i hiP
      have hsz := ssP_size hiP
      have Hck := hid (fun j (hj : j < ssQ.length) n (hn : n < 4) => chk_at hiP hj hn)
      have b1 : decide ((i : Int) < 9) = true := decide_eq_true (by omega)
      have W1 : IntKind.i64.wrap ((i : Int) + 1) = ((i + 1 : Nat) : Int) := by rw [IntKind.wrap_i64]; omega
      generalize ssP[i]'hiP = s at *
      go_wp2_with fail
      clear ck
      go_loopw [14] (fun jv w2 => ∃ j : Nat, j ≤ 15 ∧ jv = .int .i64 j ∧ Hid (StrAt w2 wr.heap.size ssQ) ∧ Hid (Below wr.heap.size wr w2) ∧ wr.heap.size < w2.heap.size) (fun jv _ => 15 - (intOf jv).toNat)
      case atStart => exact ⟨0, by omega, rfl, hid (StrAt.new wr ssQ _ _ rfl), hid (by (repeat' (first | exact Below.refl _ _ | assumption | refine bdrewN ?_ _ | refine Below.drew ?_ | refine bal ?_ _ | refine bthen ?_ (by assumption)))), by simp⟩
      case round =>
        obtain ⟨j, hj, rfl, HQ, HB2, hz2⟩ := hrel
        have hzz := HB2.out.size
        by_cases hj15 : j < 15
        · have hjQ : j < ssQ.length := by rw [HQ15.out]; exact hj15
          have ck := HQ.out j hjQ
          have hsr := ssQ_size hjQ
          have Hcj := hid (fun n (hn : n < 4) => Hck.out j hjQ n hn)
          have b2 : decide ((j : Int) < 15) = true := decide_eq_true (by omega)
          have W2 : IntKind.i64.wrap ((j : Int) + 1) = ((j + 1 : Nat) : Int) := by rw [IntKind.wrap_i64]; omega
          generalize ssQ[j]'hjQ = r at *
          go_wp2_with fail
          clear ck
          rename World => w2
          go_loopw [5] (fun nv w3 => ∃ n : Nat, n ≤ 4 ∧ nv = .int .i64 n ∧ Hid (Below w2.heap.size w2 w3)) (fun nv _ => 4 - (intOf nv).toNat)
          case atStart => exact ⟨0, by omega, rfl, hid (Below.refl _ _)⟩
          case round =>
            rename World => w3
            obtain ⟨n, hn, rfl, HB3⟩ := hrel
            have z3 := HB3.out.size
            by_cases hn4 : n < 4
            · have b3 : decide ((n : Int) < 4) = true := decide_eq_true (by omega)
              have W3 : IntKind.i64.wrap ((n : Int) + 1) = ((n + 1 : Nat) : Int) := by rw [IntKind.wrap_i64]; omega
              have Hc := hid (Hcj.out n hn4)
              go_wp2_with fail
              refine (plain_c s w3 (by omega)).mono ?_
              rintro _ w4 ⟨a4, c4, P, rfl, hP, o4, b4⟩
              have hPl : P.length ≤ 10 := by rw [hP.out, strL_len]; exact hsz
              have hPc : P.length ≤ c4 := by rcases o4.shape with ⟨_, _, h⟩ | ⟨_, _, _, _, h⟩; simp [h]; exact h
              have HP := hid hP.out
              have RC := hid (repeated9_c a4 c4 P n r w4 o4.sl hPc (by omega) (by omega) hsr)
              have HB4 := hid (HB3.out.trans (b4.mono z3))
              have z4 := HB4.out.size
              clear hP o4 b4 HB3 z3
              go_wp2_with fail
              refine RC.out.mono ?_
              rintro _ w5 ⟨a5, c5, R, rfl, hR, s5, hRc, hRl, b5⟩
              have SC := hid (same9_w a5 c5 R w5 s5 hRc (by omega) (by rw [hR.out, HP.out]; exact Hc.out))
              have HB5 := hid (HB4.out.trans (b5.mono z4))
              have z5 := HB5.out.size
              clear hR s5 b5 RC HB4 z4
              go_wp2_with fail
              refine SC.out.mono ?_
              rintro _ w6 ⟨rfl, b6⟩
              have HB6 := hid (HB5.out.trans (b6.mono z5))
              clear b6 SC HB5 z5
              go_wp2_with fail
              go_roundw
              case rel => exact ⟨n + 1, by omega, by go_num, HB6⟩
              case measure => simp [intOf]; omega
            · obtain rfl : n = 4 := by omega
              have b2 : decide ((j : Int) < 15) = true := decide_eq_true (by omega)
              go_wp2_with fail
              go_roundw
              case rel => exact ⟨j + 1, by omega, by go_num, hid (HQ.out.bel HB3.out hz2), hid (HB2.out.trans (HB3.out.mono hzz)), by omega⟩
              case measure => simp [intOf]; omega
        · obtain rfl : j = 15 := by omega
          go_wp2_with fail
          go_roundw
          case rel => exact ⟨i + 1, by omega, by go_num, hid (HS.out.bel HB2.out hz), hid (HB.out.trans (HB2.out.mono (by omega))), by omega⟩
          case measure => simp [intOf]; omega
    · obtain rfl : i = 9 := by omega
      have y0 := HB.out.size
      go_wp2_with fail
      refine (rep9 none 0 [] 8 8 rfl 0 rfl ⟨#[123, 57, 125]⟩ [123, 57, 125] rfl _ (Sl.nil _ _) (by simp) (by decide) (by decide) (by decide) chk_s.1).mono ?_
      rintro _ w1 ⟨a1, c1, k1, rfl, bb, SC⟩
      have B1 := hid (HB.out.trans (bb.mono y0))
      have z1 := B1.out.size
      clear bb
      go_wp2_with fail
      refine SC.out.mono ?_
      rintro _ v1 ⟨rfl, bb⟩
      have HB1 := hid (B1.out.trans (bb.mono z1))
      have y1 := HB1.out.size
      clear bb SC B1 z1
      go_wp2_with fail
      refine (rep9 none 0 [] 7 7 rfl 0 rfl ⟨#[123, 48, 44, 57, 125]⟩ [123, 48, 44, 57, 125] rfl _ (Sl.nil _ _) (by simp) (by decide) (by decide) (by decide) chk_s.2.1).mono ?_
      rintro _ w2 ⟨a2, c2, k2, rfl, bb, SC⟩
      have B2 := hid (HB1.out.trans (bb.mono y1))
      have z2 := B2.out.size
      clear bb
      go_wp2_with fail
      refine SC.out.mono ?_
      rintro _ v2 ⟨rfl, bb⟩
      have HB2 := hid (B2.out.trans (bb.mono z2))
      have y2 := HB2.out.size
      clear bb SC B2 z2
      go_wp2_with fail
      refine (rep9 (some ⟨v2.heap.size, 0, none⟩) 1 [97] 2 2 rfl 1 rfl ⟨#[123, 57, 125]⟩ [123, 57, 125] rfl _ ((Sl.lit' _ [97] _ _ (by simp) (by simp) (by simp [rng]) _ rfl)) (by simp) (by decide) (by decide) (by decide) chk_s.2.2.1).mono ?_
      rintro _ w3 ⟨a3, c3, k3, rfl, bb, SC⟩
      have B3 := hid (HB2.out.trans (Below.trans ((Below.refl _ _).alloc y2 _) (bb.mono (by simp; omega))))
      have z3 := B3.out.size
      clear bb
      go_wp2_with fail
      refine SC.out.mono ?_
      rintro _ v3 ⟨rfl, bb⟩
      have HB3 := hid (B3.out.trans (bb.mono z3))
      have y3 := HB3.out.size
      clear bb SC B3 z3
      go_wp2_with fail
      refine (rep9 (some ⟨v3.heap.size, 0, none⟩) 1 [97] 3 3 rfl 1 rfl ⟨#[123, 57, 125]⟩ [123, 57, 125] rfl _ ((Sl.lit' _ [97] _ _ (by simp) (by simp) (by simp [rng]) _ rfl)) (by simp) (by decide) (by decide) (by decide) chk_s.2.2.2.1).mono ?_
      rintro _ w4 ⟨a4, c4, k4, rfl, bb, SC⟩
      have B4 := hid (HB3.out.trans (Below.trans ((Below.refl _ _).alloc y3 _) (bb.mono (by simp; omega))))
      have z4 := B4.out.size
      clear bb
      go_wp2_with fail
      refine SC.out.mono ?_
      rintro _ v4 ⟨rfl, bb⟩
      have HB4 := hid (B4.out.trans (bb.mono z4))
      have y4 := HB4.out.size
      clear bb SC B4 z4
      go_wp2_with fail
      refine (rep9 none 0 [] 6 6 rfl 0 rfl ⟨#[123, 57, 44, 125]⟩ [123, 57, 44, 125] rfl _ (Sl.nil _ _) (by simp) (by decide) (by decide) (by decide) chk_s.2.2.2.2).mono ?_
      rintro _ w5 ⟨a5, c5, k5, rfl, bb, SC⟩
      have B5 := hid (HB4.out.trans (bb.mono y4))
      have z5 := B5.out.size
      clear bb
      go_wp2_with fail
      refine SC.out.mono ?_
      rintro _ v5 ⟨rfl, bb⟩
      have HB5 := hid (B5.out.trans (bb.mono z5))
      have y5 := HB5.out.size
      clear bb SC B5 z5
      go_wp2_with fail
      refine (known9_c v5).mono ?_
      rintro _ v6 ⟨rfl, bb⟩
      have HB6 := hid (HB5.out.trans (bb.mono y5))
      clear bb
      go_wp2_with fail
      go_ret
      exact ⟨rfl, HB6.out⟩
end Go.Proofs.Ytniilphbbcbpcaa
