/- Layer 10 in memory: New. Layer 10 in memory: All of a matcher. Layer 10: what every program answers that is one (standishlaw10.known). -/
import Derived.Test.YtefgjicegbhcaaaGreatMtB
import Derived.Test.YtefgjicegbhcaaaGreatMtC
import Derived.Test.YtefgjicegbhcaaaGreatRga
import Derived.Deep.CutBlock
import Derived.Deep.DeepCutAuto
import Derived.Deep.QuietTactic
import Derived.BigQuiet
import Derived.Test.YtefgjicegbhcaaaGreatKeepI
namespace Go.Proofs.YtefgjicegbhcaaaGreat
open Go.RowKit ReM

/-- a matcher that New makes: what it stands for -/
structure New1 (w0 w : World) (p : List Int) (fold : Bool) (M : Nat) (pa : Option Addr) (pc : Nat) (L : List Im) (G : Nat) : Prop where
  mt : Mt w M pa pc L G fold
  prog : (inss L, (0 : Int), (0 : Int)) = compW p
  made : Made (inss L) G
  Ll : L.length ≤ 300
  G9 : G ≤ 9
  new : w0.heap.size ≤ M
  grp : G = (gsL (parseW p).1).length
  pnew : ∀ ad, pa = some ad → w0.heap.size ≤ ad.block
  snew : ∀ q, q ∈ L → ∀ ad, q.sa = some ad → w0.heap.size ≤ ad.block
def NewR (w : World) (p : List Int) (fold : Bool) (e' : Ending) (w' : World) : Prop :=
  Below w.heap.size w w' ∧ ((∃ e f, compW p = ([], e, f) ∧ e ≠ 0 ∧ e' = .returned (.tuple #[.pointer none, .agg #[.int .i64 e, .int .i64 f]])) ∨
    ∃ M pa pc L G, New1 w w' p fold M pa pc L G ∧ e' = .returned (.tuple #[.pointer (some ⟨M, 0, none⟩), .agg #[.int .i64 0, .int .i64 0]]))
theorem ret_45 {fn : Func} {post : Ending → World → Prop} {at_ : Act} {w : World} {R : Nat} {e f : Int} {v : Value} (hr : fn.results = #[ResultVar.tmp 4, ResultVar.cell 5 47]) (h2 : at_.tmps[4]?.getD undef = v) (ht : at_.tmps[5]?.getD undef = .pointer (some ⟨R, 0, none⟩)) (hd : at_.defers = [])
    (h : FtC w R e f) (hp : post (.returned (.tuple #[v, .agg #[.int .i64 e, .int .i64 f]])) w) : bodyPost Tryz.prog fn post Exit.ret at_ w :=
  bodyPost_ret (v := .tuple #[v, .agg #[.int .i64 e, .int .i64 f]]) (by simp [results, hr, go_sem, h2, ht, h.c0, h.c1]) hd hp
/-- beside a block that is none of the matcher's -/
theorem Mt.kr {w w' : World} {M : Nat} {pa : Option Addr} {pc : Nat} {L : List Im} {G : Nat} {fold : Bool} (h : Mt w M pa pc L G fold) {r : Nat} (k : Kpt (fun j => j = r) w w') (hM : M ≠ r) (hp : ∀ ad, pa = some ad → ad.block ≠ r) (hs : ∀ q, q ∈ L → ∀ ad, q.sa = some ad → ad.block ≠ r) : Mt w' M pa pc L G fold :=
  ⟨k.cell h.c0 hM, k.cell h.c1 hM, k.cell h.c2 hM, h.prog.same fun ad ha hl => k.block _ hl (hp ad ha), h.cap, fun q hq => (h.sets q hq).same fun ad ha hl => k.block _ hl (hs q hq ad ha)⟩
theorem New1.kr {w0 w w' : World} {p : List Int} {fold : Bool} {M : Nat} {pa : Option Addr} {pc : Nat} {L : List Im} {G : Nat} (h : New1 w0 w p fold M pa pc L G) {r : Nat} (k : Kpt (fun j => j = r) w w') (hr : r < w0.heap.size) : New1 w0 w' p fold M pa pc L G :=
  ⟨h.mt.kr k (by have := h.new; omega) (fun ad ha => by have := h.pnew ad ha; omega) (fun q hq ad ha => by have := h.snew q hq ad ha; omega), h.prog, h.made, h.Ll, h.G9, h.new, h.grp, h.pnew, h.snew⟩
theorem New1.bel {w0 w w' : World} {p : List Int} {fold : Bool} {M : Nat} {pa : Option Addr} {pc : Nat} {L : List Im} {G : Nat} (h : New1 w0 w p fold M pa pc L G) (b : Below w.heap.size w w') : New1 w0 w' p fold M pa pc L G :=
  ⟨h.mt.bel b, h.prog, h.made, h.Ll, h.G9, h.new, h.grp, h.pnew, h.snew⟩
set_option maxRecDepth 20000 in
set_option maxHeartbeats 16000000 in
theorem new_c (a : Option Addr) (c : Nat) (p : List Int) (fold : Bool) (w : World) (h : Sl w a p) (hc : p.length ≤ c) :
    Calls Tryz.prog 18 #[.slice a p.length c, .bool fold] w (NewR w p fold) := by
  obtain ⟨V, hV⟩ : ∃ V, V = w.alloc (.cells #[.int .i64 0, .int .i64 0] 47) := ⟨_, rfl⟩
  have bV : Below w.heap.size w V := by subst hV; (repeat' (first | exact Below.refl _ _ | assumption | refine bdrewN ?_ _ | refine Below.drew ?_ | refine bal ?_ _ | refine bthen ?_ (by assumption)))
  have F0 : Hid (FtC V w.heap.size 0 0) := by subst hV; exact FtC.new _ _ _ _ _ rfl
  have zV : V.heap.size = w.heap.size + 1 := by subst hV; simp
  have HS := hid (h.bel bV)
  have Hc := hid hc
  have CC := hid (compile_c a c p V HS.out hc)
  have BV := hid bV
  have CS := hid (compW_cases p)
  clear h bV hc
  go_enter Tryz.func18, Tryz.ntmps18
  go_upto_region 1 with fail
  rw [← hV]; clear hV
  go_wp2_with fail
  refine CC.out.mono ?_
  rintro _ w1 ⟨a1, c1, L, rfl, hin, hLl, ho, hs, b1⟩
  obtain ⟨⟨pr, e, f⟩, hX⟩ : ∃ X, X = compW p := ⟨_, rfl⟩
  rw [← hX] at hin
  dsimp only at hin
  have HX := hid hX
  have HIn := hid hin
  have HLl := hid hLl
  have Ho := hid ho
  have Hs := hid hs
  have B1 := hid (BV.out.trans (b1.mono (by omega)))
  have F1 := hid (F0.out.bel b1)
  have S1 := hid (HS.out.bel b1)
  have zw1 := b1.size
  rw [← hX]
  dsimp only
  clear hX hin hLl ho hs b1 CC F0 HS
  go_upto_region 2 with fail
  obtain ⟨V2, hV2⟩ : ∃ V2, V2 = w1.alloc (.cells #[.int .i64 e, .int .i64 f] 47) := ⟨_, rfl⟩
  have G2 : Hid (FtC V2 w1.heap.size e f) := by subst hV2; exact FtC.new _ _ _ _ _ rfl
  have bV2 : Below w1.heap.size w1 V2 := by subst hV2; (repeat' (first | exact Below.refl _ _ | assumption | refine bdrewN ?_ _ | refine Below.drew ?_ | refine bal ?_ _ | refine bthen ?_ (by assumption)))
  have zV2 : V2.heap.size = w1.heap.size + 1 := by subst hV2; simp
  have F2 := hid (F1.out.bel bV2)
  have B2 := hid (B1.out.trans (bV2.mono B1.out.size))
  have S2 := hid (S1.out.bel bV2)
  have O2 := hid (Ho.out.grow bV2)
  have Q2 := hid (Hs.out.bel bV2)
  rw [← hV2]
  clear hV2 bV2 F1 B1 S1 Ho Hs
  have y0 := G2.out.c0
  have y1 := G2.out.c1
  by_cases he : e = 0
  · have b1 : (e != 0) = false := by simpa using he
    have he2 := hid he
    clear he
    have PC := hid (parse_c a c p V2 S2.out Hc.out)
    go_wp2_with fail
    refine PC.out.mono ?_
    rintro _ w3 ⟨a3, c3, T, rfl, hr3, ho3, -, -, b3⟩
    have HT := hid hr3
    have O3 := hid ho3
    have F3 := hid (F2.out.bel b3)
    have B3 := hid (B2.out.trans (b3.mono B2.out.size))
    have P3 := hid (O2.out.grow b3)
    have Q3 := hid (Q2.out.bel b3)
    have hd : ∃ e' f', (parseW p).2 = (e', f') := ⟨_, _, rfl⟩
    obtain ⟨e3, f3, hd3⟩ := hd
    rw [hd3]
    dsimp only
    have D3 := hid hd3
    have zw3 := b3.size
    clear hr3 ho3 b3 hd3 PC
    obtain ⟨V4, hV4⟩ : ∃ V4, V4 = w3.alloc (.cells #[.int .i64 e3, .int .i64 f3] 47) := ⟨_, rfl⟩
    have bV4 : Below w3.heap.size w3 V4 := by subst hV4; (repeat' (first | exact Below.refl _ _ | assumption | refine bdrewN ?_ _ | refine Below.drew ?_ | refine bal ?_ _ | refine bthen ?_ (by assumption)))
    have zV4 : V4.heap.size = w3.heap.size + 1 := by subst hV4; simp
    have F4 := hid (F3.out.bel bV4)
    have B4 := hid (B3.out.trans (bV4.mono B3.out.size))
    have P4 := hid (P3.out.grow bV4)
    have Q4 := hid (Q3.out.bel bV4)
    have O4 := hid (O3.out.grow bV4)
    have GC := hid (groups_c a3 c3 T V4 O4.out.sl)
    clear bV4 F3 B3 P3 Q3 O3 F2 B2 O2 Q2
    go_upto_region 5 with fail
    rw [← hV4]; clear hV4 y0 y1
    go_wp2_with fail
    refine GC.out.mono ?_
    rintro _ w5 ⟨rfl, b5⟩
    have F5 := hid (F4.out.bel b5)
    have B5 := hid (B4.out.trans (b5.mono B4.out.size))
    have P5 := hid (P4.out.grow b5)
    have Q5 := hid (Q4.out.bel b5)
    have zw5 := b5.size
    obtain ⟨G, hG⟩ : ∃ G, G = (gsL (rns T)).length := ⟨_, rfl⟩
    rw [← hG]
    have HG := hid hG
    clear hG b5 F4 B4 P4 Q4 GC O4
    obtain ⟨V6, hV6⟩ : ∃ V6, V6 = w5.alloc (.cells #[.slice a1 L.length c1, .int .i64 G, .bool fold] 87) := ⟨_, rfl⟩
    have bV6 : Below w5.heap.size w5 V6 := by subst hV6; (repeat' (first | exact Below.refl _ _ | assumption | refine bdrewN ?_ _ | refine Below.drew ?_ | refine bal ?_ _ | refine bthen ?_ (by assumption)))
    have zV6 : V6.heap.size = w5.heap.size + 1 := by subst hV6; simp
    have F6 := hid (F5.out.bel bV6)
    have B6 := hid (B5.out.trans (bV6.mono B5.out.size))
    have P6 := hid (P5.out.grow bV6)
    have Q6 := hid (Q5.out.bel bV6)
    have M6 : Hid (Mt V6 w5.heap.size a1 c1 L G fold) := by
      refine hid ⟨?_, ?_, ?_, P6.out.sl, P6.out.cap, fun q hq => (Q6.out.own q.key (List.mem_map_of_mem hq)).sl⟩
      · rw [hV6]; exact cell_alloc_new _ _ _ 0
      · rw [hV6]; exact cell_alloc_new _ _ _ 1
      · rw [hV6]; exact cell_alloc_new _ _ _ 2
    have f0 := F5.out.c0
    have f1 := F5.out.c1
    have f2 := F5.out.fz 0
    have f3' := F5.out.fz 1
    have z0 := B6.out.size
    have z1 := F5.out.lt
    clear bV6 F5 B5 P5 Q5
    have hcom : ((w5.setCell ⟨w.heap.size, 0, none⟩ (.int .i64 0)).setCell ⟨w.heap.size, 1, none⟩ (.int .i64 0)).alloc (.cells #[.slice a1 L.length c1, .int .i64 G, .bool fold] 87) = (V6.setCell ⟨w.heap.size, 0, none⟩ (.int .i64 0)).setCell ⟨w.heap.size, 1, none⟩ (.int .i64 0) := by
      rw [hV6, World.setCell_alloc_past _ _ _ _ (hn := z1), World.setCell_alloc_past _ _ _ _ (hn := by simpa using z1)]
    have HCom := hid hcom
    clear hcom hV6
    go_wp2_with fail
    rw [HCom.out]
    refine ret_45 Tryz.results18 rfl rfl rfl (FtC.put F6.out 0 0) ?_
    refine ⟨(B6.out.setCell (by exact Nat.le_refl _) _).setCell (by exact Nat.le_refl _) _, .inr ⟨w5.heap.size, a1, c1, L, G, ⟨?_, ?_, ?_, HLl.out, ?_, by omega, by rw [HG.out, HT.out], fun ad ha => ?_, fun q hq ad ha => ?_⟩, rfl⟩⟩
    · refine M6.out.kr (r := w.heap.size) (((Kpt.refl (fun j => j = w.heap.size) V6).setCell (p := ⟨w.heap.size, 0, none⟩) rfl _).setCell (p := ⟨w.heap.size, 1, none⟩) rfl _) (by omega) (fun ad ha => ?_) (fun q hq ad ha => ?_)
      · have := (P6.out.lt (k := ad.block) ⟨ad, ha, rfl⟩).1; omega
      · have := (Q6.out.lt (q := q.key) (List.mem_map_of_mem hq) (k := ad.block) ⟨ad, ha, rfl⟩).1; omega
    all_goals
      rcases CS.out with ⟨e', f', h1, h2⟩ | ⟨l, g, h1, h2, h3, h4, h5, -, -, h6, -⟩
      · have h3 := HX.out
        rw [h1] at h3
        simp at h3
        exact absurd he2.out (by rw [h3.2.1]; exact h2)
      · have h7 := HX.out
        rw [h6] at h7
        have h8 : pr = codeW l := by simp at h7; exact h7.1
        have h9 : rns T = l := by rw [HT.out, h1]
        have h10 : G = g := by rw [HG.out, h9, h5]; simp [upto]
        first
          | (rw [HIn.out, h8, h6])
          | (rw [HIn.out, h8, h10]; exact code_made h2 h3 h5)
          | omega
          | (have := (P6.out.lt (k := ad.block) ⟨ad, ha, rfl⟩).1; omega)
          | (have := (Q6.out.lt (q := q.key) (List.mem_map_of_mem hq) (k := ad.block) ⟨ad, ha, rfl⟩).1; omega)
  · have b1 : (e != 0) = true := by simpa using he
    have he2 := hid he
    have m0 := F2.out.c0
    have m1 := F2.out.c1
    have m2 := F2.out.fz 0
    have m3 := F2.out.fz 1
    clear he
    go_upto_region 3 with fail
    go_region
    all_goals
      go_wp2_with fail
      refine ret_45 Tryz.results18 rfl rfl rfl (FtC.put (e := 0) (f := 0) (w := V2.drew) ?_ e f) ?_
      · exact F2.out.same rfl
      · refine ⟨(B2.out.drew.setCell (by exact Nat.le_refl _) _).setCell (by exact Nat.le_refl _) _, .inl ⟨e, f, ?_, he2.out, rfl⟩⟩
        rcases CS.out with ⟨e', f', h1, h2⟩ | ⟨l, g, -, -, -, -, -, -, -, h1, -⟩
        · rw [h1] at HX ⊢
          obtain ⟨h3, h4, h5⟩ := (by simpa using HX.out : pr = [] ∧ e = e' ∧ f = f')
          rw [h4, h5]
        · have h2 := HX.out
          rw [h1] at h2
          simp at h2
          exact absurd h2.2.1 he2.out
end Go.Proofs.YtefgjicegbhcaaaGreat
namespace Go.Proofs.YtefgjicegbhcaaaGreat
open Go.RowKit ReM

/-- a slice of int among others -/
structure Lt where
  a : Option Addr
  l : List Int
  c : Nat
instance : Inhabited Lt := ⟨⟨none, [], 0⟩⟩
def encLt : Enc Lt where
  k := 1
  v := fun q => [.slice q.a q.l.length q.c]
  cap := 2199023255552
  pos := by decide
  len := fun _ => rfl
  one := fun x u h => by simp at h; subst h; rfl
theorem rec_lt {w : World} {b o : Nat} {m : Lt} (h : Rec1 encLt w b o m) : w.cell? ⟨b, o, none⟩ = some (.slice m.a m.l.length m.c) := h 0 _ rfl
theorem Tryz.infoLt : (Tryz.prog.info? 28).map (fun i => (i.zero, i.size, i.bytes)) = some (some (.slice none 0 0), 1, 24) := by kernel_rfl
theorem Tryz.tyLt : Ty Tryz.prog encLt 60 28 where
  und := by kernel_rfl
  info := ⟨_, _, Tryz.infoLt, rfl, by decide⟩
  elem := by kernel_rfl
  size := fun w => by kernel_rfl
  max := by decide
abbrev QO (w : World) (base : Nat) (a : Option Addr) (c : Nat) (Q : List Lt) : Prop := ROwn encLt 28 w base a c Q
def Lts (w : World) (B : Nat) (Q : List Lt) : Prop := ∀ q, q ∈ Q → I.Own w B q.a q.c q.l
theorem Lts.bel {w w' : World} {B : Nat} {Q : List Lt} (h : Lts w B Q) (b : Below w.heap.size w w') : Lts w' B Q := fun q hq => (h q hq).grow b
theorem Lts.beside {w w' : World} {B B2 : Nat} {Q Q2 : List Lt} (h : Lts w B Q) {a : Option Addr} {c : Nat} (ho : QO w B2 a c Q2) (k : Kpt (Blk a) w w') : Lts w' B Q := fun q hq =>
  (h q hq).same fun ad ha hl => k.block _ hl fun ⟨ae, he, hb⟩ => own_types (h q hq).1 ho.1 (by decide) (k := ad.block) (by rw [ha]; rfl) (by rw [he, ← hb]; rfl)
def AllP (w : World) (x : Fx) (e' : Ending) (w' : World) : Prop :=
  ∃ a c Q, e' = .returned (.slice a Q.length c) ∧ QO w' w.heap.size a c Q ∧ Lts w' w.heap.size Q ∧ Hid (AllR x.mc (zz x) 0 (Q.map Lt.l)) ∧ Below w.heap.size w w' ∧ Q.length ≤ 1001
set_option maxRecDepth 20000 in
set_option maxHeartbeats 16000000 in
theorem all_c10 (w : World) (x : Fx) (f : FxOk w x) (hM : Made (inss x.L) x.G) :
    Calls Tryz.prog 26 #[.pointer (some ⟨x.M, 0, none⟩), .slice x.ta x.t.length x.tc] w (AllP w x) := by
  obtain ⟨n, hn⟩ : ∃ n, n = x.t.length := ⟨_, rfl⟩
  have Hn := hid hn
  have HF := hid f
  have HM := hid hM
  have hn1 : n ≤ 1000 := by rw [hn]; exact f.tl
  rw [← hn]
  clear hn f hM
  go_enter Tryz.func26, Tryz.ntmps26
  go_wp2_with fail
  go_loopg [5, 6, 7, 8] (n + 1) (fun g qv fv _ _ wr => ∃ (f : Nat) (az : Option Addr) (cz : Nat) (Q : List Lt), g = n + 1 - f ∧ qv = .slice az Q.length cz ∧ fv = .int .i64 f ∧ f ≤ n + 1 ∧ Q.length ≤ f ∧
    Hid (QO wr w.heap.size az cz Q) ∧ Hid (Lts wr w.heap.size Q) ∧ Hid (∀ l, AllR x.mc (zz x) f l → AllR x.mc (zz x) 0 (Q.map Lt.l ++ l)) ∧ Hid (Below w.heap.size w wr))
  case atStart => exact ⟨0, none, 0, [], rfl, rfl, rfl, by omega, Nat.le_refl _, hid (ROwn.nil _ _), hid (fun q h => by cases h), hid fun l h => h, hid (Below.refl _ _)⟩
  case round =>
    obtain ⟨f, az, cz, Q, rfl, rfl, rfl, hf, hQ, HO, HL, HA, HB⟩ := hrel
    by_cases hfn : f ≤ n
    · have FC := find_c wr x (HF.out.bel HB.out) HM.out.ok f (by rw [← Hn.out]; exact hfn)
      rw [← Hn.out] at FC
      have HFC := hid FC
      clear FC
      go_wp2_with fail
      refine HFC.out.mono ?_
      rintro _ w1 ⟨b1, hor⟩
      have B1 := hid b1
      have O1 := hid (HO.out.grow b1)
      have L1 := hid (HL.out.bel b1)
      clear b1 HFC
      rcases hor with ⟨hno, rfl⟩ | ⟨r, g, c, hyes, rfl, ho⟩
      · have HN := hid hno
        clear hno
        go_wp2_with fail
        go_ret
        refine ⟨az, cz, Q, rfl, O1.out.grow (by (repeat' (first | exact Below.refl _ _ | assumption | refine bdrewN ?_ _ | refine Below.drew ?_ | refine Below.setCell ?_ (Nat.le_refl _) _ | refine bal ?_ _ | refine bthen ?_ (by assumption)))), L1.out.bel (by (repeat' (first | exact Below.refl _ _ | assumption | refine bdrewN ?_ _ | refine Below.drew ?_ | refine Below.setCell ?_ (Nat.le_refl _) _ | refine bal ?_ _ | refine bthen ?_ (by assumption)))), ?_, bthen HB.out (bthen B1.out (by (repeat' (first | exact Below.refl _ _ | assumption | refine bdrewN ?_ _ | refine Below.drew ?_ | refine Below.setCell ?_ (Nat.le_refl _) _ | refine bal ?_ _ | refine bthen ?_ (by assumption))))), by omega⟩
        have := HA.out [] (.done HN.out)
        rw [List.append_nil] at this
        exact this
      · have HY := hid hyes
        have HOr := hid ho
        obtain ⟨b, u, hb1, hb2, h1, -, -⟩ := FindR.at HM.out hyes
        have hl := h1.len
        have hr0 := h1.fst
        have hr1 := h1.snd
        rw [← Hn.out] at hr1
        clear hyes ho u h1
        have g0 := HOr.out.sl.at (i := 0) (by omega)
        obtain ⟨gb, go, hge, hgc⟩ := g0
        cases hge
        have k0 := hgc 0 (by omega)
        have k1 := hgc 1 (by omega)
        rw [Nat.zero_add] at k0 k1
        rw [hr0] at k0
        obtain ⟨q, hq⟩ : ∃ q : Nat, gt r 1 = q := ⟨(gt r 1).toNat, by omega⟩
        rw [hq] at k1 hr1
        have Hq := hid hq
        have Hr0 := hid hr0
        have Hl := hid hl
        have hlg : ∃ lr, lr = r.length := ⟨_, rfl⟩
        obtain ⟨lr, hlr⟩ := hlg
        have Hlr := hid hlr
        rw [← hlr] at hl ⊢
        have i0 : (0 : Int) < (lr : Int) := by omega
        have i1 : (1 : Int) < (lr : Int) := by omega
        have i0' : 0 < lr := by omega
        have i1' : 1 < lr := by omega
        have hbn : b ≤ n := by rw [Hn.out]; exact hb2
        have hbq : b ≤ q ∧ q ≤ n := by omega
        have nb : ¬ Blk az g := fun ⟨ad, ha, hb⟩ => own_types HOr.out.1 O1.out.1 (by decide) (k := g) rfl (by rw [ha, ← hb]; rfl)
        have KG := hid (fun w' (k : Kpt (Blk az) w1 w') => show w'.cell? ⟨g, 0, none⟩ = some (.int .i64 (b : Int)) ∧ w'.cell? ⟨g, 1, none⟩ = some (.int .i64 (q : Int)) ∧ I.Own w' w.heap.size (some ⟨g, 0, none⟩) c r ∧ Lts w' w.heap.size Q from
          ⟨k.cell k0 nb, k.cell k1 nb, (HOr.out.same fun ad ha hl => k.block _ hl (by cases ha; exact nb)).base_le HB.out.size, L1.out.beside O1.out k⟩)
        have HQ5 := hid (show Q.length ≤ 1001 from by omega)
        clear hgc hq hr0 hlr hr1 hl k0 k1 nb
        go_wp2_with ((at_builtin; go_loud (refine wpL_rapp Tryz.tyLt rfl (.tmp 19) (.tmp 21) rfl w.heap.size az (some ⟨w1.heap.size, 0, none⟩) Q.length 1 cz 1 Q [⟨some ⟨g, 0, none⟩, r, c⟩] rfl (by first | rfl | simp | omega) (O1.out.grow (by (repeat' (first | exact Below.refl _ _ | assumption | refine bdrewN ?_ _ | refine Below.drew ?_ | refine Below.setCell ?_ (Nat.le_refl _) _ | refine bal ?_ _ | refine bthen ?_ (by assumption))))) rfl (by first | rfl | simp | omega) (RSl.lit (E := encLt) w1 ⟨some ⟨g, 0, none⟩, r, c⟩ 28 w1.heap.size rfl #[.slice (some ⟨g, 0, none⟩) lr c] (by rw [Hlr.out]; rfl) (by decide)) (by have := HQ5.out; show _ ≤ 2199023255552; simp; omega) (by have := HB.out.size; have := B1.out.size; simp; omega) ?_); intro a2 c2 w2 L2 Hl2 ho2 hb2 hk2 hA2; have HA2 := hid hA2; clear hA2; have Ho2 := hid ho2; clear ho2; have Hk2 := hid hk2; clear hk2; have hz2 := hb2.size); have kg := KG.out w2 (Kpt.tr (by (repeat' (first | exact Kpt.refl _ _ | assumption | refine Kpt.drew ?_ | refine Kpt.alloc ?_ _))) Hk2.out); obtain ⟨g0, g1, gO, gL⟩ := kg)
        have B2 := hid (Below.trans (bal (bthen HB.out B1.out) _) hb2)
        have GO := hid gO
        have GL := hid gL
        have HLl := hid (show L2.length = Q.length + 1 from by rw [Hl2.out]; simp)
        clear gO gL KG O1 L1 HO HL hb2 hz2
        have fin : ∀ (w3 : World) (f' : Nat), Below w2.heap.size w2 w3 → f' = nextF r → f < f' → f' ≤ n + 1 → (∃ (f : Nat) (az : Option Addr) (cz : Nat) (Q : List Lt), n + 1 - f' = n + 1 - f ∧ (Value.slice a2 L2.length c2) = .slice az Q.length cz ∧ (Value.int .i64 (f' : Int)) = .int .i64 f ∧ f ≤ n + 1 ∧ Q.length ≤ f ∧
            Hid (QO w3 w.heap.size az cz Q) ∧ Hid (Lts w3 w.heap.size Q) ∧ Hid (∀ l, AllR x.mc (zz x) f l → AllR x.mc (zz x) 0 (Q.map Lt.l ++ l)) ∧ Hid (Below w.heap.size w w3)) := fun w3 f' hb he hlt hle => by
          refine ⟨f', a2, c2, L2, rfl, rfl, rfl, hle, by have := HLl.out; omega, hid (Ho2.out.grow hb), hid (fun q' hq' => ?_), hid fun l h => ?_, hid (B2.out.trans (hb.mono B2.out.size))⟩
          · rw [Hl2.out] at hq'
            rcases List.mem_append.1 hq' with hq' | hq'
            · exact (GL.out.bel hb) q' hq'
            · rw [List.mem_singleton.1 hq']; exact GO.out.grow hb
          · rw [Hl2.out, List.map_append, List.append_assoc]
            refine HA.out _ (.more HY.out ?_)
            rw [← he]; exact h
        have Fin := hid fin
        clear fin
        by_cases hbq0 : b = q
        · have c0 : ((b : Int) == (q : Int)) = true := by rw [beq_iff_eq]; omega
          have c1 : (b == q) = true := by simpa using hbq0
          have hnx : Hid (q + 1 = nextF r) := hid (by unfold nextF; rw [Hr0.out, Hq.out, if_pos (by omega)]; omega)
          have hlt : f < q + 1 := by omega
          have wz : IntKind.i64.wrap ((q : Int) + 1) = ((q + 1 : Nat) : Int) := by rw [IntKind.wrap_i64]; omega
          clear hbq0
          go_upto_region 8 with fail
          go_quiet (fail)
          go_wp2_with fail
          go_roundg (n + 1 - (q + 1))
          case measure => omega
          case rel =>
            obtain ⟨f0, az0, cz0, Q0, h1, h2, h3, h4⟩ := Fin.out (w2.drewN nq) (q + 1) (by (repeat' (first | exact Below.refl _ _ | assumption | refine bdrewN ?_ _ | refine Below.drew ?_ | refine Below.setCell ?_ (Nat.le_refl _) _ | refine bal ?_ _ | refine bthen ?_ (by assumption)))) hnx.out hlt (by omega)
            exact ⟨f0, az0, cz0, Q0, h1, h2, (by rw [← h3]; go_num), h4⟩
        · have c0 : ((b : Int) == (q : Int)) = false := by rw [beq_eq_false_iff_ne]; omega
          have c1 : (b == q) = false := by simpa using hbq0
          have hnx : Hid (q = nextF r) := hid (by unfold nextF; rw [Hr0.out, Hq.out, if_neg (by omega)]; omega)
          have hlt : f < q := by omega
          clear hbq0
          go_upto_region 8 with fail
          go_quiet (fail)
          go_wp2_with fail
          go_roundg (n + 1 - q)
          case measure => omega
          case rel => exact Fin.out (w2.drewN nq) q (by (repeat' (first | exact Below.refl _ _ | assumption | refine bdrewN ?_ _ | refine Below.drew ?_ | refine Below.setCell ?_ (Nat.le_refl _) _ | refine bal ?_ _ | refine bthen ?_ (by assumption)))) hnx.out hlt (by omega)
    · obtain rfl : f = n + 1 := by omega
      have FC := hid (find_far wr x.M x.ta x.tc n ((n + 1 : Nat) : Int) (.inr (by omega)) hn1)
      go_wp2_with fail
      refine FC.out.mono ?_
      rintro _ _ ⟨rfl, rfl⟩
      go_wp2_with fail
      go_ret
      refine ⟨az, cz, Q, rfl, HO.out.grow (by (repeat' (first | exact Below.refl _ _ | assumption | refine bdrewN ?_ _ | refine Below.drew ?_ | refine Below.setCell ?_ (Nat.le_refl _) _ | refine bal ?_ _ | refine bthen ?_ (by assumption)))), HL.out.bel (by (repeat' (first | exact Below.refl _ _ | assumption | refine bdrewN ?_ _ | refine Below.drew ?_ | refine Below.setCell ?_ (Nat.le_refl _) _ | refine bal ?_ _ | refine bthen ?_ (by assumption)))), ?_, bthen HB.out (by (repeat' (first | exact Below.refl _ _ | assumption | refine bdrewN ?_ _ | refine Below.drew ?_ | refine Below.setCell ?_ (Nat.le_refl _) _ | refine bal ?_ _ | refine bthen ?_ (by assumption)))), by omega⟩
      have := HA.out [] (.done (.out (by show x.t.length < _; rw [← Hn.out]; omega)))
      rw [List.append_nil] at this
      exact this
end Go.Proofs.YtefgjicegbhcaaaGreat
namespace Go.Proofs.YtefgjicegbhcaaaGreat
open Go.RowKit ReM

/-- a matcher beside a text: what a search is made for -/
theorem New1.fx {w0 w : World} {p : List Int} {fold : Bool} {M : Nat} {pa : Option Addr} {pc : Nat} {L : List Im} {G : Nat} (h : New1 w0 w p fold M pa pc L G) {w' : World} (b : Below w.heap.size w w') {ta : Option Addr} {tc : Nat} {t : List Int} (ht : Sl w' ta t) (hc : t.length ≤ tc) (hl : t.length ≤ 1000) :
    FxOk w' ⟨M, pa, pc, L, G, fold, ta, tc, t⟩ := ⟨h.mt.bel b, ht, hc, hl, h.Ll, h.G9⟩
theorem pk_G {w0 w : World} {fold : Bool} {M : Nat} {pa : Option Addr} {pc : Nat} {L : List Im} {G : Nat} (h : New1 w0 w [97, 43] fold M pa pc L G) : inss L = pK := by
  have := h.prog
  rw [comp_pk] at this
  simpa using this
theorem new_G {w0 w : World} {p : List Int} {fold : Bool} {M : Nat} {pa : Option Addr} {pc : Nat} {L : List Im} {G : Nat} (h : New1 w0 w p fold M pa pc L G) : 0 < (inss L).length := h.made.ok.pos
set_option maxRecDepth 20000 in
set_option maxHeartbeats 16000000 in
theorem known10_c (w : World) : Calls Tryz.prog 8 #[] w fun e' w' => e' = .returned (.bool true) ∧ Below w.heap.size w w' := by
  obtain ⟨V, hV⟩ : ∃ V, V = w.alloc (.cells #[.int .i32 97, .int .i32 43] 21) := ⟨_, rfl⟩
  have sV : Sl V (some ⟨w.heap.size, 0, none⟩) [97, 43] := by subst hV; exact (Sl.lit' _ [97, 43] _ _ (by simp) (by simp) (by simp [rng]) _ rfl)
  have bV : Below w.heap.size w V := by subst hV; (repeat' (first | exact Below.refl _ _ | assumption | refine bdrewN ?_ _ | refine Below.drew ?_ | refine bal ?_ _ | refine bthen ?_ (by assumption)))
  have zV : V.heap.size = w.heap.size + 1 := by subst hV; simp
  have C1 := hid (new_c (some ⟨w.heap.size, 0, none⟩) 2 [97, 43] false V sV (by simp))
  have BV := hid bV
  clear bV
  go_enter Tryz.func8, Tryz.ntmps8
  go_wp2_with fail
  rw [← hV]; clear hV sV
  refine C1.out.mono ?_
  rintro _ w1 ⟨b1, hor⟩
  have B1 := hid (BV.out.trans (b1.mono (by omega)))
  clear b1 C1
  rcases hor with ⟨e, f, h1, h2, -⟩ | ⟨M, pa, pc, L, G, hN, rfl⟩
  · rw [comp_pk] at h1
    simp only [Prod.mk.injEq] at h1
    exact absurd h1.2.1.symm h2
  have hG : G = 0 := by rw [hN.grp]; kernel_rfl
  subst hG
  have hP := pk_G hN
  have HN := hid hN
  have HP := hid hP
  have zN := hN.new
  clear hN hP zN
  obtain ⟨V2, hV2⟩ : ∃ V2, V2 = w1.alloc (.cells #[.int .i64 0, .int .i64 0] 47) := ⟨_, rfl⟩
  have F2 : FtC V2 w1.heap.size 0 0 := by rw [hV2]; exact FtC.new _ _ _ _ _ rfl
  have bV2 : Below w1.heap.size w1 V2 := by rw [hV2]; (repeat' (first | exact Below.refl _ _ | assumption | refine bdrewN ?_ _ | refine Below.drew ?_ | refine bal ?_ _ | refine bthen ?_ (by assumption)))
  have BB2 := hid bV2
  have B2 := hid (B1.out.trans (bV2.mono B1.out.size))
  have y0 := F2.c0
  clear bV2
  go_upto_region 2 with fail
  rw [← hV2]; clear hV2 B1
  obtain ⟨V3, hV3⟩ : ∃ V3, V3 = V2.alloc (.cells #[.int .i32 98, .int .i32 97, .int .i32 97] 21) := ⟨_, rfl⟩
  have sV3 : Sl V3 (some ⟨V2.heap.size, 0, none⟩) [98, 97, 97] := by subst hV3; exact (Sl.lit' _ [98, 97, 97] _ _ (by simp) (by simp) (by simp [rng]) _ rfl)
  have bV3 : Below V2.heap.size V2 V3 := by subst hV3; (repeat' (first | exact Below.refl _ _ | assumption | refine bdrewN ?_ _ | refine Below.drew ?_ | refine bal ?_ _ | refine bthen ?_ (by assumption)))
  have BB3 := hid (BB2.out.trans (bV3.mono BB2.out.size))
  have B3 := hid (B2.out.trans (bV3.mono B2.out.size))
  have C2 := hid (find_c V3 ⟨M, pa, pc, L, 0, false, some ⟨V2.heap.size, 0, none⟩, 3, [98, 97, 97]⟩ (HN.out.fx BB3.out sV3 (by simp) (by simp)) HN.out.made.ok 0 (by simp))
  clear bV3
  go_wp2_with fail
  rw [← hV3]; clear hV3 sV3 y0 B2
  refine C2.out.mono ?_
  rintro _ w4 ⟨b4, hor⟩
  have BB4 := hid (BB3.out.trans (b4.mono BB3.out.size))
  have B4 := hid (B3.out.trans (b4.mono B3.out.size))
  clear b4 C2
  rcases hor with ⟨hno, -⟩ | ⟨r, g, c, hyes, rfl, ho⟩
  · change FindR (mch (inss L) [98, 97, 97] false) [-1, -1] 0 none at hno
    rw [HP.out] at hno
    have := hno.one find_k1
    cases this
  obtain rfl : r = [1, 3] := by
    change FindR (mch (inss L) [98, 97, 97] false) [-1, -1] 0 (some r) at hyes
    rw [HP.out] at hyes
    have := hyes.one find_k1
    simpa using this
  have HO4 := hid ho
  clear hyes ho B3 BB3
  obtain ⟨V5, hV5⟩ : ∃ V5, V5 = w4.alloc (.cells #[.int .i32 97, .int .i32 98, .int .i32 97] 21) := ⟨_, rfl⟩
  have sV5 : Sl V5 (some ⟨w4.heap.size, 0, none⟩) [97, 98, 97] := by subst hV5; exact (Sl.lit' _ [97, 98, 97] _ _ (by simp) (by simp) (by simp [rng]) _ rfl)
  have bV5 : Below w4.heap.size w4 V5 := by subst hV5; (repeat' (first | exact Below.refl _ _ | assumption | refine bdrewN ?_ _ | refine Below.drew ?_ | refine bal ?_ _ | refine bthen ?_ (by assumption)))
  have BB5 := hid (BB4.out.trans (bV5.mono BB4.out.size))
  have B5 := hid (B4.out.trans (bV5.mono B4.out.size))
  have HO5 := hid (HO4.out.grow bV5)
  have C3 := hid (all_c10 V5 ⟨M, pa, pc, L, 0, false, some ⟨w4.heap.size, 0, none⟩, 3, [97, 98, 97]⟩ (HN.out.fx BB5.out sV5 (by simp) (by simp)) HN.out.made)
  clear bV5 HO4
  go_wp2_with fail
  rw [← hV5]; clear hV5 sV5 B4
  refine C3.out.mono ?_
  rintro _ w6 ⟨qa, qc, Q, rfl, hq, hl, hA, b6, -⟩
  have BB6 := hid (BB5.out.trans (b6.mono BB5.out.size))
  have B6 := hid (B5.out.trans (b6.mono B5.out.size))
  have HO6 := hid (HO5.out.grow b6)
  have HQ6 := hid hq
  have HL6 := hid hl
  have hQ : Q.map Lt.l = [[0, 1], [2, 3]] := by
    have := hA.out
    change AllR (mch (inss L) [97, 98, 97] false) [-1, -1] 0 (Q.map Lt.l) at this
    rw [HP.out] at this
    exact this.one all_k
  have HQ := hid hQ
  clear b6 C3 HO5 B5 BB5 hq hl hA hQ BB4
  obtain ⟨V7, hV7⟩ : ∃ V7, V7 = w6.alloc (.cells #[.int .i32 40] 21) := ⟨_, rfl⟩
  have sV7 : Sl V7 (some ⟨w6.heap.size, 0, none⟩) [40] := by subst hV7; exact (Sl.lit' _ [40] _ _ (by simp) (by simp) (by simp [rng]) _ rfl)
  have bV7 : Below w6.heap.size w6 V7 := by subst hV7; (repeat' (first | exact Below.refl _ _ | assumption | refine bdrewN ?_ _ | refine Below.drew ?_ | refine bal ?_ _ | refine bthen ?_ (by assumption)))
  have BB7 := hid (BB6.out.trans (bV7.mono BB6.out.size))
  have B7 := hid (B6.out.trans (bV7.mono B6.out.size))
  have HO7 := hid (HO6.out.grow bV7)
  have HQ7 := hid (HQ6.out.grow bV7)
  have HL7 := hid (HL6.out.bel bV7)
  have C4 := hid (new_c (some ⟨w6.heap.size, 0, none⟩) 1 [40] true V7 sV7 (by simp))
  clear bV7 HO6 HQ6 HL6
  go_wp2_with fail
  rw [← hV7]; clear hV7 sV7 B6 BB6
  refine C4.out.mono ?_
  rintro _ w8 ⟨b8, hor⟩
  have BB8 := hid (BB7.out.trans (b8.mono BB7.out.size))
  have B8 := hid (B7.out.trans (b8.mono B7.out.size))
  have HO8 := hid (HO7.out.grow b8)
  have HQ8 := hid (HQ7.out.grow b8)
  have HL8 := hid (HL7.out.bel b8)
  clear b8 C4 HO7 HQ7 HL7 B7 BB7
  rcases hor.symm with ⟨M2, pa2, pc2, L2, G2, hN2, -⟩ | ⟨e, f, h1, h2, rfl⟩
  · have h3 := hN2.prog
    rw [comp_par] at h3
    simp at h3
  rw [comp_par] at h1
  obtain ⟨rfl, rfl⟩ : e = 5 ∧ f = 1 := by simp only [Prod.mk.injEq, true_and] at h1; exact ⟨h1.1.symm, h1.2.symm⟩
  clear h1 h2
  obtain ⟨V9, hV9⟩ : ∃ V9, V9 = w8.alloc (.cells #[.int .i64 5, .int .i64 1] 47) := ⟨_, rfl⟩
  have F9 : FtC V9 w8.heap.size 5 1 := by rw [hV9]; exact FtC.new _ _ _ _ _ rfl
  have bV9 : Below w8.heap.size w8 V9 := by rw [hV9]; (repeat' (first | exact Below.refl _ _ | assumption | refine bdrewN ?_ _ | refine Below.drew ?_ | refine bal ?_ _ | refine bthen ?_ (by assumption)))
  have BB9 := hid (BB8.out.trans (bV9.mono BB8.out.size))
  have B9 := hid (B8.out.trans (bV9.mono B8.out.size))
  have HO9 := hid (HO8.out.grow bV9)
  have HQ9 := hid (HQ8.out.grow bV9)
  have HL9 := hid (HL8.out.bel bV9)
  have C5 := hid (find_nil V9 none 0 0 0)
  clear bV9 HO8 HQ8 HL8 B8 BB8
  go_upto_region 8 with fail
  rw [← hV9]; clear hV9
  go_wp2_with fail
  refine C5.out.mono ?_
  rintro _ _ ⟨rfl, rfl⟩
  clear C5
  obtain ⟨q0, q1, rfl⟩ : ∃ q0 q1, Q = [q0, q1] := by
    have h := congrArg List.length HQ.out
    match Q, h with
    | [q0, q1], _ => exact ⟨q0, q1, rfl⟩
  obtain ⟨a1, l1, c1⟩ := q1
  obtain rfl : l1 = [2, 3] := by have := HQ.out; simp at this; exact this.2
  have s1 := (HL9.out ⟨a1, [2, 3], c1⟩ (by simp)).sl
  obtain ⟨qb, qo, rfl, hqc⟩ := HQ9.out.sl.at (i := 1) (by simp)
  have k1 := rec_lt (hqc 1 (by simp))
  change World.cell? _ ⟨qb, qo + 1 * 1, none⟩ = some (.slice a1 2 c1) at k1
  rw [Nat.one_mul] at k1
  have f0 := F9.c0
  obtain ⟨V10, hV10⟩ : ∃ V10, V10 = V9.alloc (.cells #[.int .i64 1, .int .i64 3] 3) := ⟨_, rfl⟩
  have sV10 : I.Sl V10 (some ⟨V9.heap.size, 0, none⟩) [1, 3] := by subst hV10; exact (I.Sl.lit' _ [1, 3] _ _ (by simp) (by simp) (by simp [I.rng]) _ rfl)
  have bV10 : Below V9.heap.size V9 V10 := by subst hV10; (repeat' (first | exact Below.refl _ _ | assumption | refine bdrewN ?_ _ | refine Below.drew ?_ | refine bal ?_ _ | refine bthen ?_ (by assumption)))
  have C6 := hid (sameInts_c (some ⟨g, 0, none⟩) (some ⟨V9.heap.size, 0, none⟩) c 2 [1, 3] [1, 3] V10 (HO9.out.grow bV10).sl sV10)
  have B10 := hid bV10
  have S1 := hid s1
  clear hqc s1 HQ9 HL9 HO9
  go_wp2_with fail
  rw [← hV10]; clear hV10 sV10
  refine C6.out.mono ?_
  rintro _ _ ⟨rfl, n6, rfl⟩
  rw [eqM_self]
  have k1' : (V10.drewN n6).cell? ⟨qb, qo + 1, none⟩ = some (.slice a1 2 c1) := (bV10.cell (World.block_lt_of_cell? V9 _ k1)).trans k1
  have f0' : (V10.drewN n6).cell? ⟨w8.heap.size, 0, none⟩ = some (.int .i64 5) := (bV10.cell (World.block_lt_of_cell? V9 _ f0)).trans f0
  have B11 := hid (show Below V9.heap.size V9 (V10.drewN n6) from bdrewN B10.out n6)
  clear C6 k1 f0 F9 bV10
  generalize V10.drewN n6 = V11 at k1' f0' B11 ⊢
  obtain ⟨V12, hV12⟩ : ∃ V12, V12 = V11.alloc (.cells #[.int .i64 2, .int .i64 3] 3) := ⟨_, rfl⟩
  have sV12 : I.Sl V12 (some ⟨V11.heap.size, 0, none⟩) [2, 3] := by subst hV12; exact (I.Sl.lit' _ [2, 3] _ _ (by simp) (by simp) (by simp [I.rng]) _ rfl)
  have bV12 : Below V11.heap.size V11 V12 := by subst hV12; (repeat' (first | exact Below.refl _ _ | assumption | refine bdrewN ?_ _ | refine Below.drew ?_ | refine bal ?_ _ | refine bthen ?_ (by assumption)))
  have B12 := hid (B11.out.trans (bV12.mono B11.out.size))
  have C7 := hid (sameInts_c a1 (some ⟨V11.heap.size, 0, none⟩) c1 2 [2, 3] [2, 3] V12 (S1.out.bel B12.out) sV12)
  go_wp2_with fail
  rw [← hV12]; clear hV12 sV12
  refine C7.out.mono ?_
  rintro _ _ ⟨rfl, n7, rfl⟩
  rw [eqM_self]
  have f0'' : (V12.drewN n7).cell? ⟨w8.heap.size, 0, none⟩ = some (.int .i64 5) := (bV12.cell (World.block_lt_of_cell? V11 _ f0')).trans f0'
  have B13 := hid (show Below V9.heap.size V9 (V12.drewN n7) from bdrewN B12.out n7)
  have M13 := hid ((HN.out.mt.bel BB9.out).bel B13.out)
  clear C7 f0' k1' bV12 B12 B11 S1 B10
  generalize V12.drewN n7 = V13 at f0'' B13 M13 ⊢
  have C8 := hid (mgroups_c V13 M 0 M13.out.c1)
  have C9 := hid (mgroups_nil V13)
  have hB := hid (B9.out.trans (B13.out.mono B9.out.size))
  clear BB9 B9 B13 M13 HN HP HQ
  go_wp2_with fail
  refine C8.out.mono ?_
  rintro _ _ ⟨rfl, rfl⟩
  go_wp2_with fail
  refine C9.out.mono ?_
  rintro _ _ ⟨rfl, rfl⟩
  go_wp2_with fail
  go_ret
  exact ⟨rfl, hB.out⟩
end Go.Proofs.YtefgjicegbhcaaaGreat
