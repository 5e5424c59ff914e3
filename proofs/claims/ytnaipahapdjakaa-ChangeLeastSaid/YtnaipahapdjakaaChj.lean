/- What is kept of a list of changes: readable beside the slice that holds it; owned. SameChanges. -/
import Derived.Test.YtnaipahapdjakaaChi
namespace Go.Proofs.Ytnaipahapdjakaa
open Go.RowKit

/-- readable, and out of the way of the slice's own block -/
structure CmRd (w : World) (F : Nat → Prop) (m : Cm) : Prop where
  ok : CmOk w m
  oc : m.cut = [] ∨ Off m.ca F
  op : m.put = [] ∨ Off m.pa F
def CsRd (w : World) (a : Option Addr) (l : List Cm) : Prop := ∀ m, m ∈ l → CmRd w (Blk a) m
theorem CsRd.nil (w : World) (a : Option Addr) : CsRd w a [] := fun m hm => by cases hm
theorem CsRd.cms {w : World} {a : Option Addr} {l : List Cm} (h : CsRd w a l) : Cms w l := fun m hm => (h m hm).ok
theorem CsRd.bel {w w' : World} {a : Option Addr} {l : List Cm} (h : CsRd w a l) (hb : Below w.heap.size w w') : CsRd w' a l := fun m hm => ⟨(h m hm).ok.bel hb, (h m hm).oc, (h m hm).op⟩
theorem sl_lt {w : World} {a : Option Addr} {l : List Int} (h : Sl w a l) (hne : l ≠ []) : ∀ ad, a = some ad → ad.block < w.heap.size := by
  intro ad ha
  rcases h.cells with h0 | ⟨b, off, ha', hc⟩
  · exact absurd h0 hne
  · rw [ha'] at ha; simp only [Option.some.injEq] at ha; subst ha
    exact World.block_lt_of_cell? w _ (hc 0 (by cases l; exact absurd rfl hne; simp))
theorem sl_kept {w w' : World} {F : Nat → Prop} {a : Option Addr} {l : List Int} (h : Sl w a l) (ho : l = [] ∨ Off a F) (hk : Kpt F w w') : Sl w' a l := by
  rcases ho with h0 | ho
  · rw [h0]; exact Sl.nil _ _
  · exact h.kpt ho hk
theorem off_at {w w2 : World} {a a' : Option Addr} {s : Option Addr} {l : List Int} (h : Sl w s l) (ho : l = [] ∨ Off s (Blk a)) (hs : w.heap.size ≤ w2.heap.size) (hat : At w2 a a') : l = [] ∨ Off s (Blk a') := by
  by_cases h0 : l = []
  · exact .inl h0
  · rcases ho with h1 | ho
    · exact .inl h1
    · refine .inr fun ad ha ⟨ae, hae, he⟩ => ?_
      rcases hat ae hae with hb | hb
      · exact ho ad ha (by rw [← he]; exact hb)
      · have := sl_lt h h0 ad ha; omega
theorem off_new {w2 : World} {a a' : Option Addr} {s : Option Addr} {l : List Int} {B : Nat} (h : Sl w2 s l) (hn : l = [] ∨ ∀ ad, s = some ad → B ≤ ad.block) (ha : ∀ k, Blk a k → k < B) (hat : At w2 a a') : l = [] ∨ Off s (Blk a') := by
  by_cases h0 : l = []
  · exact .inl h0
  · rcases hn with h1 | hn
    · exact .inl h1
    · refine .inr fun ad hs ⟨ae, hae, he⟩ => ?_
      rcases hat ae hae with hb | hb
      · have := ha _ hb; have := hn ad hs; omega
      · have := sl_lt h h0 ad hs; omega
theorem off_a {a : Option Addr} {s : Option Addr} {l : List Int} {B : Nat} (hn : l = [] ∨ ∀ ad, s = some ad → B ≤ ad.block) (ha : ∀ k, Blk a k → k < B) : l = [] ∨ Off s (Blk a) := by
  rcases hn with h1 | hn
  · exact .inl h1
  · refine .inr fun ad hs hb => ?_
    have := ha _ hb; have := hn ad hs; omega
/-- one change more, behind an append -/
theorem CsRd.snoc {w w2 w3 : World} {base c : Nat} {a a' : Option Addr} {l : List Cm} {m : Cm} (h : CsRd w a l) (ho : COwn w base a c l) (hb : Below w.heap.size w w2) (hm : CmOk w2 m)
    (hc : m.cut = [] ∨ ∀ ad, m.ca = some ad → w.heap.size ≤ ad.block) (hp : m.put = [] ∨ ∀ ad, m.pa = some ad → w.heap.size ≤ ad.block) (hk : Kpt (Blk a) w2 w3) (hat : At w2 a a') : CsRd w3 a' (l ++ [m]) := by
  have ha : ∀ k, Blk a k → k < w.heap.size := fun k hk => (ho.lt hk).2
  intro x hx
  rcases List.mem_append.1 hx with hx | hx
  · have e := h x hx
    have e2 := e.ok.bel hb
    exact ⟨⟨e2.at_, sl_kept e2.cut e.oc hk, sl_kept e2.put e.op hk, e2.cc, e2.pc⟩, off_at e.ok.cut e.oc hb.size hat, off_at e.ok.put e.op hb.size hat⟩
  · simp at hx; subst hx
    exact ⟨⟨hm.at_, sl_kept hm.cut (off_a hc ha) hk, sl_kept hm.put (off_a hp ha) hk, hm.cc, hm.pc⟩, off_new hm.cut hc ha hat, off_new hm.put hp ha hat⟩

/-! ### owned: the law writes over each of them -/
structure CmOwn (w : World) (base : Nat) (m : Cm) : Prop where
  at_ : ir m.at_
  cut : Own w base m.ca m.cc m.cut
  put : Own w base m.pa m.pc m.put
  ne : Dis (Blk m.ca) (Blk m.pa)
def bk (m : Cm) : Nat → Prop := Bk2 m.ca m.pa
theorem CmOwn.ok {w : World} {base : Nat} {m : Cm} (h : CmOwn w base m) : CmOk w m := ⟨h.at_, h.cut.sl, h.put.sl, h.cut.cap, h.put.cap⟩
theorem CmOwn.lt {w : World} {base : Nat} {m : Cm} (h : CmOwn w base m) {k : Nat} (hk : bk m k) : base ≤ k ∧ k < w.heap.size := by
  rcases hk with hk | hk
  · exact h.cut.lt hk
  · exact h.put.lt hk
theorem CmOwn.kpt {w w' : World} {base : Nat} {m : Cm} {F : Nat → Prop} (h : CmOwn w base m) (hk : Kpt F w w') (hd : Dis (bk m) F) : CmOwn w' base m :=
  ⟨h.at_, h.cut.same fun ad ha hl => hk.block _ hl fun hf => hd _ (.inl ⟨ad, ha, rfl⟩) hf, h.put.same fun ad ha hl => hk.block _ hl fun hf => hd _ (.inr ⟨ad, ha, rfl⟩) hf, h.ne⟩
theorem CmOwn.grow {w w' : World} {base : Nat} {m : Cm} (h : CmOwn w base m) (hb : Below w.heap.size w w') : CmOwn w' base m := ⟨h.at_, h.cut.grow hb, h.put.grow hb, h.ne⟩
theorem CmOwn.base_le {w : World} {base base' : Nat} {m : Cm} (h : CmOwn w base m) (hb : base' ≤ base) : CmOwn w base' m := ⟨h.at_, h.cut.base_le hb, h.put.base_le hb, h.ne⟩
structure CsOwn (w : World) (base : Nat) (a : Option Addr) (l : List Cm) : Prop where
  each : ∀ m, m ∈ l → CmOwn w base m ∧ Dis (bk m) (Blk a)
  apart : l.Pairwise fun m m' => Dis (bk m) (bk m')
theorem CsOwn.nil (w : World) (base : Nat) (a : Option Addr) : CsOwn w base a [] := ⟨(fun m hm => by cases hm), List.Pairwise.nil⟩
theorem CsOwn.cms {w : World} {base : Nat} {a : Option Addr} {l : List Cm} (h : CsOwn w base a l) : Cms w l := fun m hm => (h.each m hm).1.ok
theorem CsOwn.bel {w w' : World} {base : Nat} {a : Option Addr} {l : List Cm} (h : CsOwn w base a l) (hb : Below w.heap.size w w') : CsOwn w' base a l :=
  ⟨fun m hm => ⟨(h.each m hm).1.grow hb, (h.each m hm).2⟩, h.apart⟩
theorem CsOwn.snoc {w w2 w3 : World} {base c : Nat} {a a' : Option Addr} {l : List Cm} {m : Cm} (h : CsOwn w base a l) (ho : COwn w base a c l) (hbase : base ≤ w.heap.size) (hb : Below w.heap.size w w2) (hm : CmOwn w2 w.heap.size m)
    (hk : Kpt (Blk a) w2 w3) (hat : At w2 a a') : CsOwn w3 base a' (l ++ [m]) := by
  have ha : ∀ k, Blk a k → k < w.heap.size := fun k hk => (ho.lt hk).2
  have hs := hb.size
  refine ⟨fun x hx => ?_, List.pairwise_append.2 ⟨h.apart, List.pairwise_singleton _ _, ?_⟩⟩
  · rcases List.mem_append.1 hx with hx | hx
    · obtain ⟨e, d⟩ := h.each x hx
      refine ⟨(e.grow hb).kpt hk d, fun k hk' ⟨ad, had, he⟩ => ?_⟩
      rcases hat ad had with hb' | hb'
      · exact d k hk' (by rw [← he]; exact hb')
      · have := (e.lt hk').2; omega
    · simp at hx; subst hx
      have d : Dis (bk x) (Blk a) := fun k hk' hk2 => by have := (hm.lt hk').1; have := ha k hk2; omega
      refine ⟨(hm.kpt hk d).base_le hbase, fun k hk' ⟨ad, had, he⟩ => ?_⟩
      rcases hat ad had with hb' | hb'
      · exact d k hk' (by rw [← he]; exact hb')
      · have := (hm.lt hk').2; omega
  · intro x hx y hy k hk1 hk2
    simp at hy; subst hy
    have := ((h.each x hx).1.lt hk1).2
    have := (hm.lt hk2).1
    omega

/-! ### SameChanges -/
theorem cgs_at {l m : List Cm} (h : cgs l = cgs m) {k : Nat} (hk : k < l.length) : k < m.length ∧ (cgt l k).cg = (cgt m k).cg := by
  have hl : l.length = m.length := by have := congrArg List.length h; simpa [cgs] using this
  have hk2 : k < m.length := by omega
  refine ⟨hk2, ?_⟩
  rw [← cgs_get hk, ← cgs_get hk2]
  simp [h]
set_option maxHeartbeats 4000000 in
theorem sameChanges_c (a1 a2 : Option Addr) (c1 c2 : Nat) (l m : List Cm) (w : World) (h1 : CSl w a1 l) (h2 : CSl w a2 m) (o1 : Cms w l) (o2 : Cms w m) (he : cgs l = cgs m) :
    Calls Try.prog 21 #[.slice a1 l.length c1, .slice a2 m.length c2] w fun e w' => e = .returned (.bool true) ∧ Below w.heap.size w w' := by
  have hl := h1.len
  have hm := h2.len
  have H1 := hid h1; have H2 := hid h2; have O1 := hid o1; have O2 := hid o2
  have HE := hid he
  have hlen : ((l.length : Int) != m.length) = false := by have := congrArg List.length he; simp [cgs] at this; simp [this]
  clear h1 h2 o1 o2 he
  go_enter Try.func21, Try.ntmps21
  go_wp2
  go_loopw [5] (fun i wr => ∃ k : Nat, k ≤ l.length ∧ i = .int .i64 k ∧ Below w.heap.size w wr) (fun i _ => l.length - (intOf i).toNat)
  case atStart => exact ⟨0, Nat.zero_le _, rfl, Below.refl _ _⟩
  case round =>
    obtain ⟨k, hk, rfl, hb⟩ := hrel
    by_cases hlt : k < l.length
    · obtain ⟨hlt2, e⟩ := cgs_at HE.out hlt
      obtain ⟨b, o, rfl, hcb⟩ := (H1.out.bel hb).at hlt
      obtain ⟨b', o', rfl, hcb'⟩ := (H2.out.bel hb).at hlt2
      obtain ⟨x0, x1, x2⟩ := hcb k hlt
      obtain ⟨y0, y1, y2⟩ := hcb' k hlt2
      have ok1 := (O1.out _ (cgt_mem hlt)).bel hb
      have ok2 := (O2.out _ (cgt_mem hlt2)).bel hb
      clear hcb hcb'
      generalize cgt l k = X at e x0 x1 x2 ok1
      generalize cgt m k = Y at e y0 y1 y2 ok2
      obtain ⟨i, ca, C, cc, pa, P, pc⟩ := X
      obtain ⟨i', ca', C', cc', pa', P', pc'⟩ := Y
      simp only [Cm.cg, Cg.mk.injEq] at e
      obtain ⟨rfl, rfl, rfl⟩ := e
      obtain ⟨-, s1, s2, -, -⟩ := ok1
      obtain ⟨-, s3, s4, -, -⟩ := ok2
      simp only at x0 x1 x2 y0 y1 y2 s1 s2 s3 s4
      have hS := hid (sameChange_c i ca pa ca' pa' cc pc cc' pc' C P wr.drew s1.drew s2.drew s3.drew s4.drew)
      have K : Hid (∀ w', Below wr.heap.size wr w' → w'.cell? ⟨b, o + k * 3, none⟩ = some (.int .i64 i) ∧ w'.cell? ⟨b, o + k * 3 + 1, none⟩ = some (.slice ca C.length cc) ∧ w'.cell? ⟨b, o + k * 3 + 2, none⟩ = some (.slice pa P.length pc) ∧ w'.cell? ⟨b', o' + k * 3, none⟩ = some (.int .i64 i) ∧ w'.cell? ⟨b', o' + k * 3 + 1, none⟩ = some (.slice ca' C.length cc') ∧ w'.cell? ⟨b', o' + k * 3 + 2, none⟩ = some (.slice pa' P.length pc')) := by
        intro w' hb
        have l1 := World.block_lt_of_cell? wr _ x0
        have l2 := World.block_lt_of_cell? wr _ y0
        refine ⟨?_, ?_, ?_, ?_, ?_, ?_⟩
        · rw [hb.cell (by exact l1)]; exact x0
        · rw [hb.cell (by exact l1)]; exact x1
        · rw [hb.cell (by exact l1)]; exact x2
        · rw [hb.cell (by exact l2)]; exact y0
        · rw [hb.cell (by exact l2)]; exact y1
        · rw [hb.cell (by exact l2)]; exact y2
      clear s1 s2 s3 s4
      go_wp2
      go_region_held3 (fun w' => w'.cell? ⟨b, o + k * 3, none⟩ = some (.int .i64 i) ∧ w'.cell? ⟨b, o + k * 3 + 1, none⟩ = some (.slice ca C.length cc) ∧ w'.cell? ⟨b, o + k * 3 + 2, none⟩ = some (.slice pa P.length pc) ∧ w'.cell? ⟨b', o' + k * 3, none⟩ = some (.int .i64 i) ∧ w'.cell? ⟨b', o' + k * 3 + 1, none⟩ = some (.slice ca' C.length cc') ∧ w'.cell? ⟨b', o' + k * 3 + 2, none⟩ = some (.slice pa' P.length pc')) (first | assumption | exact ⟨by assumption, by assumption, by assumption, by assumption, by assumption, by assumption⟩ | go_keep)
        (first | (go_at_call 28; refine hS.out.mono ?_; rintro e w3 ⟨rfl, hb3⟩; have hx3 : Below wr.heap.size wr w3 := bthen (Below.refl _ _).drew hb3; have kk := K.out _ hx3; obtain ⟨z0, z1, z2, z3, z4, z5⟩ := kk))
      go_wp2
      go_roundw
      case rel => exact ⟨k + 1, by omega, by go_num, bthen hb hx3⟩
      case measure => simp [intOf]; omega
    · go_wp2
      go_ret
      exact ⟨rfl, hb⟩
end Go.Proofs.Ytnaipahapdjakaa
