/- Package standishkeep: the tape's snippets: num, name, formed, Body: new, of bounded length. -/
import Derived.Test.YtefgjicegbhcaaaTpf
import Derived.Test.YtefgjicegbhcaaaPlb
namespace Go.Proofs.Ytefgjicegbhcaaa
open Go.RowKit

/-- what is written so far: owned, not longer than N; the tape is the one that it was -/
structure BodS (w : World) (p : Nat) (a : Option Addr) (l : List Int) (c N : Nat) (aO : Option Addr) (cO : Nat) (O : List Int) (w' : World) : Prop where
  own : Own w' w.heap.size aO cO O
  len : O.length ≤ N
  tape : ∃ i, TapeAt w' p a l c i
  kpt : Kpt (fun k => k = p) w w'
/-- what a maker gives: a new text, not longer than K -/
def BodR (w : World) (p : Nat) (a : Option Addr) (l : List Int) (c K : Nat) (e' : Ending) (w' : World) : Prop :=
  ∃ a2 c2 L, e' = .returned (.slice a2 L.length c2) ∧ Own w' w.heap.size a2 c2 L ∧ L.length ≤ K ∧ (∃ i, TapeAt w' p a l c i) ∧ Kpt (fun k => k = p) w w'
theorem BodS.alloc {w : World} {p : Nat} {a : Option Addr} {l : List Int} {c N : Nat} {aO : Option Addr} {cO : Nat} {O : List Int} {w' : World} (h : BodS w p a l c N aO cO O w') (o : Obj) : BodS w p a l c N aO cO O (w'.alloc o) := by
  obtain ⟨i, ht⟩ := h.tape
  exact ⟨h.own.alloc o, h.len, ⟨i, ht.below ((Below.refl _ _).alloc (Nat.le_refl _) o) ht.lt⟩, h.kpt.alloc o⟩
theorem BodS.call {w : World} {p : Nat} {a : Option Addr} {l : List Int} {c N : Nat} {aO : Option Addr} {cO : Nat} {O : List Int} {w1 w2 : World} (h : BodS w p a l c N aO cO O w1) (ht : ∃ i, TapeAt w2 p a l c i) (hk : Kpt (fun k => k = p) w1 w2) (hp : p < w.heap.size) : BodS w p a l c N aO cO O w2 :=
  ⟨h.own.kr hk hp, h.len, ht, h.kpt.tr hk⟩
theorem BodS.sl {w : World} {p : Nat} {a : Option Addr} {l : List Int} {c N : Nat} {aO : Option Addr} {cO : Nat} {O : List Int} {w1 : World} (h : BodS w p a l c N aO cO O w1) (hp : p < w.heap.size) (hS : ∀ w', Below p w w' → I.Sl w' a l) : ∀ w', Below p w1 w' → I.Sl w' a l :=
  fun w' hb => hS w' ((h.kpt.belowp (by omega)).trans hb)
/-- append to what is written -/
theorem wpL_bodx {w0 w : World} {p : Nat} {a : Option Addr} {l : List Int} {c N : Nat} {ops : Array Oper} {rest : List Oper} {o : Oper} {at_ : Act} {Q : Exit → Act → World → Prop} (K : Nat) (hgd : o.guard = none) (s x : Operand)
    (ho : o.op = .call { callee := .builtin .append, args := #[s, x], argTypes := #[22, 22] })
    (aO a2 : Option Addr) (n n2 cO c2 : Nat) (O L2 : List Int) (hs : at_.eval s = .slice aO n cO) (hn : n = O.length) (B : BodS w0 p a l c N aO cO O w)
    (hx : at_.eval x = .slice a2 n2 c2) (hn2 : n2 = L2.length) (h2 : Sl w a2 L2) (hK : L2.length ≤ K) (hb : N + K ≤ 35184372088832) (hp : p < w0.heap.size)
    (h : ∀ a' c' w' L, BodS w0 p a l c (N + K) a' c' L w' → Kpt (Blk aO) w w' → At w aO a' → wpList Try.prog ops Q rest (at_.put o.dst (.slice a' L.length c')) w') : wpList Try.prog ops Q (o :: rest) at_ w := by
  refine wpL_appn hgd s x ho w0.heap.size aO a2 n n2 cO c2 O L2 hs hn B.own hx hn2 h2 (by have := B.len; omega) B.kpt.size ?_
  intro a' c' w' L hL ho' hbel hk hat
  refine h a' c' w' L ⟨ho', by rw [hL.out, List.length_append]; have := B.len; omega, ?_, B.kpt.bel hbel (Nat.le_refl _)⟩ hk hat
  obtain ⟨i, ht⟩ := B.tape
  exact ⟨i, ht.below hbel hp⟩
/-- append to what is written -/
theorem wpL_bod {w0 w : World} {p : Nat} {a : Option Addr} {l : List Int} {c N : Nat} {ops : Array Oper} {rest : List Oper} {o : Oper} {at_ : Act} {Q : Exit → Act → World → Prop} (K : Nat) (hgd : o.guard = none) (s x : Operand)
    (ho : o.op = .call { callee := .builtin .append, args := #[s, x], argTypes := #[22, 22] })
    (aO a2 : Option Addr) (n n2 cO c2 : Nat) (O L2 : List Int) (hs : at_.eval s = .slice aO n cO) (hn : n = O.length) (B : BodS w0 p a l c N aO cO O w)
    (hx : at_.eval x = .slice a2 n2 c2) (hn2 : n2 = L2.length) (h2 : Sl w a2 L2) (hK : L2.length ≤ K) (hb : N + K ≤ 35184372088832) (hp : p < w0.heap.size)
    (h : ∀ a' c' w' L, BodS w0 p a l c (N + K) a' c' L w' → wpList Try.prog ops Q rest (at_.put o.dst (.slice a' L.length c')) w') : wpList Try.prog ops Q (o :: rest) at_ w :=
  wpL_bodx K hgd s x ho aO a2 n n2 cO c2 O L2 hs hn B hx hn2 h2 hK hb hp fun a' c' w' L h1 _ _ => h a' c' w' L h1

def ssNum : List ByteArray := [⟨#[49]⟩, ⟨#[50]⟩, ⟨#[51]⟩, ⟨#[48]⟩, ⟨#[49]⟩, ⟨#[50]⟩, ⟨#[48, 55]⟩]
def ssNam : List ByteArray := [⟨#[84, 77, 95, 83, 69, 76, 69, 67, 84, 69, 68, 95, 84, 69, 88, 84]⟩, ⟨#[84, 77, 95, 67, 85, 82, 82, 69, 78, 84, 95, 87, 79, 82, 68]⟩, ⟨#[84, 77, 95, 76, 73, 78, 69, 95, 78, 85, 77, 66, 69, 82]⟩, ⟨#[82, 65, 78, 68, 79, 77]⟩, ⟨#[85, 85, 73, 68]⟩, ⟨#[67, 76, 73, 80, 66, 79, 65, 82, 68]⟩, ⟨#[67, 85, 82, 82, 69, 78, 84, 95, 89, 69, 65, 82, 95, 83, 72, 79, 82, 84]⟩, ⟨#[84, 77, 95, 70, 73, 76, 69, 78, 65, 77, 69, 95, 66, 65, 83, 69]⟩, ⟨#[110, 111, 116, 104, 105, 110, 103]⟩, ⟨#[82, 65, 78, 68, 79, 77, 95, 72, 69, 88]⟩, ⟨#[67, 85, 82, 82, 69, 78, 84, 95, 68, 65, 89, 95, 78, 65, 77, 69]⟩]
def ssFlg : List ByteArray := [⟨#[]⟩, ⟨#[103]⟩, ⟨#[105]⟩, ⟨#[103, 105]⟩, ⟨#[105, 103]⟩, ⟨#[]⟩]
def ssTxt : List ByteArray := [⟨#[97]⟩, ⟨#[98, 99]⟩, ⟨#[32]⟩, ⟨#[40]⟩, ⟨#[10]⟩, ⟨#[120, 10, 32, 32, 121]⟩, ⟨#[92, 36]⟩, ⟨#[92, 125]⟩, ⟨#[92]⟩, ⟨#[95]⟩]
def ssClo : List ByteArray := [⟨#[125]⟩, ⟨#[125]⟩, ⟨#[125]⟩, ⟨#[125]⟩, ⟨#[]⟩]
def ssCho : List ByteArray := [⟨#[124, 97, 44, 98, 124, 125]⟩, ⟨#[124, 120, 44, 44, 121, 122, 124, 125]⟩, ⟨#[124, 97, 92, 44, 98, 124, 125]⟩, ⟨#[124, 97]⟩, ⟨#[124, 124, 125]⟩]
def ssOdd : List ByteArray := [⟨#[125]⟩, ⟨#[36, 123]⟩, ⟨#[36]⟩, ⟨#[36, 123, 49]⟩, ⟨#[36, 123, 49, 47, 97]⟩, ⟨#[124]⟩, ⟨#[58]⟩, ⟨#[36, 123, 97, 32, 98, 125]⟩, ⟨#[36, 49, 48, 48, 48]⟩]
/-- one of some texts, none longer than K -/
theorem one_r (K : Nat) (ss : List ByteArray) (cs : Array Value) (T : TypeId) (n m : Nat) (p : Nat) (a : Option Addr) (l : List Int) (c b : Nat) (w : World) (ht : ∃ i, TapeAt w p a l c i) (hS : ∀ w', Below p w w' → I.Sl w' a l) (hb : b = w.heap.size) (hcs : cs = (ss.map Value.string).toArray) (hn : n = ss.length) (h0 : 0 < ss.length) (hl : ss.length ≤ 1000) (hK : ∀ s, s ∈ ss → s.size ≤ K) (hK2 : K ≤ 1000) :
    Calls Try.prog 17 #[.pointer (some ⟨p, 0, none⟩), .slice (some ⟨b, 0, none⟩) n m] (w.alloc (.cells cs T)) (BodR w p a l c K) := by
  refine (one_a ss cs T n m p a l c b w ht hS hb hcs hn h0 hl (fun s hs => Nat.le_trans (hK s hs) hK2)).mono ?_
  rintro e' w' ⟨s, a2, c2, L, hs, he, hL, ho, hti, hk⟩
  exact ⟨a2, c2, L, he, ho, by rw [hL.out, strL_len]; exact hK s hs, hti, hk⟩

set_option maxRecDepth 20000 in
set_option maxHeartbeats 4000000 in
theorem tnum_c (p : Nat) (a : Option Addr) (l : List Int) (c : Nat) (w : World) (ht : ∃ i, TapeAt w p a l c i) (hS : ∀ w', Below p w w' → I.Sl w' a l) :
    Calls Try.prog 18 #[.pointer (some ⟨p, 0, none⟩)] w (BodR w p a l c 2) := by
  have HS := hid hS
  have HT := hid ht
  clear hS ht
  go_enter Try.func18, Try.ntmps18
  go_wp2_with fail
  refine (one_r 2 ssNum _ _ _ _ p a l c _ w HT.out HS.out rfl rfl rfl (by decide) (by decide) (by decide) (by decide)).mono ?_
  rintro _ w1 ⟨a2, c2, L, rfl, ho, hL, ht, hk⟩
  have HO := hid ho
  have HK := hid hk
  have HT1 := hid ht
  clear ho hk ht
  go_wp2_with fail
  go_ret
  exact ⟨a2, c2, L, rfl, HO.out, hL, HT1.out, HK.out⟩

set_option maxRecDepth 20000 in
set_option maxHeartbeats 4000000 in
theorem tname_c (p : Nat) (a : Option Addr) (l : List Int) (c : Nat) (w : World) (ht : ∃ i, TapeAt w p a l c i) (hS : ∀ w', Below p w w' → I.Sl w' a l) :
    Calls Try.prog 20 #[.pointer (some ⟨p, 0, none⟩)] w (BodR w p a l c 18) := by
  have HS := hid hS
  have HT := hid ht
  clear hS ht
  go_enter Try.func20, Try.ntmps20
  go_wp2_with fail
  refine (one_r 18 ssNam _ _ _ _ p a l c _ w HT.out HS.out rfl rfl rfl (by decide) (by decide) (by decide) (by decide)).mono ?_
  rintro _ w1 ⟨a2, c2, L, rfl, ho, hL, ht, hk⟩
  have HO := hid ho
  have HK := hid hk
  have HT1 := hid ht
  clear ho hk ht
  go_wp2_with fail
  go_ret
  exact ⟨a2, c2, L, rfl, HO.out, hL, HT1.out, HK.out⟩

theorem pat_r {w : World} {p : Nat} {a : Option Addr} {l : List Int} {c d : Nat} {e' : Ending} {w' : World} (h : PatE w p a l c d e' w') : BodR w p a l c (3 * rndP d) e' w' := by
  obtain ⟨a2, c2, L, he, ho, _, hl, ht, hk⟩ := h
  exact ⟨a2, c2, L, he, ho, hl, ht, hk⟩
theorem fmt_r {w : World} {p : Nat} {a : Option Addr} {l : List Int} {c : Nat} {e' : Ending} {w' : World} (h : FmtE w p a l c e' w') : BodR w p a l c 60 e' w' := by
  obtain ⟨a2, c2, L, he, ho, hl, ht, hk⟩ := h
  exact ⟨a2, c2, L, he, ho, hl, ht, hk⟩
set_option maxRecDepth 20000 in
set_option maxHeartbeats 16000000 in
theorem formed_c (p : Nat) (a : Option Addr) (l : List Int) (c : Nat) (w : World) (ht : ∃ i, TapeAt w p a l c i) (hS : ∀ w', Below p w w' → I.Sl w' a l) :
    Calls Try.prog 19 #[.pointer (some ⟨p, 0, none⟩)] w (BodR w p a l c 490) := by
  have HS := hid hS
  have hplt : p < w.heap.size := by obtain ⟨i, h⟩ := ht; exact h.lt
  have B0 : Hid (BodS w p a l c 1 (some ⟨w.heap.size, 0, none⟩) 1 [47] (w.alloc (.cells #[.int .i32 47] 21))) := by
    obtain ⟨i, h⟩ := ht
    exact ⟨Own.lit' w [47] _ _ _ rfl (Nat.le_refl _) (by decide) (by simp [rng]) _ rfl rfl, by decide, ⟨i, h.below ((Below.refl _ _).alloc (Nat.le_refl _) _) h.lt⟩, (Kpt.refl _ _).alloc _⟩
  clear hS ht
  go_enter Try.func19, Try.ntmps19
  go_wp2_with fail
  generalize hV : w.alloc (.cells #[.int .i32 47] 21) = V at *
  refine ((pattern_all p a l c 1 (by decide) V B0.out.tape (B0.out.sl hplt HS.out)).mono fun _ _ h => pat_r h).mono ?_
  rintro _ w1 ⟨m1, d1, M1, rfl, ho1, hM1, ht1, hk1⟩
  have B1 := hid (B0.out.call ht1 hk1 hplt)
  have O1 := hid ho1
  have hM1' : M1.length ≤ 420 := hM1
  have hz1 : V.heap.size ≤ w1.heap.size := hk1.size
  have hzV : w.heap.size < V.heap.size := by rw [← hV]; simp
  clear ho1 ht1 hk1 hM1 B0 hV
  go_wp2_with fail
  go_loopw [3, 5, 10] (fun ov _ iv wr => ∃ (k : Nat) (aO : Option Addr) (cO : Nat) (O : List Int), k ≤ M1.length ∧ iv = .int .i64 k ∧ ov = .slice aO O.length cO ∧ Hid (BodS w p a l c (1 + k) aO cO O wr) ∧ Hid (Sl wr m1 M1) ∧ Hid (∀ ad, m1 = some ad → ad.block < wr.heap.size ∧ ¬ Blk aO ad.block)) (fun _ _ iv _ => M1.length - (intOf iv).toNat)
  case atStart => 
    refine ⟨0, _, _, [47], Nat.zero_le _, rfl, rfl, B1, hid O1.out.sl, hid fun ad had => ?_⟩
    have h1 := O1.out.1.lt ad.block (by rw [had]; rfl)
    refine ⟨h1.2, ?_⟩
    rintro ⟨ad', e1, e2⟩
    simp only [Option.some.injEq] at e1
    subst e1
    simp only at e2
    omega
  case round =>
    obtain ⟨k, aO, cO, O, hk, rfl, rfl, B2, S2, D2⟩ := hrel
    by_cases hlt : k < M1.length
    · obtain ⟨b, o, rfl, hc⟩ := S2.out.at hlt
      have ck := hc k hlt
      have hr := rng_gt S2.out.rng hlt
      have hd := D2.out _ rfl
      clear hc
      go_wp2_with (at_builtin; refine wpL_bodx 1 rfl (.tmp 14) (.tmp 16) rfl aO _ O.length 1 cO _ O [gt M1 k] rfl rfl (B2.out.alloc _) rfl rfl (Sl.lit' _ [gt M1 k] _ _ (by simp) (by simp) (rng_one hr) _ rfl) (by simp) (by omega) hplt ?_; intro a5 c5 w5 L5 hB5 hK5 hA5; have B5 := hid hB5; have K5 := hid hK5; have A5 := hid hA5; clear hB5 hK5 hA5)
      go_roundw
      case rel =>
        refine ⟨k + 1, a5, c5, L5, by omega, by go_num, rfl, B5, hid ((S2.out.alloc _).kpt (fun ad had => by simp only [Option.some.injEq] at had; subst had; exact hd.2) K5.out), hid fun ad had => ?_⟩
        simp only [Option.some.injEq] at had
        subst had
        have z5 := K5.out.size
        simp only [World.size_alloc] at z5
        refine ⟨by have := hd.1; omega, ?_⟩
        rintro ⟨ad', e1, e2⟩
        rcases A5.out ad' e1 with h1 | h1
        · rw [e2] at h1; exact hd.2 h1
        · simp only [World.size_alloc] at h1; have := hd.1; omega
      case measure => simp [intOf]; omega
    · have B3 := hid (show BodS w p a l c 421 aO cO O wr from ⟨B2.out.own, by have := B2.out.len; omega, B2.out.tape, B2.out.kpt⟩)
      clear B2 S2
      go_wp2_with (first | (at_builtin; refine wpL_bod 1 rfl (.tmp 19) (.tmp 20) rfl aO _ O.length 1 cO _ O [47] rfl rfl (B3.out.alloc _) rfl rfl (Sl.lit' _ [47] _ _ (by simp) (by simp) (by simp [rng]) _ rfl) (by simp) (by omega) hplt ?_; intro a11 c11 w11 L11 hB11; have B11 := hid hB11; clear hB11))
      refine ((fun a1 a2 => (format_c p a l c w11 a1 a2).mono fun _ _ h => fmt_r h) B11.out.tape (B11.out.sl hplt HS.out)).mono ?_
      rintro _ w12 ⟨m12, d12, M12, rfl, ho12, hM12, ht12, hk12⟩
      have B12 := hid (B11.out.call ht12 hk12 hplt)
      have S12 := hid ho12.sl
      clear ho12 ht12 hk12 B11
      go_wp2_with (first | (at_builtin; refine wpL_bod 60 rfl (.tmp 21) (.tmp 23) rfl a11 m12 L11.length M12.length c11 d12 L11 M12 rfl rfl B12.out rfl rfl S12.out hM12 (by omega) hplt ?_; intro a13 c13 w13 L13 hB13; have B13 := hid hB13; clear hB13) | (at_builtin; refine wpL_bod 1 rfl (.tmp 25) (.tmp 26) rfl a13 _ L13.length 1 c13 _ L13 [47] rfl rfl (B13.out.alloc _) rfl rfl (Sl.lit' _ [47] _ _ (by simp) (by simp) (by simp [rng]) _ rfl) (by simp) (by omega) hplt ?_; intro a14 c14 w14 L14 hB14; have B14 := hid hB14; clear hB14))
      refine (one_r 2 ssFlg _ _ _ _ p a l c _ w14 B14.out.tape (B14.out.sl hplt HS.out) rfl rfl rfl (by decide) (by decide) (by decide) (by decide)).mono ?_
      rintro _ w15 ⟨m15, d15, M15, rfl, ho15, hM15, ht15, hk15⟩
      have B15 := hid (B14.out.call ht15 hk15 hplt)
      have S15 := hid ho15.sl
      clear ho15 ht15 hk15 B14
      go_wp2_with (first | (at_builtin; refine wpL_bod 2 rfl (.tmp 28) (.tmp 31) rfl a14 m15 L14.length M15.length c14 d15 L14 M15 rfl rfl B15.out rfl rfl S15.out hM15 (by omega) hplt ?_; intro a16 c16 w16 L16 hB16; have B16 := hid hB16; clear hB16))
      go_ret
      exact ⟨_, _, _, rfl, B16.out.own, by have := B16.out.len; omega, B16.out.tape, B16.out.kpt⟩

/-- a round's bound -/
def rndB : Nat → Nat
  | 0 => 520
  | d + 1 => 4 * rndB d + 40
theorem rndB_ge (d : Nat) : 520 ≤ rndB d := by induction d with | zero => decide | succ d ih => simp only [rndB]; omega
theorem rndB_le {d : Nat} (h : d ≤ 3) : rndB d ≤ 40000 := by
  rcases d with _ | _ | _ | _ | d <;> first | decide | omega
def BodIH (p : Nat) (a : Option Addr) (l : List Int) (c d : Nat) : Prop := ∀ (w : World), (∃ i, TapeAt w p a l c i) → (∀ w', Below p w w' → I.Sl w' a l) → Calls Try.prog 7 #[.pointer (some ⟨p, 0, none⟩), .int .i64 d] w (BodR w p a l c (4 * rndB d))
theorem next_r (p : Nat) (a : Option Addr) (l : List Int) (c n : Nat) (w : World) (ht : ∃ i, TapeAt w p a l c i) (hS : ∀ w', Below p w w' → I.Sl w' a l) (hn : 0 < n) (hn2 : n ≤ 100000) :
    Calls Try.prog 16 #[.pointer (some ⟨p, 0, none⟩), .int .i64 n] w fun e w' => ∃ v : Nat, v < n ∧ e = .returned (.int .i64 v) ∧ (∃ i, TapeAt w' p a l c i) ∧ Kpt (fun k => k = p) w w' := by
  obtain ⟨i, ht⟩ := ht
  exact next_c p a l c i n w ht (hS w (Below.refl _ _)) hn hn2
set_option maxRecDepth 20000 in
set_option maxHeartbeats 60000000 in
theorem body_t (p : Nat) (a : Option Addr) (l : List Int) (c d : Nat) (hd : d ≤ 3) (IH : ∀ d', d = d' + 1 → BodIH p a l c d') : BodIH p a l c d := by
  intro w ht hS
  have HS := hid hS
  have hplt : p < w.heap.size := by obtain ⟨i, h⟩ := ht; exact h.lt
  obtain ⟨R, hR⟩ : ∃ R, R = rndB d := ⟨_, rfl⟩
  have hR1 : 520 ≤ R := by rw [hR]; exact rndB_ge d
  have hR2 : R ≤ 40000 := by rw [hR]; exact rndB_le hd
  have IHd : Hid (∀ d', d = d' + 1 → BodIH p a l c d' ∧ 4 * rndB d' + 40 ≤ R) := hid fun d' e => ⟨IH d' e, by rw [hR, e]; simp only [rndB]; omega⟩
  rw [← hR]
  have N1 := hid (next_r p a l c 4 w ht hS (by omega) (by omega))
  clear hR IH ht hS
  go_enter Try.func7, Try.ntmps7
  go_wp2_with fail
  refine N1.out.mono ?_
  rintro _ w0 ⟨v0, hv0, rfl, ht0, hk0⟩
  have B0 : Hid (BodS w p a l c 0 none 0 [] w0) := hid ⟨Own.nil _ _, by simp, ht0, hk0⟩
  have hn0 : IntKind.i64.wrap (1 + (v0 : Int)) = ((v0 + 1 : Nat) : Int) := by rw [IntKind.wrap_i64]; omega
  clear ht0 hk0 N1
  go_wp2_with fail
  go_loopw [5, 6] (fun ov nv wr => ∃ (g : Nat) (aO : Option Addr) (cO : Nat) (O : List Int) (N : Nat), nv = .int .i64 g ∧ ov = .slice aO O.length cO ∧ g ≤ 4 ∧ Hid (N + R * g ≤ 4 * R) ∧ Hid (BodS w p a l c N aO cO O wr)) (fun _ nv _ => (intOf nv).toNat)
  case atStart => exact ⟨v0 + 1, none, 0, [], 0, by first | rfl | go_num, rfl, by omega, hid (by rw [Nat.zero_add, Nat.mul_comm 4 R]; exact Nat.mul_le_mul_left R (by omega)), B0⟩
  case round =>
    obtain ⟨g, aO, cO, O, N, rfl, rfl, hg, HN, B0⟩ := hrel
    cases g with
    | zero =>
      have b1 : decide ((0 : Int) < ((0 : Nat) : Int)) = false := by decide
      go_wp2_with fail
      go_ret
      exact ⟨aO, cO, O, rfl, B0.out.own, by have := B0.out.len; have := HN.out; omega, B0.out.tape, B0.out.kpt⟩
    | succ g =>
      have b1 : decide ((0 : Int) < ((g + 1 : Nat) : Int)) = true := decide_eq_true (by omega)
      have hNX : N + R * g + R ≤ 4 * R := by have := HN.out; rw [Nat.mul_succ] at this; omega
      have hN4 : N ≤ 160000 := by omega
      have HX := hid hNX
      have N2 := hid (next_r p a l c 12 wr B0.out.tape (B0.out.sl hplt HS.out) (by omega) (by omega))
      clear hNX HN
      go_wp2_with fail
      refine N2.out.mono ?_
      rintro _ w1 ⟨v, hv, rfl, ht1, hk1⟩
      have B1 := hid (B0.out.call ht1 hk1 hplt)
      clear ht1 hk1 N2 B0
      rcases (show v = 0 ∨ v = 1 ∨ v = 2 ∨ v = 3 ∨ v = 4 ∨ v = 5 ∨ v = 6 ∨ v = 7 ∨ v = 8 ∨ v = 9 ∨ v = 10 ∨ v = 11 by omega) with rfl | rfl | rfl | rfl | rfl | rfl | rfl | rfl | rfl | rfl | rfl | rfl
      · go_wp2_with fail
        refine (one_r 5 ssTxt _ _ _ _ p a l c _ w1 B1.out.tape (B1.out.sl hplt HS.out) rfl rfl rfl (by decide) (by decide) (by decide) (by decide)).mono ?_
        rintro _ w21 ⟨m21, d21, M21, rfl, ho21, hM21, ht21, hk21⟩
        have B21 := hid (B1.out.call ht21 hk21 hplt)
        have S21 := hid ho21.sl
        clear ho21 ht21 hk21 B1
        go_wp2_with (first | (at_builtin; refine wpL_bod 5 rfl (.tmp 38) (.tmp 41) rfl aO m21 O.length M21.length cO d21 O M21 rfl rfl B21.out rfl rfl S21.out hM21 (by omega) hplt ?_; intro a22 c22 w22 L22 hB22; have B22 := hid hB22; clear hB22))
        go_roundw
        case rel => exact ⟨g, a22, c22, L22, _, by go_num, rfl, by omega, hid (by have := HX.out; omega), B22⟩
        case measure => first | (simp [intOf]; done) | (simp [intOf]; omega)
      · go_wp2_with fail
        refine (one_r 5 ssTxt _ _ _ _ p a l c _ w1 B1.out.tape (B1.out.sl hplt HS.out) rfl rfl rfl (by decide) (by decide) (by decide) (by decide)).mono ?_
        rintro _ w21 ⟨m21, d21, M21, rfl, ho21, hM21, ht21, hk21⟩
        have B21 := hid (B1.out.call ht21 hk21 hplt)
        have S21 := hid ho21.sl
        clear ho21 ht21 hk21 B1
        go_wp2_with (first | (at_builtin; refine wpL_bod 5 rfl (.tmp 38) (.tmp 41) rfl aO m21 O.length M21.length cO d21 O M21 rfl rfl B21.out rfl rfl S21.out hM21 (by omega) hplt ?_; intro a22 c22 w22 L22 hB22; have B22 := hid hB22; clear hB22))
        go_roundw
        case rel => exact ⟨g, a22, c22, L22, _, by go_num, rfl, by omega, hid (by have := HX.out; omega), B22⟩
        case measure => first | (simp [intOf]; done) | (simp [intOf]; omega)
      · go_wp2_with (first | (at_builtin; refine wpL_bod 1 rfl (.tmp 45) (.tmp 46) rfl aO _ O.length 1 cO _ O [36] rfl rfl (B1.out.alloc _) rfl rfl (Sl.lit' _ [36] _ _ (by simp) (by simp) (by simp [rng]) _ rfl) (by simp) (by omega) hplt ?_; intro a21 c21 w21 L21 hB21; have B21 := hid hB21; clear hB21))
        refine (tnum_c p a l c w21 B21.out.tape (B21.out.sl hplt HS.out)).mono ?_
        rintro _ w22 ⟨m22, d22, M22, rfl, ho22, hM22, ht22, hk22⟩
        have B22 := hid (B21.out.call ht22 hk22 hplt)
        have S22 := hid ho22.sl
        clear ho22 ht22 hk22 B21
        go_wp2_with (first | (at_builtin; refine wpL_bod 2 rfl (.tmp 47) (.tmp 49) rfl a21 m22 L21.length M22.length c21 d22 L21 M22 rfl rfl B22.out rfl rfl S22.out hM22 (by omega) hplt ?_; intro a23 c23 w23 L23 hB23; have B23 := hid hB23; clear hB23))
        go_roundw
        case rel => exact ⟨g, a23, c23, L23, _, by go_num, rfl, by omega, hid (by have := HX.out; omega), B23⟩
        case measure => first | (simp [intOf]; done) | (simp [intOf]; omega)
      · go_wp2_with (first | (at_builtin; refine wpL_bod 2 rfl (.tmp 53) (.tmp 54) rfl aO _ O.length 2 cO _ O [36, 123] rfl rfl (B1.out.alloc _) rfl rfl (Sl.lit' _ [36, 123] _ _ (by simp) (by simp) (by simp [rng]) _ rfl) (by simp) (by omega) hplt ?_; intro a21 c21 w21 L21 hB21; have B21 := hid hB21; clear hB21))
        refine (tnum_c p a l c w21 B21.out.tape (B21.out.sl hplt HS.out)).mono ?_
        rintro _ w22 ⟨m22, d22, M22, rfl, ho22, hM22, ht22, hk22⟩
        have B22 := hid (B21.out.call ht22 hk22 hplt)
        have S22 := hid ho22.sl
        clear ho22 ht22 hk22 B21
        go_wp2_with (first | (at_builtin; refine wpL_bod 2 rfl (.tmp 55) (.tmp 57) rfl a21 m22 L21.length M22.length c21 d22 L21 M22 rfl rfl B22.out rfl rfl S22.out hM22 (by omega) hplt ?_; intro a23 c23 w23 L23 hB23; have B23 := hid hB23; clear hB23) | (at_builtin; refine wpL_bod 1 rfl (.tmp 58) (.tmp 59) rfl a23 _ L23.length 1 c23 _ L23 [125] rfl rfl (B23.out.alloc _) rfl rfl (Sl.lit' _ [125] _ _ (by simp) (by simp) (by simp [rng]) _ rfl) (by simp) (by omega) hplt ?_; intro a24 c24 w24 L24 hB24; have B24 := hid hB24; clear hB24))
        go_roundw
        case rel => exact ⟨g, a24, c24, L24, _, by go_num, rfl, by omega, hid (by have := HX.out; omega), B24⟩
        case measure => first | (simp [intOf]; done) | (simp [intOf]; omega)
      · rcases Nat.eq_zero_or_pos d with hd0 | hd0
        · have q1 : decide ((0 : Int) < (d : Int)) = false := decide_eq_false (by omega)
          have q2 : decide (0 < d) = false := decide_eq_false (by omega)
          clear hd0
          go_wp2_with (first | (at_builtin; refine wpL_bod 2 rfl (.tmp 65) (.tmp 66) rfl aO _ O.length 2 cO _ O [36, 123] rfl rfl (B1.out.alloc _) rfl rfl (Sl.lit' _ [36, 123] _ _ (by simp) (by simp) (by simp [rng]) _ rfl) (by simp) (by omega) hplt ?_; intro a21 c21 w21 L21 hB21; have B21 := hid hB21; clear hB21))
          refine (tnum_c p a l c w21 B21.out.tape (B21.out.sl hplt HS.out)).mono ?_
          rintro _ w22 ⟨m22, d22, M22, rfl, ho22, hM22, ht22, hk22⟩
          have B22 := hid (B21.out.call ht22 hk22 hplt)
          have S22 := hid ho22.sl
          clear ho22 ht22 hk22 B21
          go_wp2_with (first | (at_builtin; refine wpL_bod 2 rfl (.tmp 67) (.tmp 69) rfl a21 m22 L21.length M22.length c21 d22 L21 M22 rfl rfl B22.out rfl rfl S22.out hM22 (by omega) hplt ?_; intro a23 c23 w23 L23 hB23; have B23 := hid hB23; clear hB23) | (at_builtin; refine wpL_bod 1 rfl (.tmp 70) (.tmp 71) rfl a23 _ L23.length 1 c23 _ L23 [58] rfl rfl (B23.out.alloc _) rfl rfl (Sl.lit' _ [58] _ _ (by simp) (by simp) (by simp [rng]) _ rfl) (by simp) (by omega) hplt ?_; intro a24 c24 w24 L24 hB24; have B24 := hid hB24; clear hB24))
          refine (one_r 1 ssClo _ _ _ _ p a l c _ w24 B24.out.tape (B24.out.sl hplt HS.out) rfl rfl rfl (by decide) (by decide) (by decide) (by decide)).mono ?_
          rintro _ w25 ⟨m25, d25, M25, rfl, ho25, hM25, ht25, hk25⟩
          have B25 := hid (B24.out.call ht25 hk25 hplt)
          have S25 := hid ho25.sl
          clear ho25 ht25 hk25 B24
          go_wp2_with (first | (at_builtin; refine wpL_bod 1 rfl (.tmp 81) (.tmp 84) rfl a24 m25 L24.length M25.length c24 d25 L24 M25 rfl rfl B25.out rfl rfl S25.out hM25 (by omega) hplt ?_; intro a26 c26 w26 L26 hB26; have B26 := hid hB26; clear hB26))
          go_roundw
          case rel => exact ⟨g, a26, c26, L26, _, by go_num, rfl, by omega, hid (by have := HX.out; omega), B26⟩
          case measure => first | (simp [intOf]; done) | (simp [intOf]; omega)
        · obtain ⟨d1, hd1⟩ : ∃ d1, d = d1 + 1 := ⟨d - 1, by omega⟩
          have hIH := IHd.out d1 hd1
          have hr4 := hIH.2
          have q1 : decide ((0 : Int) < (d : Int)) = true := decide_eq_true (by omega)
          have q2 : decide (0 < d) = true := decide_eq_true (by omega)
          have q3 : IntKind.i64.wrap ((d : Int) - 1) = (d1 : Int) := by rw [IntKind.wrap_i64]; omega
          have Hd1 := hid hd1
          have HIH := hid hIH
          clear hd1 hIH
          go_wp2_with (first | (at_builtin; refine wpL_bod 2 rfl (.tmp 65) (.tmp 66) rfl aO _ O.length 2 cO _ O [36, 123] rfl rfl (B1.out.alloc _) rfl rfl (Sl.lit' _ [36, 123] _ _ (by simp) (by simp) (by simp [rng]) _ rfl) (by simp) (by omega) hplt ?_; intro a61 c61 w61 L61 hB61; have B61 := hid hB61; clear hB61))
          refine (tnum_c p a l c w61 B61.out.tape (B61.out.sl hplt HS.out)).mono ?_
          rintro _ w62 ⟨m62, d62, M62, rfl, ho62, hM62, ht62, hk62⟩
          have B62 := hid (B61.out.call ht62 hk62 hplt)
          have S62 := hid ho62.sl
          clear ho62 ht62 hk62 B61
          go_wp2_with (first | (at_builtin; refine wpL_bod 2 rfl (.tmp 67) (.tmp 69) rfl a61 m62 L61.length M62.length c61 d62 L61 M62 rfl rfl B62.out rfl rfl S62.out hM62 (by omega) hplt ?_; intro a63 c63 w63 L63 hB63; have B63 := hid hB63; clear hB63) | (at_builtin; refine wpL_bod 1 rfl (.tmp 70) (.tmp 71) rfl a63 _ L63.length 1 c63 _ L63 [58] rfl rfl (B63.out.alloc _) rfl rfl (Sl.lit' _ [58] _ _ (by simp) (by simp) (by simp [rng]) _ rfl) (by simp) (by omega) hplt ?_; intro a64 c64 w64 L64 hB64; have B64 := hid hB64; clear hB64))
          refine ((HIH.out.1) w64 B64.out.tape (B64.out.sl hplt HS.out)).mono ?_
          rintro _ w65 ⟨m65, d65, M65, rfl, ho65, hM65, ht65, hk65⟩
          have B65 := hid (B64.out.call ht65 hk65 hplt)
          have S65 := hid ho65.sl
          clear ho65 ht65 hk65 B64
          go_wp2_with (first | (at_builtin; refine wpL_bod (4 * rndB d1) rfl (.tmp 75) (.tmp 79) rfl a64 m65 L64.length M65.length c64 d65 L64 M65 rfl rfl B65.out rfl rfl S65.out hM65 (by omega) hplt ?_; intro a66 c66 w66 L66 hB66; have B66 := hid hB66; clear hB66))
          refine (one_r 1 ssClo _ _ _ _ p a l c _ w66 B66.out.tape (B66.out.sl hplt HS.out) rfl rfl rfl (by decide) (by decide) (by decide) (by decide)).mono ?_
          rintro _ w67 ⟨m67, d67, M67, rfl, ho67, hM67, ht67, hk67⟩
          have B67 := hid (B66.out.call ht67 hk67 hplt)
          have S67 := hid ho67.sl
          clear ho67 ht67 hk67 B66
          go_wp2_with (first | (at_builtin; refine wpL_bod 1 rfl (.tmp 81) (.tmp 84) rfl a66 m67 L66.length M67.length c66 d67 L66 M67 rfl rfl B67.out rfl rfl S67.out hM67 (by omega) hplt ?_; intro a68 c68 w68 L68 hB68; have B68 := hid hB68; clear hB68))
          go_roundw
          case rel => exact ⟨g, a68, c68, L68, _, by go_num, rfl, by omega, hid (by have := HX.out; omega), B68⟩
          case measure => first | (simp [intOf]; done) | (simp [intOf]; omega)
      · rcases Nat.eq_zero_or_pos d with hd0 | hd0
        · have q1 : decide ((0 : Int) < (d : Int)) = false := decide_eq_false (by omega)
          have q2 : decide (0 < d) = false := decide_eq_false (by omega)
          clear hd0
          go_wp2_with (first | (at_builtin; refine wpL_bod 2 rfl (.tmp 65) (.tmp 66) rfl aO _ O.length 2 cO _ O [36, 123] rfl rfl (B1.out.alloc _) rfl rfl (Sl.lit' _ [36, 123] _ _ (by simp) (by simp) (by simp [rng]) _ rfl) (by simp) (by omega) hplt ?_; intro a21 c21 w21 L21 hB21; have B21 := hid hB21; clear hB21))
          refine (tnum_c p a l c w21 B21.out.tape (B21.out.sl hplt HS.out)).mono ?_
          rintro _ w22 ⟨m22, d22, M22, rfl, ho22, hM22, ht22, hk22⟩
          have B22 := hid (B21.out.call ht22 hk22 hplt)
          have S22 := hid ho22.sl
          clear ho22 ht22 hk22 B21
          go_wp2_with (first | (at_builtin; refine wpL_bod 2 rfl (.tmp 67) (.tmp 69) rfl a21 m22 L21.length M22.length c21 d22 L21 M22 rfl rfl B22.out rfl rfl S22.out hM22 (by omega) hplt ?_; intro a23 c23 w23 L23 hB23; have B23 := hid hB23; clear hB23) | (at_builtin; refine wpL_bod 1 rfl (.tmp 70) (.tmp 71) rfl a23 _ L23.length 1 c23 _ L23 [58] rfl rfl (B23.out.alloc _) rfl rfl (Sl.lit' _ [58] _ _ (by simp) (by simp) (by simp [rng]) _ rfl) (by simp) (by omega) hplt ?_; intro a24 c24 w24 L24 hB24; have B24 := hid hB24; clear hB24))
          refine (one_r 1 ssClo _ _ _ _ p a l c _ w24 B24.out.tape (B24.out.sl hplt HS.out) rfl rfl rfl (by decide) (by decide) (by decide) (by decide)).mono ?_
          rintro _ w25 ⟨m25, d25, M25, rfl, ho25, hM25, ht25, hk25⟩
          have B25 := hid (B24.out.call ht25 hk25 hplt)
          have S25 := hid ho25.sl
          clear ho25 ht25 hk25 B24
          go_wp2_with (first | (at_builtin; refine wpL_bod 1 rfl (.tmp 81) (.tmp 84) rfl a24 m25 L24.length M25.length c24 d25 L24 M25 rfl rfl B25.out rfl rfl S25.out hM25 (by omega) hplt ?_; intro a26 c26 w26 L26 hB26; have B26 := hid hB26; clear hB26))
          go_roundw
          case rel => exact ⟨g, a26, c26, L26, _, by go_num, rfl, by omega, hid (by have := HX.out; omega), B26⟩
          case measure => first | (simp [intOf]; done) | (simp [intOf]; omega)
        · obtain ⟨d1, hd1⟩ : ∃ d1, d = d1 + 1 := ⟨d - 1, by omega⟩
          have hIH := IHd.out d1 hd1
          have hr4 := hIH.2
          have q1 : decide ((0 : Int) < (d : Int)) = true := decide_eq_true (by omega)
          have q2 : decide (0 < d) = true := decide_eq_true (by omega)
          have q3 : IntKind.i64.wrap ((d : Int) - 1) = (d1 : Int) := by rw [IntKind.wrap_i64]; omega
          have Hd1 := hid hd1
          have HIH := hid hIH
          clear hd1 hIH
          go_wp2_with (first | (at_builtin; refine wpL_bod 2 rfl (.tmp 65) (.tmp 66) rfl aO _ O.length 2 cO _ O [36, 123] rfl rfl (B1.out.alloc _) rfl rfl (Sl.lit' _ [36, 123] _ _ (by simp) (by simp) (by simp [rng]) _ rfl) (by simp) (by omega) hplt ?_; intro a61 c61 w61 L61 hB61; have B61 := hid hB61; clear hB61))
          refine (tnum_c p a l c w61 B61.out.tape (B61.out.sl hplt HS.out)).mono ?_
          rintro _ w62 ⟨m62, d62, M62, rfl, ho62, hM62, ht62, hk62⟩
          have B62 := hid (B61.out.call ht62 hk62 hplt)
          have S62 := hid ho62.sl
          clear ho62 ht62 hk62 B61
          go_wp2_with (first | (at_builtin; refine wpL_bod 2 rfl (.tmp 67) (.tmp 69) rfl a61 m62 L61.length M62.length c61 d62 L61 M62 rfl rfl B62.out rfl rfl S62.out hM62 (by omega) hplt ?_; intro a63 c63 w63 L63 hB63; have B63 := hid hB63; clear hB63) | (at_builtin; refine wpL_bod 1 rfl (.tmp 70) (.tmp 71) rfl a63 _ L63.length 1 c63 _ L63 [58] rfl rfl (B63.out.alloc _) rfl rfl (Sl.lit' _ [58] _ _ (by simp) (by simp) (by simp [rng]) _ rfl) (by simp) (by omega) hplt ?_; intro a64 c64 w64 L64 hB64; have B64 := hid hB64; clear hB64))
          refine ((HIH.out.1) w64 B64.out.tape (B64.out.sl hplt HS.out)).mono ?_
          rintro _ w65 ⟨m65, d65, M65, rfl, ho65, hM65, ht65, hk65⟩
          have B65 := hid (B64.out.call ht65 hk65 hplt)
          have S65 := hid ho65.sl
          clear ho65 ht65 hk65 B64
          go_wp2_with (first | (at_builtin; refine wpL_bod (4 * rndB d1) rfl (.tmp 75) (.tmp 79) rfl a64 m65 L64.length M65.length c64 d65 L64 M65 rfl rfl B65.out rfl rfl S65.out hM65 (by omega) hplt ?_; intro a66 c66 w66 L66 hB66; have B66 := hid hB66; clear hB66))
          refine (one_r 1 ssClo _ _ _ _ p a l c _ w66 B66.out.tape (B66.out.sl hplt HS.out) rfl rfl rfl (by decide) (by decide) (by decide) (by decide)).mono ?_
          rintro _ w67 ⟨m67, d67, M67, rfl, ho67, hM67, ht67, hk67⟩
          have B67 := hid (B66.out.call ht67 hk67 hplt)
          have S67 := hid ho67.sl
          clear ho67 ht67 hk67 B66
          go_wp2_with (first | (at_builtin; refine wpL_bod 1 rfl (.tmp 81) (.tmp 84) rfl a66 m67 L66.length M67.length c66 d67 L66 M67 rfl rfl B67.out rfl rfl S67.out hM67 (by omega) hplt ?_; intro a68 c68 w68 L68 hB68; have B68 := hid hB68; clear hB68))
          go_roundw
          case rel => exact ⟨g, a68, c68, L68, _, by go_num, rfl, by omega, hid (by have := HX.out; omega), B68⟩
          case measure => first | (simp [intOf]; done) | (simp [intOf]; omega)
      · rcases Nat.eq_zero_or_pos d with hd0 | hd0
        · have q1 : decide ((0 : Int) < (d : Int)) = false := decide_eq_false (by omega)
          have q2 : decide (0 < d) = false := decide_eq_false (by omega)
          clear hd0
          go_wp2_with (first | (at_builtin; refine wpL_bod 2 rfl (.tmp 65) (.tmp 66) rfl aO _ O.length 2 cO _ O [36, 123] rfl rfl (B1.out.alloc _) rfl rfl (Sl.lit' _ [36, 123] _ _ (by simp) (by simp) (by simp [rng]) _ rfl) (by simp) (by omega) hplt ?_; intro a21 c21 w21 L21 hB21; have B21 := hid hB21; clear hB21))
          refine (tnum_c p a l c w21 B21.out.tape (B21.out.sl hplt HS.out)).mono ?_
          rintro _ w22 ⟨m22, d22, M22, rfl, ho22, hM22, ht22, hk22⟩
          have B22 := hid (B21.out.call ht22 hk22 hplt)
          have S22 := hid ho22.sl
          clear ho22 ht22 hk22 B21
          go_wp2_with (first | (at_builtin; refine wpL_bod 2 rfl (.tmp 67) (.tmp 69) rfl a21 m22 L21.length M22.length c21 d22 L21 M22 rfl rfl B22.out rfl rfl S22.out hM22 (by omega) hplt ?_; intro a23 c23 w23 L23 hB23; have B23 := hid hB23; clear hB23) | (at_builtin; refine wpL_bod 1 rfl (.tmp 70) (.tmp 71) rfl a23 _ L23.length 1 c23 _ L23 [58] rfl rfl (B23.out.alloc _) rfl rfl (Sl.lit' _ [58] _ _ (by simp) (by simp) (by simp [rng]) _ rfl) (by simp) (by omega) hplt ?_; intro a24 c24 w24 L24 hB24; have B24 := hid hB24; clear hB24))
          refine (one_r 1 ssClo _ _ _ _ p a l c _ w24 B24.out.tape (B24.out.sl hplt HS.out) rfl rfl rfl (by decide) (by decide) (by decide) (by decide)).mono ?_
          rintro _ w25 ⟨m25, d25, M25, rfl, ho25, hM25, ht25, hk25⟩
          have B25 := hid (B24.out.call ht25 hk25 hplt)
          have S25 := hid ho25.sl
          clear ho25 ht25 hk25 B24
          go_wp2_with (first | (at_builtin; refine wpL_bod 1 rfl (.tmp 81) (.tmp 84) rfl a24 m25 L24.length M25.length c24 d25 L24 M25 rfl rfl B25.out rfl rfl S25.out hM25 (by omega) hplt ?_; intro a26 c26 w26 L26 hB26; have B26 := hid hB26; clear hB26))
          go_roundw
          case rel => exact ⟨g, a26, c26, L26, _, by go_num, rfl, by omega, hid (by have := HX.out; omega), B26⟩
          case measure => first | (simp [intOf]; done) | (simp [intOf]; omega)
        · obtain ⟨d1, hd1⟩ : ∃ d1, d = d1 + 1 := ⟨d - 1, by omega⟩
          have hIH := IHd.out d1 hd1
          have hr4 := hIH.2
          have q1 : decide ((0 : Int) < (d : Int)) = true := decide_eq_true (by omega)
          have q2 : decide (0 < d) = true := decide_eq_true (by omega)
          have q3 : IntKind.i64.wrap ((d : Int) - 1) = (d1 : Int) := by rw [IntKind.wrap_i64]; omega
          have Hd1 := hid hd1
          have HIH := hid hIH
          clear hd1 hIH
          go_wp2_with (first | (at_builtin; refine wpL_bod 2 rfl (.tmp 65) (.tmp 66) rfl aO _ O.length 2 cO _ O [36, 123] rfl rfl (B1.out.alloc _) rfl rfl (Sl.lit' _ [36, 123] _ _ (by simp) (by simp) (by simp [rng]) _ rfl) (by simp) (by omega) hplt ?_; intro a61 c61 w61 L61 hB61; have B61 := hid hB61; clear hB61))
          refine (tnum_c p a l c w61 B61.out.tape (B61.out.sl hplt HS.out)).mono ?_
          rintro _ w62 ⟨m62, d62, M62, rfl, ho62, hM62, ht62, hk62⟩
          have B62 := hid (B61.out.call ht62 hk62 hplt)
          have S62 := hid ho62.sl
          clear ho62 ht62 hk62 B61
          go_wp2_with (first | (at_builtin; refine wpL_bod 2 rfl (.tmp 67) (.tmp 69) rfl a61 m62 L61.length M62.length c61 d62 L61 M62 rfl rfl B62.out rfl rfl S62.out hM62 (by omega) hplt ?_; intro a63 c63 w63 L63 hB63; have B63 := hid hB63; clear hB63) | (at_builtin; refine wpL_bod 1 rfl (.tmp 70) (.tmp 71) rfl a63 _ L63.length 1 c63 _ L63 [58] rfl rfl (B63.out.alloc _) rfl rfl (Sl.lit' _ [58] _ _ (by simp) (by simp) (by simp [rng]) _ rfl) (by simp) (by omega) hplt ?_; intro a64 c64 w64 L64 hB64; have B64 := hid hB64; clear hB64))
          refine ((HIH.out.1) w64 B64.out.tape (B64.out.sl hplt HS.out)).mono ?_
          rintro _ w65 ⟨m65, d65, M65, rfl, ho65, hM65, ht65, hk65⟩
          have B65 := hid (B64.out.call ht65 hk65 hplt)
          have S65 := hid ho65.sl
          clear ho65 ht65 hk65 B64
          go_wp2_with (first | (at_builtin; refine wpL_bod (4 * rndB d1) rfl (.tmp 75) (.tmp 79) rfl a64 m65 L64.length M65.length c64 d65 L64 M65 rfl rfl B65.out rfl rfl S65.out hM65 (by omega) hplt ?_; intro a66 c66 w66 L66 hB66; have B66 := hid hB66; clear hB66))
          refine (one_r 1 ssClo _ _ _ _ p a l c _ w66 B66.out.tape (B66.out.sl hplt HS.out) rfl rfl rfl (by decide) (by decide) (by decide) (by decide)).mono ?_
          rintro _ w67 ⟨m67, d67, M67, rfl, ho67, hM67, ht67, hk67⟩
          have B67 := hid (B66.out.call ht67 hk67 hplt)
          have S67 := hid ho67.sl
          clear ho67 ht67 hk67 B66
          go_wp2_with (first | (at_builtin; refine wpL_bod 1 rfl (.tmp 81) (.tmp 84) rfl a66 m67 L66.length M67.length c66 d67 L66 M67 rfl rfl B67.out rfl rfl S67.out hM67 (by omega) hplt ?_; intro a68 c68 w68 L68 hB68; have B68 := hid hB68; clear hB68))
          go_roundw
          case rel => exact ⟨g, a68, c68, L68, _, by go_num, rfl, by omega, hid (by have := HX.out; omega), B68⟩
          case measure => first | (simp [intOf]; done) | (simp [intOf]; omega)
      · go_wp2_with (first | (at_builtin; refine wpL_bod 2 rfl (.tmp 88) (.tmp 89) rfl aO _ O.length 2 cO _ O [36, 123] rfl rfl (B1.out.alloc _) rfl rfl (Sl.lit' _ [36, 123] _ _ (by simp) (by simp) (by simp [rng]) _ rfl) (by simp) (by omega) hplt ?_; intro a21 c21 w21 L21 hB21; have B21 := hid hB21; clear hB21))
        refine (tnum_c p a l c w21 B21.out.tape (B21.out.sl hplt HS.out)).mono ?_
        rintro _ w22 ⟨m22, d22, M22, rfl, ho22, hM22, ht22, hk22⟩
        have B22 := hid (B21.out.call ht22 hk22 hplt)
        have S22 := hid ho22.sl
        clear ho22 ht22 hk22 B21
        go_wp2_with (first | (at_builtin; refine wpL_bod 2 rfl (.tmp 90) (.tmp 92) rfl a21 m22 L21.length M22.length c21 d22 L21 M22 rfl rfl B22.out rfl rfl S22.out hM22 (by omega) hplt ?_; intro a23 c23 w23 L23 hB23; have B23 := hid hB23; clear hB23))
        refine (one_r 8 ssCho _ _ _ _ p a l c _ w23 B23.out.tape (B23.out.sl hplt HS.out) rfl rfl rfl (by decide) (by decide) (by decide) (by decide)).mono ?_
        rintro _ w24 ⟨m24, d24, M24, rfl, ho24, hM24, ht24, hk24⟩
        have B24 := hid (B23.out.call ht24 hk24 hplt)
        have S24 := hid ho24.sl
        clear ho24 ht24 hk24 B23
        go_wp2_with (first | (at_builtin; refine wpL_bod 8 rfl (.tmp 93) (.tmp 96) rfl a23 m24 L23.length M24.length c23 d24 L23 M24 rfl rfl B24.out rfl rfl S24.out hM24 (by omega) hplt ?_; intro a25 c25 w25 L25 hB25; have B25 := hid hB25; clear hB25))
        go_roundw
        case rel => exact ⟨g, a25, c25, L25, _, by go_num, rfl, by omega, hid (by have := HX.out; omega), B25⟩
        case measure => first | (simp [intOf]; done) | (simp [intOf]; omega)
      · go_wp2_with (first | (at_builtin; refine wpL_bod 2 rfl (.tmp 100) (.tmp 101) rfl aO _ O.length 2 cO _ O [36, 123] rfl rfl (B1.out.alloc _) rfl rfl (Sl.lit' _ [36, 123] _ _ (by simp) (by simp) (by simp [rng]) _ rfl) (by simp) (by omega) hplt ?_; intro a21 c21 w21 L21 hB21; have B21 := hid hB21; clear hB21))
        refine (tnum_c p a l c w21 B21.out.tape (B21.out.sl hplt HS.out)).mono ?_
        rintro _ w22 ⟨m22, d22, M22, rfl, ho22, hM22, ht22, hk22⟩
        have B22 := hid (B21.out.call ht22 hk22 hplt)
        have S22 := hid ho22.sl
        clear ho22 ht22 hk22 B21
        go_wp2_with (first | (at_builtin; refine wpL_bod 2 rfl (.tmp 102) (.tmp 104) rfl a21 m22 L21.length M22.length c21 d22 L21 M22 rfl rfl B22.out rfl rfl S22.out hM22 (by omega) hplt ?_; intro a23 c23 w23 L23 hB23; have B23 := hid hB23; clear hB23))
        refine (formed_c p a l c w23 B23.out.tape (B23.out.sl hplt HS.out)).mono ?_
        rintro _ w24 ⟨m24, d24, M24, rfl, ho24, hM24, ht24, hk24⟩
        have B24 := hid (B23.out.call ht24 hk24 hplt)
        have S24 := hid ho24.sl
        clear ho24 ht24 hk24 B23
        go_wp2_with (first | (at_builtin; refine wpL_bod 490 rfl (.tmp 105) (.tmp 107) rfl a23 m24 L23.length M24.length c23 d24 L23 M24 rfl rfl B24.out rfl rfl S24.out hM24 (by omega) hplt ?_; intro a25 c25 w25 L25 hB25; have B25 := hid hB25; clear hB25) | (at_builtin; refine wpL_bod 1 rfl (.tmp 108) (.tmp 109) rfl a25 _ L25.length 1 c25 _ L25 [125] rfl rfl (B25.out.alloc _) rfl rfl (Sl.lit' _ [125] _ _ (by simp) (by simp) (by simp [rng]) _ rfl) (by simp) (by omega) hplt ?_; intro a26 c26 w26 L26 hB26; have B26 := hid hB26; clear hB26))
        go_roundw
        case rel => exact ⟨g, a26, c26, L26, _, by go_num, rfl, by omega, hid (by have := HX.out; omega), B26⟩
        case measure => first | (simp [intOf]; done) | (simp [intOf]; omega)
      · go_wp2_with (first | (at_builtin; refine wpL_bod 1 rfl (.tmp 113) (.tmp 114) rfl aO _ O.length 1 cO _ O [36] rfl rfl (B1.out.alloc _) rfl rfl (Sl.lit' _ [36] _ _ (by simp) (by simp) (by simp [rng]) _ rfl) (by simp) (by omega) hplt ?_; intro a21 c21 w21 L21 hB21; have B21 := hid hB21; clear hB21))
        refine (tname_c p a l c w21 B21.out.tape (B21.out.sl hplt HS.out)).mono ?_
        rintro _ w22 ⟨m22, d22, M22, rfl, ho22, hM22, ht22, hk22⟩
        have B22 := hid (B21.out.call ht22 hk22 hplt)
        have S22 := hid ho22.sl
        clear ho22 ht22 hk22 B21
        go_wp2_with (first | (at_builtin; refine wpL_bod 18 rfl (.tmp 115) (.tmp 117) rfl a21 m22 L21.length M22.length c21 d22 L21 M22 rfl rfl B22.out rfl rfl S22.out hM22 (by omega) hplt ?_; intro a23 c23 w23 L23 hB23; have B23 := hid hB23; clear hB23))
        go_roundw
        case rel => exact ⟨g, a23, c23, L23, _, by go_num, rfl, by omega, hid (by have := HX.out; omega), B23⟩
        case measure => first | (simp [intOf]; done) | (simp [intOf]; omega)
      · rcases Nat.eq_zero_or_pos d with hd0 | hd0
        · have q1 : decide ((0 : Int) < (d : Int)) = false := decide_eq_false (by omega)
          have q2 : decide (0 < d) = false := decide_eq_false (by omega)
          clear hd0
          go_wp2_with (first | (at_builtin; refine wpL_bod 2 rfl (.tmp 121) (.tmp 122) rfl aO _ O.length 2 cO _ O [36, 123] rfl rfl (B1.out.alloc _) rfl rfl (Sl.lit' _ [36, 123] _ _ (by simp) (by simp) (by simp [rng]) _ rfl) (by simp) (by omega) hplt ?_; intro a21 c21 w21 L21 hB21; have B21 := hid hB21; clear hB21))
          refine (tname_c p a l c w21 B21.out.tape (B21.out.sl hplt HS.out)).mono ?_
          rintro _ w22 ⟨m22, d22, M22, rfl, ho22, hM22, ht22, hk22⟩
          have B22 := hid (B21.out.call ht22 hk22 hplt)
          have S22 := hid ho22.sl
          clear ho22 ht22 hk22 B21
          go_wp2_with (first | (at_builtin; refine wpL_bod 18 rfl (.tmp 123) (.tmp 125) rfl a21 m22 L21.length M22.length c21 d22 L21 M22 rfl rfl B22.out rfl rfl S22.out hM22 (by omega) hplt ?_; intro a23 c23 w23 L23 hB23; have B23 := hid hB23; clear hB23) | (at_builtin; refine wpL_bod 1 rfl (.tmp 126) (.tmp 127) rfl a23 _ L23.length 1 c23 _ L23 [58] rfl rfl (B23.out.alloc _) rfl rfl (Sl.lit' _ [58] _ _ (by simp) (by simp) (by simp [rng]) _ rfl) (by simp) (by omega) hplt ?_; intro a24 c24 w24 L24 hB24; have B24 := hid hB24; clear hB24) | (at_builtin; refine wpL_bod 1 rfl (.tmp 137) (.tmp 138) rfl a24 _ L24.length 1 c24 _ L24 [125] rfl rfl (B24.out.alloc _) rfl rfl (Sl.lit' _ [125] _ _ (by simp) (by simp) (by simp [rng]) _ rfl) (by simp) (by omega) hplt ?_; intro a25 c25 w25 L25 hB25; have B25 := hid hB25; clear hB25))
          go_roundw
          case rel => exact ⟨g, a25, c25, L25, _, by go_num, rfl, by omega, hid (by have := HX.out; omega), B25⟩
          case measure => first | (simp [intOf]; done) | (simp [intOf]; omega)
        · obtain ⟨d1, hd1⟩ : ∃ d1, d = d1 + 1 := ⟨d - 1, by omega⟩
          have hIH := IHd.out d1 hd1
          have hr4 := hIH.2
          have q1 : decide ((0 : Int) < (d : Int)) = true := decide_eq_true (by omega)
          have q2 : decide (0 < d) = true := decide_eq_true (by omega)
          have q3 : IntKind.i64.wrap ((d : Int) - 1) = (d1 : Int) := by rw [IntKind.wrap_i64]; omega
          have Hd1 := hid hd1
          have HIH := hid hIH
          clear hd1 hIH
          go_wp2_with (first | (at_builtin; refine wpL_bod 2 rfl (.tmp 121) (.tmp 122) rfl aO _ O.length 2 cO _ O [36, 123] rfl rfl (B1.out.alloc _) rfl rfl (Sl.lit' _ [36, 123] _ _ (by simp) (by simp) (by simp [rng]) _ rfl) (by simp) (by omega) hplt ?_; intro a61 c61 w61 L61 hB61; have B61 := hid hB61; clear hB61))
          refine (tname_c p a l c w61 B61.out.tape (B61.out.sl hplt HS.out)).mono ?_
          rintro _ w62 ⟨m62, d62, M62, rfl, ho62, hM62, ht62, hk62⟩
          have B62 := hid (B61.out.call ht62 hk62 hplt)
          have S62 := hid ho62.sl
          clear ho62 ht62 hk62 B61
          go_wp2_with (first | (at_builtin; refine wpL_bod 18 rfl (.tmp 123) (.tmp 125) rfl a61 m62 L61.length M62.length c61 d62 L61 M62 rfl rfl B62.out rfl rfl S62.out hM62 (by omega) hplt ?_; intro a63 c63 w63 L63 hB63; have B63 := hid hB63; clear hB63) | (at_builtin; refine wpL_bod 1 rfl (.tmp 126) (.tmp 127) rfl a63 _ L63.length 1 c63 _ L63 [58] rfl rfl (B63.out.alloc _) rfl rfl (Sl.lit' _ [58] _ _ (by simp) (by simp) (by simp [rng]) _ rfl) (by simp) (by omega) hplt ?_; intro a64 c64 w64 L64 hB64; have B64 := hid hB64; clear hB64))
          refine ((HIH.out.1) w64 B64.out.tape (B64.out.sl hplt HS.out)).mono ?_
          rintro _ w65 ⟨m65, d65, M65, rfl, ho65, hM65, ht65, hk65⟩
          have B65 := hid (B64.out.call ht65 hk65 hplt)
          have S65 := hid ho65.sl
          clear ho65 ht65 hk65 B64
          go_wp2_with (first | (at_builtin; refine wpL_bod (4 * rndB d1) rfl (.tmp 131) (.tmp 135) rfl a64 m65 L64.length M65.length c64 d65 L64 M65 rfl rfl B65.out rfl rfl S65.out hM65 (by omega) hplt ?_; intro a66 c66 w66 L66 hB66; have B66 := hid hB66; clear hB66) | (at_builtin; refine wpL_bod 1 rfl (.tmp 137) (.tmp 138) rfl a66 _ L66.length 1 c66 _ L66 [125] rfl rfl (B66.out.alloc _) rfl rfl (Sl.lit' _ [125] _ _ (by simp) (by simp) (by simp [rng]) _ rfl) (by simp) (by omega) hplt ?_; intro a67 c67 w67 L67 hB67; have B67 := hid hB67; clear hB67))
          go_roundw
          case rel => exact ⟨g, a67, c67, L67, _, by go_num, rfl, by omega, hid (by have := HX.out; omega), B67⟩
          case measure => first | (simp [intOf]; done) | (simp [intOf]; omega)
      · go_wp2_with fail
        refine (next_r p a l c 2 w1 B1.out.tape (B1.out.sl hplt HS.out) (by omega) (by omega)).mono ?_
        rintro _ w2 ⟨v2, hv2, rfl, ht2, hk2⟩
        have B2 := hid (B1.out.call ht2 hk2 hplt)
        clear ht2 hk2 B1
        rcases (show v2 = 0 ∨ v2 = 1 by omega) with rfl | rfl
        · go_wp2_with (first | (at_builtin; refine wpL_bod 2 rfl (.tmp 19) (.tmp 20) rfl aO _ O.length 2 cO _ O [36, 123] rfl rfl (B2.out.alloc _) rfl rfl (Sl.lit' _ [36, 123] _ _ (by simp) (by simp) (by simp [rng]) _ rfl) (by simp) (by omega) hplt ?_; intro a21 c21 w21 L21 hB21; have B21 := hid hB21; clear hB21))
          refine (tname_c p a l c w21 B21.out.tape (B21.out.sl hplt HS.out)).mono ?_
          rintro _ w22 ⟨m22, d22, M22, rfl, ho22, hM22, ht22, hk22⟩
          have B22 := hid (B21.out.call ht22 hk22 hplt)
          have S22 := hid ho22.sl
          clear ho22 ht22 hk22 B21
          go_wp2_with (first | (at_builtin; refine wpL_bod 18 rfl (.tmp 21) (.tmp 23) rfl a21 m22 L21.length M22.length c21 d22 L21 M22 rfl rfl B22.out rfl rfl S22.out hM22 (by omega) hplt ?_; intro a23 c23 w23 L23 hB23; have B23 := hid hB23; clear hB23))
          refine (formed_c p a l c w23 B23.out.tape (B23.out.sl hplt HS.out)).mono ?_
          rintro _ w24 ⟨m24, d24, M24, rfl, ho24, hM24, ht24, hk24⟩
          have B24 := hid (B23.out.call ht24 hk24 hplt)
          have S24 := hid ho24.sl
          clear ho24 ht24 hk24 B23
          go_wp2_with (first | (at_builtin; refine wpL_bod 490 rfl (.tmp 24) (.tmp 26) rfl a23 m24 L23.length M24.length c23 d24 L23 M24 rfl rfl B24.out rfl rfl S24.out hM24 (by omega) hplt ?_; intro a25 c25 w25 L25 hB25; have B25 := hid hB25; clear hB25) | (at_builtin; refine wpL_bod 1 rfl (.tmp 27) (.tmp 28) rfl a25 _ L25.length 1 c25 _ L25 [125] rfl rfl (B25.out.alloc _) rfl rfl (Sl.lit' _ [125] _ _ (by simp) (by simp) (by simp [rng]) _ rfl) (by simp) (by omega) hplt ?_; intro a26 c26 w26 L26 hB26; have B26 := hid hB26; clear hB26))
          go_roundw
          case rel => exact ⟨g, a26, c26, L26, _, by go_num, rfl, by omega, hid (by have := HX.out; omega), B26⟩
          case measure => first | (simp [intOf]; done) | (simp [intOf]; omega)
        · go_wp2_with fail
          refine (one_r 6 ssOdd _ _ _ _ p a l c _ w2 B2.out.tape (B2.out.sl hplt HS.out) rfl rfl rfl (by decide) (by decide) (by decide) (by decide)).mono ?_
          rintro _ w21 ⟨m21, d21, M21, rfl, ho21, hM21, ht21, hk21⟩
          have B21 := hid (B2.out.call ht21 hk21 hplt)
          have S21 := hid ho21.sl
          clear ho21 ht21 hk21 B2
          go_wp2_with (first | (at_builtin; refine wpL_bod 6 rfl (.tmp 30) (.tmp 33) rfl aO m21 O.length M21.length cO d21 O M21 rfl rfl B21.out rfl rfl S21.out hM21 (by omega) hplt ?_; intro a22 c22 w22 L22 hB22; have B22 := hid hB22; clear hB22))
          go_roundw
          case rel => exact ⟨g, a22, c22, L22, _, by go_num, rfl, by omega, hid (by have := HX.out; omega), B22⟩
          case measure => first | (simp [intOf]; done) | (simp [intOf]; omega)
theorem body_all (p : Nat) (a : Option Addr) (l : List Int) (c : Nat) : ∀ d, d ≤ 3 → BodIH p a l c d := by
  intro d
  induction d with
  | zero => intro _; exact body_t p a l c 0 (by omega) (fun d' h => by omega)
  | succ d ih => intro h; exact body_t p a l c (d + 1) h (fun d' e => (Nat.succ.inj e : d = d') ▸ ih (by omega))
end Go.Proofs.Ytefgjicegbhcaaa
