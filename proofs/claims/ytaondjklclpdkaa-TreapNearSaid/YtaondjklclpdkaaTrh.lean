/- The marks of a treap in memory by order, appended to a slice. -/
import Derived.Test.YtaondjklclpdkaaTrg
namespace Go.Proofs.Ytaondjklclpdkaa
open Go.RowKit

theorem At.tr {w v : World} {a b c : Option Addr} (h : At w a b) (k : At v b c) (hs : w.heap.size ≤ v.heap.size) : At w a c := by
  intro ad hc
  rcases k ad hc with ⟨ae, hb, he⟩ | h2
  · rw [← he]; exact h ae hb
  · right; omega
theorem At.on {w v : World} {a b : Option Addr} (k : At v a b) (hs : w.heap.size ≤ v.heap.size) : At w a b := fun ad h => (k ad h).imp id fun h => by omega
theorem At.refl (w : World) (a : Option Addr) : At w a a := fun ad h => .inl ⟨ad, h, rfl⟩
/-- what a write to the grown slice leaves of all but the slice that came -/
theorem Kpt.at {w v w2 : World} {a b : Option Addr} (h : Kpt (Blk a) w v) (hat : At w a b) (k : Kpt (Blk b) v w2) : Kpt (Blk a) w w2 :=
  ⟨k.os.trans h.os, k.tape.trans h.tape, k.output.trans h.output, Nat.le_trans h.size k.size, fun i hi hn => (k.block i (Nat.lt_of_lt_of_le hi h.size) (by
    rintro ⟨ad, hb, rfl⟩
    rcases hat ad hb with h1 | h1
    · exact hn h1
    · omega)).trans (h.block i hi hn)⟩
theorem Dis.at {w : World} {F : Nat → Prop} {a b : Option Addr} (h : Dis F (Blk a)) (hl : ∀ k, F k → k < w.heap.size) (hat : At w a b) : Dis F (Blk b) := by
  rintro k hk ⟨ad, hb, rfl⟩
  rcases hat ad hb with h1 | h1
  · exact h _ hk h1
  · have := hl _ hk; omega
/-- marks appended to an owned slice -/
def Apd (w : World) (base : Nat) (a : Option Addr) (L : List Mk) (e : Ending) (w' : World) : Prop :=
  ∃ a' c' L', e = .returned (.slice a' L'.length c') ∧ Hid (L' = L) ∧ MOwn w' base a' c' L' ∧ Kpt (Blk a) w w' ∧ At w a a'
theorem lit_kept {V v : World} {cs : Array Value} {e : TypeId} {a : Option Addr} {x : Mk} (h : Kpt (Blk a) (V.alloc (.cells cs e)) v) (hcs : cs = (mkv x).toArray) (hn : ¬ Blk a V.heap.size) : MSl v (some ⟨V.heap.size, 0, none⟩) [x] :=
  (MSl.lit V x e _ rfl cs hcs).kpt (fun ad had => by simp only [Option.some.injEq] at had; subst had; exact hn) h
theorem lit_kept2 {V v : World} {cs : Array Value} {e : TypeId} {a : Option Addr} {x : Mk} (h : Kpt (Blk a) (V.alloc (.cells cs e)).drew v) (hcs : cs = (mkv x).toArray) (hn : ¬ Blk a V.heap.size) : MSl v (some ⟨V.heap.size, 0, none⟩) [x] :=
  (MSl.lit V x e _ rfl cs hcs).drew.kpt (fun ad had => by simp only [Option.some.injEq] at had; subst had; exact hn) h
theorem nk_kept {w : World} {G : Nat → Prop} {b : Nat} {x : Mk} {pl pr : Option Addr} (h : Nd w b x pl pr) (hn : ¬ G b) : Hid (∀ w', Kpt G w w' → (w'.cell? ⟨b, 0, none⟩ = some (.int .i64 x.id) ∧ w'.cell? ⟨b, 1, none⟩ = some (.int .i64 x.fr) ∧ w'.cell? ⟨b, 2, none⟩ = some (.int .i64 x.to) ∧ w'.cell? ⟨b, 3, none⟩ = some (.int .i64 x.pr) ∧ w'.cell? ⟨b, 4, none⟩ = some (.pointer pl) ∧ w'.cell? ⟨b, 5, none⟩ = some (.pointer pr))) := fun w' hk => by
  have h' := h.kpt hk hn
  exact ⟨h'.c0, h'.c1, h'.c2, h'.c3, h'.c4, h'.c5⟩
set_option maxHeartbeats 8000000 in
theorem all_c (t : Tr) : ∀ (w : World) (F : Nat → Prop) (p : Option Addr) (base : Nat) (a : Option Addr) (c : Nat) (L : List Mk), TrAt w F p t → MOwn w base a c L → base ≤ w.heap.size → Dis F (Blk a) → L.length + t.size ≤ 1099511627776 →
    Calls Try.prog 38 #[.pointer p, .slice a L.length c] w (Apd w base a (L ++ t.ord)) := by
  induction t with
  | nil =>
    intro w F p base a c L h ho hB hd hs
    obtain rfl : p = none := h
    have Ho := hid ho
    go_enter Try.func38, Try.ntmps38
    go_wp2
    go_ret
    exact ⟨a, c, L, rfl, by simp [Hid, Tr.ord], Ho.out, Kpt.refl _ _, At.refl _ _⟩
  | node l x r ihl ihr =>
    intro w F p base a c L h ho hB hd hs
    obtain ⟨b, pl, pr, Fl, Fr, rfl, hb, hn, hl, hr, hdd, h1, h2⟩ := h.lt
    have hnb : ¬ Blk a b := fun h => hd b hb.1 h
    have KN := nk_kept hn hnb
    have hal : ∀ k, Blk a k → k < w.heap.size := fun k hk => (ho.lt hk).2
    have hnn : Hid (¬ Blk a w.heap.size) := fun h => by have := hal _ h; omega
    simp only [Tr.size] at hs
    have Il : Hid (∀ w', Below w.heap.size w w' → Calls Try.prog 38 #[.pointer pl, .slice a L.length c] w' (Apd w' base a (L ++ l.ord))) := fun w' hw =>
      ihl w' Fl pl base a c L (h1.bel hw) (ho.grow hw) (Nat.le_trans hB hw.size) (fun k a b => hd k (hl k a).1.1 b) (by omega)
    have Ir : Hid (∀ w' a1 c1 L1, Hid (L1 = L ++ l.ord ++ [x]) → Kpt (Blk a) w w' → At w a a1 → MOwn w' base a1 c1 L1 → Calls Try.prog 38 #[.pointer pr, .slice a1 L1.length c1] w' (Apd w' base a1 (L1 ++ r.ord))) := fun w' a1 c1 L1 hL hk hat ho1 =>
      ihr w' Fr pr base a1 c1 L1 (h2.kpt hk fun k a b => hd k (hr k a).1.1 b) ho1 (Nat.le_trans hB hk.size)
        (Dis.at (fun k a b => hd k (hr k a).1.1 b) (fun k hk => (hr k hk).1.2) hat) (by rw [hL.out]; simp [l.size_ord]; omega)
    have hz1 := l.size_ord
    have hq : L.length + l.ord.length + 1 ≤ 1099511627776 := by omega
    have kk := KN.out _ (Kpt.refl _ _)
    obtain ⟨g0, g1, g2, g3, g4, g5⟩ := kk
    clear hn hl hr hdd h1 h2 hd ihl ihr hs hz1 h hal hb hnb
    have Hq := hid hq
    have HB := hid hB
    clear hq hB
    go_enter Try.func38, Try.ntmps38
    go_upto_region 3 with fail
    clear g0 g1 g2 g3 g4 g5
    have kk := KN.out _ (Kpt.refl _ w).drew
    obtain ⟨g0, g1, g2, g3, g4, g5⟩ := kk
    have hX : mkv x = [.int .i64 x.id, .int .i64 x.fr, .int .i64 x.to, .int .i64 x.pr] := rfl
    have HX := hid hX
    clear hX
    go_region_held3 (fun w' => (w'.cell? ⟨b, 0, none⟩ = some (.int .i64 x.id) ∧ w'.cell? ⟨b, 1, none⟩ = some (.int .i64 x.fr) ∧ w'.cell? ⟨b, 2, none⟩ = some (.int .i64 x.to) ∧ w'.cell? ⟨b, 3, none⟩ = some (.int .i64 x.pr) ∧ w'.cell? ⟨b, 4, none⟩ = some (.pointer pl) ∧ w'.cell? ⟨b, 5, none⟩ = some (.pointer pr))) (first | (with_reducible assumption) | (exact KN.out _ (by (repeat' (first | exact Kpt.refl _ _ | assumption | refine Kpt.drew ?_ | refine Kpt.alloc ?_ _)))))
       (first | (go_at_call 38; refine (Il.out _ (by (repeat' (first | exact Below.refl _ _ | assumption | refine bdrewN ?_ _ | refine Below.drew ?_ | refine bal ?_ _ | refine bthen ?_ (by assumption))))).mono ?_; rintro e v1 ⟨a1, c1, L1, rfl, hL1, ho1, hk1, hat1⟩; have Ho1 := hid ho1; have kx1 : Kpt (Blk a) w v1 := (Kpt.of (by (repeat' (first | exact Below.refl _ _ | assumption | refine bdrewN ?_ _ | refine Below.drew ?_ | refine bal ?_ _ | refine bthen ?_ (by assumption))))).tr hk1; have zz := kx1.size; have hbv : base ≤ v1.heap.size := Nat.le_trans HB.out zz; have At1 := hid (hat1.on (w := w) (by simp)); (try (have z1 := lit_kept hk1 (x := x) rfl hnn.out)); (try (have z1 := lit_kept2 hk1 (x := x) rfl hnn.out)); clear ho1 hat1; have hq1 : L1.length + 1 ≤ 1099511627776 := (by rw [hL1.out]; have := Hq.out; simp; omega))
              | (((refine step_mapp rfl (.tmp 13) (.tmp 18) rfl base a1 (some ⟨v1.heap.size, 0, none⟩) L1.length 1 c1 1 L1 [x] rfl (by first | rfl | simp | omega) (Ho1.out.grow (by (repeat' (first | exact Below.refl _ _ | assumption | refine bdrewN ?_ _ | refine Below.drew ?_ | refine bal ?_ _ | refine bthen ?_ (by assumption))))) rfl (by first | rfl | simp | omega) (MSl.lit v1 x 33 _ rfl #[.int .i64 x.id, .int .i64 x.fr, .int .i64 x.to, .int .i64 x.pr] rfl) (by simp; omega) (by simp; omega) ?_); intro a2 c2 w2 L2 Hl2 ho2 hb2 hk2 hA2; have HA2 := hid hA2; clear hA2; have Ho2 := hid ho2; clear ho2; have Hk2 := hid hk2; clear hk2; have hz2 := hb2.size); have kx2 : Kpt (Blk a) w w2 := (kx1.alloc _).at At1.out Hk2.out; have HL2 : Hid (L2 = L ++ l.ord ++ [x]) := (by rw [Hl2.out, hL1.out]; exact rfl); have At2 := hid (At1.out.tr HA2.out (by simp; omega)))
              | (((refine step_mapp rfl (.tmp 13) (.tmp 18) rfl base a1 (some ⟨w.heap.size, 0, none⟩) L1.length 1 c1 1 L1 [x] rfl (by first | rfl | simp | omega) Ho1.out rfl (by first | rfl | simp | omega) z1 (by simp; omega) hbv ?_); intro a2 c2 w2 L2 Hl2 ho2 hb2 hk2 hA2; have HA2 := hid hA2; clear hA2; have Ho2 := hid ho2; clear ho2; have Hk2 := hid hk2; clear hk2; have hz2 := hb2.size); have kx2 : Kpt (Blk a) w w2 := kx1.at At1.out Hk2.out; have HL2 : Hid (L2 = L ++ l.ord ++ [x]) := (by rw [Hl2.out, hL1.out]; exact rfl); have At2 := hid (At1.out.tr HA2.out zz)))
    all_goals
      have hs2 := hid kx2.size
      clear g0 g1 g2 g3 g4 g5
      have kk := KN.out _ kx2
      obtain ⟨g0, g1, g2, g3, g4, g5⟩ := kk
      have Kx2 := hid kx2
      clear kx2 kx1
      go_wp2_with fail
      refine (Ir.out _ a2 c2 L2 HL2 Kx2.out At2.out Ho2.out).mono ?_
      rintro e v3 ⟨a3, c3, L3, rfl, hL3, ho3, hk3, hat3⟩
      have Ho3 := hid ho3
      have Hk3 := hid hk3
      have At3 := hid hat3
      clear ho3 hk3 hat3 g0 g1 g2 g3 g4 g5
      go_wp2_with fail
      go_ret
      exact ⟨a3, c3, L3, rfl, (by rw [hL3.out, HL2.out]; simp [Hid, Tr.ord]), Ho3.out, Kx2.out.at At2.out Hk3.out, At2.out.tr At3.out hs2.out⟩
end Go.Proofs.Ytaondjklclpdkaa
