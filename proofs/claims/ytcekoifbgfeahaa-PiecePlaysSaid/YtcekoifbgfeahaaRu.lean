/- The document's own table: split. -/
import Derived.Test.YtcekoifbgfeahaaRt
namespace Go.Proofs.Ytcekoifbgfeahaa
open Go.RowKit

theorem pst2_len (l : List Pc) (a : Nat) : (pst2 l a).length ≤ l.length := by
  rw [← prt_post l a (tot l) (Nat.le_refl _)]; exact prt_len _ _ _
theorem prt0_take_yes {l : List Pc} {k : Nat} (h : k < l.length) {a : Nat} (hc : 0 < min (a - tot (l.take k)) (pg l k).n) : prt (l.take (k + 1)) 0 a = prt (l.take k) 0 a ++ [⟨(pg l k).add, (pg l k).fr, min (a - tot (l.take k)) (pg l k).n⟩] := by
  rw [pg_take h, prt0_snoc, if_pos hc]
theorem prt0_take_no {l : List Pc} {k : Nat} (h : k < l.length) {a : Nat} (hc : ¬ 0 < min (a - tot (l.take k)) (pg l k).n) : prt (l.take (k + 1)) 0 a = prt (l.take k) 0 a := by
  rw [pg_take h, prt0_snoc, if_neg hc, List.append_nil]
theorem pst2_take_yes {l : List Pc} {k : Nat} (h : k < l.length) {a : Nat} (hc : min (a - tot (l.take k)) (pg l k).n < (pg l k).n) : pst2 (l.take (k + 1)) a = pst2 (l.take k) a ++ [⟨(pg l k).add, (pg l k).fr + min (a - tot (l.take k)) (pg l k).n, (pg l k).n - min (a - tot (l.take k)) (pg l k).n⟩] := by
  rw [pg_take h, pst2_snoc, if_pos hc]
theorem pst2_take_no {l : List Pc} {k : Nat} (h : k < l.length) {a : Nat} (hc : ¬ min (a - tot (l.take k)) (pg l k).n < (pg l k).n) : pst2 (l.take (k + 1)) a = pst2 (l.take k) a := by
  rw [pg_take h, pst2_snoc, if_neg hc, List.append_nil]
/-- two slices in two blocks -/
def Apart (a b : Option Addr) : Prop := ∀ ad ae, a = some ad → b = some ae → ad.block ≠ ae.block
theorem Apart.symm {a b : Option Addr} (h : Apart a b) : Apart b a := fun ad ae h1 h2 => (h ae ad h2 h1).symm
/-- what append to the one leaves of the other -/
theorem POwn.apart {w w' : World} {base : Nat} {a b : Option Addr} {c : Nat} {l : List Pc} (h : POwn w base b c l) (hd : Apart a b) (hk : Kpt (Blk a) w w') : POwn w' base b c l :=
  h.same fun ad ha hl => hk.block _ hl (by rintro ⟨ae, hae, he⟩; exact hd ae ad hae ha he)
theorem Apart.at {w : World} {base : Nat} {a b a' : Option Addr} {c : Nat} {l : List Pc} (h : Apart a b) (ho : POwn w base b c l) (hat : At w a a') : Apart a' b := by
  intro ad ae h1 h2
  rcases hat ad h1 with ⟨x, hx, he⟩ | hb
  · rw [← he]; exact h x ae hx h2
  · have := pown_lt ho ae h2; omega
def Splits (w : World) (l1 l2 : List Pc) (e : Ending) (w' : World) : Prop :=
  ∃ a1 c1 a2 c2, e = .returned (.tuple #[.slice a1 l1.length c1, .slice a2 l2.length c2]) ∧ POwn w' w.heap.size a1 c1 l1 ∧ POwn w' w.heap.size a2 c2 l2 ∧ Below w.heap.size w w'

set_option maxHeartbeats 4000000 in
theorem split_c (ap : Option Addr) (cp : Nat) (p : List Pc) (at_ : Nat) (w : World) (hsl : PSl w ap p) (hlen : p.length ≤ 2000) (hat : at_ ≤ 100000) (htot : tot p ≤ 100000) (hbd : ∀ q ∈ p, q.fr ≤ 100000 ∧ q.n ≤ 100000 ∧ 1 ≤ q.n) :
    Calls Try.prog 62 #[.slice ap p.length cp, .int .i64 at_] w (Splits w (prt p 0 at_) (pst2 p at_)) := by
  have Hbd := hid hbd
  clear hbd
  go_enter Try.func62, Try.ntmps62
  go_wp2
  go_loopw [1, 6, 7, 8] (fun tv oa ob i wr => ∃ (k : Nat) (aA aB : Option Addr) (cA cB : Nat) (LA LB : List Pc), k ≤ p.length ∧ i = .int .i64 k ∧ tv = .int .i64 ((at_ : Int) - tot (p.take k)) ∧ oa = .slice aA LA.length cA ∧ ob = .slice aB LB.length cB ∧ Hid (LA = prt (p.take k) 0 at_) ∧ Hid (LB = pst2 (p.take k) at_) ∧ Hid (POwn wr w.heap.size aA cA LA) ∧ Hid (POwn wr w.heap.size aB cB LB) ∧ Hid (Apart aA aB) ∧ Below w.heap.size w wr) (fun _ _ _ i _ => p.length - (intOf i).toNat)
  case atStart => exact ⟨0, none, none, 0, 0, [], [], Nat.zero_le _, rfl, by simp [tot], rfl, rfl, rfl, rfl, POwn.nil _ _, POwn.nil _ _, (fun _ _ h => by cases h), Below.refl _ _⟩
  case round =>
    obtain ⟨k, aA, aB, cA, cB, LA, LB, hk, rfl, rfl, rfl, rfl, HA, HB, HoA, HoB, Hap, hb⟩ := hrel
    by_cases hlt : k < p.length
    · obtain ⟨b, off, rfl, hc⟩ := (hsl.bel hb).at hlt
      obtain ⟨k0, k1, k2⟩ := hc k hlt
      clear hc
      have hw := Hbd.out _ (pg_mem hlt)
      have Hts := hid (tot_take_succ hlt)
      have ht2 := tot_take p (k + 1)
      rw [tot_take_succ hlt] at ht2
      have hLA : LA.length ≤ 2000 := by
        have := prt_len (p.take k) 0 at_
        rw [HA.out]; rw [List.length_take] at this; omega
      have hLB : LB.length ≤ 2000 := by
        have := pst2_len (p.take k) at_
        rw [HB.out]; rw [List.length_take] at this; omega
      have ya := fun hc => prt0_take_yes hlt (a := at_) hc
      have na := fun hc => prt0_take_no hlt (a := at_) hc
      have yb := fun hc => pst2_take_yes hlt (a := at_) hc
      have nb := fun hc => pst2_take_no hlt (a := at_) hc
      generalize hT : tot (p.take k) = T at Hts ht2 ya na yb nb ⊢
      rw [← HA.out] at ya na
      rw [← HB.out] at yb nb
      have Ya := hid ya; have Na := hid na; have Yb := hid yb; have Nb := hid nb
      have hz := hb.size
      clear hT ya na yb nb
      have hT1 : T ≤ 100000 := by omega
      rcases (show (T < at_ ∧ at_ < T + (pg p k).n) ∨ (T + (pg p k).n < at_) ∨ (T + (pg p k).n = at_) ∨ (at_ < T) ∨ (at_ = T) by omega) with h1 | h1 | h1 | h1 | h1
      · have hp : pcv ⟨(pg p k).add, (pg p k).fr, (at_ - T)⟩ = [.bool (pg p k).add, .int .i64 (pg p k).fr, .int .i64 ((at_ : Int) - (T : Int))] := by simp [pcv] <;> omega
        have Hp := hid hp; clear hp
        have hq : pcv ⟨(pg p k).add, (pg p k).fr + (at_ - T), (pg p k).n - (at_ - T)⟩ = [.bool (pg p k).add, .int .i64 ((pg p k).fr + ((at_ : Int) - (T : Int))), .int .i64 ((pg p k).n - ((at_ : Int) - (T : Int)))] := by simp [pcv] <;> omega
        have Hq := hid hq; clear hq
        go_wp2_with (first | ((at_builtin; (refine wpL_papp rfl (.tmp 32) (.tmp 39) rfl w.heap.size aA (some ⟨wr.heap.size + 1, 0, none⟩) LA.length 1 cA 1 LA [⟨(pg p k).add, (pg p k).fr, (at_ - T)⟩] rfl (by first | rfl | simp | omega) (HoA.out.grow (by (repeat' (first | exact Below.refl _ _ | assumption | refine bdrewN ?_ _ | refine Below.drew ?_ | refine bal ?_ _ | refine bthen ?_ (by assumption))))) rfl (by first | rfl | simp | omega) (PSl.lit' _ _ _ _ (by simp) _ (by rw [Hp.out])) (by simp; omega) (by simp; omega) ?_); intro a5 c5 w5 L5 Hl5 ho5 hb5 hk5 hA5; have HA5 := hid hA5; clear hA5; have Ho5 := hid ho5; clear ho5; have Hk5 := hid hk5; clear hk5; have hz5 := hb5.size); have j0 : w5.cell? ⟨wr.heap.size, 0, none⟩ = some (.bool (pg p k).add) := Hk5.out.cell (by simp) (HoA.out.off (Nat.le_refl _)); have j1 : w5.cell? ⟨wr.heap.size, 1, none⟩ = some (.int .i64 (pg p k).fr) := Hk5.out.cell (by simp) (HoA.out.off (Nat.le_refl _)); have j2 : w5.cell? ⟨wr.heap.size, 2, none⟩ = some (.int .i64 (pg p k).n) := Hk5.out.cell (by simp) (HoA.out.off (Nat.le_refl _)); have HB5 := hid ((HoB.out.grow (w' := _) (by (repeat' (first | exact Below.refl _ _ | assumption | refine bdrewN ?_ _ | refine Below.drew ?_ | refine bal ?_ _ | refine bthen ?_ (by assumption))))).apart Hap.out Hk5.out); have HAp := hid (Hap.out.at (HoB.out.grow (by (repeat' (first | exact Below.refl _ _ | assumption | refine bdrewN ?_ _ | refine Below.drew ?_ | refine bal ?_ _ | refine bthen ?_ (by assumption))))) HA5.out)) | (at_builtin; (refine wpL_papp rfl (.tmp 45) (.tmp 57) rfl w.heap.size aB (some ⟨w5.heap.size, 0, none⟩) LB.length 1 cB 1 LB [⟨(pg p k).add, (pg p k).fr + (at_ - T), (pg p k).n - (at_ - T)⟩] rfl (by first | rfl | simp | omega) (HB5.out.grow (by (repeat' (first | exact Below.refl _ _ | assumption | refine bdrewN ?_ _ | refine Below.drew ?_ | refine bal ?_ _ | refine bthen ?_ (by assumption))))) rfl (by first | rfl | simp | omega) (PSl.lit' _ _ _ _ (by simp) _ (by rw [Hq.out])) (by simp; omega) (by simp at hz5; simp; omega) ?_); intro a6 c6 w6 L6 Hl6 ho6 hb6 hk6 hA6; have HA6 := hid hA6; clear hA6; have Ho6 := hid ho6; clear ho6; have Hk6 := hid hk6; clear hk6; have hz6 := hb6.size))
        go_roundw
        case rel => exact ⟨k + 1, a5, a6, c5, c6, L5, L6, by omega, by go_num, by rw [Hts.out]; simp; omega, rfl, rfl, hid (by rw [Hl5.out, Ya.out (by omega), show min (at_ - T) (pg p k).n = (at_ - T) by omega]), hid (by rw [Hl6.out, Yb.out (by omega), show min (at_ - T) (pg p k).n = (at_ - T) by omega]), hid ((Ho5.out.grow ((Below.refl _ _).alloc (Nat.le_refl _) _)).apart (HAp.out.symm) Hk6.out), Ho6, hid ((HAp.out.symm.at (Ho5.out.grow ((Below.refl _ _).alloc (Nat.le_refl _) _)) HA6.out).symm), ((((hb.alloc hb.size _).alloc (by simp; omega) _).trans hb5).alloc (by simp at hz5; omega) _).trans hb6⟩
        case measure => simp [intOf]; omega
      · have hp : pcv ⟨(pg p k).add, (pg p k).fr, (pg p k).n⟩ = [.bool (pg p k).add, .int .i64 (pg p k).fr, .int .i64 (((pg p k).n : Int))] := by simp [pcv] <;> omega
        have Hp := hid hp; clear hp
        go_wp2_with (first | ((at_builtin; (refine wpL_papp rfl (.tmp 32) (.tmp 39) rfl w.heap.size aA (some ⟨wr.heap.size + 1, 0, none⟩) LA.length 1 cA 1 LA [⟨(pg p k).add, (pg p k).fr, (pg p k).n⟩] rfl (by first | rfl | simp | omega) (HoA.out.grow (by (repeat' (first | exact Below.refl _ _ | assumption | refine bdrewN ?_ _ | refine Below.drew ?_ | refine bal ?_ _ | refine bthen ?_ (by assumption))))) rfl (by first | rfl | simp | omega) (PSl.lit' _ _ _ _ (by simp) _ (by rw [Hp.out])) (by simp; omega) (by simp; omega) ?_); intro a5 c5 w5 L5 Hl5 ho5 hb5 hk5 hA5; have HA5 := hid hA5; clear hA5; have Ho5 := hid ho5; clear ho5; have Hk5 := hid hk5; clear hk5; have hz5 := hb5.size); have j0 : w5.cell? ⟨wr.heap.size, 0, none⟩ = some (.bool (pg p k).add) := Hk5.out.cell (by simp) (HoA.out.off (Nat.le_refl _)); have j1 : w5.cell? ⟨wr.heap.size, 1, none⟩ = some (.int .i64 (pg p k).fr) := Hk5.out.cell (by simp) (HoA.out.off (Nat.le_refl _)); have j2 : w5.cell? ⟨wr.heap.size, 2, none⟩ = some (.int .i64 (pg p k).n) := Hk5.out.cell (by simp) (HoA.out.off (Nat.le_refl _)); have HB5 := hid ((HoB.out.grow (w' := _) (by (repeat' (first | exact Below.refl _ _ | assumption | refine bdrewN ?_ _ | refine Below.drew ?_ | refine bal ?_ _ | refine bthen ?_ (by assumption))))).apart Hap.out Hk5.out); have HAp := hid (Hap.out.at (HoB.out.grow (by (repeat' (first | exact Below.refl _ _ | assumption | refine bdrewN ?_ _ | refine Below.drew ?_ | refine bal ?_ _ | refine bthen ?_ (by assumption))))) HA5.out)))
        go_roundw
        case rel => exact ⟨k + 1, a5, aB, c5, cB, L5, LB, by omega, by go_num, by rw [Hts.out]; simp; omega, rfl, rfl, hid (by rw [Hl5.out, Ya.out (by omega), show min (at_ - T) (pg p k).n = (pg p k).n by omega]), hid (Nb.out (by omega)).symm, Ho5, HB5, HAp, ((hb.alloc hb.size _).alloc (by simp; omega) _).trans hb5⟩
        case measure => simp [intOf]; omega
      · have hx : (at_ : Int) - (T : Int) = (pg p k).n := by omega
        have hp : pcv ⟨(pg p k).add, (pg p k).fr, (pg p k).n⟩ = [.bool (pg p k).add, .int .i64 (pg p k).fr, .int .i64 (((pg p k).n : Int))] := by simp [pcv] <;> omega
        have Hp := hid hp; clear hp
        go_wp2_with (first | ((at_builtin; (refine wpL_papp rfl (.tmp 32) (.tmp 39) rfl w.heap.size aA (some ⟨wr.heap.size + 1, 0, none⟩) LA.length 1 cA 1 LA [⟨(pg p k).add, (pg p k).fr, (pg p k).n⟩] rfl (by first | rfl | simp | omega) (HoA.out.grow (by (repeat' (first | exact Below.refl _ _ | assumption | refine bdrewN ?_ _ | refine Below.drew ?_ | refine bal ?_ _ | refine bthen ?_ (by assumption))))) rfl (by first | rfl | simp | omega) (PSl.lit' _ _ _ _ (by simp) _ (by rw [Hp.out])) (by simp; omega) (by simp; omega) ?_); intro a5 c5 w5 L5 Hl5 ho5 hb5 hk5 hA5; have HA5 := hid hA5; clear hA5; have Ho5 := hid ho5; clear ho5; have Hk5 := hid hk5; clear hk5; have hz5 := hb5.size); have j0 : w5.cell? ⟨wr.heap.size, 0, none⟩ = some (.bool (pg p k).add) := Hk5.out.cell (by simp) (HoA.out.off (Nat.le_refl _)); have j1 : w5.cell? ⟨wr.heap.size, 1, none⟩ = some (.int .i64 (pg p k).fr) := Hk5.out.cell (by simp) (HoA.out.off (Nat.le_refl _)); have j2 : w5.cell? ⟨wr.heap.size, 2, none⟩ = some (.int .i64 (pg p k).n) := Hk5.out.cell (by simp) (HoA.out.off (Nat.le_refl _)); have HB5 := hid ((HoB.out.grow (w' := _) (by (repeat' (first | exact Below.refl _ _ | assumption | refine bdrewN ?_ _ | refine Below.drew ?_ | refine bal ?_ _ | refine bthen ?_ (by assumption))))).apart Hap.out Hk5.out); have HAp := hid (Hap.out.at (HoB.out.grow (by (repeat' (first | exact Below.refl _ _ | assumption | refine bdrewN ?_ _ | refine Below.drew ?_ | refine bal ?_ _ | refine bthen ?_ (by assumption))))) HA5.out)))
        go_roundw
        case rel => exact ⟨k + 1, a5, aB, c5, cB, L5, LB, by omega, by go_num, by rw [Hts.out]; simp; omega, rfl, rfl, hid (by rw [Hl5.out, Ya.out (by omega), show min (at_ - T) (pg p k).n = (pg p k).n by omega]), hid (Nb.out (by omega)).symm, Ho5, HB5, HAp, ((hb.alloc hb.size _).alloc (by simp; omega) _).trans hb5⟩
        case measure => simp [intOf]; omega
      · have hq : pcv ⟨(pg p k).add, (pg p k).fr, (pg p k).n⟩ = [.bool (pg p k).add, .int .i64 ((pg p k).fr : Int), .int .i64 ((pg p k).n : Int)] := by simp [pcv] <;> omega
        have Hq := hid hq; clear hq
        go_wp2_with (first | (at_builtin; (refine wpL_papp rfl (.tmp 45) (.tmp 57) rfl w.heap.size aB (some ⟨wr.heap.size + 1, 0, none⟩) LB.length 1 cB 1 LB [⟨(pg p k).add, (pg p k).fr, (pg p k).n⟩] rfl (by first | rfl | simp | omega) (HoB.out.grow (by (repeat' (first | exact Below.refl _ _ | assumption | refine bdrewN ?_ _ | refine Below.drew ?_ | refine bal ?_ _ | refine bthen ?_ (by assumption))))) rfl (by first | rfl | simp | omega) (PSl.lit' _ _ _ _ (by simp) _ (by rw [Hq.out])) (by simp; omega) (by simp; omega) ?_); intro a6 c6 w6 L6 Hl6 ho6 hb6 hk6 hA6; have HA6 := hid hA6; clear hA6; have Ho6 := hid ho6; clear ho6; have Hk6 := hid hk6; clear hk6; have hz6 := hb6.size))
        go_roundw
        case rel => exact ⟨k + 1, aA, a6, cA, c6, LA, L6, by omega, by go_num, by rw [Hts.out]; simp; omega, rfl, rfl, hid (Na.out (by omega)).symm, hid (by rw [Hl6.out, Yb.out (by omega), show min (at_ - T) (pg p k).n = 0 by omega]; simp), hid ((HoA.out.grow (by (repeat' (first | exact Below.refl _ _ | assumption | refine bdrewN ?_ _ | refine Below.drew ?_ | refine bal ?_ _ | refine bthen ?_ (by assumption))))).apart Hap.out.symm Hk6.out), Ho6, hid ((Hap.out.symm.at (HoA.out.grow (by (repeat' (first | exact Below.refl _ _ | assumption | refine bdrewN ?_ _ | refine Below.drew ?_ | refine bal ?_ _ | refine bthen ?_ (by assumption))))) HA6.out).symm), ((hb.alloc hb.size _).alloc (by simp; omega) _).trans hb6⟩
        case measure => simp [intOf]; omega
      · have hx : (at_ : Int) - (T : Int) = 0 := by omega
        have hq : pcv ⟨(pg p k).add, (pg p k).fr, (pg p k).n⟩ = [.bool (pg p k).add, .int .i64 ((pg p k).fr : Int), .int .i64 ((pg p k).n : Int)] := by simp [pcv] <;> omega
        have Hq := hid hq; clear hq
        go_wp2_with (first | (at_builtin; (refine wpL_papp rfl (.tmp 45) (.tmp 57) rfl w.heap.size aB (some ⟨wr.heap.size + 1, 0, none⟩) LB.length 1 cB 1 LB [⟨(pg p k).add, (pg p k).fr, (pg p k).n⟩] rfl (by first | rfl | simp | omega) (HoB.out.grow (by (repeat' (first | exact Below.refl _ _ | assumption | refine bdrewN ?_ _ | refine Below.drew ?_ | refine bal ?_ _ | refine bthen ?_ (by assumption))))) rfl (by first | rfl | simp | omega) (PSl.lit' _ _ _ _ (by simp) _ (by rw [Hq.out])) (by simp; omega) (by simp; omega) ?_); intro a6 c6 w6 L6 Hl6 ho6 hb6 hk6 hA6; have HA6 := hid hA6; clear hA6; have Ho6 := hid ho6; clear ho6; have Hk6 := hid hk6; clear hk6; have hz6 := hb6.size))
        go_roundw
        case rel => exact ⟨k + 1, aA, a6, cA, c6, LA, L6, by omega, by go_num, by rw [Hts.out]; simp; omega, rfl, rfl, hid (Na.out (by omega)).symm, hid (by rw [Hl6.out, Yb.out (by omega), show min (at_ - T) (pg p k).n = 0 by omega]; simp), hid ((HoA.out.grow (by (repeat' (first | exact Below.refl _ _ | assumption | refine bdrewN ?_ _ | refine Below.drew ?_ | refine bal ?_ _ | refine bthen ?_ (by assumption))))).apart Hap.out.symm Hk6.out), Ho6, hid ((Hap.out.symm.at (HoA.out.grow (by (repeat' (first | exact Below.refl _ _ | assumption | refine bdrewN ?_ _ | refine Below.drew ?_ | refine bal ?_ _ | refine bthen ?_ (by assumption))))) HA6.out).symm), ((hb.alloc hb.size _).alloc (by simp; omega) _).trans hb6⟩
        case measure => simp [intOf]; omega
    · go_wp2
      go_ret2
      rw [List.take_of_length_le (by omega)] at HA HB
      obtain rfl := HA.out
      obtain rfl := HB.out
      exact ⟨aA, cA, aB, cB, rfl, HoA.out, HoB.out, hb⟩
end Go.Proofs.Ytcekoifbgfeahaa
