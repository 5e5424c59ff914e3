/- Contracts of package piece: part, grown, read. -/
import Derived.Test.YtcekoifbgfeahaaPc
namespace Go.Proofs.Ytcekoifbgfeahaa
open Go.RowKit

theorem prt_len (l : List Pc) (f t : Nat) : (prt l f t).length ≤ l.length := by
  induction l generalizing f t with
  | nil => simp [prt]
  | cons p l ih =>
    have := ih (f - p.n) (t - p.n)
    simp only [prt, List.length_append, List.length_cons]
    split <;> simp <;> omega
theorem prt_take {l : List Pc} {k : Nat} (h : k < l.length) (f t : Nat) : prt (l.take (k + 1)) f t = prt (l.take k) f t ++
    (if f - tot (l.take k) < min (t - tot (l.take k)) (pg l k).n then [⟨(pg l k).add, (pg l k).fr + (f - tot (l.take k)), min (t - tot (l.take k)) (pg l k).n - (f - tot (l.take k))⟩] else []) := by
  rw [pg_take h, prt_app]; simp [prt]
theorem prt_take_yes {l : List Pc} {k : Nat} (h : k < l.length) {f t : Nat} (hc : f - tot (l.take k) < min (t - tot (l.take k)) (pg l k).n) : prt (l.take (k + 1)) f t = prt (l.take k) f t ++ [⟨(pg l k).add, (pg l k).fr + (f - tot (l.take k)), min (t - tot (l.take k)) (pg l k).n - (f - tot (l.take k))⟩] := by
  rw [prt_take h, if_pos hc]
theorem prt_take_no {l : List Pc} {k : Nat} (h : k < l.length) {f t : Nat} (hc : ¬ f - tot (l.take k) < min (t - tot (l.take k)) (pg l k).n) : prt (l.take (k + 1)) f t = prt (l.take k) f t := by
  rw [prt_take h, if_neg hc, List.append_nil]
/-- one piece in a new block -/
theorem PSl.lit' (w : World) (p : Pc) (e : TypeId) (b : Nat) (hb : b = w.heap.size) (cs : Array Value) (hcs : cs = (pcv p).toArray) :
    PSl (w.alloc (.cells cs e)) (some ⟨b, 0, none⟩) [p] := by
  subst hb; subst hcs
  refine ⟨by simp, .inr ⟨_, _, rfl, fun i hi => ?_⟩⟩
  have : i = 0 := by simpa using hi
  subst this
  refine ⟨?_, ?_, ?_⟩ <;> (simp only [Nat.zero_mul, Nat.zero_add]; rw [cell_alloc_new]; simp [pcv, pg])
theorem PSl.alloc {w : World} {a : Option Addr} {l : List Pc} (h : PSl w a l) (o : Obj) : PSl (w.alloc o) a l := h.bel ((Below.refl _ _).alloc (Nat.le_refl _) o)

set_option maxHeartbeats 2000000 in
theorem part_t (B : Nat) (F : Nat → Prop) (pt : Nat) (s : St) (f t : Nat) (w : World) (h : Tab w B F pt s) (hf : f ≤ 100000) (ht : t ≤ 100000) :
    Calls Try.prog 58 #[.pointer (some ⟨pt, 0, none⟩), .int .i64 f, .int .i64 t] w (PMakes w (prt s.p f t)) := by
  obtain ⟨ao, co, aa, ca, ap, cp, c0, c1, c2, -, -, o2, -⟩ := h.cells
  have hsl := o2.sl
  have htot := h.wf.tot
  have hlen := h.wf.len
  have Hw := hid h.wf
  clear o2 h c0 c1
  go_enter Try.func58, Try.ntmps58
  go_wp2
  go_loopw [7, 8, 18] (fun out tv i wr => ∃ (k : Nat) (a3 : Option Addr) (c3 : Nat) (L : List Pc), k ≤ s.p.length ∧ i = .int .i64 k ∧ tv = .int .i64 (tot (s.p.take k)) ∧ out = .slice a3 L.length c3 ∧ Hid (L = prt (s.p.take k) f t) ∧ Hid (POwn wr w.heap.size a3 c3 L) ∧ Below w.heap.size w wr) (fun _ _ i _ => s.p.length - (intOf i).toNat)
  case atStart => exact ⟨0, none, 0, [], Nat.zero_le _, rfl, by simp [tot], rfl, rfl, POwn.nil _ _, Below.refl _ _⟩
  case round =>
    obtain ⟨k, a3, c3, L, hk, rfl, rfl, rfl, HL, Ho, hb⟩ := hrel
    by_cases hlt : k < s.p.length
    · obtain ⟨b, off, rfl, hc⟩ := (hsl.bel hb).at hlt
      obtain ⟨k0, k1, k2⟩ := hc k hlt
      clear hc
      have hw := Hw.out.fr (pg_mem hlt)
      have Hts := hid (tot_take_succ hlt)
      have ht2 := tot_take s.p (k + 1)
      rw [tot_take_succ hlt] at ht2
      have hLl : L.length ≤ 1000 := by
        have := prt_len (s.p.take k) f t
        rw [HL.out]; rw [List.length_take] at this; omega
      generalize hT : tot (s.p.take k) = T at Hts ht2 ⊢
      have HT := hid hT
      clear hT
      go_wp2
      go_region
      generalize hA : (if (f : Int) - (T : Int) < 0 then (0 : Int) else (f : Int) - (T : Int)) = A
      generalize hE : (if ((pg s.p k).n : Int) < (t : Int) - (T : Int) then ((pg s.p k).n : Int) else (t : Int) - (T : Int)) = E
      have hA2 : A = ((f - T : Nat) : Int) := by rw [← hA]; split <;> omega
      have hE2 : (E ≤ 0 ∧ t ≤ T) ∨ E = ((min (t - T) (pg s.p k).n : Nat) : Int) := by rw [← hE]; split <;> omega
      have hE3 : -100000000 ≤ E ∧ E ≤ 20000 := by rw [← hE]; split <;> omega
      have hA3 : 0 ≤ A ∧ A ≤ 100000 := by omega
      clear hA hE
      have HA := hid hA2; have HE := hid hE2
      clear hA2 hE2
      by_cases hc : A < E
      · have hp : pcv ⟨(pg s.p k).add, (pg s.p k).fr + (f - T), min (t - T) (pg s.p k).n - (f - T)⟩ = [.bool (pg s.p k).add, .int .i64 ((pg s.p k).fr + A), .int .i64 (E - A)] := by
          have := HA.out; have := HE.out
          simp only [pcv, List.cons.injEq, Value.int.injEq, true_and, and_true]; omega
        have hcc : f - T < min (t - T) (pg s.p k).n := by have := HA.out; have := HE.out; omega
        have Hy := hid (prt_take_yes hlt (f := f) (t := t) (by rw [HT.out]; exact hcc))
        have Hp := hid hp
        clear hp hcc
        go_wp2_with ((at_builtin; (refine wpL_papp rfl (.tmp 35) (.tmp 46) rfl w.heap.size a3 (some ⟨wr.heap.size + 1, 0, none⟩) L.length 1 c3 1 L [⟨(pg s.p k).add, (pg s.p k).fr + (f - T), min (t - T) (pg s.p k).n - (f - T)⟩] rfl (by first | rfl | simp | omega) (Ho.out.grow (by (repeat' (first | exact Below.refl _ _ | assumption | refine bdrewN ?_ _ | refine Below.drew ?_ | refine bal ?_ _ | refine bthen ?_ (by assumption))))) rfl (by first | rfl | simp | omega) (PSl.drew (PSl.lit' _ _ _ _ (by simp) _ (by rw [Hp.out]))) (by simp; omega) (by have := hb.size; simp; omega) ?_); intro a5 c5 w5 L5 Hl5 ho5 hb5 hk5 hA5; have HA5 := hid hA5; clear hA5; have Ho5 := hid ho5; clear ho5; have Hk5 := hid hk5; clear hk5; have hz5 := hb5.size); have k5 : w5.cell? ⟨wr.heap.size, 2, none⟩ = some (.int .i64 (pg s.p k).n) := Hk5.out.cell (by simp) (Ho.out.off (Nat.le_refl _)))
        go_round
        case rel => exact ⟨k + 1, a5, c5, L5, by omega, by go_num, by rw [Hts.out]; go_num, rfl, hid (by rw [Hl5.out, HL.out, Hy.out, HT.out]), Ho5, by have := hb.size; exact (((hb.alloc this _).alloc (by simp; omega) _).drew).trans hb5⟩
        case measure => simp [intOf]; omega
      · go_wp2
        go_round
        case rel => exact ⟨k + 1, a3, c3, L, by omega, by go_num, by rw [Hts.out]; go_num, rfl, by (have h1 := HA.out; have h2 := HE.out; have h3 := HT.out; exact hid (by rw [HL.out, prt_take_no hlt (by rw [h3]; omega)])), hid (Ho.out.grow (by (repeat' (first | exact Below.refl _ _ | assumption | refine bdrewN ?_ _ | refine Below.drew ?_ | refine bal ?_ _ | refine bthen ?_ (by assumption))))), by have := hb.size; exact (hb.alloc this _).drew⟩
        case measure => simp [intOf]; omega
    · go_wp2
      go_ret
      rw [List.take_of_length_le (by omega)] at HL
      obtain rfl := HL.out
      exact ⟨a3, c3, rfl, Ho.out, hb⟩
end Go.Proofs.Ytcekoifbgfeahaa
