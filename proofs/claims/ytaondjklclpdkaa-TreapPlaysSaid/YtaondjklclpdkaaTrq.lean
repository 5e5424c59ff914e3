/- The document's own set in memory: Stab, Within, Depth. -/
import Derived.Test.YtaondjklclpdkaaTrn
namespace Go.Proofs.Ytaondjklclpdkaa
open Go.RowKit

theorem stL_take {a : Int} {l : List Mk} {k : Nat} (h : k < l.length) : stL a (l.take (k + 1)) = stL a (l.take k) ++ (if (mgt l k).fr ≤ a ∧ a ≤ (mgt l k).to then [(mgt l k).id] else []) := by
  rw [mgt_take h, stL_app]
  congr 1
  simp only [stL, List.filter_cons, List.filter_nil]
  split <;> split <;> simp_all
theorem wiL_take {f t : Int} {l : List Mk} {k : Nat} (h : k < l.length) : wiL f t (l.take (k + 1)) = wiL f t (l.take k) ++ (if f ≤ (mgt l k).fr ∧ (mgt l k).to ≤ t then [(mgt l k).id] else []) := by
  rw [mgt_take h, wiL_app]
  congr 1
  simp only [wiL, List.filter_cons, List.filter_nil]
  split <;> split <;> simp_all
theorem stL_len (a : Int) (l : List Mk) : (stL a l).length ≤ l.length := by simp only [stL, List.length_map]; exact List.length_filter_le _ _
theorem wiL_len (f t : Int) (l : List Mk) : (wiL f t l).length ≤ l.length := by simp only [wiL, List.length_map]; exact List.length_filter_le _ _
/-- the document's set, seen from a world on -/
theorem rc_kept {w : World} {r c : Nat} {a : Option Addr} {l : List Mk} (h : RefC w r a c l) : Hid (∀ w', Below w.heap.size w w' → w'.cell? ⟨r, 0, none⟩ = some (.slice a l.length c) ∧ MSl w' a l) := fun _ hb => ⟨(h.bel hb).cell, (h.bel hb).sl⟩
set_option maxRecDepth 20000 in
set_option maxHeartbeats 8000000 in
theorem rstab_c (q : Int) (r : Nat) (a : Option Addr) (c : Nat) (l : List Mk) (w : World) (h : RefC w r a c l) (g : Gd l) :
    Calls Try.prog 46 #[.pointer (some ⟨r, 0, none⟩), .int .i64 q] w (IMakes w (stL q l)) := by
  have KC := rc_kept h
  have hl := g.len
  have Hi : Hid (∀ k, k < l.length → ir (mgt l k).id) := fun k hk => (g.ok _ (mgt_mem hk)).2.1
  clear h g
  go_enter Try.func46, Try.ntmps46
  go_wp2
  go_loopw [5, 6] (fun ov iv wr => ∃ (k : Nat) (b : Option Addr) (cb : Nat) (L : List Int), k ≤ l.length ∧ iv = .int .i64 k ∧ ov = .slice b L.length cb ∧ Hid (L = stL q (l.take k)) ∧ Hid (I.Own wr w.heap.size b cb L) ∧ Below w.heap.size w wr) (fun _ iv _ => l.length - (intOf iv).toNat)
  case atStart => exact ⟨0, none, 0, [], Nat.zero_le _, rfl, rfl, hid (by simp [stL]), hid (I.Own.nil _ _), Below.refl _ _⟩
  case round =>
    obtain ⟨k, b, cb, L, hk, rfl, rfl, hL, hO, hb⟩ := hrel
    have kk := KC.out _ hb
    obtain ⟨g0, gs⟩ := kk
    by_cases hlt : k < l.length
    · obtain ⟨bb, off, rfl, hcs⟩ := gs.at hlt
      obtain ⟨k0, k1, k2, k3⟩ := hcs k hlt
      clear hcs gs
      have hx := Hi.out k hlt
      have Hx := hid hx
      have hsn := stL_take (a := q) hlt
      have hq : L.length ≤ 600 := by rw [hL.out]; have := stL_len q (l.take k); simp at this; omega
      clear hx
      by_cases h1 : (mgt l k).fr ≤ q
      · have hd1 : decide ((mgt l k).fr ≤ q) = true := by simpa using h1
        by_cases h2 : q ≤ (mgt l k).to
        · have hd2 : decide (q ≤ (mgt l k).to) = true := by simpa using h2
          rw [if_pos ⟨h1, h2⟩] at hsn
          have Hsn := hid hsn
          have hz := hb.size
          clear hsn h1 h2
          go_wp2_with ((at_builtin; (refine I.wpL_appn rfl (.tmp 38) (.tmp 47) rfl w.heap.size b (some ⟨wr.heap.size, 0, none⟩) L.length 1 cb 1 L [(mgt l k).id] rfl (by first | rfl | simp | omega) (hO.out.grow (by (repeat' (first | exact Below.refl _ _ | assumption | refine bdrewN ?_ _ | refine Below.drew ?_ | refine bal ?_ _ | refine bthen ?_ (by assumption))))) rfl (by first | rfl | simp | omega) (I.Sl.lit' wr [(mgt l k).id] 3 _ rfl (by simp) (I.rng_one Hx.out) _ rfl) (by simp; omega) (by simp; omega) ?_); intro a2 c2 w2 L2 Hl2 ho2 hb2 hk2 hA2; have HA2 := hid hA2; clear hA2; have Ho2 := hid ho2; clear ho2; have Hk2 := hid hk2; clear hk2; have hz2 := hb2.size))
          go_roundw
          case rel => exact ⟨k + 1, a2, c2, L2, by omega, by go_num, rfl, hid (by rw [Hl2.out, hL.out, Hsn.out]), Ho2, (hb.alloc hb.size _).trans hb2⟩
          case measure => simp [intOf]; omega
        · have hd2 : decide (q ≤ (mgt l k).to) = false := by simpa using h2
          rw [if_neg (fun h => h2 h.2)] at hsn
          have Hsn := hid hsn
          clear hsn h1 h2
          go_wp2_with fail
          go_roundw
          case rel => exact ⟨k + 1, b, cb, L, by omega, by go_num, rfl, hid (by rw [hL.out, Hsn.out, List.append_nil]), hO, hb⟩
          case measure => simp [intOf]; omega
      · have hd1 : decide ((mgt l k).fr ≤ q) = false := by simpa using h1
        rw [if_neg (fun h => h1 h.1)] at hsn
        have Hsn := hid hsn
        clear hsn h1
        go_wp2_with fail
        go_roundw
        case rel => exact ⟨k + 1, b, cb, L, by omega, by go_num, rfl, hid (by rw [hL.out, Hsn.out, List.append_nil]), hO, hb⟩
        case measure => simp [intOf]; omega
    · have hL2 : Hid (L = stL q l) := by rw [hL.out, List.take_of_length_le (by omega)]; exact rfl
      go_wp2_with fail
      go_ret
      exact ⟨b, cb, L, rfl, hL2, hO.out, hb⟩
set_option maxRecDepth 20000 in
set_option maxHeartbeats 8000000 in
theorem rwithin_c (f q : Int) (r : Nat) (a : Option Addr) (c : Nat) (l : List Mk) (w : World) (h : RefC w r a c l) (g : Gd l) :
    Calls Try.prog 47 #[.pointer (some ⟨r, 0, none⟩), .int .i64 f, .int .i64 q] w (IMakes w (wiL f q l)) := by
  have KC := rc_kept h
  have hl := g.len
  have Hi : Hid (∀ k, k < l.length → ir (mgt l k).id) := fun k hk => (g.ok _ (mgt_mem hk)).2.1
  clear h g
  go_enter Try.func47, Try.ntmps47
  go_wp2
  go_loopw [7, 8] (fun ov iv wr => ∃ (k : Nat) (b : Option Addr) (cb : Nat) (L : List Int), k ≤ l.length ∧ iv = .int .i64 k ∧ ov = .slice b L.length cb ∧ Hid (L = wiL f q (l.take k)) ∧ Hid (I.Own wr w.heap.size b cb L) ∧ Below w.heap.size w wr) (fun _ iv _ => l.length - (intOf iv).toNat)
  case atStart => exact ⟨0, none, 0, [], Nat.zero_le _, rfl, rfl, hid (by simp [wiL]), hid (I.Own.nil _ _), Below.refl _ _⟩
  case round =>
    obtain ⟨k, b, cb, L, hk, rfl, rfl, hL, hO, hb⟩ := hrel
    have kk := KC.out _ hb
    obtain ⟨g0, gs⟩ := kk
    by_cases hlt : k < l.length
    · obtain ⟨bb, off, rfl, hcs⟩ := gs.at hlt
      obtain ⟨k0, k1, k2, k3⟩ := hcs k hlt
      clear hcs gs
      have hx := Hi.out k hlt
      have Hx := hid hx
      have hsn := wiL_take (f := f) (t := q) hlt
      have hq : L.length ≤ 600 := by rw [hL.out]; have := wiL_len f q (l.take k); simp at this; omega
      clear hx
      by_cases h1 : f ≤ (mgt l k).fr
      · have hd1 : decide (f ≤ (mgt l k).fr) = true := by simpa using h1
        by_cases h2 : (mgt l k).to ≤ q
        · have hd2 : decide ((mgt l k).to ≤ q) = true := by simpa using h2
          rw [if_pos ⟨h1, h2⟩] at hsn
          have Hsn := hid hsn
          have hz := hb.size
          clear hsn h1 h2
          go_wp2_with ((at_builtin; (refine I.wpL_appn rfl (.tmp 40) (.tmp 49) rfl w.heap.size b (some ⟨wr.heap.size, 0, none⟩) L.length 1 cb 1 L [(mgt l k).id] rfl (by first | rfl | simp | omega) (hO.out.grow (by (repeat' (first | exact Below.refl _ _ | assumption | refine bdrewN ?_ _ | refine Below.drew ?_ | refine bal ?_ _ | refine bthen ?_ (by assumption))))) rfl (by first | rfl | simp | omega) (I.Sl.lit' wr [(mgt l k).id] 3 _ rfl (by simp) (I.rng_one Hx.out) _ rfl) (by simp; omega) (by simp; omega) ?_); intro a2 c2 w2 L2 Hl2 ho2 hb2 hk2 hA2; have HA2 := hid hA2; clear hA2; have Ho2 := hid ho2; clear ho2; have Hk2 := hid hk2; clear hk2; have hz2 := hb2.size))
          go_roundw
          case rel => exact ⟨k + 1, a2, c2, L2, by omega, by go_num, rfl, hid (by rw [Hl2.out, hL.out, Hsn.out]), Ho2, (hb.alloc hb.size _).trans hb2⟩
          case measure => simp [intOf]; omega
        · have hd2 : decide ((mgt l k).to ≤ q) = false := by simpa using h2
          rw [if_neg (fun h => h2 h.2)] at hsn
          have Hsn := hid hsn
          clear hsn h1 h2
          go_wp2_with fail
          go_roundw
          case rel => exact ⟨k + 1, b, cb, L, by omega, by go_num, rfl, hid (by rw [hL.out, Hsn.out, List.append_nil]), hO, hb⟩
          case measure => simp [intOf]; omega
      · have hd1 : decide (f ≤ (mgt l k).fr) = false := by simpa using h1
        rw [if_neg (fun h => h1 h.1)] at hsn
        have Hsn := hid hsn
        clear hsn h1
        go_wp2_with fail
        go_roundw
        case rel => exact ⟨k + 1, b, cb, L, by omega, by go_num, rfl, hid (by rw [hL.out, Hsn.out, List.append_nil]), hO, hb⟩
        case measure => simp [intOf]; omega
    · have hL2 : Hid (L = wiL f q l) := by rw [hL.out, List.take_of_length_le (by omega)]; exact rfl
      go_wp2_with fail
      go_ret
      exact ⟨b, cb, L, rfl, hL2, hO.out, hb⟩
end Go.Proofs.Ytaondjklclpdkaa
