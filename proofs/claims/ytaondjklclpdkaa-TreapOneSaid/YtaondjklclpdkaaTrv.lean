/- The marks that a law makes of its argument. -/
import Derived.Test.YtaondjklclpdkaaTrt
import Derived.Deep.CutBlock
import Derived.Deep.DeepCutAuto
namespace Go.Proofs.Ytaondjklclpdkaa
open Go.RowKit

/-- marks that may be, numbered from 0 on -/
structure MkL (l : List Mk) : Prop where
  len : l.length ≤ 30
  at_ : ∀ i, i < l.length → (mgt l i).id = i ∧ 0 ≤ (mgt l i).fr ∧ (mgt l i).fr ≤ 31 ∧ (mgt l i).fr ≤ (mgt l i).to ∧ (mgt l i).to ≤ 46 ∧ 0 ≤ (mgt l i).pr ∧ (mgt l i).pr ≤ 7
theorem MkL.nil : MkL [] := ⟨by simp, fun i hi => by simp at hi⟩
theorem MkL.snoc {l : List Mk} (h : MkL l) (hl : l.length < 30) {f t p : Nat} (hf : f ≤ 31) (ht : t ≤ 15) (hp : p ≤ 7) : MkL (l ++ [⟨(l.length : Int), f, (f : Int) + (t : Int), p⟩]) := by
  refine ⟨by simp; omega, fun i hi => ?_⟩
  simp only [List.length_append, List.length_cons, List.length_nil] at hi
  rcases Nat.lt_or_ge i l.length with h1 | h1
  · have e : mgt (l ++ [⟨(l.length : Int), f, (f : Int) + (t : Int), p⟩]) i = mgt l i := by simp [mgt, List.getD, List.getElem?_append_left h1]
    rw [e]; exact h.at_ i h1
  · obtain rfl : i = l.length := by omega
    have e : mgt (l ++ [⟨(l.length : Int), f, (f : Int) + (t : Int), p⟩]) l.length = ⟨(l.length : Int), f, (f : Int) + (t : Int), p⟩ := by simp [mgt, List.getD]
    rw [e]; dsimp only; omega
set_option maxRecDepth 20000 in
set_option maxHeartbeats 16000000 in
theorem marks_c (a0 : Option Addr) (c0 : Nat) (l0 : List Mk) (w : World) (h : MSl w a0 l0) :
    Calls Try.prog 12 #[.slice a0 l0.length c0] w fun e w' => ∃ a c L, e = .returned (.slice a L.length c) ∧ MkL L ∧ MOwn w' w.heap.size a c L ∧ Below w.heap.size w w' := by
  have hl0 := h.len
  have H := hid (fun w' (hb : Below w.heap.size w w') => h.bel hb)
  clear h
  go_enter Try.func12, Try.ntmps12
  go_wp2
  go_loopw [3, 4] (fun ov iv wr => ∃ (k : Nat) (b : Option Addr) (cb : Nat) (L : List Mk), k ≤ l0.length ∧ L.length = k ∧ iv = .int .i64 k ∧ ov = .slice b k cb ∧ MkL L ∧ Hid (MOwn wr w.heap.size b cb L) ∧ Below w.heap.size w wr) (fun _ iv _ => l0.length - (intOf iv).toNat)
  case atStart => exact ⟨0, none, 0, [], Nat.zero_le _, rfl, rfl, rfl, MkL.nil, hid (MOwn.nil _ _), Below.refl _ _⟩
  case round =>
    obtain ⟨k, b, cb, L, hk, hLk, rfl, rfl, hM, hO, hb⟩ := hrel
    have h30 := hM.len
    have HM := hid hM
    clear hM
    by_cases hlt : k < l0.length
    · have hd1 : decide (k < l0.length) = true := by simpa using hlt
      by_cases h3 : k < 30
      · have hd2 : decide ((k : Int) < 30) = true := by simp; omega
        obtain ⟨bb, off, rfl, hcs⟩ := (H.out _ hb).at hlt
        have HC : Hid (∀ w', Below w.heap.size w w' → (w'.cell? ⟨bb, off + k * 4, none⟩ = some (.int .i64 (mgt l0 k).id) ∧ w'.cell? ⟨bb, off + k * 4 + 1, none⟩ = some (.int .i64 (mgt l0 k).fr) ∧ w'.cell? ⟨bb, off + k * 4 + 2, none⟩ = some (.int .i64 (mgt l0 k).to) ∧ w'.cell? ⟨bb, off + k * 4 + 3, none⟩ = some (.int .i64 (mgt l0 k).pr))) := fun w' hb' => by
          obtain ⟨bb', off', he, hcs⟩ := (H.out _ hb').at hlt
          simp only [Option.some.injEq, Addr.mk.injEq, and_true] at he
          obtain ⟨rfl, rfl⟩ := he
          exact hcs k hlt
        obtain ⟨k0, k1, k2, k3⟩ := hcs k hlt
        have hbl := World.block_lt_of_cell? wr _ k0
        clear hcs
        obtain ⟨x1, y1⟩ := band_le (mgt l0 k).fr 31 (by decide)
        obtain ⟨x2, y2⟩ := band_le (mgt l0 k).pr 7 (by decide)
        obtain ⟨x3, y3⟩ := band_le (mgt l0 k).to 15 (by decide)
        rw [show ((31 : Nat) : Int) = 31 from rfl] at x1 y1
        rw [show ((7 : Nat) : Int) = 7 from rfl] at x2 y2
        rw [show ((15 : Nat) : Int) = 15 from rfl] at x3 y3
        obtain ⟨f, hf⟩ := Int.eq_ofNat_of_zero_le x1
        obtain ⟨p, hp⟩ := Int.eq_ofNat_of_zero_le x2
        obtain ⟨t, ht⟩ := Int.eq_ofNat_of_zero_le x3
        rw [hf] at y1
        rw [hp] at y2
        rw [ht] at y3
        have hbd : Hid (f ≤ 31 ∧ t ≤ 15 ∧ p ≤ 7) := ⟨by omega, by omega, by omega⟩
        have hwr : IntKind.i64.wrap ((f : Int) + (t : Int)) = (f : Int) + (t : Int) := by rw [IntKind.wrap_i64]; omega
        clear x1 y1 x2 y2 x3 y3
        have Hb := hid hb
        go_upto_region 5 with fail
        go_cut [5] (fun s5 wc => ∃ X, s5 = .pointer (some ⟨X, 0, none⟩) ∧ wr.heap.size ≤ X ∧ Hid (Top wc X ⟨k, f, 0, p⟩) ∧ Below wr.heap.size wr wc)
        case first =>
          go_region_with (fail)
          all_goals
            go_wp2_with fail
            go_meet
            exact ⟨_, rfl, Nat.le_refl _, hid ((Top.new wr ⟨k, f, 0, p⟩ _).bel (Below.refl _ _).drew), by (repeat' (first | exact Below.refl _ _ | assumption | refine bdrewN ?_ _ | refine Below.drew ?_ | refine bal ?_ _ | refine bthen ?_ (by assumption)))⟩
        case rest =>
          obtain ⟨X, rfl, hX, hT, hbX⟩ := hcut
          rename World => v1
          have hx1 : Below w.heap.size w v1 := bthen Hb.out hbX
          have kk := hT.out.bx
          obtain ⟨t0, t1, t2, t3⟩ := kk
          have f2 := hT.out.fr 2
          have kk := HC.out _ hx1
          obtain ⟨q0, q1, q2, q3⟩ := kk
          have hXl : X < v1.heap.size := World.block_lt_of_cell? v1 _ t0
          have HX := hid hX
          clear k0 k1 k2 k3 hX hbl
          go_upto_region 6 with fail
          go_region
          obtain ⟨V, hV⟩ : ∃ V, V = (v1.setCell ⟨X, 2, none⟩ (.int .i64 ((f : Int) + (t : Int)))).drew := ⟨_, rfl⟩
          rw [← hV]
          have hx2 : Below w.heap.size w V := by subst hV; exact (hx1.setCell (Nat.le_trans Hb.out.size HX.out) _).drew
          have hO2 : Hid (MOwn V w.heap.size b cb L) := by
            have h1 : MOwn v1 w.heap.size b cb L := hO.out.grow hbX
            subst hV
            refine hid (h1.same fun ad ha hl => ?_)
            have h2 := (hO.out.lt ⟨ad, ha, rfl⟩).2
            exact Below.heap_setCell v1 ⟨X, 2, none⟩ _ ad.block (by have := HX.out; show ad.block ≠ X; omega)
          have hB2 : Bx V X ⟨k, f, (f : Int) + (t : Int), p⟩ := by
            subst hV
            exact ⟨cell_set_other t0 (by decide), cell_set_other t1 (by decide), by show (v1.setCell ⟨X, 2, none⟩ _).cell? ⟨X, 2, none⟩ = _; rw [World.cell?_setCell_same (h := t2)], cell_set_other t3 (by decide)⟩
          clear hV t0 t1 t2 t3 f2 q0 q1 q2 q3 hXl
          obtain ⟨t0, t1, t2, t3⟩ := hB2
          have hkL : L.length = k := hLk
          go_wp2_with ((at_builtin; (refine wpL_mapp rfl (.tmp 40) (.tmp 42) rfl w.heap.size b (some ⟨V.heap.size, 0, none⟩) k 1 cb 1 L [⟨k, f, (f : Int) + (t : Int), p⟩] rfl (by first | rfl | simp | omega) (hO2.out.grow (by (repeat' (first | exact Below.refl _ _ | assumption | refine bdrewN ?_ _ | refine Below.drew ?_ | refine bal ?_ _ | refine bthen ?_ (by assumption))))) rfl (by first | rfl | simp | omega) (MSl.lit V ⟨k, f, (f : Int) + (t : Int), p⟩ 33 _ rfl #[.int .i64 (k : Int), .int .i64 (f : Int), .int .i64 ((f : Int) + (t : Int)), .int .i64 (p : Int)] rfl) (by simp; omega) (by have := hx2.size; simp; omega) ?_); intro a2 c2 w2 L2 Hl2 ho2 hb2 hk2 hA2; have HA2 := hid hA2; clear hA2; have Ho2 := hid ho2; clear ho2; have Hk2 := hid hk2; clear hk2; have hz2 := hb2.size))
          have hM2 : MkL L2 := by
            rw [Hl2.out]
            have := HM.out.snoc (by omega) hbd.out.1 hbd.out.2.1 hbd.out.2.2
            rw [hLk] at this; exact this
          have hl2 : L2.length = k + 1 := by rw [Hl2.out]; simp [hLk]
          have Hl2' := hid hl2
          go_roundw
          case rel => exact ⟨k + 1, a2, c2, L2, by omega, hl2, by go_num, (by rw [hl2]), hM2, Ho2, (hx2.alloc hx2.size _).trans hb2⟩
          case measure => simp [intOf]; omega
      · have hd2 : decide ((k : Int) < 30) = false := by simp; omega
        subst hLk
        go_wp2_with fail
        go_ret
        exact ⟨b, cb, L, rfl, HM.out, hO.out, hb⟩
    · have hd1 : decide (k < l0.length) = false := by simpa using hlt
      subst hLk
      go_wp2_with fail
      go_ret
      exact ⟨b, cb, L, rfl, HM.out, hO.out, hb⟩
end Go.Proofs.Ytaondjklclpdkaa
