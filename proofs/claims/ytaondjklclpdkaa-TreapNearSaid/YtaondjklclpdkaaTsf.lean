/- The walk of TreapNear. -/
import Derived.Test.YtaondjklclpdkaaTsd
import Derived.Test.YtaondjklclpdkaaDdo
import Derived.Deep.CutBlock
import Derived.Deep.DeepCutAuto
namespace Go.Proofs.Ytaondjklclpdkaa
open Go.RowKit

/-- the cells of a deed in a box -/
def Bd (w : World) (b : Nat) (d : Td) : Prop := w.cell? ⟨b, 0, none⟩ = some (.int .i64 d.how) ∧ w.cell? ⟨b, 1, none⟩ = some (.int .i64 d.m.id) ∧ w.cell? ⟨b, 2, none⟩ = some (.int .i64 d.m.fr) ∧ w.cell? ⟨b, 3, none⟩ = some (.int .i64 d.m.to) ∧ w.cell? ⟨b, 4, none⟩ = some (.int .i64 d.m.pr)
set_option maxRecDepth 20000 in
set_option maxHeartbeats 40000000 in
theorem near_w (a0 : Option Addr) (c0 : Nat) (l0 : List Td) (W : World) (h : TSl W a0 l0) (_hlen : l0.length ≤ 1000000000000000) :
    Calls Try.prog 4 #[.slice a0 l0.length c0] W fun e w' => e = .returned (.bool true) ∧ Below W.heap.size W w' := by
  have H := hid h
  clear h
  go_enter Try.func4, Try.ntmps4
  go_wp2
  go_loopw [3, 4] (fun ov iv wr => ∃ (k : Nat) (b : Option Addr) (cb : Nat) (L : List Td), k ≤ l0.length ∧ k ≤ 50 ∧ L.length = k ∧ iv = .int .i64 k ∧ ov = .slice b k cb ∧ Hid (DOwn wr W.heap.size b cb L) ∧ Below W.heap.size W wr) (fun _ iv _ => l0.length - (intOf iv).toNat)
  case atStart => exact ⟨0, none, 0, [], Nat.zero_le _, by omega, rfl, rfl, rfl, hid (DOwn.nil _ _), Below.refl _ _⟩
  case round =>
    obtain ⟨k, b, cb, L, hk, hk5, hLk, rfl, rfl, hO, hb⟩ := hrel
    by_cases hlt : k < l0.length
    · have hd1 : decide (k < l0.length) = true := by simpa using hlt
      by_cases h5 : k < 50
      · have hd2 : decide ((k : Int) < 50) = true := by simp; omega
        obtain ⟨bb, off, rfl, hcs⟩ := (H.out.bel hb).at hlt
        obtain ⟨c0_, c1, c2, c3, c4⟩ := hcs k hlt
        have hir := H.out.ok _ (List.getElem_mem hlt)
        obtain ⟨td, htd⟩ : ∃ td, td = l0[k] := ⟨_, rfl⟩
        rw [← htd] at c0_ c1 c2 c3 c4 hir
        have Htd := hid htd
        have HC : Hid (∀ w', Below W.heap.size W w' → w'.cell? ⟨bb, off + k * 5 + 1 + 2, none⟩ = some (.int .i64 td.m.to)) := fun w' hb' => by
          obtain ⟨bb', off', he, hcs⟩ := (H.out.bel hb').at hlt
          simp only [Option.some.injEq, Addr.mk.injEq, and_true] at he
          obtain ⟨rfl, rfl⟩ := he
          rw [htd]; exact (hcs k hlt).2.2.2.1
        clear htd hcs
        obtain ⟨how, m⟩ := td
        obtain ⟨hih, hmi⟩ := hir
        have Hih := hid hih
        have hbl := World.block_lt_of_cell? wr _ c0_
        dsimp only at c0_ c1 c2 c3 c4 HC
        obtain ⟨x1, y1⟩ := band_le m.id 15 (by decide)
        obtain ⟨x2, y2⟩ := band_le m.fr 7 (by decide)
        obtain ⟨x3, y3⟩ := band_le m.pr 3 (by decide)
        obtain ⟨x4, y4⟩ := band_le m.to 7 (by decide)
        rw [show ((15 : Nat) : Int) = 15 from rfl] at x1 y1
        rw [show ((7 : Nat) : Int) = 7 from rfl] at x2 y2 x4 y4
        rw [show ((3 : Nat) : Int) = 3 from rfl] at x3 y3
        obtain ⟨i, hi⟩ := Int.eq_ofNat_of_zero_le x1
        obtain ⟨f, hf⟩ := Int.eq_ofNat_of_zero_le x2
        obtain ⟨p, hp⟩ := Int.eq_ofNat_of_zero_le x3
        obtain ⟨t, ht⟩ := Int.eq_ofNat_of_zero_le x4
        rw [hi] at y1
        rw [hf] at y2
        rw [hp] at y3
        rw [ht] at y4
        have hwr : IntKind.i64.wrap ((f : Int) + (t : Int)) = (f : Int) + (t : Int) := by rw [IntKind.wrap_i64]; omega
        have hbnd : Hid (i ≤ 15 ∧ f ≤ 7 ∧ p ≤ 3 ∧ t ≤ 7) := ⟨by omega, by omega, by omega, by omega⟩
        clear x1 y1 x2 y2 x3 y3 x4 y4 hmi hih
        have Hb := hid hb
        go_upto_region 7 with fail
        obtain ⟨V, hV⟩ : ∃ V, V = wr.alloc (.cells #[.int .i64 how, .int .i64 (i : Int), .int .i64 (f : Int), .int .i64 0, .int .i64 (p : Int)] 35) := ⟨_, rfl⟩
        rw [← hV]
        have bV : Below wr.heap.size wr V := by subst hV; exact (Below.refl _ _).alloc (Nat.le_refl _) _
        have KV : Bd V wr.heap.size ⟨how, ⟨i, f, 0, p⟩⟩ := by
          subst hV
          exact ⟨by rw [cell_alloc_new]; rfl, by rw [cell_alloc_new]; rfl, by rw [cell_alloc_new]; rfl, by rw [cell_alloc_new]; rfl, by rw [cell_alloc_new]; rfl⟩
        have fV : V.frozen? ⟨wr.heap.size, 3, none⟩ = false := by subst hV; simp
        have xV : Below W.heap.size W V := bthen Hb.out bV
        have kc := HC.out V xV
        have BV := hid bV
        obtain ⟨m0, m1, m2, m3, m4⟩ := KV
        have hXl := World.block_lt_of_cell? V _ m0
        clear hV c0_ c1 c2 c3 c4 hbl bV
        go_region
        all_goals
          obtain ⟨V2, hV2⟩ : ∃ V2, V2 = (V.setCell ⟨wr.heap.size, 3, none⟩ (.int .i64 ((f : Int) + (t : Int)))).drew := ⟨_, rfl⟩
          rw [← hV2]
          have x2 : Below W.heap.size W V2 := by subst hV2; exact (xV.setCell Hb.out.size _).drew
          have hO2 : Hid (DOwn V2 W.heap.size b cb L) := by
            have h1 : DOwn V W.heap.size b cb L := hO.out.grow BV.out
            subst hV2
            refine hid (h1.same fun ad ha hl => ?_)
            have h2 := (hO.out.lt ⟨ad, ha, rfl⟩).2
            exact Below.heap_setCell V ⟨wr.heap.size, 3, none⟩ _ ad.block (by show ad.block ≠ wr.heap.size; omega)
          have hB2 : Bd V2 wr.heap.size ⟨how, ⟨i, f, (f : Int) + (t : Int), p⟩⟩ := by
            subst hV2
            exact ⟨cell_set_other m0 (by decide), cell_set_other m1 (by decide), cell_set_other m2 (by decide), by show (V.setCell ⟨wr.heap.size, 3, none⟩ _).cell? ⟨wr.heap.size, 3, none⟩ = _; rw [World.cell?_setCell_same (h := m3)], cell_set_other m4 (by decide)⟩
          have hdi : TdIr ⟨how, ⟨i, f, (f : Int) + (t : Int), p⟩⟩ := by
            obtain ⟨z1, z2, z3, z4⟩ := hbnd.out
            exact ⟨Hih.out, ir_small (by dsimp only; omega), ir_small (by dsimp only; omega), ir_small (by dsimp only; omega), ir_small (by dsimp only; omega)⟩
          have Hdi := hid hdi
          clear hV2 m0 m1 m2 m3 m4 kc fV hXl hdi
          obtain ⟨m0, m1, m2, m3, m4⟩ := hB2
          dsimp only at m0 m1 m2 m3 m4
          have hz := x2.size
          go_wp2_with (at_builtin; refine wpL_dapp rfl (.tmp 48) (.tmp 50) rfl W.heap.size b V2.heap.size k cb 1 L ⟨how, ⟨i, f, (f : Int) + (t : Int), p⟩⟩ rfl hLk.symm (hO2.out.grow (by (repeat' (first | exact Below.refl _ _ | assumption | refine bdrewN ?_ _ | refine Below.drew ?_ | refine bal ?_ _ | refine bthen ?_ (by assumption))))) rfl (TSl.lit V2 ⟨how, ⟨i, f, (f : Int) + (t : Int), p⟩⟩ 35 _ rfl #[.int .i64 how, .int .i64 (i : Int), .int .i64 (f : Int), .int .i64 ((f : Int) + (t : Int)), .int .i64 (p : Int)] rfl Hdi.out) (by omega) (by simp; omega) ?_; intro a2 c2 w2 L2 Hl2 ho2 hb2; have Ho2 := hid ho2; clear ho2)
          have hl2 : L2.length = k + 1 := by rw [Hl2.out]; simp [hLk]
          go_roundw
          case rel => exact ⟨k + 1, a2, c2, L2, by omega, by omega, hl2, by go_num, (by rw [hl2]), Ho2, (x2.alloc x2.size _).trans hb2⟩
          case measure => simp [intOf]; omega
      · have hd2 : decide ((k : Int) < 50) = false := by simp; omega
        subst hLk
        have O0 := hid hO
        have Hk5 := hid hk5
        clear hk hk5
        go_wp2_with fail
        refine (one_new (B := wr.heap.size) (Nat.le_refl _)).mono ?_
        rintro e w1 ⟨s, rfl, h1, b1⟩
        have T0 := hid (two_new (e := 29) h1 (Below.refl _ _) b1.size)
        have x0 := b1.alloc b1.size (.cells #[.slice none 0 0] 29)
        clear h1
        go_wp2_with fail
        refine (play_c (B := wr.heap.size) s w1.heap.size b cb L _ T0.out (fun w' hb' => (O0.out.grow (x0.trans hb')).sl) (by have := Hk5.out; omega) x0.size).mono ?_
        rintro e w2 ⟨rfl, b2⟩
        have x2 := x0.trans b2
        go_wp2_with fail
        refine (known_c w2).mono ?_
        rintro e w3 ⟨rfl, b3⟩
        go_wp2_with fail
        go_ret
        exact ⟨rfl, bthen hb (bthen x2 b3)⟩
    · have hd1 : decide (k < l0.length) = false := by simpa using hlt
      subst hLk
      have O0 := hid hO
      have Hk5 := hid hk5
      clear hk hk5
      go_wp2_with fail
      refine (one_new (B := wr.heap.size) (Nat.le_refl _)).mono ?_
      rintro e w1 ⟨s, rfl, h1, b1⟩
      have T0 := hid (two_new (e := 29) h1 (Below.refl _ _) b1.size)
      have x0 := b1.alloc b1.size (.cells #[.slice none 0 0] 29)
      clear h1
      go_wp2_with fail
      refine (play_c (B := wr.heap.size) s w1.heap.size b cb L _ T0.out (fun w' hb' => (O0.out.grow (x0.trans hb')).sl) (by have := Hk5.out; omega) x0.size).mono ?_
      rintro e w2 ⟨rfl, b2⟩
      have x2 := x0.trans b2
      go_wp2_with fail
      refine (known_c w2).mono ?_
      rintro e w3 ⟨rfl, b3⟩
      go_wp2_with fail
      go_ret
      exact ⟨rfl, bthen hb (bthen x2 b3)⟩
end Go.Proofs.Ytaondjklclpdkaa
