/- Walks of the laws of layer 1: SignsTells. -/
import Derived.Test.YtfjcojkmlbaifaaSignsW
namespace Go.Proofs.Ytfjcojkmlbaifaa
open Go.RowKit

theorem eqM_self (l : List Int) : eqM l l = true := by simp [eqM]
theorem Sl.left {w : World} {a : Option Addr} {l r : List Int} (h : Sl w a (l ++ r)) : Sl w a l := by have := h.take l.length; simpa using this

set_option maxHeartbeats 4000000 in
theorem tells_w (a1 a2 : Option Addr) (c1 c2 : Nat) (l1 l2 : List Int) (how : Int) (w : World) (h1 : Sl w a1 l1) (h2 : Sl w a2 l2) (hb1 : l1.length ≤ 35184372088830) (hb2 : l2.length ≤ 35184372088830) :
    Calls Try.prog 4 #[.slice a1 l1.length c1, .slice a2 l2.length c2, .int .i64 how] w (Holds w) := by
  go_enter Try.func4, Try.ntmps4
  go_wp2_with fail
  refine (lend_c _ _ _ _ h1 hb1).mono ?_
  rintro e w1 ⟨g1, cx, rfl, hcx, hgx, hownx, hbel1⟩
  have hx1 := hownx.sl
  have Hcx := hid hcx; clear hcx hownx hgx
  go_wp2_with fail
  refine (lend_c _ _ _ _ (h2.bel hbel1) hb2).mono ?_
  rintro e w2 ⟨g2, cy, rfl, hcy, hgy, howny, hbel2⟩
  have hy2 := howny.sl
  have hx2 := hx1.bel hbel2
  have hb := bthen hbel1 hbel2
  have s1 := h1.bel hb
  have s2 := h2.bel hb
  have Hcy := hid hcy; clear hcy howny hgy
  go_wp2_with (first | (go_at_call 12; (with_reducible refine (may_c _ _ _ _ hx2.left).mono ?_); rintro e w' ⟨rfl, rfl⟩) | (go_at_call 13; (with_reducible refine (rmay_c _ _ _ _ s1).mono ?_); rintro e w' ⟨rfl, rfl⟩))
  refine (same_c _ _ _ _ _ _ _ hx2.left hy2.left).mono ?_
  rintro e w' ⟨rfl, n1, rfl⟩
  go_wp2_with fail
  refine (rsame_c _ _ _ _ _ _ _ (s1.drewN _) (s2.drewN _)).mono ?_
  rintro e w' ⟨rfl, n2, rfl⟩
  go_wp2_with fail
  refine (less_c _ _ _ _ _ _ _ (by first | exact (hx2.left.drewN _).drewN _ | exact hx2.left.drewN _) (by first | exact (hy2.left.drewN _).drewN _ | exact hy2.left.drewN _)).mono ?_
  rintro e w' ⟨rfl, rfl⟩
  go_wp2_with fail
  refine (rless_c _ _ _ _ _ _ _ (by first | exact (s1.drewN _).drewN _ | exact s1.drewN _) (by first | exact (s2.drewN _).drewN _ | exact s2.drewN _)).mono ?_
  rintro e w' ⟨rfl, n3, rfl⟩
  go_wp2_with fail
  obtain ⟨h7, hh7⟩ : ∃ h7, h7 = bits BinOp.and IntKind.i64 how 7 := ⟨_, rfl⟩
  rw [← hh7]
  clear hh7
  have hw2 : w2.heap.size = (w2.drewN (n1 + n2 + n3)).heap.size := rfl
  have hV : Below w.heap.size w ((w2.drewN (n1 + n2 + n3)).alloc (Obj.cells #[Value.int IntKind.i64 how, Value.int IntKind.i64 h7] 3)) := bal (bdrewN hb _) _
  have hV2 : Below w2.heap.size w2 ((w2.drewN (n1 + n2 + n3)).alloc (Obj.cells #[Value.int IntKind.i64 how, Value.int IntKind.i64 h7] 3)) := bal (bdrewN (Below.refl _ _) _) _
  have v0 : ((w2.drewN (n1 + n2 + n3)).alloc (Obj.cells #[Value.int IntKind.i64 how, Value.int IntKind.i64 h7] 3)).cell? ⟨w2.heap.size, 0, none⟩ = some (.int .i64 how) := cell_alloc_new (w2.drewN (n1 + n2 + n3)) _ _ 0
  have v1 : ((w2.drewN (n1 + n2 + n3)).alloc (Obj.cells #[Value.int IntKind.i64 how, Value.int IntKind.i64 h7] 3)).cell? ⟨w2.heap.size, 1, none⟩ = some (.int .i64 h7) := cell_alloc_new (w2.drewN (n1 + n2 + n3)) _ _ 1
  have hVs : w2.heap.size < ((w2.drewN (n1 + n2 + n3)).alloc (Obj.cells #[Value.int IntKind.i64 how, Value.int IntKind.i64 h7] 3)).heap.size := by simp
  generalize (w2.drewN (n1 + n2 + n3)).alloc (Obj.cells _ 3) = V at *
  have tx := hx2.bel hV2
  have ty := hy2.bel hV2
  have t1 := s1.bel hV2
  have t2 := s2.bel hV2
  clear hx1 hx2 hy2 s1 s2 hV2 hbel1 hbel2 hb h1 h2
  have V0 := hid v0
  have V1 := hid v1
  clear v0 v1 hw2
  go_loopw [44] (fun i wr => ∃ k : Nat, k ≤ 2 ∧ i = .int .i64 k ∧ Below V.heap.size V wr) (fun i _ => 2 - (intOf i).toNat)
  case atStart => exact ⟨0, by omega, rfl, Below.refl _ _⟩
  case round =>
    obtain ⟨k, hk, rfl, hr⟩ := hrel
    by_cases hlt : k < 2
    · obtain ⟨h, ck⟩ : ∃ h, wr.cell? ⟨w2.heap.size, k, none⟩ = some (.int .i64 h) := by
        rw [hr.cell (p := ⟨w2.heap.size, k, none⟩) hVs]
        match k, hlt with
        | 0, _ => exact ⟨_, V0.out⟩
        | 1, _ => exact ⟨_, V1.out⟩
      have he := eqM_self (cas l1 h)
      have rx := (tx.bel hr).left
      have r1 := t1.bel hr
      go_wp2_with fail
      refine (case_c _ _ _ _ _ rx).mono ?_
      rintro e w4 ⟨a4, c4, rfl, hown4, hbel4⟩
      have Hown4 := hid hown4; clear hown4
      go_wp2_with fail
      refine (rcase_c _ _ _ _ _ (r1.bel hbel4)).mono ?_
      rintro e w5 ⟨a5, c5, rfl, hown5, hbel5⟩
      have Hown5 := hid hown5; clear hown5
      go_wp2_with fail
      refine (rsame_c _ _ _ _ _ _ _ (Hown4.out.sl.bel hbel5) Hown5.out.sl).mono ?_
      rintro e w' ⟨rfl, n6, rfl⟩
      rw [he]
      go_wp2_with fail
      refine (spoil_c wr.heap.size _ _ _ _ ((Hown4.out.grow hbel5).drewN n6)).mono ?_
      rintro e w6 ⟨rfl, hbel6⟩
      go_wp2
      go_roundw
      case rel => exact ⟨k + 1, by omega, by go_num, bthen hr ((bdrewN (bthen hbel4 hbel5) n6).trans hbel6)⟩
      case measure => simp [intOf]; omega
    · have rx := tx.bel hr
      have ry := ty.bel hr
      have r1 := t1.bel hr
      have r2 := t2.bel hr
      go_wp2_with fail
      refine (kept_c _ _ _ _ _ _ rx Hcx.out r1).mono ?_
      rintro e w' ⟨rfl, n7, rfl⟩
      go_wp2_with fail
      refine (kept_c _ _ _ _ _ _ (ry.drewN _) Hcy.out (r2.drewN _)).mono ?_
      rintro e w' ⟨rfl, n8, rfl⟩
      go_wp2_with fail
      refine (known_c _).mono ?_
      rintro e w6 ⟨rfl, hb6⟩
      go_wp2
      go_ret
      exact ⟨rfl, bthen (by first | exact bdrewN (bdrewN (bthen hV hr) _) _ | exact bdrewN (bthen hV hr) _) hb6⟩
end Go.Proofs.Ytfjcojkmlbaifaa
