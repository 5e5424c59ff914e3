/- What is asked of both sets: same. -/
import Derived.Test.YtaondjklclpdkaaTsb
import Derived.Deep.RegionHeld3
namespace Go.Proofs.Ytaondjklclpdkaa
open Go.RowKit

theorem sameMarks_t (a1 a2 : Option Addr) (c1 c2 : Nat) (l : List Mk) (w : World) (h1 : MSl w a1 l) (h2 : MSl w a2 l) :
    Calls Try.prog 17 #[.slice a1 l.length c1, .slice a2 l.length c2] w fun e w' => e = .returned (.bool true) ∧ ∃ n, w' = w.drewN n :=
  (sameMarks_c a1 a2 c1 c2 l l w h1 h2).mono fun e w' ⟨he, hn⟩ => ⟨by rw [he]; exact ret_bool (decide_eq_true rfl), hn⟩
/-- the cells of a slice of marks that are written over -/
def Wrt (w : World) (g n : Nat) : Prop := ∀ j, j < n → (∃ v, w.cell? ⟨g, j * 4 + 1, none⟩ = some v) ∧ w.frozen? ⟨g, j * 4 + 1, none⟩ = false
theorem MOwn.wrt {w : World} {base g c : Nat} {l : List Mk} (h : MOwn w base (some ⟨g, 0, none⟩) c l) : Wrt w g l.length := by
  intro j hj
  obtain ⟨b, o, he, hc⟩ := h.sl.at hj
  simp only [Option.some.injEq, Addr.mk.injEq, and_true] at he
  obtain ⟨rfl, rfl⟩ := he
  have := (hc j hj).2.1
  rw [Nat.zero_add] at this
  exact ⟨⟨_, this⟩, h.1.frozenAt _⟩
theorem Wrt.set {w : World} {g n : Nat} (h : Wrt w g n) (i : Nat) (v : Value) : Wrt (w.setCell ⟨g, i * 4 + 1, none⟩ v) g n := by
  intro j hj
  obtain ⟨⟨u, hu⟩, hf⟩ := h j hj
  refine ⟨?_, by rw [World.frozen?_setCell]; exact hf⟩
  by_cases he : i = j
  · subst he; exact ⟨v, by rw [World.cell?_setCell_same (h := hu)]⟩
  · exact ⟨u, cell_set_other hu (by omega)⟩
theorem get_of {L : List Mk} (g : Gd L) {k : Nat} (hk : k < L.length) : getV L (mgt L k).id = mgt L k ∧ decide (pos L (mgt L k).id < L.length) = true := by
  have h := pos_at g.ids hk
  unfold getV
  rw [h, if_pos hk]
  exact ⟨rfl, decide_eq_true hk⟩
theorem two_get {B : Nat} {P : Nat → Prop} {w : World} {s r : Nat} {l l' : List Mk} (i : Int) (h : Two B P w s r l l') (g : Gd l) {m : Mk} {b : Bool} (hm : getV l i = m) (hb : decide (pos l i < l.length) = b) :
    Calls Try.prog 28 #[.pointer (some ⟨s, 0, none⟩), .int .i64 i] w fun e w' => e = .returned (.tuple #[(.agg #[.int .i64 m.id, .int .i64 m.fr, .int .i64 m.to, .int .i64 m.pr]), .bool b]) ∧ Below w.heap.size w w' := one_get i h.one g hm hb
set_option maxRecDepth 20000 in
set_option maxHeartbeats 40000000 in
theorem same_c {B : Nat} {P : Nat → Prop} (s r : Nat) (L : List Mk) (w : World) (h : Two B P w s r L L) (g : Gd L) :
    Calls Try.prog 31 #[.pointer (some ⟨s, 0, none⟩), .pointer (some ⟨r, 0, none⟩)] w fun e w' => e = .returned (.bool true) ∧ Below w.heap.size w w' := by
  obtain ⟨ar, cr, hC⟩ := h.ref
  have HC := hid (fun w' (hb : Below w.heap.size w w') => hC.bel hb)
  have H0 := hid (fun w' (hb : Below w.heap.size w w') => h.bel hb)
  have G := hid g
  have hl := g.len
  clear h g hC
  go_enter Try.func31, Try.ntmps31
  go_wp2_with fail
  refine (one_all (H0.out w (Below.refl _ _)).one G.out).mono ?_
  rintro e w1 ⟨a1, c1, L1, rfl, hL1, ho1, b1⟩
  have hLe := hL1.out.symm
  subst hLe
  have O1 := hid ho1
  clear ho1 hL1
  have KC : Hid (∀ w', Below w.heap.size w w' → w'.cell? ⟨r, 0, none⟩ = some (.slice ar L.length cr)) := fun w' hb => (HC.out w' hb).cell
  have B1 := hid b1
  have xr : Below w.heap.size w w1.drew := b1.drew
  have xr1 : Below w1.heap.size w1 w1.drew := (Below.refl _ _).drew
  have Q1 := hid (fun w' (hb : Below w1.heap.size w1 w') => (O1.out.grow hb).sl)
  have Qr := hid (fun w' (hb : Below w.heap.size w w') => (HC.out w' hb).sl)
  clear b1
  go_upto_region 2 with fail
  have l0 := KC.out _ xr
  go_cut [6] (fun s6 wc => s6 = .bool true ∧ Below w1.heap.size w1 wc)
  case first =>
    go_region_held3 (fun w' => w'.cell? ⟨r, 0, none⟩ = some (.slice ar L.length cr)) (first | (with_reducible assumption))
      (first | (go_at_call 17; refine (sameMarks_t a1 ar c1 cr L _ (Q1.out _ xr1) (Qr.out _ xr)).mono ?_; rintro e v1 ⟨rfl, nd, rfl⟩; have x2 : Below w1.heap.size w1 (w1.drew.drewN nd) := bdrewN xr1 nd; have y2 : Below w.heap.size w (w1.drew.drewN nd) := bdrewN xr nd; have l1 := KC.out _ y2; generalize w1.drew.drewN nd = vq at x2 y2 l1 ⊢)
             | (go_at_call 23; refine (one_len (H0.out _ y2).one G.out rfl).mono ?_; rintro e v2 ⟨rfl, b2⟩; have x3 := bthen x2 b2; have y3 := bthen y2 b2; have l2 := KC.out _ y3))
    all_goals
      go_wp2_with fail
      go_meet
      exact ⟨rfl, x3⟩
  case rest =>
    obtain ⟨rfl, hx⟩ := hcut
    rename World => v1
    have y1 := bthen B1.out hx
    have OW : Hid (L = [] ∨ ∃ gb, a1 = some ⟨gb, 0, none⟩ ∧ w.heap.size ≤ gb ∧ Wrt v1 gb L.length) := by
      have ho := O1.out.grow hx
      rcases ho.shape with ⟨_, _, h0⟩ | ⟨gb, rfl, hg, _⟩
      · exact .inl h0
      · exact .inr ⟨gb, rfl, hg, ho.wrt⟩
    clear l0 xr xr1 hx O1 Q1
    go_wp2_with fail
    go_loopw [7, 32] (fun _ iv wr => ∃ k : Nat, k ≤ L.length ∧ iv = .int .i64 k ∧ Hid (L = [] ∨ ∃ gb, a1 = some ⟨gb, 0, none⟩ ∧ w.heap.size ≤ gb ∧ Wrt wr gb L.length) ∧ Below w.heap.size w wr) (fun _ iv _ => L.length - (intOf iv).toNat)
    case atStart => exact ⟨0, Nat.zero_le _, rfl, OW.out, y1⟩
    case round =>
      obtain ⟨k, hk, rfl, hW, hb⟩ := hrel
      by_cases hlt : k < L.length
      · have hd : decide (k < L.length) = true := by simpa using hlt
        rcases hW.out with h0 | ⟨gb, rfl, hg, hw⟩
        · rw [h0] at hlt; simp at hlt
        · obtain ⟨⟨u, hu⟩, hf⟩ := hw k hlt
          have Hw := hid hw
          clear hw hW OW
          go_wp2_with fail
          go_roundw
          case rel => exact ⟨k + 1, by omega, by go_num, hid (.inr ⟨gb, rfl, hg, Hw.out.set k _⟩), hb.setCell hg _⟩
          case measure => simp [intOf]; omega
      · have hd : decide (k < L.length) = false := by simpa using hlt
        have lr := KC.out _ hb
        clear OW hW hlt
        go_wp2_with fail
        go_loopw [6, 45] (fun ov iv wr => ∃ k : Nat, k ≤ L.length ∧ iv = .int .i64 k ∧ ov = .bool true ∧ Below w.heap.size w wr) (fun _ iv _ => L.length - (intOf iv).toNat)
        case atStart => exact ⟨0, Nat.zero_le _, rfl, rfl, hb⟩
        case round =>
          rename World => v0
          obtain ⟨j, hj, rfl, rfl, hb0⟩ := hrel
          by_cases hlt : j < L.length
          · have hd2 : decide (j < L.length) = true := by simpa using hlt
            obtain ⟨bb, off, rfl, hcs⟩ := (Qr.out _ hb0).at hlt
            obtain ⟨k0, k1, k2, k3⟩ := hcs j hlt
            have hbl := World.block_lt_of_cell? v0 _ k0
            have Hget := hid (get_of G.out hlt)
            obtain ⟨m, hm⟩ : ∃ m, m = mgt L j := ⟨_, rfl⟩
            rw [← hm] at k0 k1 k2 k3 Hget
            have Hm := hid hm
            obtain ⟨dv, hdv⟩ : ∃ dv, depL L m.id = dv := ⟨_, rfl⟩
            have Hdv := hid hdv
            clear hcs hm hdv
            go_upto_region 11 with fail
            obtain ⟨V, hV⟩ : ∃ V, V = v0.alloc (.cells #[.int .i64 m.id, .int .i64 m.fr, .int .i64 m.to, .int .i64 m.pr] 33) := ⟨_, rfl⟩
            rw [← hV]
            have bV : Below v0.heap.size v0 V := by subst hV; exact (Below.refl _ _).alloc (Nat.le_refl _) _
            have KV : Bx V v0.heap.size m := by subst hV; exact Bx.new v0 m _
            have xV := bthen hb0 bV
            have HKV := hid KV
            clear hV k0 k1 k2 k3 hbl
            obtain ⟨m0, m1, m2, m3⟩ := KV
            go_wp2_with fail
            refine (two_get m.id (H0.out _ xV) G.out Hget.out.1 Hget.out.2).mono ?_
            rintro e v2 ⟨rfl, bv2⟩
            have x2 := bthen xV bv2
            have K2 := hid (HKV.out.bel bv2)
            clear m0 m1 m2 m3
            have kk := K2.out
            obtain ⟨m0, m1, m2, m3⟩ := kk
            have hml := World.block_lt_of_cell? v2 _ m0
            go_upto_region 12 with fail
            obtain ⟨V2, hV2⟩ : ∃ V2, V2 = v2.alloc (.cells #[.int .i64 m.id, .int .i64 m.fr, .int .i64 m.to, .int .i64 m.pr] 33) := ⟨_, rfl⟩
            rw [← hV2]
            have bV2 : Below v2.heap.size v2 V2 := by subst hV2; exact (Below.refl _ _).alloc (Nat.le_refl _) _
            have KX : Bx V2 v2.heap.size m := by subst hV2; exact Bx.new v2 m _
            have K3 := hid (fun w' (hb : Below V2.heap.size V2 w') => And.intro (KX.bel hb) ((K2.out.bel bV2).bel hb))
            have x3 := bthen x2 bV2
            have xd : Below V2.heap.size V2 V2.drew := (Below.refl _ _).drew
            have yd : Below w.heap.size w V2.drew := x3.drew
            clear hV2 m0 m1 m2 m3 KX hml
            have kk := K3.out _ xd
            obtain ⟨⟨p0, p1, p2, p3⟩, q0, q1, q2, q3⟩ := kk
            go_region_held3 (fun w' => (w'.cell? ⟨v2.heap.size, 0, none⟩ = some (.int .i64 m.id) ∧ w'.cell? ⟨v2.heap.size, 1, none⟩ = some (.int .i64 m.fr) ∧ w'.cell? ⟨v2.heap.size, 2, none⟩ = some (.int .i64 m.to) ∧ w'.cell? ⟨v2.heap.size, 3, none⟩ = some (.int .i64 m.pr)) ∧ (w'.cell? ⟨v0.heap.size, 0, none⟩ = some (.int .i64 m.id) ∧ w'.cell? ⟨v0.heap.size, 1, none⟩ = some (.int .i64 m.fr) ∧ w'.cell? ⟨v0.heap.size, 2, none⟩ = some (.int .i64 m.to) ∧ w'.cell? ⟨v0.heap.size, 3, none⟩ = some (.int .i64 m.pr))) (first | (with_reducible assumption) | exact ⟨⟨by with_reducible assumption, by with_reducible assumption, by with_reducible assumption, by with_reducible assumption⟩, by with_reducible assumption, by with_reducible assumption, by with_reducible assumption, by with_reducible assumption⟩)
              (first | (go_at_call 16; refine (two_depth m.id (H0.out _ yd) G.out Hdv.out).mono ?_; rintro e u1 ⟨rfl, bu1⟩; have z1 := bthen xd bu1; have y1 := bthen yd bu1; have kk := K3.out _ z1; obtain ⟨⟨r0, r1, r2, r3⟩, t0, t1, t2, t3⟩ := kk)
                     | (go_at_call 24; refine (two_rdepth m.id (H0.out _ y1) G.out Hdv.out).mono ?_; rintro e u2 ⟨rfl, bu2⟩; have z2 := bthen z1 bu2; have kk := K3.out _ z2; obtain ⟨⟨n0, n1, n2, n3⟩, o0, o1, o2, o3⟩ := kk))
            all_goals
              clear p0 p1 p2 p3 q0 q1 q2 q3 r0 r1 r2 r3 t0 t1 t2 t3 n0 n1 n2 n3 o0 o1 o2 o3
              go_wp2_with fail
              go_roundw
              case rel => exact ⟨j + 1, by omega, by go_num, rfl, bthen x3 z2⟩
              case measure => simp [intOf]; omega
          · have hd2 : decide (j < L.length) = false := by simpa using hlt
            go_wp2_with fail
            go_ret
            exact ⟨rfl, hb0⟩
end Go.Proofs.Ytaondjklclpdkaa
