/- The walk of TreapFull. -/
import Derived.Test.YtaondjklclpdkaaTrt
namespace Go.Proofs.Ytaondjklclpdkaa
open Go.RowKit

def fm (b i : Nat) : Mk := ⟨i, ((i * 7 % 50 : Nat) : Int), ((50 + i % 9 : Nat) : Int), (((i * i + b) % 37 : Nat) : Int)⟩
def ful (b : Nat) : Nat → List Mk
  | 0 => []
  | k + 1 => putM (ful b k) (fm b k)
theorem fm_id (b i : Nat) : (fm b i).id = i := rfl
theorem fm_ok (b i : Nat) : spanOk (fm b i).fr (fm b i).to = true := by
  unfold spanOk; apply decide_eq_true; simp only [fm]; omega
theorem ful_mem (b k : Nat) (x : Mk) : x ∈ ful b k ↔ ∃ i, i < k ∧ x = fm b i := by
  induction k with
  | zero => simp [ful]
  | succ k ih =>
    simp only [ful]
    rw [putM_mem, ih]
    constructor
    · rintro (rfl | ⟨i, hi, rfl⟩)
      · exact ⟨k, by omega, rfl⟩
      · exact ⟨i, by omega, rfl⟩
    · rintro ⟨i, hi, rfl⟩
      rcases Nat.lt_or_ge i k with h | h
      · exact .inr ⟨i, h, rfl⟩
      · obtain rfl : i = k := by omega
        exact .inl rfl
theorem ful_len (b k : Nat) : (ful b k).length = k := by
  induction k with
  | zero => rfl
  | succ k ih => simp only [ful]; rw [putM_len, ih]
theorem ful_none {b k : Nat} {x : Int} (h : ∀ i : Nat, i < k → (i : Int) ≠ x) : pos (ful b k) x = (ful b k).length := by
  rw [pos_none]
  intro y hy
  obtain ⟨i, hi, rfl⟩ := (ful_mem b k y).1 hy
  exact h i hi
theorem ful_gd (b : Nat) : ∀ k, k ≤ 600 → Gd (ful b k) := by
  intro k
  induction k with
  | zero => intro _; exact Gd.nil
  | succ k ih =>
    intro hk
    exact (ih (by omega)).put (fm_ok b k) (ful_none fun i hi => by rw [fm_id]; omega) (by rw [ful_len]; omega) ⟨by simp only [fm]; unfold ir; omega, by simp only [fm]; unfold ir; omega⟩
theorem ful_add (b k : Nat) (hk : k < 600) : addE (ful b k) (fm b k) = 0 ∧ addL (ful b k) (fm b k) = ful b (k + 1) := by
  have h : addE (ful b k) (fm b k) = 0 := addE_zero.2 ⟨fm_ok b k, ful_none fun i hi => by rw [fm_id]; omega, by rw [ful_len]; exact hk⟩
  exact ⟨h, by unfold addL; rw [if_pos h]; rfl⟩
/-- one more -/
theorem ful_more (b : Nat) : addE (ful b 600) ⟨-1, 0, 0, 0⟩ = 3 ∧ addL (ful b 600) ⟨-1, 0, 0, 0⟩ = ful b 600 := by
  have hp : pos (ful b 600) (-1) = (ful b 600).length := ful_none fun i hi => by omega
  have hl := ful_len b 600
  generalize ful b 600 = L at *
  have h : addE L ⟨-1, 0, 0, 0⟩ = 3 := by
    unfold addE
    rw [if_pos (by decide)]
    dsimp only
    rw [hp, if_neg (by omega), if_pos (by omega)]
  exact ⟨h, by unfold addL; rw [h, if_neg (by decide)]⟩
theorem ful_twice (b : Nat) : addE (ful b 600) ⟨5, 0, 0, 0⟩ = 1 ∧ addL (ful b 600) ⟨5, 0, 0, 0⟩ = ful b 600 := by
  have hm : fm b 5 ∈ ful b 600 := (ful_mem b 600 _).2 ⟨5, by omega, rfl⟩
  generalize ful b 600 = L at *
  have hp := pos_mem hm
  rw [show (fm b 5).id = 5 from rfl] at hp
  have h : addE L ⟨5, 0, 0, 0⟩ = 1 := by
    unfold addE
    rw [if_pos (by decide), if_pos hp]
  exact ⟨h, by unfold addL; rw [h, if_neg (by decide)]⟩
theorem ful_less (b : Nat) : remE (ful b 600) 7 = 0 ∧ addE (remL (ful b 600) 7) ⟨-1, 0, 0, 0⟩ = 0 := by
  have hm : fm b 7 ∈ ful b 600 := (ful_mem b 600 _).2 ⟨7, by omega, rfl⟩
  have hg := ful_gd b 600 (by omega)
  have hl := ful_len b 600
  have hmem := fun x => (ful_mem b 600 x).1
  generalize ful b 600 = L at *
  have hp := pos_mem hm
  rw [show (fm b 7).id = 7 from rfl] at hp
  refine ⟨by unfold remE; rw [if_pos hp], addE_zero.2 ⟨by decide, pos_none.2 fun x hx => ?_, ?_⟩⟩
  · have := (takM_mem hg.ids hp).1 hx
    obtain ⟨i, hi, rfl⟩ := hmem x this.1
    rw [fm_id]; dsimp only; omega
  · have := takM_len hp
    rw [hl] at this
    unfold remL; omega
theorem wrap64_small {z : Int} (h : 0 ≤ z ∧ z ≤ 1000000) : wrap64 z = z := by unfold wrap64; omega
theorem fm_ex (b k : Nat) (hk : k ≤ 600) (hb : b ≤ 65535) : ∃ f t q : Nat, (k : Int) * 7 % 50 = (f : Int) ∧ 50 + (k : Int) % 9 = (t : Int) ∧
    (wrap64 (wrap64 ((k : Int) * (k : Int)) + (b : Int))).tmod 37 = (q : Int) ∧ fm b k = ⟨(k : Int), (f : Int), (t : Int), (q : Int)⟩ ∧ ir (k : Int) ∧ ir (q : Int) := by
  have h1 := Nat.mul_le_mul hk hk
  have e : (k : Int) * (k : Int) = ((k * k : Nat) : Int) := (Int.natCast_mul k k).symm
  refine ⟨k * 7 % 50, 50 + k % 9, (k * k + b) % 37, by omega, by omega, ?_, rfl, ir_small (by omega), ?_⟩
  · rw [e]
    generalize k * k = z at *
    have w1 : wrap64 (z : Int) = (z : Int) := wrap64_small (by omega)
    have w2 : wrap64 ((z : Int) + (b : Int)) = (z : Int) + (b : Int) := wrap64_small (by omega)
    rw [w1, w2, ← Int.natCast_add]; rfl
  · have : (k * k + b) % 37 < 37 := Nat.mod_lt _ (by omega)
    generalize (k * k + b) % 37 = z at *
    exact ir_small (by omega)
set_option maxRecDepth 20000 in
set_option maxHeartbeats 40000000 in
theorem full_w (by_ : Int) (W : World) : Calls Try.prog 8 #[.int .i64 by_] W fun e w' => e = .returned (.bool true) ∧ Below W.heap.size W w' := by
  obtain ⟨h1, h2⟩ := band_le by_ 65535 (by decide)
  rw [show ((65535 : Nat) : Int) = 65535 from rfl] at h1 h2
  obtain ⟨b, hb⟩ := Int.eq_ofNat_of_zero_le h1
  rw [hb] at h2
  clear h1
  have hb2 : b ≤ 65535 := by omega
  clear h2
  go_enter Try.func8, Try.ntmps8
  go_wp2_with fail
  refine (one_new (B := W.heap.size) (Nat.le_refl _)).mono ?_
  rintro e w1 ⟨s, rfl, h1, b1⟩
  have T0 := hid (two_new (e := 29) h1 (Below.refl _ _) b1.size)
  have x0 := b1.alloc b1.size (.cells #[.slice none 0 0] 29)
  clear h1
  go_wp2_with fail
  go_loopw [5] (fun iv wr => ∃ k : Nat, k ≤ 600 ∧ iv = .int .i64 k ∧ Two W.heap.size (fun _ => False) wr s w1.heap.size (ful b k) (ful b k) ∧ Below W.heap.size W wr) (fun iv _ => 600 - (intOf iv).toNat)
  case atStart => exact ⟨0, by omega, rfl, T0.out, by (repeat' (first | exact Below.refl _ _ | assumption | refine bdrewN ?_ _ | refine Below.drew ?_ | refine bal ?_ _ | refine bthen ?_ (by assumption)))⟩
  case round =>
    obtain ⟨k, hk, rfl, hT, hbr⟩ := hrel
    have HT := hid hT
    clear hT
    by_cases hlt : k < 600
    · have hd : decide ((k : Int) < 600) = true := by simp; omega
      obtain ⟨f, t, q, e1, e2, e3, hM, hi1, hi2⟩ := fm_ex b k hk hb2
      have hadd := ful_add b k hlt
      rw [hM] at hadd
      have Hadd := hid hadd
      have Hg := hid (ful_gd b k hk)
      have Hir : Hid (ir (⟨(k : Int), (f : Int), (t : Int), (q : Int)⟩ : Mk).id ∧ ir (⟨(k : Int), (f : Int), (t : Int), (q : Int)⟩ : Mk).pr) := ⟨hi1, hi2⟩
      obtain ⟨L2, hL2⟩ : ∃ L2, L2 = ful b (k + 1) := ⟨_, rfl⟩
      rw [← hL2] at Hadd
      have HL2 := hid hL2
      clear hadd hM hi1 hi2 hL2
      generalize ful b k = L at *
      go_upto_region 8 with fail
      obtain ⟨V, hV⟩ : ∃ V, V = wr.alloc (.cells #[.int .i64 (k : Int), .int .i64 (f : Int), .int .i64 (t : Int), .int .i64 (q : Int)] 33) := ⟨_, rfl⟩
      rw [← hV]
      have bV : Below wr.heap.size wr V := by subst hV; exact (Below.refl _ _).alloc (Nat.le_refl _) _
      have KV : Hid (Bx V wr.heap.size ⟨k, f, t, q⟩) := by subst hV; exact Bx.new wr ⟨k, f, t, q⟩ _
      have hvs : V.heap.size = wr.heap.size + 1 := by subst hV; simp
      have TV := hid (HT.out.fresh bV)
      have PV : Hid (∀ k, k = wr.heap.size → wr.heap.size ≤ k ∧ k < V.heap.size) := fun k hk => by omega
      have xV := bthen hbr bV
      clear hV hvs e1 e2 e3
      have kk := KV.out
      obtain ⟨m0, m1, m2, m3⟩ := kk
      go_wp2_with fail
      refine (two_add ⟨k, f, t, q⟩ TV.out Hg.out Hir.out Hadd.out.1 Hadd.out.2).mono ?_
      rintro e w2 ⟨rfl, hT2, hb2, hf2⟩
      have T2 := hid hT2
      have x2 := xV.trans hb2
      have B2 := hid (bx_held KV.out (PV.out _ rfl) hf2)
      clear hT2 hf2 m0 m1 m2 m3
      have kk := B2.out
      obtain ⟨m0, m1, m2, m3⟩ := kk
      go_wp2_with fail
      refine (two_radd ⟨k, f, t, q⟩ T2.out Hg.out Hadd.out.1 Hadd.out.2).mono ?_
      rintro e w3 ⟨rfl, hT3, hb3, hf3⟩
      have T3 := hid hT3
      have x3 := x2.trans hb3
      clear hT3 hf3 m0 m1 m2 m3
      go_wp2_with fail
      go_roundw
      case rel => exact ⟨k + 1, by omega, by go_num, by rw [← HL2.out]; exact T3.out.none, x3⟩
      case measure => simp [intOf]; omega
    · obtain rfl : k = 600 := by omega
      have Hg := hid (ful_gd b 600 (by omega))
      have Hm := hid (ful_more b)
      have Ht := hid (ful_twice b)
      have Hl := hid (ful_less b)
      have hlen := ful_len b 600
      have Hlen : Hid (((ful b 600).length : Int) = 600) := by rw [hlen]; rfl
      clear hlen hlt hk
      generalize ful b 600 = L at *
      go_wp2_with fail
      refine (two_add ⟨-1, 0, 0, 0⟩ HT.out Hg.out ⟨ir_small (by decide), ir_small (by decide)⟩ Hm.out.1 Hm.out.2).mono ?_
      rintro e w2 ⟨rfl, hT2, hb2, -⟩
      have T2 := hid hT2
      have x2 := hbr.trans hb2
      clear hT2
      go_wp2_with fail
      refine (two_add ⟨5, 0, 0, 0⟩ T2.out Hg.out ⟨ir_small (by decide), ir_small (by decide)⟩ Ht.out.1 Ht.out.2).mono ?_
      rintro e w3 ⟨rfl, hT3, hb3, -⟩
      have T3 := hid hT3
      have x3 := x2.trans hb3
      clear hT3
      go_wp2_with fail
      refine (one_len T3.out.one Hg.out Hlen.out).mono ?_
      rintro e w4 ⟨rfl, b4⟩
      have T4 := hid (T3.out.bel b4)
      have x4 := bthen x3 b4
      go_wp2_with fail
      go_loopw [7] (fun iv w5 => ∃ k : Nat, k ≤ 640 ∧ iv = .int .i64 k ∧ Hid (Two W.heap.size (fun _ => False) w5 s w1.heap.size L L) ∧ Below W.heap.size W w5) (fun iv _ => 700 - (intOf iv).toNat)
      case atStart => exact ⟨0, by omega, rfl, T4.out, x4⟩
      case round =>
        rename World => w5
        obtain ⟨k, hk, rfl, hT5, hb5⟩ := hrel
        by_cases hk6 : k < 600
        · have hd : decide ((k : Int) < 600) = true := by simp; omega
          obtain ⟨dv, hdv⟩ : ∃ dv, depL L k = dv := ⟨_, rfl⟩
          have Hdv := hid hdv
          clear hdv
          go_wp2_with fail
          refine (two_depth (k : Int) hT5.out Hg.out Hdv.out).mono ?_
          rintro e w6 ⟨rfl, b6⟩
          have T6 := hid (hT5.out.bel b6)
          have x6 := bthen hb5 b6
          go_wp2_with fail
          refine (two_rdepth (k : Int) T6.out Hg.out Hdv.out).mono ?_
          rintro e w7 ⟨rfl, b7⟩
          have T7 := hid (T6.out.bel b7)
          have x7 := bthen x6 b7
          go_wp2_with fail
          go_roundw
          case rel => exact ⟨k + 41, by omega, by go_num, T7, x7⟩
          case measure => simp [intOf]; omega
        · have hd : decide ((k : Int) < 600) = false := by simp; omega
          go_wp2_with fail
          refine (one_remove 7 hT5.out.one Hg.out Hl.out.1 rfl).mono ?_
          rintro e w6 ⟨rfl, hO6, hb6⟩
          have O6 := hid hO6
          have x6 := hb5.trans hb6
          clear hO6
          go_wp2_with fail
          refine (one_add ⟨-1, 0, 0, 0⟩ O6.out (Hg.out.rem 7) ⟨ir_small (by decide), ir_small (by decide)⟩ Hl.out.2 rfl).mono ?_
          rintro e w7 ⟨rfl, hO7, hb7⟩
          have x7 := x6.trans hb7
          clear hO7
          go_wp2_with fail
          refine (known_c w7).mono ?_
          rintro e w8 ⟨rfl, b8⟩
          go_wp2_with fail
          go_ret
          exact ⟨rfl, bthen x7 b8⟩
end Go.Proofs.Ytaondjklclpdkaa
