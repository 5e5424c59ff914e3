/- Layer 3's law: PiecePlays. -/
import Derived.Test.YtcekoifbgfeahaaLpl
namespace Go.Proofs.Ytcekoifbgfeahaa
open Go.RowKit

set_option maxRecDepth 100000 in
set_option maxHeartbeats 4000000 in
theorem plays_walk (a0 a1 : Option Addr) (c0 c1 n : Nat) (l : List Int) (f : Nat → Dd) (W : World) (hl : Sl W a0 l) (hq : l.length ≤ 35184372087808) (hd : Dds W a1 n f) (hn : n ≤ 35184372087808) (hpb : ∀ i, i < n → (f i).put.length ≤ 35184372087808) :
    Calls Try.prog 3 #[.slice a0 l.length c0, .slice a1 n c1] W fun e w' => e = .returned (.bool true) ∧ Below W.heap.size W w' := by
  have Hd := hid hd
  have Hpb := hid hpb
  have S := hid (show ∀ w', Below W.heap.size W w' → Sl w' a0 l from fun w' hb => hl.bel hb)
  have Hl := hid hl
  clear hd hpb hl
  go_enter Try.func3, Try.ntmps3
  go_wp2_with fail
  refine (lend_c a0 c0 l W Hl.out (by omega)).mono ?_
  rintro e w1 ⟨g, cx, rfl, hcx, hg, ho, hb1⟩
  have hg1 : g < w1.heap.size := own_lt ho _ rfl
  have HO := hid ho
  have XS : Hid (∀ w', Below w1.heap.size w1 w' → Sl w' (some ⟨g, 0, none⟩) l) := fun w' hb => by have := (ho.sl.bel hb).take l.length; simpa using this
  have hy1 := hid (Below.refl w1.heap.size w1)
  clear ho
  go_wp2_with fail
  cases hm : may l with
  | false =>
    refine (new_form _ cx l w1 (XS.out _ hy1.out) hm).mono ?_
    rintro e w' ⟨rfl, rfl⟩
    have Hm := hid hm
    clear hm
    go_wp2_with fail
    refine (rnew_form a0 c0 l w1 (S.out _ hb1) Hm.out).mono ?_
    rintro e w' ⟨rfl, rfl⟩
    go_wp2_with fail
    refine (known_c w1).mono ?_
    rintro e w5 ⟨rfl, hb5⟩
    go_wp2
    go_ret
    exact ⟨rfl, bthen hb1 hb5⟩
  | true =>
    by_cases hlen : l.length ≤ 1000
    · refine (new_t _ cx l w1 (XS.out _ hy1.out) hm hlen).mono ?_
      rintro e w2 ⟨pt, rfl, ht, hb2⟩
      have T2 := hid ht
      have Y2 := hb2
      have X2 := bthen hb1 hb2
      have Hm := hid hm
      clear ht hm
      go_wp2_with fail
      refine (rnew_t a0 c0 l w2 (S.out _ X2) Hm.out hlen).mono ?_
      rintro e w3 ⟨pr, rfl, ht, hb3⟩
      have R3 := hid ht
      have T3 := hid (T2.out.bel hb3)
      have Y3 := bthen Y2 hb3
      have X3 := bthen X2 hb3
      have hz2 := hb2.size
      have hz3 := hb3.size
      have O3 := hid (HO.out.grow Y3)
      clear ht hb2 hb3
      go_wp2_with fail
      refine (kept_c g cx a0 c0 l w3 O3.out.sl hcx (S.out _ X3)).mono ?_
      rintro e w' ⟨rfl, n4, rfl⟩
      go_wp2_with fail
      refine (spoilk_c W.heap.size (some ⟨g, 0, none⟩) cx l _ (O3.out.pre.drewN n4)).mono ?_
      rintro e w5 ⟨rfl, hb5, hk5⟩
      have T5 : Hid (Tab w5 w1.heap.size (New w1 w2) pt (st0 l)) := (T3.out.bel (by (repeat' (first | exact Below.refl _ _ | assumption | refine bdrewN ?_ _ | refine Below.drew ?_ | refine bal ?_ _ | refine bthen ?_ (by assumption))))).kpt hk5 (by
        rintro k hf ⟨ad, ha, rfl⟩
        simp only [Option.some.injEq] at ha; subst ha; have := hf.1; simp at this; omega)
      have R5 : Hid (Tab w5 w1.heap.size (New w2 w3) pr (st0 l)) := ((R3.out.bel (by (repeat' (first | exact Below.refl _ _ | assumption | refine bdrewN ?_ _ | refine Below.drew ?_ | refine bal ?_ _ | refine bthen ?_ (by assumption))))).kpt hk5 (by
        rintro k hf ⟨ad, ha, rfl⟩
        simp only [Option.some.injEq] at ha; subst ha; have := hf.1; simp at this; omega)).base (by omega)
      have X5 : Below W.heap.size W w5 := (bdrewN X3 n4).trans hb5
      have hD : Dis (New w1 w2) (New w2 w3) := fun k h1 h2 => by have := h1.2; have := h2.1; omega
      have HD := hid hD
      have hBW : W.heap.size ≤ w1.heap.size := hb1.size
      clear hb5 hk5 hD
      go_wp2_with fail
      refine (same_c w1.heap.size w1.heap.size (New w1 w2) (New w2 w3) pt pr (st0 l) w5 T5.out R5.out).mono ?_
      rintro e w6 ⟨rfl, hb6⟩
      have T6 := hid (T5.out.bel hb6)
      have R6 := hid (R5.out.bel hb6)
      have X6 := bthen X5 hb6
      clear hb6
      go_wp2_with fail
      refine (play_c W w1.heap.size (New w1 w2) (New w2 w3) pt pr (st0 l) a1 c1 n f w6 hBW Hd.out hn Hpb.out X6 T6.out R6.out HD.out).mono ?_
      rintro e w7 ⟨rfl, X7⟩
      have hz7 := X7.size
      go_wp2_with fail
      refine (known_c w7).mono ?_
      rintro e w8 ⟨rfl, hb8⟩
      go_wp2
      go_ret
      exact ⟨rfl, bthen X7 hb8⟩
    · refine (new_full _ cx l w1 (XS.out _ hy1.out) hm (by omega)).mono ?_
      rintro e w' ⟨rfl, rfl⟩
      have Hm := hid hm
      clear hm
      go_wp2_with fail
      refine (rnew_full a0 c0 l w1 (S.out _ hb1) Hm.out (by omega)).mono ?_
      rintro e w' ⟨rfl, rfl⟩
      go_wp2_with fail
      refine (known_c w1).mono ?_
      rintro e w5 ⟨rfl, hb5⟩
      go_wp2
      go_ret
      exact ⟨rfl, bthen hb1 hb5⟩
end Go.Proofs.Ytcekoifbgfeahaa
