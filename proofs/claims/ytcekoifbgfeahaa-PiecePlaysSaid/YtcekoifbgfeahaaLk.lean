/- Layer 3's law: known. -/
import Derived.Test.YtcekoifbgfeahaaRy
import Derived.Test.YtcekoifbgfeahaaFit
namespace Go.Proofs.Ytcekoifbgfeahaa
open Go.RowKit

theorem splice_is (B : Nat) (F : Nat → Prop) (pt : Nat) (s : St) (at_ cut : Int) (ax : Option Addr) (cx : Nat) (put : List Int) (w : World) (h : Tab w B F pt s) (hB : B ≤ w.heap.size) (hp : Sl w ax put) (hoff : put = [] ∨ Off ax F)
    (hc : -9223372036854775808 ≤ cut ∧ cut ≤ 9223372036854775807) {x : Int} {s' : St} (hx : splE s at_ cut put = x) (hs : splS s at_ cut put = s') :
    Calls Try.prog 34 #[.pointer (some ⟨pt, 0, none⟩), .int .i64 at_, .int .i64 cut, .slice ax put.length cx] w fun e w' => e = .returned (.int .i64 x) ∧ Tab w' B (Gr F w w') pt s' ∧ Kpt F w w' := by
  subst hx; subst hs; exact splice_t B F pt s at_ cut ax cx put w h hB hp hoff hc
theorem off_new {w0 w1 : World} {g : Nat} (h : w1.heap.size ≤ g) : Off (some ⟨g, 0, none⟩) (New w0 w1) := by
  intro ad ha hf; simp only [Option.some.injEq] at ha; subst ha; have := hf.2; simp at this; omega
theorem off_none (F : Nat → Prop) : Off none F := by intro ad ha; cases ha
def kst : St := ⟨[97, 98], [120], [⟨false, 0, 1⟩, ⟨true, 0, 1⟩, ⟨false, 1, 1⟩]⟩
theorem kst_e : splE (st0 [97, 98]) 1 0 [120] = 0 := by rfl
theorem kst_s : splS (st0 [97, 98]) 1 0 [120] = kst := by rfl
theorem kst_4 : splE kst 4 0 [] = 2 := by rfl
theorem kst_5 : splS kst 4 0 [] = kst := by rfl
set_option maxHeartbeats 8000000 in
theorem known_c (w : World) : Calls Try.prog 12 #[] w fun e w' => e = .returned (.bool true) ∧ Below w.heap.size w w' := by
  go_enter Try.func12, Try.ntmps12
  go_wp2_with fail
  refine (new_t _ 2 [97, 98] _ (Sl.lit' _ [97, 98] _ _ (by simp) (by simp) (by simp [rng]) _ rfl) rfl (by simp)).mono ?_
  rintro e w1 ⟨pt, rfl, ht, hb1⟩
  have HT := hid ht
  have B1 : Below w.heap.size w w1 := ((Below.refl _ _).alloc (Nat.le_refl _) _).trans (hb1.mono (by simp))
  have hz1 := hb1.size
  have hpt := (ht.lt _ ht.ptF).2
  clear ht hb1
  go_wp2_with fail
  refine (splice_is _ _ pt (st0 [97, 98]) 1 0 (some ⟨w1.heap.size, 0, none⟩) 1 [120] _ (HT.out.bel (by (repeat' (first | exact Below.refl _ _ | assumption | refine bdrewN ?_ _ | refine Below.drew ?_ | refine bal ?_ _ | refine bthen ?_ (by assumption))))) (by simp at hz1 ⊢; omega) (Sl.lit' _ [120] _ _ (by simp) (by simp) (by simp [rng]) _ rfl) (.inr (off_new (Nat.le_refl _))) (by omega) kst_e kst_s).mono ?_
  rintro e w2 ⟨rfl, ht2, hk2⟩
  have HT2 := hid ht2
  have B2 : Below w.heap.size w w2 := by
    have h1 : Below w.heap.size w (w1.alloc (.cells #[.int .i32 120] 21)) := bal B1 _
    exact h1.trans (hk2.below (fun k hf => by have := hf.1; simp at this; omega) h1.size)
  have hz2 := hk2.size
  clear ht2 hk2
  go_wp2_with fail
  refine (pieces_t _ _ pt kst w2 HT2.out).mono ?_
  rintro e w3 ⟨a3, c3, rfl, ho3, hb3⟩
  have HT3 := hid (HT2.out.bel hb3)
  have B3 := bthen B2 hb3
  have HO3 := hid ho3
  clear ho3 hb3
  go_wp2_with fail
  refine (new_form _ 1 [-1] _ (Sl.lit' _ [-1] _ _ (by simp) (by simp) (by simp [rng]) _ rfl) rfl).mono ?_
  rintro e w' ⟨rfl, rfl⟩
  have hsl := HO3.out.sl
  obtain ⟨b, off, rfl, hc⟩ := hsl.at (i := 0) (by decide)
  obtain ⟨x0, x1, x2⟩ := hc 0 (by decide)
  obtain ⟨y0, y1, y2⟩ := hc 1 (by decide)
  obtain ⟨z0, z1, z2⟩ := hc 2 (by decide)
  simp only [Nat.zero_mul, Nat.one_mul, Nat.add_zero] at x0 x1 x2 y0 y1 y2 z0 z1 z2
  have HC := hid hsl
  clear hc hsl
  have kl : kst.p.length = 3 := rfl
  have p0 : pg kst.p 0 = ⟨false, 0, 1⟩ := rfl
  have p1 : pg kst.p 1 = ⟨true, 0, 1⟩ := rfl
  have p2 : pg kst.p 2 = ⟨false, 1, 1⟩ := rfl
  rw [p0] at x0 x1 x2
  rw [p1] at y0 y1 y2
  rw [p2] at z0 z1 z2
  have ha : kst.a.length = 1 := rfl
  have hto : tot kst.p = 3 := rfl
  clear p0 p1 p2
  have hbl := World.block_lt_of_cell? w3 _ x0
  have T4 : Hid (Tab (w3.alloc (.cells #[.int .i32 (-1)] 21)) (w.alloc (.cells #[.int .i32 97, .int .i32 98] 21)).heap.size (Gr (New (w.alloc (.cells #[.int .i32 97, .int .i32 98] 21)) w1) (w1.alloc (.cells #[.int .i32 120] 21)) w2) pt kst) := HT3.out.bel (by (repeat' (first | exact Below.refl _ _ | assumption | refine bdrewN ?_ _ | refine Below.drew ?_ | refine bal ?_ _ | refine bthen ?_ (by assumption))))
  have B4 : Below w.heap.size w (w3.alloc (.cells #[.int .i32 (-1)] 21)) := bal B3 _
  go_wp2_with fail
  refine (added_t _ _ pt kst _ T4.out).mono ?_
  rintro e w' ⟨rfl, rfl⟩
  rw [ha]
  go_wp2_with fail
  refine (len_t _ _ pt kst _ T4.out).mono ?_
  rintro e w5 ⟨rfl, hb5⟩
  rw [hto]
  have T5 := hid (T4.out.bel hb5)
  have B5 := bthen B4 hb5
  go_wp2_with fail
  refine (splice_nil 0 0 _ _).mono ?_
  rintro e w' ⟨rfl, rfl⟩
  go_wp2_with fail
  refine (len_nil _).mono ?_
  rintro e w' ⟨rfl, rfl⟩
  go_wp2_with fail
  refine (copy_nil _).mono ?_
  rintro e w' ⟨rfl, rfl⟩
  go_wp2_with fail
  have h6 := splice_is _ _ pt kst 4 0 none 0 [] _ T5.out (by have := T5.out.lt _ T5.out.ptF; omega) (Sl.nil _ _) (.inl rfl) (by omega) kst_4 kst_5
  refine h6.mono ?_
  rintro e w6 ⟨rfl, -, hk6⟩
  have B6 : Below w.heap.size w w6 := B5.trans (hk6.below (fun k hf => by
    rcases hf with hf | hf
    · have := hf.1; simp at this; omega
    · have := hf.1; simp at this hz1; omega) B5.size)
  go_wp2
  go_ret
  exact ⟨rfl, B6⟩
end Go.Proofs.Ytcekoifbgfeahaa
