/- The document's reader: has, set, lower. -/
import Derived.Test.YtniilphbbcbpcaaDrb
import Derived.Test.YtniilphbbcbpcaaPla
import Derived.Test.YtniilphbbcbpcaaRga
namespace Go.Proofs.Ytniilphbbcbpcaa
open Go.RowKit ReM

def hasL (l : List Int) (r : Int) : Bool := decide (r ∈ l)
set_option maxHeartbeats 4000000 in
theorem has_d (s : ByteArray) (r : Int) (w : World) (hs : s.size ≤ 1000) :
    Calls Try.prog 84 #[.string s, .int .i32 r] w fun e' w' => e' = .returned (.bool (hasL (strL s) r)) ∧ w = w' := by
  have hex : ∀ k, k ≤ s.size → (∀ j, j < k → gt (strL s) j ≠ r) → (k < s.size → gt (strL s) k = r) → (decide (k < s.size)) = hasL (strL s) r := by
    intro k hk h1 h2
    unfold hasL
    rw [Bool.eq_iff_iff]
    simp only [decide_eq_true_eq]
    constructor
    · intro h; rw [← h2 h]; exact gt_mem (by rw [strL_len]; exact h)
    · intro h
      obtain ⟨j, hj, he⟩ := List.getElem_of_mem h
      rw [strL_len] at hj
      rcases Nat.lt_or_ge k s.size with h3 | h3
      · exact h3
      · exact absurd (by rw [gt_get (by rw [strL_len]; exact hj)]; exact he) (h1 j (by omega))
  have HE := hid hex
  clear hex
  go_enter Try.func84, Try.ntmps84
  go_wp2
  go_loop [5] (fun iv => ∃ k : Nat, k ≤ s.size ∧ iv = .int .i64 k ∧ Hid (∀ j, j < k → gt (strL s) j ≠ r)) (fun iv => s.size - (intOf iv).toNat)
  case atStart => exact ⟨0, by omega, rfl, hid (fun j hj => by omega)⟩
  case round =>
    obtain ⟨k, hk, rfl, hn⟩ := hrel
    by_cases hlt : k < s.size
    · have hg := strL_at s hlt
      have hz := wrap_byte (s[k]'hlt)
      by_cases he : ((s[k]'hlt).toNat : Int) = r
      · have b1 : (wrap32 ((s[k]'hlt).toNat : Int) == r) = true := by rw [hz]; simpa using he
        have hR := hid (HE.out k hk hn.out (fun _ => hg.trans he))
        rw [decide_eq_true hlt] at hR
        clear hg hz he
        go_wp2
        go_ret
        exact ⟨by rw [hR.out]; rfl, rfl⟩
      · have b1 : (wrap32 ((s[k]'hlt).toNat : Int) == r) = false := by rw [hz]; simpa using he
        have hN2 := hid (show ∀ j, j < k + 1 → gt (strL s) j ≠ r from fun j hj => by
          by_cases hjk : j = k
          · subst hjk; rw [hg]; exact he
          · exact hn.out j (by omega))
        clear hg hz he
        go_wp2
        go_round
        case rel => exact ⟨k + 1, by omega, by go_num, hN2⟩
        case measure => simp [intOf]; omega
    · have hR := hid (HE.out k hk hn.out (fun h => absurd h hlt))
      rw [decide_eq_false hlt] at hR
      go_wp2
      go_ret
      exact ⟨by rw [hR.out]; rfl, rfl⟩
set_option maxHeartbeats 4000000 in
theorem set_d (n : Bool) (a : Option Addr) (c : Nat) (l : List Int) (w : World) :
    Calls Try.prog 80 #[.bool n, .slice a l.length c] w fun e' w' => e' = .returned (.slice (some ⟨w.heap.size, 0, none⟩) 1 1) ∧ RO w' w.heap.size (some ⟨w.heap.size, 0, none⟩) 1 [⟨2, 0, 0, 0, false, n, a, l, c⟩] ∧ Below w.heap.size w w' := by
  go_enter Try.func80, Try.ntmps80
  go_wp2
  go_ret
  exact ⟨rfl, ROwn.one Try.tyRe ⟨2, 0, 0, 0, false, n, a, l, c⟩ _ _ rfl (Nat.le_refl _) _ rfl, by (repeat' (first | exact Below.refl _ _ | assumption | refine bdrewN ?_ _ | refine Below.drew ?_ | refine Below.setCell ?_ (Nat.le_refl _) _ | refine bal ?_ _ | refine bthen ?_ (by assumption)))⟩
theorem NdC.set1 {w : World} {R : Nat} {k d lo hi : Int} {z n : Bool} {s : Value} (h : NdC w R k d lo hi z n s) (v : Int) : NdC (w.setCell ⟨R, 1, none⟩ (.int .i64 v)) R k v lo hi z n s :=
  ⟨cell_set1 h.c0 (by decide), by rw [World.cell?_setCell_same (h := h.c1)], cell_set1 h.c2 (by decide), cell_set1 h.c3 (by decide), cell_set1 h.c4 (by decide), cell_set1 h.c5 (by decide), cell_set1 h.c6 (by decide), fun o => by rw [World.frozen?_setCell]; exact h.fz o⟩
theorem Kpt.thn {F : Nat → Prop} {w w2 w3 : World} (h : Kpt F w w2) (b : Below w2.heap.size w2 w3) : Kpt F w w3 := h.tr (Kpt.of b)
def LowE (w : World) (base : Nat) (a1 : Option Addr) (M N : List Rm) (e' : Ending) (w' : World) : Prop :=
  ∃ a c L, e' = .returned (.slice a L.length c) ∧ Hid (L = M ++ N.map Rm.low) ∧ RO w' base a c L ∧ Kpt (Blk a1) w w' ∧ At w a1 a
set_option maxHeartbeats 16000000 in
theorem lower_d (base : Nat) (a1 a2 : Option Addr) (c1 c2 : Nat) (M N : List Rm) (w : World) (h1 : RO w base a1 c1 M) (h2 : RSl encRe w a2 N) (ho : Off a2 (Blk a1)) (hb : base ≤ w.heap.size) (hs : Sml 100000 100000 N) (hl : M.length ≤ 100000) :
    Calls Try.prog 49 #[.slice a1 M.length c1, .slice a2 N.length c2] w (LowE w base a1 M N) := by
  have hnl := hs.len
  have H1 := hid h1
  have H2 := hid h2
  have Hs := hid hs
  have Ho := hid ho
  have Hlt := hid (fun k => h1.lt (k := k))
  clear h1 h2 hs ho
  go_enter Try.func49, Try.ntmps49
  go_wp2
  go_loopw [0, 5] (fun lv iv wr => ∃ (k : Nat) (aL : Option Addr) (cL : Nat) (L : List Rm), k ≤ N.length ∧ iv = .int .i64 k ∧ lv = .slice aL L.length cL ∧ L.length ≤ 200000 ∧ Hid (L = M ++ (N.take k).map Rm.low) ∧ Hid (RO wr base aL cL L) ∧ Hid (Kpt (Blk a1) w wr) ∧ Hid (At w a1 aL)) (fun _ iv _ => N.length - (intOf iv).toNat)
  case atStart => exact ⟨0, a1, c1, M, by omega, rfl, rfl, by omega, hid (by simp), H1, hid (Kpt.refl _ _), hid (fun ad h => .inl ⟨ad, h, rfl⟩)⟩
  case round =>
    obtain ⟨k, aL, cL, L, hk, rfl, rfl, hL2, HL, HO, HK, HA⟩ := hrel
    by_cases hlt : k < N.length
    · obtain ⟨b, o, rfl, r1⟩ := (H2.out.kpt Ho.out HK.out).rc1 hlt
      obtain ⟨x0, x1, x2, x3, x4, x5, x6⟩ := rec_re r1
      have hd := Hs.out.deep _ (rgt_mem hlt)
      have HT := hid (rgt_take hlt)
      have hz := HK.out.size
      have hLn := hid (show L.length + 1 ≤ 200000 by rw [HL.out, List.length_append, List.length_map, List.length_take]; omega)
      generalize rgt N k = m at *
      have b1 : decide ((k : Int) < (N.length : Int)) = true := decide_eq_true (by omega)
      have kz : (k : Int) < (N.length : Int) := by omega
      obtain ⟨V, hV⟩ : ∃ V, V = wr.alloc (.cells #[.int .i64 m.kind, .int .i64 m.deep, .int .i64 m.lo, .int .i64 m.hi, .bool m.lazy, .bool m.not, .slice m.sa m.set.length m.sc] 50) := ⟨_, rfl⟩
      have nn : NdC V wr.heap.size m.kind m.deep m.lo m.hi m.lazy m.not (.slice m.sa m.set.length m.sc) := by subst hV; exact NdC.new _ _ _ _ _ _ _ _ _ _ rfl
      have bV : Below wr.heap.size wr V := by subst hV; (repeat' (first | exact Below.refl _ _ | assumption | refine bdrewN ?_ _ | refine Below.drew ?_ | refine bal ?_ _ | refine bthen ?_ (by assumption)))
      have zV : V.heap.size = wr.heap.size + 1 := by subst hV; simp
      clear r1
      go_upto_region 5 with fail
      rw [← hV]; clear hV
      have n2 := nn.set1 (m.deep + 1)
      have b2 : Below wr.heap.size wr (V.setCell ⟨wr.heap.size, 1, none⟩ (.int .i64 (m.deep + 1))) := bV.setCell (by simp) _
      have N2 := hid n2
      have B2 := hid b2
      have wd : IntKind.i64.wrap (m.deep + 1) = m.deep + 1 := by rw [IntKind.wrap_i64]; omega
      (have n0 := nn.c0; have n1 := nn.c1; have n2 := nn.c2; have n3 := nn.c3; have n4 := nn.c4; have n5 := nn.c5; have n6 := nn.c6; have nf0 := nn.fz 0; have nf1 := nn.fz 1; have nf2 := nn.fz 2; have nf3 := nn.fz 3; have nf4 := nn.fz 4; have nf5 := nn.fz 5; have nf6 := nn.fz 6; have nz := nn.lt; clear nn)
      clear n2 b2
      go_upto_region 6 with fail
      obtain ⟨V2, hV2⟩ : ∃ V2, V2 = V.setCell ⟨wr.heap.size, 1, none⟩ (.int .i64 (m.deep + 1)) := ⟨_, rfl⟩
      rw [← hV2] at N2 B2 ⊢
      clear n0 n1 n2 n3 n4 n5 n6 nf0 nf1 nf2 nf3 nf4 nf5 nf6 nz
      have zV2 : V2.heap.size = wr.heap.size + 1 := by rw [hV2]; simpa using zV
      clear hV2 bV
      have m2 := N2.out
      (have q0 := m2.c0; have q1 := m2.c1; have q2 := m2.c2; have q3 := m2.c3; have q4 := m2.c4; have q5 := m2.c5; have q6 := m2.c6; have qf0 := m2.fz 0; have qf1 := m2.fz 1; have qf2 := m2.fz 2; have qf3 := m2.fz 3; have qf4 := m2.fz 4; have qf5 := m2.fz 5; have qf6 := m2.fz 6; have qz := m2.lt; clear m2)
      go_wp2_with ((at_builtin; (refine wpL_rapp Try.tyRe rfl (.tmp 21) (.tmp 23) rfl base aL (some ⟨wr.heap.size + 1, 0, none⟩) L.length 1 cL 1 L [m.low] rfl (by first | rfl | simp | omega) ((HO.out.grow B2.out).grow (by (repeat' (first | exact Below.refl _ _ | assumption | refine bdrewN ?_ _ | refine Below.drew ?_ | refine bal ?_ _ | refine bthen ?_ (by assumption))))) rfl (by first | rfl | simp | omega) (RSl.lit V2 m.low 50 (wr.heap.size + 1) zV2.symm #[.int .i64 m.kind, .int .i64 (m.deep + 1), .int .i64 m.lo, .int .i64 m.hi, .bool m.lazy, .bool m.not, .slice m.sa m.set.length m.sc] rfl (by decide)) (by simp; show L.length + 1 ≤ 2199023255552; omega) (by simp; omega) ?_); intro a5 c5 w5 L5 Hl5 ho5 hb5 hk5 hA5; have HA5 := hid hA5; clear hA5; have Ho5 := hid ho5; clear ho5; have Hk5 := hid hk5; clear hk5; have hz5 := hb5.size))
      have bz : Below wr.heap.size wr (V2.alloc (.cells #[.int .i64 m.kind, .int .i64 (m.deep + 1), .int .i64 m.lo, .int .i64 m.hi, .bool m.lazy, .bool m.not, .slice m.sa m.set.length m.sc] 50)) := B2.out.alloc (by omega) _
      have hL5 : L5 = M ++ (N.take (k + 1)).map Rm.low := by rw [Hl5.out, HL.out, HT.out, List.map_append, List.append_assoc]; rfl
      have hK5 : Kpt (Blk a1) w w5 := (HK.out.thn bz).trans (Hk5.out.mono fun j hj => by
        have h1 := (HO.out.lt hj).2
        obtain ⟨ad, had, rfl⟩ := hj
        rcases HA.out ad had with h2 | h2
        · exact .inl h2
        · exact .inr ⟨h2, by have := bz.size; omega⟩)
      have hA5 : At w a1 a5 := fun ad had => by
        rcases HA5.out ad had with h2 | h2
        · obtain ⟨ae, hae, he⟩ := h2
          rcases HA.out ae hae with h3 | h3
          · left; rw [he] at h3; exact h3
          · right; omega
        · right; have := bz.size; omega
      exact ⟨⟨k + 1, a5, c5, L5, by omega, by go_num, rfl, by rw [hL5, List.length_append, List.length_map, List.length_take]; omega, hid hL5, Ho5, hid hK5, hid hA5⟩, by simp [intOf] <;> omega⟩
    · obtain rfl : k = N.length := by omega
      have b1 : decide ((N.length : Int) < (N.length : Int)) = false := by simp
      go_wp2
      go_ret
      exact ⟨aL, cL, L, rfl, hid (by rw [HL.out, List.take_length]), HO.out, HK.out, HA.out⟩
end Go.Proofs.Ytniilphbbcbpcaa
