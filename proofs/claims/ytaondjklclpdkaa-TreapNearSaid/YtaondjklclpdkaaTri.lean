/- The numbers of the marks of a treap in memory that hold a place, or lie within two. -/
import Derived.Test.YtaondjklclpdkaaTrh
namespace Go.Proofs.Ytaondjklclpdkaa
open Go.RowKit

def stT (a : Int) : Tr → List Int
  | .nil => []
  | .node l x r => stT a l ++ (if a < x.fr then [] else (if a ≤ x.to then [x.id] else []) ++ stT a r)
def wiT (f t : Int) : Tr → List Int
  | .nil => []
  | .node l x r => (if f ≤ x.fr then wiT f t l ++ (if x.to ≤ t then [x.id] else []) else []) ++ (if t < x.fr then [] else wiT f t r)
def stL (a : Int) (l : List Mk) : List Int := (l.filter fun m => decide (m.fr ≤ a ∧ a ≤ m.to)).map Mk.id
def wiL (f t : Int) (l : List Mk) : List Int := (l.filter fun m => decide (f ≤ m.fr ∧ m.to ≤ t)).map Mk.id
theorem stL_app (a : Int) (l r : List Mk) : stL a (l ++ r) = stL a l ++ stL a r := by simp [stL]
theorem wiL_app (f t : Int) (l r : List Mk) : wiL f t (l ++ r) = wiL f t l ++ wiL f t r := by simp [wiL]
theorem stL_none {a : Int} {l : List Mk} (h : ∀ x, x ∈ l → a < x.fr) : stL a l = [] := by
  unfold stL
  rw [List.filter_eq_nil_iff.2]
  · rfl
  · intro x hx; have := h x hx; simp; omega
theorem wiL_none {f t : Int} {l : List Mk} (h : ∀ x, x ∈ l → ¬ (f ≤ x.fr ∧ x.to ≤ t)) : wiL f t l = [] := by
  unfold wiL
  rw [List.filter_eq_nil_iff.2]
  · rfl
  · intro x hx; have := h x hx; simpa using this
theorem ahd_fr {a b : Mk} (h : ahd a b) : a.fr ≤ b.fr := by unfold ahd at h; omega
theorem stT_len (a : Int) (t : Tr) : (stT a t).length ≤ t.size := by
  induction t with
  | nil => simp [stT]
  | node l x r ihl ihr =>
    simp only [stT, Tr.size, List.length_append]
    repeat' split
    all_goals (simp <;> omega)
theorem wiT_len (f t : Int) (u : Tr) : (wiT f t u).length ≤ u.size := by
  induction u with
  | nil => simp [wiT]
  | node l x r ihl ihr =>
    simp only [wiT, Tr.size, List.length_append]
    repeat' split
    all_goals (simp <;> omega)
theorem stT_list {a : Int} {t : Tr} (ho : Ord t.ord) (hi : Ids t.ord) : stT a t = stL a t.ord := by
  induction t with
  | nil => rfl
  | node l x r ihl ihr =>
    obtain ⟨⟨ol, il⟩, ⟨or, ir⟩, hl, hr⟩ := ord_parts ho hi
    have e : (Tr.node l x r).ord = l.ord ++ ([x] ++ r.ord) := rfl
    rw [e, stL_app, stL_app, stT, ihl ol il, ihr or ir]
    congr 1
    split
    · rename_i h
      rw [stL_none (l := r.ord) fun y hy => by have := ahd_fr (hr y hy).1; omega, stL_none fun y hy => by simp at hy; subst hy; exact h]
      rfl
    · congr 1
      have h : x.fr ≤ a := by omega
      split
      · rename_i h2; simp [stL, h, h2]
      · rename_i h2; simp [stL, h2]
theorem wiT_list {f t : Int} {u : Tr} (ho : Ord u.ord) (hi : Ids u.ord) (hs : ∀ x, x ∈ u.ord → x.fr ≤ x.to) : wiT f t u = wiL f t u.ord := by
  induction u with
  | nil => rfl
  | node l x r ihl ihr =>
    obtain ⟨⟨ol, il⟩, ⟨or, ir⟩, hl, hr⟩ := ord_parts ho hi
    have e : (Tr.node l x r).ord = l.ord ++ ([x] ++ r.ord) := rfl
    rw [wiT, ihl ol il fun y hy => hs y (by simp [Tr.ord, hy]), ihr or ir fun y hy => hs y (by simp [Tr.ord, hy]), e, wiL_app, wiL_app, ← List.append_assoc]
    have hx : x.fr ≤ x.to := hs x (by simp [Tr.ord])
    congr 1
    · split
      · rename_i h
        congr 1
        split
        · rename_i h2; simp [wiL, h, h2]
        · rename_i h2; simp [wiL, h2]
      · rename_i h
        rw [wiL_none (l := l.ord) fun y hy => by have := ahd_fr (hl y hy).1; omega, wiL_none fun y hy => by simp at hy; subst hy; omega]
        rfl
    · split
      · rename_i h
        rw [wiL_none fun y hy => by have := ahd_fr (hr y hy).1; have := hs y (by simp [Tr.ord, hy]); omega]
      · rfl
/-- numbers appended to an owned slice -/
def ApI (w : World) (base : Nat) (a : Option Addr) (L : List Int) (e : Ending) (w' : World) : Prop :=
  ∃ a' c' L', e = .returned (.slice a' L'.length c') ∧ Hid (L' = L) ∧ I.Own w' base a' c' L' ∧ Kpt (Blk a) w w' ∧ At w a a'
theorem I.Own.lt' {w : World} {base : Nat} {a : Option Addr} {c : Nat} {l : List Int} (h : I.Own w base a c l) {k : Nat} (hk : Blk a k) : k < w.heap.size := by
  rcases Nat.lt_or_ge k w.heap.size with h1 | h1
  · exact h1
  · exact absurd hk (h.off h1)
set_option maxHeartbeats 8000000 in
theorem stab_c (q : Int) (t : Tr) : ∀ (w : World) (F : Nat → Prop) (p : Option Addr) (base : Nat) (a : Option Addr) (c : Nat) (L : List Int), TrAt w F p t → I.Own w base a c L → base ≤ w.heap.size → Dis F (Blk a) → (∀ x, x ∈ t.ord → ir x.id) → L.length + t.size ≤ 1099511627776 →
    Calls Try.prog 39 #[.pointer p, .int .i64 q, .slice a L.length c] w (ApI w base a (L ++ stT q t)) := by
  induction t with
  | nil =>
    intro w F p base a c L h ho hB hd _ hs
    obtain rfl : p = none := h
    have Ho := hid ho
    go_enter Try.func39, Try.ntmps39
    go_wp2
    go_ret
    exact ⟨a, c, L, rfl, by simp [Hid, stT], Ho.out, Kpt.refl _ _, At.refl _ _⟩
  | node l x r ihl ihr =>
    intro w F p base a c L h ho hB hd hi hs
    obtain ⟨b, pl, pr, Fl, Fr, rfl, hb, hn, hl, hr, hdd, h1, h2⟩ := h.lt
    have hnb : ¬ Blk a b := fun h => hd b hb.1 h
    have KN := nk_kept hn hnb
    simp only [Tr.size] at hs
    have Il := hid (ihl w Fl pl base a c L h1 ho hB (fun k a b => hd k (hl k a).1.1 b) (fun y hy => hi y (by simp [Tr.ord, hy])) (by omega))
    have hz1 := stT_len q l
    have Ir : Hid (∀ w' a1 c1 L1, L1.length ≤ L.length + l.size + 1 → Kpt (Blk a) w w' → At w a a1 → I.Own w' base a1 c1 L1 → Calls Try.prog 39 #[.pointer pr, .int .i64 q, .slice a1 L1.length c1] w' (ApI w' base a1 (L1 ++ stT q r))) := fun w' a1 c1 L1 hL hk hat ho1 =>
      ihr w' Fr pr base a1 c1 L1 (h2.kpt hk fun k a b => hd k (hr k a).1.1 b) ho1 (Nat.le_trans hB hk.size)
        (Dis.at (fun k a b => hd k (hr k a).1.1 b) (fun k hk => (hr k hk).1.2) hat) (fun y hy => hi y (by simp [Tr.ord, hy])) (by omega)
    have hq : L.length + (stT q l).length + 1 ≤ 1099511627776 := by omega
    have hlz : Hid ((stT q l).length ≤ l.size) := hz1
    have Hx := hid (hi x (by simp [Tr.ord]))
    have kk := KN.out _ (Kpt.refl _ _)
    obtain ⟨g0, g1, g2, g3, g4, g5⟩ := kk
    clear hn hl hr hdd h1 h2 hd ihl ihr hs hz1 h hb hnb ho
    have HB := hid hB
    clear hB
    go_enter Try.func39, Try.ntmps39
    go_wp2_with fail
    refine Il.out.mono ?_
    rintro e v1 ⟨a1, c1, L1, rfl, hL1, ho1, hk1, hat1⟩
    have Ho1 := hid ho1
    have Hk1 := hid hk1
    have At1 := hid hat1
    have zz := hk1.size
    have hbv : base ≤ v1.heap.size := Nat.le_trans HB.out zz
    have hq1 : L1.length + 1 ≤ 1099511627776 := by rw [hL1.out]; simp; omega
    have hq2 : Hid (L1.length = L.length + (stT q l).length) := by rw [hL1.out]; simp [Hid]
    clear ho1 hk1 hat1 g0 g1 g2 g3 g4 g5 hq
    have kk := KN.out _ Hk1.out
    obtain ⟨g0, g1, g2, g3, g4, g5⟩ := kk
    by_cases hc1 : q < x.fr
    · have ht1 : decide (q < x.fr) = true := by simpa using hc1
      go_wp2_with fail
      go_ret
      exact ⟨a1, c1, L1, rfl, (by rw [hL1.out]; simp [Hid, stT, hc1]), Ho1.out, Hk1.out, At1.out⟩
    · have ht1 : decide (q < x.fr) = false := by simpa using hc1
      by_cases hc2 : q ≤ x.to
      · have ht2 : decide (q ≤ x.to) = true := by simpa using hc2
        go_wp2_with ((at_builtin; (refine I.wpL_appn rfl (.tmp 32) (.tmp 38) rfl base a1 (some ⟨v1.heap.size, 0, none⟩) L1.length 1 c1 1 L1 [x.id] rfl (by first | rfl | simp | omega) (Ho1.out.grow (by (repeat' (first | exact Below.refl _ _ | assumption | refine bdrewN ?_ _ | refine Below.drew ?_ | refine bal ?_ _ | refine bthen ?_ (by assumption))))) rfl (by first | rfl | simp | omega) (I.Sl.lit' v1 [x.id] 3 _ rfl (by simp) (I.rng_one Hx.out) _ rfl) (by simp; omega) (by simp; omega) ?_); intro a2 c2 w2 L2 Hl2 ho2 hb2 hk2 hA2; have HA2 := hid hA2; clear hA2; have Ho2 := hid ho2; clear ho2; have Hk2 := hid hk2; clear hk2; have hz2 := hb2.size); have kx2 : Kpt (Blk a) w w2 := (Hk1.out.alloc _).at At1.out Hk2.out; clear g0 g1 g2 g3 g4 g5; have kk := KN.out _ kx2; obtain ⟨g0, g1, g2, g3, g4, g5⟩ := kk)
        have At2 := hid (At1.out.tr HA2.out (by simp; omega))
        have Kx2 := hid kx2
        have hs2 := hid kx2.size
        clear kx2
        refine (Ir.out _ a2 c2 L2 (by have := hlz.out; have := hq2.out; rw [Hl2.out]; simp; omega) Kx2.out At2.out Ho2.out).mono ?_
        rintro e v3 ⟨a3, c3, L3, rfl, hL3, ho3, hk3, hat3⟩
        have Ho3 := hid ho3
        have Hk3 := hid hk3
        have At3 := hid hat3
        clear ho3 hk3 hat3 g0 g1 g2 g3 g4 g5
        go_wp2_with fail
        go_ret
        exact ⟨a3, c3, L3, rfl, (by rw [hL3.out, Hl2.out, hL1.out, stT, if_neg (by omega : ¬ q < x.fr), if_pos hc2]; simp [Hid]), Ho3.out, Kx2.out.at At2.out Hk3.out, At2.out.tr At3.out hs2.out⟩
      · have ht2 : decide (q ≤ x.to) = false := by simpa using hc2
        go_wp2_with fail
        refine (Ir.out _ a1 c1 L1 (by have := hlz.out; have := hq2.out; omega) Hk1.out At1.out Ho1.out).mono ?_
        rintro e v3 ⟨a3, c3, L3, rfl, hL3, ho3, hk3, hat3⟩
        have Ho3 := hid ho3
        have Hk3 := hid hk3
        have At3 := hid hat3
        clear ho3 hk3 hat3 g0 g1 g2 g3 g4 g5
        go_wp2_with fail
        go_ret
        exact ⟨a3, c3, L3, rfl, (by rw [hL3.out, hL1.out, stT, if_neg (by omega : ¬ q < x.fr), if_neg (by omega : ¬ q ≤ x.to)]; simp [Hid]), Ho3.out, Hk1.out.at At1.out Hk3.out, At1.out.tr At3.out zz⟩
end Go.Proofs.Ytaondjklclpdkaa
