/- The document's matcher: lies, of (RematchNumbers). The document's search as lists: ways that are left, notes among them; what was seen. -/
import Derived.Test.YtefgjicegbhcaaaGreatMtA
import Derived.Test.YtefgjicegbhcaaaGreatSignsL
import Derived.BigQuiet
namespace Go.Proofs.YtefgjicegbhcaaaGreat
open Go.RowKit ReM

set_option maxHeartbeats 8000000 in
theorem lies_d (a : Option Addr) (c : Nat) (s : List Int) (r : Int) (w : World) (h : Sl w a s) (he : s.length % 2 = 0) :
    Calls Tryz.prog 115 #[.slice a s.length c, .int .i32 r] w fun e' w' => e' = .returned (.bool (inR s r)) ∧ w = w' := by
  have hlen := h.len
  have HS := hid h
  have HE := hid he
  clear h he
  go_enter Tryz.func115, Tryz.ntmps115
  go_wp2_with fail
  go_loop [5] (fun iv => ∃ i : Nat, iv = .int .i64 i ∧ i ≤ s.length ∧ Hid (i % 2 = 0) ∧ Hid (inR (s.drop i) r = inR s r)) (fun iv => s.length - (intOf iv).toNat)
  case atStart => exact ⟨0, rfl, Nat.zero_le _, hid rfl, hid rfl⟩
  case round =>
    obtain ⟨i, rfl, hi, He, Hr⟩ := hrel
    have W1 : IntKind.i64.wrap ((i : Int) + 1) = (i : Int) + 1 := by rw [IntKind.wrap_i64]; omega
    have W2 : IntKind.i64.wrap ((i : Int) + 2) = ((i + 2 : Nat) : Int) := by rw [IntKind.wrap_i64]; omega
    by_cases hlt : i < s.length
    · have h1 : i + 1 < s.length := by have := He.out; have := HE.out; omega
      obtain ⟨b, o, rfl, hc⟩ := HS.out.at hlt
      have c0 := hc i hlt
      have c1 := hc (i + 1) h1
      have Hat := hid (inR_at r h1)
      have z1 : ((i : Int) < (s.length : Int)) := by omega
      have z2 : ((i : Int) + 1 < (s.length : Int)) := by omega
      have z3 : (0 : Int) ≤ (i : Int) := by omega
      clear hc
      obtain ⟨x, hx⟩ : ∃ x, x = gt s i := ⟨_, rfl⟩
      obtain ⟨y, hy⟩ : ∃ y, y = gt s (i + 1) := ⟨_, rfl⟩
      rw [← hx] at c0 Hat
      rw [← hy] at c1 Hat
      have bz : decide ((i : Int) + 1 < (s.length : Int)) = true := decide_eq_true z2
      clear hx hy
      by_cases hx : x ≤ r
      · have b1 : decide (x ≤ r) = true := decide_eq_true hx
        by_cases hy : r ≤ y
        · have b2 : decide (r ≤ y) = true := decide_eq_true hy
          go_wp2_with fail
          go_ret
          refine ⟨ret_bool ?_, rfl⟩
          rw [← Hr.out, Hat.out, b1, b2]; rfl
        · have b2 : decide (r ≤ y) = false := decide_eq_false hy
          go_wp2_with fail
          go_round
          case rel => exact ⟨i + 2, by first | rfl | go_num, by omega, hid (by have := He.out; omega), hid (by rw [← Hr.out, Hat.out, b2]; simp)⟩
          case measure => simp [intOf]; omega
      · have b1 : decide (x ≤ r) = false := decide_eq_false hx
        go_wp2_with fail
        go_round
        case rel => exact ⟨i + 2, by first | rfl | go_num, by omega, hid (by have := He.out; omega), hid (by rw [← Hr.out, Hat.out, b1]; simp)⟩
        case measure => simp [intOf]; omega
    · have bz : decide ((i : Int) + 1 < (s.length : Int)) = false := decide_eq_false (by omega)
      have hE := hid (inR_end (s := s) r (Nat.le_of_not_lt hlt))
      go_wp2_with fail
      go_ret
      exact ⟨ret_bool (by rw [← Hr.out, hE.out]), rfl⟩
theorem lies_v (a : Option Addr) (c : Nat) (s : List Int) (r : Int) (w : World) (h : Sl w a s) (he : s.length % 2 = 0) {b : Bool} (hb : inR s r = b) :
    Calls Tryz.prog 115 #[.slice a s.length c, .int .i32 r] w fun e' w' => e' = .returned (.bool b) ∧ w' = w := by
  subst hb
  exact (lies_d a c s r w h he).mono fun _ _ h => ⟨h.1, h.2.symm⟩
set_option maxRecDepth 20000 in
set_option maxHeartbeats 8000000 in
theorem of_d (M : Nat) (q : Ins) (sa : Option Addr) (sc : Nat) (e : Int) (w : World) (fold : Bool) (h1 : w.cell? ⟨M, 2, none⟩ = some (.bool fold))
    (h : Sl w sa q.set) (he : q.set.length % 2 = 0) (hr : -2147483648 ≤ e ∧ e ≤ 2147483647) :
    Calls Tryz.prog 86 #[.pointer (some ⟨M, 0, none⟩), .agg #[.int .i64 q.op, .int .i64 q.x, .int .i64 q.y, .bool q.not, .slice sa q.set.length sc], .int .i32 e] w fun e' w' => e' = .returned (.bool (inW fold q e)) ∧ Below w.heap.size w w' := by
  obtain ⟨op, x, y, nt, set⟩ := q
  change Sl w sa set at h
  change set.length % 2 = 0 at he
  show Calls Tryz.prog 86 #[.pointer (some ⟨M, 0, none⟩), .agg #[.int .i64 op, .int .i64 x, .int .i64 y, .bool nt, .slice sa set.length sc], .int .i32 e] w _
  obtain ⟨V, hV⟩ : ∃ V, V = w.alloc (.cells #[.int .i64 op, .int .i64 x, .int .i64 y, .bool nt, .slice sa set.length sc] 121) := ⟨_, rfl⟩
  have bV : Below w.heap.size w V := by subst hV; (repeat' (first | exact Below.refl _ _ | assumption | refine bdrewN ?_ _ | refine Below.drew ?_ | refine bal ?_ _ | refine bthen ?_ (by assumption)))
  have hc : ∀ j, V.cell? ⟨w.heap.size, j, none⟩ = #[Value.int .i64 op, .int .i64 x, .int .i64 y, .bool nt, .slice sa set.length sc][j]? := fun j => by subst hV; rw [cell_alloc_new]
  have d3 := hc 3
  have d4 := hc 4
  simp at d3 d4
  have H := hid (h.bel bV)
  have HE := hid he
  have k1 : V.cell? ⟨M, 2, none⟩ = some (.bool fold) := (bV.cell (World.block_lt_of_cell? w _ h1)).trans h1
  have HV := hid bV
  have HR := hid hr
  obtain ⟨b, hb⟩ : ∃ b, inR set e = b := ⟨_, rfl⟩
  obtain ⟨b1, hb1⟩ : ∃ b, inR set (up e) = b := ⟨_, rfl⟩
  obtain ⟨b2, hb2⟩ : ∃ b, inR set (lo e) = b := ⟨_, rfl⟩
  have done : inW fold ⟨op, x, y, nt, set⟩ e = ((b || (fold && (b1 || b2))) != nt) := by rw [← hb, ← hb1, ← hb2]; rfl
  have HD := hid done
  have Hb := hid hb
  have Hb1 := hid hb1
  have Hb2 := hid hb2
  clear h he h1 bV hb hc hb1 hb2 done
  go_enter Tryz.func86, Tryz.ntmps86
  go_upto_region 1 with fail
  rw [← hV]; clear hV
  cases b <;> cases fold <;> cases b1 <;> cases b2
  all_goals
    go_quiet (first | (go_at_call 64; exact Calls.quiet_of_same ((rupper_c _ _ HR.out).mono fun e w' h => ⟨h.1, h.2.symm⟩)) | (go_at_call 65; exact Calls.quiet_of_same ((rlower_c _ _ HR.out).mono fun e w' h => ⟨h.1, h.2.symm⟩)) | (go_at_call 115; (with_reducible refine Calls.quiet_of_same (lies_v sa sc set e _ ?_ HE.out Hb.out)); exact H.out.drewN _) | (go_at_call 115; (with_reducible refine Calls.quiet_of_same (lies_v sa sc set (up e) _ ?_ HE.out Hb1.out)); exact H.out.drewN _) | (go_at_call 115; (with_reducible refine Calls.quiet_of_same (lies_v sa sc set (lo e) _ ?_ HE.out Hb2.out)); exact H.out.drewN _))
    go_wp2_with fail
    go_ret
    exact ⟨ret_bool (by rw [HD.out]; cases nt <;> rfl), bdrewN HV.out _⟩
end Go.Proofs.YtefgjicegbhcaaaGreat
namespace Go.Proofs.YtefgjicegbhcaaaGreat
open Go.RowKit ReM

/-- a way that is left, or a note of what a place of the groups held -/
structure Wy where
  bk : Bool
  i : Nat
  v : Int
instance : Inhabited Wy := ⟨⟨false, 0, 0⟩⟩
/-- the paths that the ways are, the last one first -/
def absT : List Int → List Wy → List Pa
  | _, [] => []
  | R, x :: S => if x.bk = true then absT (R.set x.i x.v) S else ⟨x.i, x.v.toNat, R⟩ :: absT R S
def absW (R : List Int) (W : List Wy) : List Pa := absT R W.reverse
theorem absW_nil (R : List Int) : absW R [] = [] := rfl
theorem absW_note (R : List Int) (W : List Wy) (i : Nat) (v : Int) : absW R (W ++ [⟨true, i, v⟩]) = absW (R.set i v) W := by simp [absW, absT]
theorem absW_go (R : List Int) (W : List Wy) (i : Nat) (v : Int) : absW R (W ++ [⟨false, i, v⟩]) = ⟨i, v.toNat, R⟩ :: absW R W := by simp [absW, absT]
theorem set_back {R : List Int} {s : Nat} (hs : s < R.length) (z : Int) : (R.set s z).set s (gt R s) = R := by
  rw [List.set_set, gt_get hs]; simp
theorem absW_save {R : List Int} {s : Nat} (hs : s < R.length) (W : List Wy) (z : Int) : absW (R.set s z) (W ++ [⟨true, s, gt R s⟩]) = absW R W := by
  rw [absW_note, set_back hs]
def encWy : Enc Wy where
  k := 3
  v := fun x => [.bool x.bk, .int .i64 x.i, .int .i64 x.v]
  cap := 4398046511104
  pos := by decide
  len := fun _ => rfl
  one := fun x u h => by simp at h; rcases h with rfl | rfl | rfl <;> rfl
theorem rec_wy {w : World} {b o : Nat} {x : Wy} (h : Rec1 encWy w b o x) :
    w.cell? ⟨b, o, none⟩ = some (.bool x.bk) ∧ w.cell? ⟨b, o + 1, none⟩ = some (.int .i64 x.i) ∧ w.cell? ⟨b, o + 2, none⟩ = some (.int .i64 x.v) := ⟨h 0 _ rfl, h 1 _ rfl, h 2 _ rfl⟩
theorem Tryz.infoWy : (Tryz.prog.info? 143).map (fun i => (i.zero, i.size, i.bytes)) = some (some (.agg #[.bool false, .int .i64 0, .int .i64 0]), 3, 24) := by kernel_rfl
theorem Tryz.elemWy : Tryz.prog.underlying 144 = some (.slice (Tryz.prog.elem 144)) := by kernel_rfl
theorem Tryz.sizeWy (w : World) : (sizeOf (Tryz.prog.elem 144)).run Tryz.prog w = .ok 3 w := by kernel_rfl
theorem Tryz.tyWy : Ty Tryz.prog encWy 144 143 where
  und := Tryz.underlying144
  info := ⟨_, _, Tryz.infoWy, rfl, by decide⟩
  elem := Tryz.elemWy
  size := Tryz.sizeWy
  max := by decide
def WyOwn (w : World) (base : Nat) (a : Option Addr) (c : Nat) (l : List Wy) : Prop := ROwn encWy 143 w base a c l
/-- what was seen, in memory: a block of bools -/
structure Sn (w : World) (g n : Nat) (f : Nat → Bool) : Prop where
  cell : ∀ j, j < n → w.cell? ⟨g, j, none⟩ = some (.bool (f j))
  fz : ∀ j, w.frozen? ⟨g, j, none⟩ = false
  lt : g < w.heap.size
theorem Sn.same {w w' : World} {g n : Nat} {f : Nat → Bool} (h : Sn w g n f) (hs : w.heap.size ≤ w'.heap.size) (hb : w'.heap[g]? = w.heap[g]?) : Sn w' g n f :=
  ⟨fun j hj => (World.cell?_of_block (w := w) (w' := w') (a := ⟨g, j, none⟩) hb).trans (h.cell j hj), fun j => (World.frozen?_of_block (w := w) (w' := w') (a := ⟨g, j, none⟩) hb).trans (h.fz j), by have := h.lt; omega⟩
theorem Sn.bel {w w' : World} {g n : Nat} {f : Nat → Bool} (h : Sn w g n f) (hb : Below w.heap.size w w') : Sn w' g n f := h.same hb.size (hb.block _ h.lt)
def put1 (f : Nat → Bool) (k : Nat) : Nat → Bool := fun j => decide (j = k) || f j
theorem Sn.put {w : World} {g n : Nat} {f : Nat → Bool} (h : Sn w g n f) {k : Nat} (hk : k < n) : Sn (w.setCell ⟨g, k, none⟩ (.bool true)) g n (put1 f k) := by
  refine ⟨fun j hj => ?_, fun j => by rw [World.frozen?_setCell]; exact h.fz j, by simpa using h.lt⟩
  by_cases e : k = j
  · subst e; rw [World.cell?_setCell_same (h := h.cell k hk)]; simp [put1]
  · rw [cell_set1 (h.cell j hj) e]; unfold put1; rw [decide_eq_false (fun h => e h.symm)]; rfl
/-- how many of the first n were not seen -/
def uns (f : Nat → Bool) : Nat → Nat
  | 0 => 0
  | n + 1 => uns f n + if f n = true then 0 else 1
theorem uns_le (f : Nat → Bool) (n : Nat) : uns f n ≤ n := by
  induction n with
  | zero => exact Nat.le_refl _
  | succ n ih => simp only [uns]; split <;> omega
theorem uns_same {f g : Nat → Bool} : ∀ {n : Nat}, (∀ j, j < n → f j = g j) → uns f n = uns g n := by
  intro n
  induction n with
  | zero => intro _; rfl
  | succ n ih => intro h; simp only [uns]; rw [ih (fun j hj => h j (by omega)), h n (by omega)]
theorem uns_put {f : Nat → Bool} {k : Nat} (hf : f k = false) : ∀ {n : Nat}, k < n → uns (put1 f k) n + 1 = uns f n := by
  intro n
  induction n with
  | zero => intro h; omega
  | succ n ih =>
    intro h
    simp only [uns]
    by_cases e : n = k
    · subst e
      have e1 : uns (put1 f n) n = uns f n := uns_same fun j hj => by unfold put1; rw [decide_eq_false (by omega)]; rfl
      have e2 : put1 f n n = true := by simp [put1]
      rw [e1, e2, hf]; simp
    · have e2 : put1 f k n = f n := by unfold put1; rw [decide_eq_false e]; rfl
      rw [e2]
      have := ih (by omega)
      omega
/-- what is seen is what was reached -/
def SeenV (x : Fx) (f : Nat → Bool) (vis : Vis) : Prop := ∀ i a, i < x.L.length → a ≤ x.t.length → f (numS x.t.length i a) = vis i a
theorem SeenV.put {x : Fx} {f : Nat → Bool} {vis : Vis} (h : SeenV x f vis) {i a : Nat} (ha : a ≤ x.t.length) : SeenV x (put1 f (numS x.t.length i a)) (ReM.mark vis i a) := by
  intro j b hj hb
  unfold put1
  by_cases hk : numS x.t.length j b = numS x.t.length i a
  · obtain ⟨rfl, rfl⟩ := num_inj hb ha hk
    rw [decide_eq_true rfl, ReM.mark_self]; rfl
  · rw [decide_eq_false hk, Bool.false_or, h j b hj hb, ReM.mark_ne (fun e => hk (by rw [e.1, e.2]))]
/-- the lists of the document's search -/
structure DIv (x : Fx) (R : List Int) (W : List Wy) : Prop where
  Rl : R.length = 2 * x.G + 2
  Rz : ∀ z, z ∈ R → -1 ≤ z ∧ z ≤ 1000
  Wb : ∀ q, q ∈ W → q.bk = true → q.i < 2 * x.G + 2 ∧ -1 ≤ q.v ∧ q.v ≤ 1000
  Wg : ∀ q, q ∈ W → q.bk = false → q.i < x.L.length ∧ 0 ≤ q.v ∧ q.v ≤ x.t.length
theorem DIv.pop {x : Fx} {R : List Int} {W : List Wy} {q : Wy} (h : DIv x R (W ++ [q])) : DIv x R W :=
  ⟨h.Rl, h.Rz, fun p hp => h.Wb p (by simp [hp]), fun p hp => h.Wg p (by simp [hp])⟩
theorem DIv.set {x : Fx} {R : List Int} {W : List Wy} (h : DIv x R W) (i : Nat) {v : Int} (hv : -1 ≤ v ∧ v ≤ 1000) : DIv x (R.set i v) W :=
  ⟨by rw [List.length_set]; exact h.Rl, fun z hz => by
    rcases List.mem_or_eq_of_mem_set hz with h1 | rfl
    · exact h.Rz z h1
    · exact hv, h.Wb, h.Wg⟩
theorem DIv.note {x : Fx} {R : List Int} {W : List Wy} (h : DIv x R W) {i : Nat} {v : Int} (hi : i < 2 * x.G + 2) (hv : -1 ≤ v ∧ v ≤ 1000) : DIv x R (W ++ [⟨true, i, v⟩]) :=
  ⟨h.Rl, h.Rz, fun p hp => by
    rcases List.mem_append.1 hp with hp | hp
    · exact h.Wb p hp
    · simp at hp; subst hp; exact fun _ => ⟨hi, hv⟩, fun p hp => by
    rcases List.mem_append.1 hp with hp | hp
    · exact h.Wg p hp
    · simp at hp; subst hp; exact (fun e => by cases e)⟩
theorem DIv.go {x : Fx} {R : List Int} {W : List Wy} (h : DIv x R W) {i : Nat} {v : Int} (hi : i < x.L.length) (hv : 0 ≤ v ∧ v ≤ x.t.length) : DIv x R (W ++ [⟨false, i, v⟩]) :=
  ⟨h.Rl, h.Rz, fun p hp => by
    rcases List.mem_append.1 hp with hp | hp
    · exact h.Wb p hp
    · simp at hp; subst hp; exact (fun e => by cases e), fun p hp => by
    rcases List.mem_append.1 hp with hp | hp
    · exact h.Wg p hp
    · simp at hp; subst hp; exact fun _ => ⟨hi, hv⟩⟩
end Go.Proofs.YtefgjicegbhcaaaGreat
