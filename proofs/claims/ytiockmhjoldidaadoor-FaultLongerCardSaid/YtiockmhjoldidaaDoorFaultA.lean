/- errors.As at the two targets of package fault, by contracts. -/
import Derived.Test.YtiockmhjoldidaaDoorFaultM
namespace Go.Proofs.YtiockmhjoldidaaDoor
open Go.RowKit Go.Extern.Stop Go.Stop Go.Extern

theorem Tryd.loadW (b : Nat) (T : TypeId) (x : Value) (n : Int) (W : World) (h0 : W.cell? ⟨b, 0, none⟩ = some (.iface T x)) (h1 : W.cell? ⟨b, 1, none⟩ = some (.int .i64 n)) :
    (loadVar 43 ⟨b, 0, none⟩).run Tryd.prog W = .ok (.agg #[.iface T x, .int .i64 n]) W := by
  simp [loadVar, isAgg, underlying, Tryd.underlying43, h0, h1, Result.andThen, loadCells, loadCellsFrom, Addr.add]
theorem Tryd.setW (t b : Nat) (T : TypeId) (x : Value) (n : Int) (o0 o1 : Value) (W : World) (hb0 : W.cell? ⟨b, 0, none⟩ = some (.iface T x)) (hb1 : W.cell? ⟨b, 1, none⟩ = some (.int .i64 n))
    (ht0 : W.cell? ⟨t, 0, none⟩ = some o0) (ht1 : W.cell? ⟨t, 1, none⟩ = some o1) (hf0 : W.frozen? ⟨t, 0, none⟩ = false) (hf1 : W.frozen? ⟨t, 1, none⟩ = false) :
    (ReflectliteValue.set #[.agg #[.pointer (some ⟨1, 43, none⟩), .pointer (some ⟨t, 0, none⟩), .int .u64 409], .agg #[.pointer (some ⟨1, 43, none⟩), .pointer (some ⟨b, 0, none⟩), .int .u64 153]]).run Tryd.prog W
      = .ok (.tuple #[]) ((W.setCell ⟨t, 0, none⟩ (.iface T x)).setCell ⟨t, 1, none⟩ (.int .i64 n)) := by
  rw [rls]
  simp only [Sem.run_bind, Tryd.partsWa, Tryd.partsW, Result.andThen]
  simp [ReflectliteValue.flagAddr, Tryd.loadW b T x n W hb0 hb1, Result.andThen, Tryd.directW, storeVar, Value.cells, storeCells, Addr.add]
  rw [run_store Tryd.prog W _ _ _ (by rfl)]
  simp [ht0, hf0]
  rw [run_store Tryd.prog _ _ _ _ (by rfl)]
  simp [World.cell?_setCell_other, ht1, hf1]

/-- (wrapped).Unwrap -/
theorem wunwrap_c (T : TypeId) (x : Value) (n : Int) (w : World) : Calls Tryd.prog 22 #[.agg #[.iface T x, .int .i64 n]] w fun e w' => e = .returned (.iface T x) ∧ w' = w.alloc (.cells #[.iface T x, .int .i64 n] 43) := by
  go_enter Tryd.func22, Tryd.ntmps22
  go_wp2
  go_ret
  exact ⟨rfl, rfl⟩
/-- every error of package fault is a value in an interface -/
theorem ch_iface (c : Int) (r : List Int) : ∃ T x, ch c r = .iface T x := by
  cases r with
  | nil => exact ⟨_, _, rfl⟩
  | cons n r => exact ⟨_, _, rfl⟩
theorem ch_cons (c n : Int) (r : List Int) : ch c (n :: r) = .iface 43 (.agg #[ch c r, .int .i64 n]) := rfl
theorem as_nil (t : Value) (w : World) :
    Calls Tryd.prog 14 #[.nilIface, t] w fun e w' => e = .returned (.bool false) ∧ w = w' := by
  go_enter Tryd.func14, Tryd.ntmps14
  go_wp2
  go_ret
  exact ⟨rfl, rfl⟩

def Sets (w : World) (t : Addr) (c : Int) (e : Ending) (w' : World) : Prop :=
  e = .returned (.bool true) ∧ ∃ w2, Below w.heap.size w w2 ∧ w' = w2.setCell t (.int .i64 c)

set_option maxHeartbeats 4000000 in
theorem as21_c (c : Int) (r : List Int) (tv : Value) (a t : Addr) (old : Value) (w : World) (ha : w.cell? a = some (.pointer (some t))) (ht : w.cell? t = some old) (hf : w.frozen? t = false) :
    Calls Tryd.prog 21 #[ch c r, tv, .agg #[.pointer (some ⟨1, 38, none⟩), .pointer (some a), .int .u64 150], .iface 63 (.agg #[.pointer (some ⟨1, 36, none⟩)])] w
      (Sets w t c) := by
  have h18 := @run_callFunc_extern Tryd.prog 18 _ (fun args => ReflectliteValue.unpack (args.getD 0 (.tuple #[]))) Tryd.func18 (by kernel_rfl) (by kernel_rfl) (by kernel_rfl) (by kernel_rfl)
  have h23 := @run_callFunc_extern Tryd.prog 23 _ ReflectliteType.typeOf Tryd.func23 (by kernel_rfl) (by kernel_rfl) (by kernel_rfl) (by kernel_rfl)
  have h49 := @run_callFunc_extern Tryd.prog 49 _ (ReflectliteType.relation "AssignableTo" ReflectliteType.assignableTo) Tryd.func49 (by kernel_rfl) (by kernel_rfl) (by kernel_rfl) (by kernel_rfl)
  have h25 := @run_callFunc_extern Tryd.prog 25 _ (ReflectliteValue.method (ReflectliteValue.valueError "reflectlite.Value.Elem" 0) ReflectliteValue.elem) Tryd.func25 (by kernel_rfl) (by kernel_rfl) (by kernel_rfl) (by kernel_rfl)
  have h26 := @run_callFunc_extern Tryd.prog 26 _ ReflectliteValue.set Tryd.func26 (by kernel_rfl) (by kernel_rfl) (by kernel_rfl) (by kernel_rfl)
  have mA := Tryd.methodAssignableTo
  have tC := Tryd.typeOfC
  have tW := Tryd.typeOfW
  have aC := Tryd.assCC
  have aW := Tryd.assWC
  have q1 := Tryd.wAs
  have q2 := Tryd.wUn
  have q3 := Tryd.mUn
  go_enter Tryd.func21, Tryd.ntmps21
  go_wp2
  have hl : a.block < w.heap.size := World.block_lt_of_cell? w _ ha
  have htl : t.block < w.heap.size := World.block_lt_of_cell? w _ ht
  go_loopg [0] r.length (fun k v wr => ∃ r', r'.length = k ∧ v = ch c r' ∧ Below (w.heap.size + 1) (w.alloc (.cells #[.pointer (some ⟨1, 38, none⟩), .pointer (some a), .int .u64 150] 47)) wr)
  case atStart => exact ⟨r, rfl, rfl, Below.refl _ _⟩
  case round =>
    obtain ⟨r', hr, rfl, hb⟩ := hrel
    have hzz := hb.size
    simp only [World.size_alloc] at hzz
    have b0 : wr.cell? ⟨w.heap.size, 0, none⟩ = some (.pointer (some ⟨1, 38, none⟩)) := by rw [hb.cell (p := ⟨w.heap.size, 0, none⟩) (by simp)]; simp
    have b1 : wr.cell? ⟨w.heap.size, 0 + 1, none⟩ = some (.pointer (some a)) := by rw [hb.cell (p := ⟨w.heap.size, 0 + 1, none⟩) (by simp)]; simp
    have b2 : wr.cell? ⟨w.heap.size, 0 + 2, none⟩ = some (.int .u64 150) := by rw [hb.cell (p := ⟨w.heap.size, 0 + 2, none⟩) (by simp)]; simp
    cases r' with
    | nil =>
      have a1 : wr.cell? a = some (.pointer (some t)) := by rw [hb.cell (p := a) (by omega), World.cell?_alloc_lt _ _ _ hl]; exact ha
      have t1 : wr.cell? t = some old := by rw [hb.cell (p := t) (by omega), World.cell?_alloc_lt _ _ _ htl]; exact ht
      have f1 : wr.frozen? t = false := by rw [hb.frozen (p := t) (by omega), World.frozen?_alloc_old _ _ t (Nat.ne_of_lt htl)]; exact hf
      have e1 := Tryd.elemVC a t wr a1
      have v1 := Tryd.valueOfC c
      have s1 := Tryd.setC t ⟨wr.heap.size, 0, none⟩ c old (wr.alloc (.cells #[.int .i64 c] 36)) (by simp) (by rw [World.cell?_alloc_lt _ _ _ (by omega)]; exact t1) (by rw [World.frozen?_alloc_old _ _ t (by omega)]; exact f1)
      unfold ch
      go_wp2
      go_ret
      exact ⟨rfl, _, (((Below.refl _ _).alloc (Nat.le_refl _) _).trans (hb.mono (by omega))).alloc (by omega) _, rfl⟩
    | cons n r'' =>
      obtain ⟨T, x, hx⟩ := ch_iface c r''
      have hX := hid hx
      unfold ch
      rw [hx]
      clear hx
      go_wp2_with (go_at_call 22; (with_reducible refine (wunwrap_c _ _ _ _).mono ?_); rintro e w' ⟨rfl, rfl⟩)
      go_roundg r''.length
      case measure => simp at hr; omega
      case rel => exact ⟨r'', rfl, hX.out.symm, hb.alloc (by omega) _⟩

def SetsW (w : World) (t : Nat) (v : Value) (n : Int) (e : Ending) (w' : World) : Prop :=
  e = .returned (.bool true) ∧ ∃ w2, Below w.heap.size w w2 ∧ w' = (w2.setCell ⟨t, 0, none⟩ v).setCell ⟨t, 1, none⟩ (.int .i64 n)

set_option maxHeartbeats 4000000 in
theorem as21_w (c n : Int) (r : List Int) (tv : Value) (a : Addr) (t : Nat) (o0 o1 : Value) (w : World) (ha : w.cell? a = some (.pointer (some ⟨t, 0, none⟩)))
    (ht0 : w.cell? ⟨t, 0, none⟩ = some o0) (ht1 : w.cell? ⟨t, 1, none⟩ = some o1) (hf0 : w.frozen? ⟨t, 0, none⟩ = false) (hf1 : w.frozen? ⟨t, 1, none⟩ = false) :
    Calls Tryd.prog 21 #[ch c (n :: r), tv, .agg #[.pointer (some ⟨1, 56, none⟩), .pointer (some a), .int .u64 150], .iface 63 (.agg #[.pointer (some ⟨1, 43, none⟩)])] w
      (SetsW w t (ch c r) n) := by
  have h18 := @run_callFunc_extern Tryd.prog 18 _ (fun args => ReflectliteValue.unpack (args.getD 0 (.tuple #[]))) Tryd.func18 (by kernel_rfl) (by kernel_rfl) (by kernel_rfl) (by kernel_rfl)
  have h23 := @run_callFunc_extern Tryd.prog 23 _ ReflectliteType.typeOf Tryd.func23 (by kernel_rfl) (by kernel_rfl) (by kernel_rfl) (by kernel_rfl)
  have h49 := @run_callFunc_extern Tryd.prog 49 _ (ReflectliteType.relation "AssignableTo" ReflectliteType.assignableTo) Tryd.func49 (by kernel_rfl) (by kernel_rfl) (by kernel_rfl) (by kernel_rfl)
  have h25 := @run_callFunc_extern Tryd.prog 25 _ (ReflectliteValue.method (ReflectliteValue.valueError "reflectlite.Value.Elem" 0) ReflectliteValue.elem) Tryd.func25 (by kernel_rfl) (by kernel_rfl) (by kernel_rfl) (by kernel_rfl)
  have h26 := @run_callFunc_extern Tryd.prog 26 _ ReflectliteValue.set Tryd.func26 (by kernel_rfl) (by kernel_rfl) (by kernel_rfl) (by kernel_rfl)
  have mA := Tryd.methodAssignableTo
  have tC := Tryd.typeOfC
  have tW := Tryd.typeOfW
  have aC := Tryd.assCW
  have aW := Tryd.assWW
  have q1 := Tryd.wAs
  have q2 := Tryd.wUn
  have q3 := Tryd.mUn
  obtain ⟨T, x, hx⟩ := ch_iface c r
  rw [ch_cons, hx]
  clear hx
  go_enter Tryd.func21, Tryd.ntmps21
  go_wp2
  have hl : a.block < w.heap.size := World.block_lt_of_cell? w _ ha
  have htl : t < w.heap.size := World.block_lt_of_cell? w _ ht0
  go_loopg [0] 1 (fun k v wr => v = .iface 43 (.agg #[.iface T x, .int .i64 n]) ∧ Below (w.heap.size + 1) (w.alloc (.cells #[.pointer (some ⟨1, 56, none⟩), .pointer (some a), .int .u64 150] 47)) wr)
  case atStart => exact ⟨rfl, Below.refl _ _⟩
  case round =>
    obtain ⟨rfl, hb⟩ := hrel
    have hzz := hb.size
    simp only [World.size_alloc] at hzz
    have b0 : wr.cell? ⟨w.heap.size, 0, none⟩ = some (.pointer (some ⟨1, 56, none⟩)) := by rw [hb.cell (p := ⟨w.heap.size, 0, none⟩) (by simp)]; simp
    have b1 : wr.cell? ⟨w.heap.size, 0 + 1, none⟩ = some (.pointer (some a)) := by rw [hb.cell (p := ⟨w.heap.size, 0 + 1, none⟩) (by simp)]; simp
    have b2 : wr.cell? ⟨w.heap.size, 0 + 2, none⟩ = some (.int .u64 150) := by rw [hb.cell (p := ⟨w.heap.size, 0 + 2, none⟩) (by simp)]; simp
    have a1 : wr.cell? a = some (.pointer (some ⟨t, 0, none⟩)) := by rw [hb.cell (p := a) (by omega), World.cell?_alloc_lt _ _ _ hl]; exact ha
    have e1 := Tryd.elemVW a ⟨t, 0, none⟩ wr a1
    have v1 := Tryd.valueOfW T x n
    have s1 := Tryd.setW t wr.heap.size T x n o0 o1 (wr.alloc (.cells #[.iface T x, .int .i64 n] 43)) (by simp) (by simp)
      (by rw [World.cell?_alloc_lt _ _ _ (by simp; omega), hb.cell (p := ⟨t, 0, none⟩) (by simp; omega), World.cell?_alloc_lt _ _ _ htl]; exact ht0)
      (by rw [World.cell?_alloc_lt _ _ _ (by simp; omega), hb.cell (p := ⟨t, 1, none⟩) (by simp; omega), World.cell?_alloc_lt _ _ _ htl]; exact ht1)
      (by rw [World.frozen?_alloc_old _ _ _ (by simp; omega), hb.frozen (p := ⟨t, 0, none⟩) (by simp; omega), World.frozen?_alloc_old _ _ _ (Nat.ne_of_lt htl)]; exact hf0)
      (by rw [World.frozen?_alloc_old _ _ _ (by simp; omega), hb.frozen (p := ⟨t, 1, none⟩) (by simp; omega), World.frozen?_alloc_old _ _ _ (Nat.ne_of_lt htl)]; exact hf1)
    go_wp2
    go_ret
    exact ⟨rfl, _, (((Below.refl _ _).alloc (Nat.le_refl _) _).trans (hb.mono (by omega))).alloc (by omega) _, rfl⟩

def No (w : World) (e : Ending) (w' : World) : Prop := e = .returned (.bool false) ∧ Below w.heap.size w w'

set_option maxHeartbeats 4000000 in
theorem as21_n (c : Int) (tv : Value) (a : Addr) (w : World) :
    Calls Tryd.prog 21 #[.iface 36 (.int .i64 c), tv, .agg #[.pointer (some ⟨1, 56, none⟩), .pointer (some a), .int .u64 150], .iface 63 (.agg #[.pointer (some ⟨1, 43, none⟩)])] w
      (No w) := by
  have h18 := @run_callFunc_extern Tryd.prog 18 _ (fun args => ReflectliteValue.unpack (args.getD 0 (.tuple #[]))) Tryd.func18 (by kernel_rfl) (by kernel_rfl) (by kernel_rfl) (by kernel_rfl)
  have h23 := @run_callFunc_extern Tryd.prog 23 _ ReflectliteType.typeOf Tryd.func23 (by kernel_rfl) (by kernel_rfl) (by kernel_rfl) (by kernel_rfl)
  have h49 := @run_callFunc_extern Tryd.prog 49 _ (ReflectliteType.relation "AssignableTo" ReflectliteType.assignableTo) Tryd.func49 (by kernel_rfl) (by kernel_rfl) (by kernel_rfl) (by kernel_rfl)
  have h25 := @run_callFunc_extern Tryd.prog 25 _ (ReflectliteValue.method (ReflectliteValue.valueError "reflectlite.Value.Elem" 0) ReflectliteValue.elem) Tryd.func25 (by kernel_rfl) (by kernel_rfl) (by kernel_rfl) (by kernel_rfl)
  have h26 := @run_callFunc_extern Tryd.prog 26 _ ReflectliteValue.set Tryd.func26 (by kernel_rfl) (by kernel_rfl) (by kernel_rfl) (by kernel_rfl)
  have mA := Tryd.methodAssignableTo
  have tC := Tryd.typeOfC
  have tW := Tryd.typeOfW
  have aC := Tryd.assCW
  have aW := Tryd.assWW
  have q1 := Tryd.cAs
  have q2 := Tryd.cUn
  have q3 := Tryd.cUns
  go_enter Tryd.func21, Tryd.ntmps21
  go_wp2
  go_loopg [0] 1 (fun k v wr => v = .iface 36 (.int .i64 c) ∧ Below w.heap.size w wr)
  case atStart => exact ⟨rfl, (Below.refl _ _).alloc (Nat.le_refl _) _⟩
  case round =>
    obtain ⟨rfl, hb⟩ := hrel
    go_wp2
    go_ret
    exact ⟨rfl, hb⟩

end Go.Proofs.YtiockmhjoldidaaDoor
