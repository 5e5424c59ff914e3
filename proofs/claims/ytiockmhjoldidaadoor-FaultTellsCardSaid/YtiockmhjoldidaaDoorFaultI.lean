/- errors.Is and errors.Unwrap at the errors of package fault. -/
import Derived.Test.YtiockmhjoldidaaDoorFaultB
namespace Go.Proofs.YtiockmhjoldidaaDoor
open Go.RowKit Go.Extern.Stop Go.Stop Go.Extern

theorem unwrap_n (v : Value) (w : World) : Calls Tryd.prog 17 #[.iface 36 v] w fun e w' => e = .returned .nilIface ∧ w = w' := by
  have q := Tryd.cUn
  go_enter Tryd.func17, Tryd.ntmps17
  go_wp2
  go_ret
  exact ⟨rfl, rfl⟩
theorem Tryd.nUn (w : World) : (Instr.typeAssert .nilIface 34 60 true).run Tryd.prog w = .ok (.tuple #[.nilIface, .bool false]) w := by kernel_rfl
theorem Tryd.compC2 (w : World) : ((ReflectliteType.method fun t => do Rtype.noPackHeld "Comparable" t; (fun a => Value.bool a.comparable) <$> typeInfo t) #[.agg #[.pointer (some ⟨1, 36, none⟩)]]).run Tryd.prog w = .ok (.bool true) w := by kernel_rfl
theorem unwrap_nil (w : World) : Calls Tryd.prog 17 #[.nilIface] w fun e w' => e = .returned .nilIface ∧ w = w' := by
  have q := Tryd.nUn
  go_enter Tryd.func17, Tryd.ntmps17
  go_wp2
  go_ret
  exact ⟨rfl, rfl⟩
theorem unwrap_w (c n : Int) (r : List Int) (w : World) : Calls Tryd.prog 17 #[ch c (n :: r)] w fun e w' => e = .returned (ch c r) ∧ Below w.heap.size w w' := by
  have q := Tryd.wUn
  have q3 := Tryd.mUn
  obtain ⟨T, x, hx⟩ := ch_iface c r
  rw [ch_cons, hx]
  clear hx
  go_enter Tryd.func17, Tryd.ntmps17
  go_wp2_with (go_at_call 22; (with_reducible refine (wunwrap_c _ _ _ _).mono ?_); rintro e w' ⟨rfl, rfl⟩)
  go_ret
  exact ⟨rfl, (Below.refl _ _).alloc (Nat.le_refl _) _⟩

def Tells (w : World) (b : Bool) (e : Ending) (w' : World) : Prop := e = .returned (.bool b) ∧ Below w.heap.size w w'

set_option maxHeartbeats 4000000 in
theorem is24_c (c d : Int) (r : List Int) (w : World) : Calls Tryd.prog 24 #[ch c r, .iface 36 (.int .i64 d), .bool true] w (Tells w (c == d)) := by
  have q1 := Tryd.eqCC
  have q2 := Tryd.eqWC
  have q3 := Tryd.wIs
  have q4 := Tryd.wUn
  have q5 := Tryd.mUn
  have q6 := Tryd.cIs
  have q7 := Tryd.cUn
  have q8 := Tryd.cUns
  go_enter Tryd.func24, Tryd.ntmps24
  go_wp2
  go_loopg [0] r.length (fun k v wr => ∃ r', r'.length = k ∧ v = ch c r' ∧ Below w.heap.size w wr)
  case atStart => exact ⟨r, rfl, rfl, Below.refl _ _⟩
  case round =>
    obtain ⟨r', hr, rfl, hb⟩ := hrel
    cases r' with
    | nil =>
      unfold ch
      cases hcd : (c == d) with
      | true =>
        go_wp2
        go_ret
        exact ⟨rfl, hb⟩
      | false =>
        go_wp2
        go_ret
        exact ⟨rfl, hb⟩
    | cons n r'' =>
      obtain ⟨T, x, hx⟩ := ch_iface c r''
      have hX := hid hx
      rw [ch_cons, hx]
      clear hx
      go_wp2_with (go_at_call 22; (with_reducible refine (wunwrap_c _ _ _ _).mono ?_); rintro e w' ⟨rfl, rfl⟩)
      go_roundg r''.length
      case measure => simp at hr; omega
      case rel => exact ⟨r'', rfl, hX.out.symm, hb.alloc hb.size _⟩

set_option maxHeartbeats 4000000 in
theorem is_c (c d : Int) (r : List Int) (w : World) : Calls Tryd.prog 16 #[ch c r, .iface 36 (.int .i64 d)] w (Tells w (c == d)) := by
  have h23 := @run_callFunc_extern Tryd.prog 23 _ ReflectliteType.typeOf Tryd.func23 (by kernel_rfl) (by kernel_rfl) (by kernel_rfl) (by kernel_rfl)
  have h50 := @run_callFunc_extern Tryd.prog 50 _ (ReflectliteType.method fun t => do Rtype.noPackHeld "Comparable" t; pure (.bool (← typeInfo t).comparable)) Tryd.func50 (by kernel_rfl) (by kernel_rfl) (by kernel_rfl) (by kernel_rfl)
  have q1 := Tryd.typeOfC
  have q2 := Tryd.methodComparable
  have q3 := Tryd.compC2
  obtain ⟨T, x, hx⟩ := ch_iface c r
  have his := is24_c c d r
  rw [hx] at his ⊢
  have His := hid his
  clear his hx
  go_enter Tryd.func16, Tryd.ntmps16
  go_wp2_with fail
  refine (His.out _).mono ?_
  rintro e w' ⟨rfl, hb⟩
  go_wp2
  go_ret
  exact ⟨rfl, hb⟩
theorem is_nil (d : Int) (w : World) : Calls Tryd.prog 16 #[.nilIface, .iface 36 (.int .i64 d)] w (Tells w false) := by
  have q := Tryd.eqNC
  go_enter Tryd.func16, Tryd.ntmps16
  go_wp2
  go_ret
  exact ⟨rfl, Below.refl _ _⟩
end Go.Proofs.YtiockmhjoldidaaDoor
