/- Slices of a pattern's nodes (api.Re): the fields in memory, what they stand for (ReM.Rn), the sets inside. -/
import Derived.Test.YtefgjicegbhcaaaGreatRow
import Derived.Test.YtefgjicegbhcaaaGreatBase
import Derived.Test.YtefgjicegbhcaaaGreatReM
namespace Go.Proofs.YtefgjicegbhcaaaGreat
open Go.RowKit Go.ChangeShapes Go.WideShapes Go.ChangeAt

/-- a node in memory -/
structure Rm where
  kind : Int
  deep : Int
  lo : Int
  hi : Int
  lazy : Bool
  not : Bool
  sa : Option Addr
  set : List Int
  sc : Nat
instance : Inhabited Rm := ⟨⟨0, 0, 0, 0, false, false, none, [], 0⟩⟩
def Rm.rn (m : Rm) : ReM.Rn := ⟨m.kind, m.deep, m.lo, m.hi, m.lazy, m.not, m.set⟩
def rns (l : List Rm) : List ReM.Rn := l.map Rm.rn
theorem rns_len (l : List Rm) : (rns l).length = l.length := by simp [rns]
theorem rns_app (l r : List Rm) : rns (l ++ r) = rns l ++ rns r := by simp [rns]
def Rm.low (m : Rm) : Rm := { m with deep := m.deep + 1 }
theorem rns_low (l : List Rm) : rns (l.map Rm.low) = ReM.lower (rns l) := by simp only [rns, ReM.lower, List.map_map]; rfl
def encRe : Enc Rm where
  k := 7
  v := fun m => [.int .i64 m.kind, .int .i64 m.deep, .int .i64 m.lo, .int .i64 m.hi, .bool m.lazy, .bool m.not, .slice m.sa m.set.length m.sc]
  cap := 2199023255552
  pos := by decide
  len := fun _ => rfl
  one := fun x u h => by simp at h; rcases h with rfl | rfl | rfl | rfl | rfl | rfl | rfl <;> rfl
/-- the seven cells of a node -/
theorem rec_re {w : World} {b o : Nat} {m : Rm} (h : Rec1 encRe w b o m) :
    w.cell? ⟨b, o, none⟩ = some (.int .i64 m.kind) ∧ w.cell? ⟨b, o + 1, none⟩ = some (.int .i64 m.deep) ∧ w.cell? ⟨b, o + 2, none⟩ = some (.int .i64 m.lo) ∧ w.cell? ⟨b, o + 3, none⟩ = some (.int .i64 m.hi) ∧ w.cell? ⟨b, o + 4, none⟩ = some (.bool m.lazy) ∧ w.cell? ⟨b, o + 5, none⟩ = some (.bool m.not) ∧ w.cell? ⟨b, o + 6, none⟩ = some (.slice m.sa m.set.length m.sc) :=
  ⟨h 0 _ rfl, h 1 _ rfl, h 2 _ rfl, h 3 _ rfl, h 4 _ rfl, h 5 _ rfl, h 6 _ rfl⟩
/-- the sets inside: readable, none of F's blocks -/
structure RmOk (w : World) (F : Nat → Prop) (m : Rm) : Prop where
  set : Sl w m.sa m.set
  cap : m.set.length ≤ m.sc
  off : Off m.sa F
def Rms (w : World) (F : Nat → Prop) (l : List Rm) : Prop := ∀ m, m ∈ l → RmOk w F m
theorem Rms.nil (w : World) (F : Nat → Prop) : Rms w F [] := fun m hm => by cases hm
theorem Rms.app {w : World} {F : Nat → Prop} {l r : List Rm} (h : Rms w F l) (hr : Rms w F r) : Rms w F (l ++ r) := fun x hx => by
  rcases List.mem_append.1 hx with hx | hx
  · exact h x hx
  · exact hr x hx
theorem Rms.low {w : World} {F : Nat → Prop} {l : List Rm} (h : Rms w F l) : Rms w F (l.map Rm.low) := fun x hx => by
  obtain ⟨m, hm, rfl⟩ := List.mem_map.1 hx
  exact ⟨(h m hm).set, (h m hm).cap, (h m hm).off⟩
theorem Rms.bel {w w' : World} {F : Nat → Prop} {l : List Rm} (h : Rms w F l) (hb : Below w.heap.size w w') : Rms w' F l := fun m hm => ⟨(h m hm).set.bel hb, (h m hm).cap, (h m hm).off⟩
theorem Rms.kpt {w w' : World} {F : Nat → Prop} {l : List Rm} (h : Rms w F l) (hk : Kpt F w w') : Rms w' F l := fun m hm => ⟨(h m hm).set.kpt (h m hm).off hk, (h m hm).cap, (h m hm).off⟩
theorem Tryz.infoRe : (Tryz.prog.info? 128).map (fun i => (i.zero, i.size, i.bytes)) = some (some (.agg #[.int .i64 0, .int .i64 0, .int .i64 0, .int .i64 0, .bool false, .bool false, .slice none 0 0]), 7, 64) := by kernel_rfl
theorem Tryz.elemRe : Tryz.prog.underlying 82 = some (.slice (Tryz.prog.elem 82)) := by kernel_rfl
theorem Tryz.sizeRe (w : World) : (sizeOf (Tryz.prog.elem 82)).run Tryz.prog w = .ok 7 w := by kernel_rfl
theorem Tryz.tyRe : Ty Tryz.prog encRe 82 128 where
  und := Tryz.underlying82
  info := ⟨_, _, Tryz.infoRe, rfl, by decide⟩
  elem := Tryz.elemRe
  size := Tryz.sizeRe
  max := by decide
/-- a list of nodes that the call owns -/
def ReOwn (w : World) (base : Nat) (a : Option Addr) (c : Nat) (l : List Rm) : Prop := ROwn encRe 128 w base a c l
end Go.Proofs.YtefgjicegbhcaaaGreat
