/- Fields of a snippet (api.Field) as records of eleven cells. -/
import Derived.Test.YthkkpcfmifhllaaRow
namespace Go.Proofs.Ythkkpcfmifhllaa
open Go.RowKit Go.ChangeShapes Go.WideShapes Go.ChangeAt

/-- a field in memory -/
structure Fl where
  kind : Int
  num : Int
  fr : Int
  to : Int
  par : Int
  of_ : Int
  ia : Option Addr
  il : Nat
  ic : Nat
  pa : Option Addr
  pl : Nat
  pc : Nat
  fa : Option Addr
  fl : Nat
  fc : Nat
  al : Bool
  fo : Bool
instance : Inhabited Fl := ⟨⟨0, 0, 0, 0, 0, 0, none, 0, 0, none, 0, 0, none, 0, 0, false, false⟩⟩
/-- a field of a kind and a number alone -/
def flN (kind num : Int) : Fl := ⟨kind, num, 0, 0, 0, 0, none, 0, 0, none, 0, 0, none, 0, 0, false, false⟩
def encFl : Enc Fl where
  k := 11
  v := fun m => [.int .i64 m.kind, .int .i64 m.num, .int .i64 m.fr, .int .i64 m.to, .int .i64 m.par, .int .i64 m.of_, .slice m.ia m.il m.ic, .slice m.pa m.pl m.pc, .slice m.fa m.fl m.fc, .bool m.al, .bool m.fo]
  cap := 1099511627776
  pos := by decide
  len := fun _ => rfl
  one := fun x u h => by simp at h; rcases h with rfl | rfl | rfl | rfl | rfl | rfl | rfl | rfl | rfl | rfl | rfl <;> rfl
/-- the eleven cells -/
theorem rec_fl {w : World} {b o : Nat} {m : Fl} (h : Rec1 encFl w b o m) :
    w.cell? ⟨b, o, none⟩ = some (.int .i64 m.kind) ∧ w.cell? ⟨b, o + 1, none⟩ = some (.int .i64 m.num) ∧ w.cell? ⟨b, o + 2, none⟩ = some (.int .i64 m.fr) ∧ w.cell? ⟨b, o + 3, none⟩ = some (.int .i64 m.to) ∧ w.cell? ⟨b, o + 4, none⟩ = some (.int .i64 m.par) ∧ w.cell? ⟨b, o + 5, none⟩ = some (.int .i64 m.of_) ∧
      w.cell? ⟨b, o + 6, none⟩ = some (.slice m.ia m.il m.ic) ∧ w.cell? ⟨b, o + 7, none⟩ = some (.slice m.pa m.pl m.pc) ∧ w.cell? ⟨b, o + 8, none⟩ = some (.slice m.fa m.fl m.fc) ∧ w.cell? ⟨b, o + 9, none⟩ = some (.bool m.al) ∧ w.cell? ⟨b, o + 10, none⟩ = some (.bool m.fo) :=
  ⟨h 0 _ rfl, h 1 _ rfl, h 2 _ rfl, h 3 _ rfl, h 4 _ rfl, h 5 _ rfl, h 6 _ rfl, h 7 _ rfl, h 8 _ rfl, h 9 _ rfl, h 10 _ rfl⟩
end Go.Proofs.Ythkkpcfmifhllaa
