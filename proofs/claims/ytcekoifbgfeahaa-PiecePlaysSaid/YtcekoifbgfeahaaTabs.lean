/- Tables seen from an earlier place; the document's own splice, its answer named. -/
import Derived.Test.YtcekoifbgfeahaaLv
namespace Go.Proofs.Ytcekoifbgfeahaa
open Go.RowKit

theorem TabM.base {w : World} {B B' : Nat} {F : Nat → Prop} {pt : Nat} {s : St} (h : TabM w B F pt s) (hb : B' ≤ B) : TabM w B' F pt s := by
  obtain ⟨ao, co, aa, ca, ap, cp, c0, c1, c2, o0, o1, o2, r⟩ := h.cells
  exact ⟨h.pos, fun k hk => ⟨Nat.le_trans hb (h.lt k hk).1, (h.lt k hk).2⟩, h.ptF, h.fz, ao, co, aa, ca, ap, cp, c0, c1, c2, o0.base_le hb, o1.base_le hb, o2.base_le hb, r⟩
theorem Tab.base {w : World} {B B' : Nat} {F : Nat → Prop} {pt : Nat} {s : St} (h : Tab w B F pt s) (hb : B' ≤ B) : Tab w B' F pt s := ⟨h.toTabM.base hb, h.wf⟩
theorem rsplice_is (B : Nat) (F : Nat → Prop) (pt : Nat) (s : St) (at_ cut : Int) (ax : Option Addr) (cx : Nat) (put : List Int) (w : World) (h : Tab w B F pt s) (hB : B ≤ w.heap.size) (hp : Sl w ax put)
    {x : Int} {s' : St} (hx : splE s at_ cut put = x) (hs : splS s at_ cut put = s') :
    Calls Try.prog 46 #[.pointer (some ⟨pt, 0, none⟩), .int .i64 at_, .int .i64 cut, .slice ax put.length cx] w fun e w' => e = .returned (.int .i64 x) ∧ Tab w' B (Gr F w w') pt s' ∧ Kpt F w w' := by
  subst hx; subst hs; exact rsplice_t B F pt s at_ cut ax cx put w h hB hp
theorem own_capx {w : World} {base : Nat} {a : Option Addr} {c : Nat} {l : List Int} (h : Own w base a c l) : l.length ≤ c := by
  rcases h.shape with ⟨_, _, h0⟩ | ⟨_, _, _, _, h0⟩
  · simp [h0]
  · exact h0
theorem st_tlx {s : St} (h : Wf s) : s.t.length = tot s.p := by rw [St.t, txt_len h.lies]
theorem wth_natx {n : Nat} {a c : Int} (h : wth n a c = true) : ∃ x y : Nat, a = x ∧ c = y ∧ x + y ≤ n := by
  simp only [wth, decide_eq_true_eq] at h
  obtain ⟨x, rfl⟩ := Int.eq_ofNat_of_zero_le h.1
  obtain ⟨y, rfl⟩ := Int.eq_ofNat_of_zero_le h.2.2.1
  exact ⟨x, y, rfl, rfl, by omega⟩
end Go.Proofs.Ytcekoifbgfeahaa
