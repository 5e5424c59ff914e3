/- Layer 16: the names that are asked for; what is known. -/
import Derived.Test.YtijhkpbnalnpbaaDoorVx
import Derived.Test.YtijhkpbnalnpbaaDoorPlq
namespace Go.Proofs.YtijhkpbnalnpbaaDoor
open Go.RowKit

def nms : List ByteArray := [⟨#[84, 77, 95, 83, 69, 76, 69, 67, 84, 69, 68, 95, 84, 69, 88, 84]⟩, ⟨#[84, 77, 95, 67, 85, 82, 82, 69, 78, 84, 95, 76, 73, 78, 69]⟩, ⟨#[84, 77, 95, 67, 85, 82, 82, 69, 78, 84, 95, 87, 79, 82, 68]⟩, ⟨#[84, 77, 95, 76, 73, 78, 69, 95, 73, 78, 68, 69, 88]⟩, ⟨#[84, 77, 95, 76, 73, 78, 69, 95, 78, 85, 77, 66, 69, 82]⟩, ⟨#[84, 77, 95, 70, 73, 76, 69, 78, 65, 77, 69]⟩, ⟨#[84, 77, 95, 70, 73, 76, 69, 78, 65, 77, 69, 95, 66, 65, 83, 69]⟩, ⟨#[84, 77, 95, 68, 73, 82, 69, 67, 84, 79, 82, 89]⟩, ⟨#[84, 77, 95, 70, 73, 76, 69, 80, 65, 84, 72]⟩, ⟨#[67, 76, 73, 80, 66, 79, 65, 82, 68]⟩, ⟨#[67, 85, 82, 82, 69, 78, 84, 95, 89, 69, 65, 82]⟩, ⟨#[67, 85, 82, 82, 69, 78, 84, 95, 89, 69, 65, 82, 95, 83, 72, 79, 82, 84]⟩, ⟨#[67, 85, 82, 82, 69, 78, 84, 95, 77, 79, 78, 84, 72]⟩, ⟨#[67, 85, 82, 82, 69, 78, 84, 95, 68, 65, 84, 69]⟩, ⟨#[67, 85, 82, 82, 69, 78, 84, 95, 72, 79, 85, 82]⟩, ⟨#[67, 85, 82, 82, 69, 78, 84, 95, 77, 73, 78, 85, 84, 69]⟩, ⟨#[67, 85, 82, 82, 69, 78, 84, 95, 83, 69, 67, 79, 78, 68]⟩, ⟨#[67, 85, 82, 82, 69, 78, 84, 95, 77, 79, 78, 84, 72, 95, 78, 65, 77, 69]⟩, ⟨#[67, 85, 82, 82, 69, 78, 84, 95, 68, 65, 89, 95, 78, 65, 77, 69]⟩, ⟨#[67, 85, 82, 82, 69, 78, 84, 95, 77, 79, 78, 84, 72, 95, 78, 65, 77, 69, 95, 83, 72, 79, 82, 84]⟩, ⟨#[67, 85, 82, 82, 69, 78, 84, 95, 68, 65, 89, 95, 78, 65, 77, 69, 95, 83, 72, 79, 82, 84]⟩, ⟨#[82, 65, 78, 68, 79, 77]⟩, ⟨#[82, 65, 78, 68, 79, 77, 95, 72, 69, 88]⟩, ⟨#[85, 85, 73, 68]⟩, ⟨#[67, 85, 82, 82, 69, 78, 84, 95]⟩, ⟨#[116, 109, 95, 115, 101, 108, 101, 99, 116, 101, 100, 95, 116, 101, 120, 116]⟩, ⟨#[82, 65, 78, 68, 79, 77, 95]⟩, ⟨#[]⟩]
theorem nms_size : ∀ s ∈ nms, s.size ≤ 1000 := by
  have h : (nms.all fun s => decide (s.size ≤ 1000)) = true := by decide +kernel
  intro s hs
  simpa using List.all_eq_true.1 h s hs
set_option maxHeartbeats 4000000 in
set_option maxRecDepth 100000 in
theorem name16_c (k : Int) (w : World) : Calls Tryd.prog 9 #[.int .i64 k] w fun e w' => ∃ a c L, e = .returned (.slice a L.length c) ∧ Own w' w.heap.size a c L ∧ Below w.heap.size w w' := by
  go_enter Tryd.func9, Tryd.ntmps9
  go_wp2_with fail
  generalize hW : World.alloc w _ = W
  have HS : Hid (StrAt W w.heap.size nms) := hid (by rw [← hW]; exact StrAt.new w nms _ _ rfl)
  have hb : Hid (Below w.heap.size w W) := hid (by rw [← hW]; exact bal (Below.refl _ _) _)
  clear hW
  refine (index_c k 28 W (by decide) (by decide)).mono ?_
  rintro e w1 ⟨⟨i, hi, rfl⟩, rfl⟩
  have ck := HS.out i hi
  have hsz := nms_size _ (List.getElem_mem hi)
  generalize nms[i] = s at ck hsz
  clear HS
  go_wp2_with fail
  refine (plain_c s W hsz).mono ?_
  rintro _ w2 ⟨a2, c2, L, rfl, hL, ho, hb2⟩
  have Ho := hid ho
  have Hb := hid hb2
  clear ho hb2
  go_wp2_with fail
  go_ret
  exact ⟨a2, c2, L, rfl, Ho.out.base_le hb.out.size, hb.out.trans (Hb.out.mono hb.out.size)⟩
end Go.Proofs.YtijhkpbnalnpbaaDoor
