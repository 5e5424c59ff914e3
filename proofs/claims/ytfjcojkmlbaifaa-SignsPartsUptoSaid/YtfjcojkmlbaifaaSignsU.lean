/- Walks of the laws of layer 1: SignsParts. -/
import Derived.Test.YtfjcojkmlbaifaaSignsP
import Derived.Test.YtfjcojkmlbaifaaSignsT
namespace Go.Proofs.Ytfjcojkmlbaifaa
open Go.RowKit

set_option maxHeartbeats 4000000 in
theorem parts_w (a1 a2 : Option Addr) (c1 c2 : Nat) (l1 l2 : List Int) (w : World) (h1 : Sl w a1 l1) (h2 : Sl w a2 l2) (hb : l1.length + l2.length ≤ 35184372088832) :
    Calls Try.prog 8 #[.slice a1 l1.length c1, .slice a2 l2.length c2] w (Holds w) := by
  have hl1 := h1.len
  have hl2 := h2.len
  go_enter Try.func8, Try.ntmps8
  go_wp2_with (first | (at_builtin; refine wpL_appn rfl (.const (.slice none 0 0)) (.tmp 10) rfl w.heap.size none a1 0 l1.length 0 c1 [] l1 rfl (by first | rfl | simp) (Own.nil _ _) rfl (by first | rfl | simp) h1 (by simpa using hl1) (Nat.le_refl _) ?_; intro a4 c4 w4 L4 Hl4 ho4 hb4; have Ho4 := hid ho4; clear ho4; have hz4 := hb4.size) | (at_builtin; refine wpL_appn rfl (.tmp 11) (.tmp 12) rfl w.heap.size a4 a2 L4.length l2.length c4 c2 L4 l2 rfl (by first | rfl | simp) Ho4.out rfl (by first | rfl | simp) (h2.bel hb4) (by rw [Hl4.out]; simpa using hb) hz4 ?_; intro a5 c5 w5 L5 Hl5 ho5 hb5; have Ho5 := hid ho5; clear ho5; have hz5 := hb5.size))
  have e5 : L5 = l1 ++ l2 := by rw [Hl5.out, Hl4.out]; rfl
  have E5 := hid e5; clear e5
  have b5 := hb4.trans hb5
  have hV : Below w.heap.size w (w5.alloc (Obj.cells #[Value.int IntKind.i64 0, Value.int IntKind.i64 1, Value.int IntKind.i64 2] 3)) := bal b5 _
  have hc : ∀ k : Nat, k < 3 → (w5.alloc (Obj.cells #[Value.int IntKind.i64 0, Value.int IntKind.i64 1, Value.int IntKind.i64 2] 3)).cell? ⟨w5.heap.size, k, none⟩ = some (.int .i64 k) := by
    intro k hk
    rw [cell_alloc_new]
    match k, hk with
    | 0, _ => rfl
    | 1, _ => rfl
    | 2, _ => rfl
  have hVs : w5.heap.size < (w5.alloc (Obj.cells #[Value.int IntKind.i64 0, Value.int IntKind.i64 1, Value.int IntKind.i64 2] 3)).heap.size := by simp
  have t5 : Sl (w5.alloc (Obj.cells #[Value.int IntKind.i64 0, Value.int IntKind.i64 1, Value.int IntKind.i64 2] 3)) a5 L5 := Ho5.out.sl.alloc _
  have Hc := hid hc
  clear hc hb4 hb5 b5 hz4 hz5
  generalize w5.alloc (Obj.cells _ 3) = V at *
  have t1 := h1.bel hV
  have t2 := h2.bel hV
  clear h1 h2
  go_loopw [16] (fun i wr => ∃ k : Nat, k ≤ 3 ∧ i = .int .i64 k ∧ Below V.heap.size V wr) (fun i _ => 3 - (intOf i).toNat)
  case atStart => exact ⟨0, by omega, rfl, Below.refl _ _⟩
  case round =>
    obtain ⟨k, hk, rfl, hr⟩ := hrel
    have r1 := t1.bel hr
    have r2 := t2.bel hr
    have r5 := t5.bel hr
    have Hb := hid hb
    by_cases hlt : k < 3
    · have ck : wr.cell? ⟨w5.heap.size, k, none⟩ = some (.int .i64 k) := by
        rw [hr.cell (p := ⟨w5.heap.size, k, none⟩) hVs]; exact Hc.out k hlt
      obtain ⟨h, hh⟩ : ∃ h : Int, h = (k : Int) := ⟨_, rfl⟩
      have Hh : Hid (h = 0 ∨ h = 1 ∨ h = 2) := by unfold Hid; omega
      rw [← hh] at ck
      clear hh hb
      go_wp2_with fail
      refine (case_c _ _ _ _ _ r1).mono ?_
      rintro e w6 ⟨a6, c6, rfl, hown6, hbel6⟩
      have Ho6 := hid hown6; clear hown6
      go_wp2_with (at_builtin; refine wpL_appn rfl (.const (.slice none 0 0)) (.tmp 22) rfl w6.heap.size none a6 0 (cas l1 h).length 0 c6 [] (cas l1 h) rfl (by first | rfl | simp) (Own.nil _ _) rfl (by first | rfl | simp) Ho6.out.sl (by have := cas_len l1 h; simp; omega) (Nat.le_refl _) ?_; intro a7 c7 w7 L7 Hl7 ho7 hb7; have Ho7 := hid ho7; clear ho7; have hz7 := hb7.size)
      have b7 := bthen hbel6 hb7
      refine (case_c _ _ _ _ _ (r2.bel b7)).mono ?_
      rintro e w8 ⟨a8, c8, rfl, hown8, hbel8⟩
      have Ho8 := hid hown8; clear hown8
      have hz8 := hbel8.size
      go_wp2_with (at_builtin; refine wpL_appn rfl (.tmp 23) (.tmp 26) rfl w6.heap.size a7 a8 L7.length (cas l2 h).length c7 c8 L7 (cas l2 h) rfl (by first | rfl | simp) (Ho7.out.grow hbel8) rfl (by first | rfl | simp) Ho8.out.sl (by have := cas_len l1 h; have := cas_len l2 h; have := Hb.out; rw [Hl7.out]; simp; omega) (by omega) ?_; intro a9 c9 w9 L9 Hl9 ho9 hb9; have Ho9 := hid ho9; clear ho9; have hz9 := hb9.size)
      have e9 : L9 = cas l1 h ++ cas l2 h := by rw [Hl9.out, Hl7.out]; rfl
      have b9 : Below wr.heap.size wr w9 := bthen hbel6 ((hb7.trans (hbel8.mono (by omega))).trans hb9)
      refine (case_c _ _ _ _ _ (r5.bel b9)).mono ?_
      rintro e w10 ⟨a10, c10, rfl, hown10, hbel10⟩
      have Ho10 := hid hown10; clear hown10
      have E9 := hid e9; clear e9
      go_wp2_with fail
      refine (same_c _ _ _ _ _ _ _ Ho10.out.sl (Ho9.out.sl.bel hbel10)).mono ?_
      rintro e w' ⟨rfl, n11, rfl⟩
      have he : eqM (cas L5 h) L9 = true := by rw [E9.out, E5.out, cas_app Hh.out]; exact eqM_self _
      rw [he]
      go_wp2
      go_roundw
      case rel => exact ⟨k + 1, by omega, by go_num, bthen hr (bdrewN (bthen b9 hbel10) n11)⟩
      case measure => simp [intOf]; omega
    · by_cases h0 : 0 < l1.length
      · go_wp2_with fail
        refine (case_c _ _ _ _ _ r1).mono ?_
        rintro e w6 ⟨a6, c6, rfl, hown6, hbel6⟩
        have Ho6 := hid hown6; clear hown6
        go_wp2_with (first | (at_builtin; refine wpL_appn rfl (.const (.slice none 0 0)) (.tmp 39) rfl w6.heap.size none a6 0 (cas l1 3).length 0 c6 [] (cas l1 3) rfl (by first | rfl | simp) (Own.nil _ _) rfl (by first | rfl | simp) Ho6.out.sl (by have := cas_len l1 3; simp; omega) (Nat.le_refl _) ?_; intro a7 c7 w7 L7 Hl7 ho7 hb7; have Ho7 := hid ho7; clear ho7; have hz7 := hb7.size) | (at_builtin; refine wpL_appn rfl (.tmp 40) (.tmp 41) rfl w6.heap.size a7 a2 L7.length l2.length c7 c2 L7 l2 rfl (by first | rfl | simp) Ho7.out rfl (by first | rfl | simp) (r2.bel (bthen hbel6 hb7)) (by have := cas_len l1 3; rw [Hl7.out]; simp; omega) hz7 ?_; intro a9 c9 w9 L9 Hl9 ho9 hb9; have Ho9 := hid ho9; clear ho9; have hz9 := hb9.size))
        have e9 : L9 = cas l1 3 ++ l2 := by rw [Hl9.out, Hl7.out]; rfl
        have b9 : Below wr.heap.size wr w9 := bthen hbel6 (hb7.trans hb9)
        refine (case_c _ _ _ _ _ (r5.bel b9)).mono ?_
        rintro e w10 ⟨a10, c10, rfl, hown10, hbel10⟩
        have Ho10 := hid hown10; clear hown10
        have E9 := hid e9; clear e9
        go_wp2_with fail
        refine (same_c _ _ _ _ _ _ _ Ho10.out.sl (Ho9.out.sl.bel hbel10)).mono ?_
        rintro e w' ⟨rfl, n11, rfl⟩
        have he : eqM (cas L5 3) L9 = true := by rw [E9.out, E5.out, cas_cap (by intro e; subst e; simp at h0)]; exact eqM_self _
        rw [he]
        go_wp2_with fail
        refine (known_c _).mono ?_
        rintro e w12 ⟨rfl, hb12⟩
        go_wp2
        go_ret
        exact ⟨rfl, bthen (bthen hV (bthen hr (bdrewN (bthen b9 hbel10) n11))) hb12⟩
      · have h0' : l1.length = 0 := by omega
        have h00 := hid h0'
        go_wp2_with fail
        refine (known_c _).mono ?_
        rintro e w12 ⟨rfl, hb12⟩
        go_wp2
        go_ret
        exact ⟨rfl, bthen (bthen hV hr) hb12⟩
end Go.Proofs.Ytfjcojkmlbaifaa
