/- Package standishkeep: the tape's Pattern: balanced, short. -/
import Derived.Test.YtefgjicegbhcaaaGreatPla
import Derived.Test.YtefgjicegbhcaaaGreatReV
import Derived.Test.YtefgjicegbhcaaaGreatKr
import Derived.Deep.CutBlock
import Derived.Deep.DeepCutAuto
namespace Go.Proofs.YtefgjicegbhcaaaGreat
open Go.RowKit ReM

/-- a round's bound -/
def rndP : Nat → Nat
  | 0 => 20
  | d + 1 => 6 * rndP d + 20
theorem rndP_ge (d : Nat) : 20 ≤ rndP d := by cases d <;> simp [rndP]
def PatE (w : World) (p : Nat) (a : Option Addr) (l : List Int) (c d : Nat) (e' : Ending) (w' : World) : Prop :=
  ∃ a2 c2 L, e' = .returned (.slice a2 L.length c2) ∧ Own w' w.heap.size a2 c2 L ∧ Nst (d + 1) L ∧ L.length ≤ 3 * rndP d ∧ (∃ i, TapeAt w' p a l c i) ∧ Kpt (fun k => k = p) w w'
def PatIH (p : Nat) (a : Option Addr) (l : List Int) (c d : Nat) : Prop := ∀ (w : World), (∃ i, TapeAt w p a l c i) → (∀ w', Below p w w' → I.Sl w' a l) → Calls Tryz.prog 41 #[.pointer (some ⟨p, 0, none⟩), .int .i64 d] w (PatE w p a l c d)
def ssA : List ByteArray := [⟨#[97]⟩, ⟨#[98]⟩, ⟨#[99]⟩, ⟨#[46]⟩, ⟨#[95]⟩, ⟨#[65]⟩, ⟨#[32]⟩]
def ssB : List ByteArray := [⟨#[92, 119]⟩, ⟨#[92, 100]⟩, ⟨#[92, 115]⟩, ⟨#[91, 97, 98, 99, 93]⟩, ⟨#[91, 94, 97, 45, 98, 93]⟩, ⟨#[91, 92, 119, 45, 93]⟩, ⟨#[92, 46]⟩, ⟨#[92, 87]⟩, ⟨#[91, 97, 45, 93]⟩]
def ssC : List ByteArray := [⟨#[40]⟩, ⟨#[40, 63, 58]⟩]
def ssD : List ByteArray := [⟨#[94]⟩, ⟨#[36]⟩, ⟨#[]⟩, ⟨#[]⟩]
def ssF : List ByteArray := [⟨#[97]⟩, ⟨#[98]⟩, ⟨#[40, 99, 41]⟩, ⟨#[40, 97, 41]⟩]
def ssR : List ByteArray := [⟨#[]⟩, ⟨#[]⟩, ⟨#[42]⟩, ⟨#[43]⟩, ⟨#[63]⟩, ⟨#[42, 63]⟩, ⟨#[123, 49, 44, 50, 125]⟩, ⟨#[123, 50, 125]⟩, ⟨#[123, 48, 44, 125, 63]⟩]
theorem in_ssA {s : ByteArray} (h : s ∈ ssA) : strL s ∈ partsA := by
  have : ssA.map strL = partsA := by decide
  rw [← this]; exact List.mem_map_of_mem h
theorem len_of_ssA {s : ByteArray} {L : List Int} (h : s ∈ ssA) (hL : L = strL s) : L.length ≤ 1 := by
  subst hL
  have h1 : ∀ x, x ∈ ssA.map strL → x.length ≤ 1 := by decide
  exact h1 _ (List.mem_map_of_mem h)
theorem in_ssB {s : ByteArray} (h : s ∈ ssB) : strL s ∈ partsB := by
  have : ssB.map strL = partsB := by decide
  rw [← this]; exact List.mem_map_of_mem h
theorem len_of_ssB {s : ByteArray} {L : List Int} (h : s ∈ ssB) (hL : L = strL s) : L.length ≤ 6 := by
  subst hL
  have h1 : ∀ x, x ∈ ssB.map strL → x.length ≤ 6 := by decide
  exact h1 _ (List.mem_map_of_mem h)
theorem in_ssC {s : ByteArray} (h : s ∈ ssC) : strL s ∈ [[40], [40, 63, 58]] := by
  have : ssC.map strL = [[40], [40, 63, 58]] := by decide
  rw [← this]; exact List.mem_map_of_mem h
theorem len_of_ssC {s : ByteArray} {L : List Int} (h : s ∈ ssC) (hL : L = strL s) : L.length ≤ 3 := by
  subst hL
  have h1 : ∀ x, x ∈ ssC.map strL → x.length ≤ 3 := by decide
  exact h1 _ (List.mem_map_of_mem h)
theorem in_ssD {s : ByteArray} (h : s ∈ ssD) : strL s ∈ partsC := by
  have : ssD.map strL = partsC := by decide
  rw [← this]; exact List.mem_map_of_mem h
theorem len_of_ssD {s : ByteArray} {L : List Int} (h : s ∈ ssD) (hL : L = strL s) : L.length ≤ 1 := by
  subst hL
  have h1 : ∀ x, x ∈ ssD.map strL → x.length ≤ 1 := by decide
  exact h1 _ (List.mem_map_of_mem h)
theorem in_ssF {s : ByteArray} (h : s ∈ ssF) : strL s ∈ partsD := by
  have : ssF.map strL = partsD := by decide
  rw [← this]; exact List.mem_map_of_mem h
theorem len_of_ssF {s : ByteArray} {L : List Int} (h : s ∈ ssF) (hL : L = strL s) : L.length ≤ 3 := by
  subst hL
  have h1 : ∀ x, x ∈ ssF.map strL → x.length ≤ 3 := by decide
  exact h1 _ (List.mem_map_of_mem h)
theorem in_ssR {s : ByteArray} (h : s ∈ ssR) : strL s ∈ partsE := by
  have : ssR.map strL = partsE := by decide
  rw [← this]; exact List.mem_map_of_mem h
theorem len_of_ssR {s : ByteArray} {L : List Int} (h : s ∈ ssR) (hL : L = strL s) : L.length ≤ 5 := by
  subst hL
  have h1 : ∀ x, x ∈ ssR.map strL → x.length ≤ 5 := by decide
  exact h1 _ (List.mem_map_of_mem h)
theorem nst_part {d : Nat} {x : List Int} (h : x ∈ partsA ∨ x ∈ partsB ∨ x ∈ partsC ∨ x ∈ partsD ∨ x ∈ partsE) : Nst (d + 1) x := by
  refine Nst.mono (parts_nst ?_) (Nat.le_add_left 1 d)
  simp only [List.mem_append]
  rcases h with h | h | h | h | h <;> simp [h]
theorem tape_bel {w w' : World} {p : Nat} {a : Option Addr} {l : List Int} {c D : Nat} (h : ∃ i, TapeAt w p a l c i) (hb : Below D w w') (hp : p < D) : ∃ i, TapeAt w' p a l c i := by
  obtain ⟨i, h⟩ := h
  exact ⟨i, h.below hb hp⟩
theorem nst_open {e : Nat} {s x : List Int} (h : s ∈ [[40], [40, 63, 58]]) (hx : Nst e x) : Nst (e + 1) (s ++ (x ++ [41])) := by
  simp only [List.mem_cons, List.not_mem_nil, or_false] at h
  rcases h with rfl | rfl
  · exact hx.group
  · exact hx.free
set_option maxRecDepth 20000 in
set_option maxHeartbeats 16000000 in
theorem pattern_t (p : Nat) (a : Option Addr) (l : List Int) (c d : Nat) (hd : d ≤ 3) (IH : ∀ d', d = d' + 1 → PatIH p a l c d') : PatIH p a l c d := by
  intro w ht hS
  obtain ⟨i, ht⟩ := ht
  have hplt := ht.lt
  have HS := hid hS
  have C := hid (next_c p a l c i 3 w ht (hS w (Below.refl _ _)) (by omega) (by omega))
  have hr0 := rndP_ge d
  have hr4 : rndP d ≤ 100000 := by
    rcases (show d = 0 ∨ d = 1 ∨ d = 2 ∨ d = 3 by omega) with rfl | rfl | rfl | rfl <;> simp [rndP]
  obtain ⟨rr, hrr⟩ : ∃ rr, rr = rndP d := ⟨_, rfl⟩
  have HRR := hid hrr
  have HIH := hid IH
  rw [← hrr] at hr0 hr4
  clear ht hS hrr IH
  go_enter Tryz.func41, Tryz.ntmps41
  go_wp2_with fail
  refine C.out.mono ?_
  rintro _ w1 ⟨v, hv, rfl, ht1, hk1⟩
  have hw1 : IntKind.i64.wrap (1 + (v : Int)) = ((v + 1 : Nat) : Int) := by rw [IntKind.wrap_i64]; omega
  go_wp2_with fail
  go_loopg [5, 6] (v + 1) (fun g ov nv wr => ∃ (aO : Option Addr) (cO : Nat) (O : List Int), g ≤ 3 ∧ ov = .slice aO O.length cO ∧ nv = .int .i64 g ∧ Hid (Own wr w.heap.size aO cO O) ∧ Hid (Nst (d + 1) O) ∧ O.length + g * rr ≤ 3 * rr ∧ Hid (∃ i, TapeAt wr p a l c i) ∧ Hid (Kpt (fun k => k = p) w wr))
  case atStart => exact ⟨none, 0, [], by omega, rfl, rfl, Own.nil _ _, Nst.nil _, (by have := Nat.mul_le_mul_right rr (show v + 1 ≤ 3 by omega); simpa using this), ht1, hk1⟩
  case round =>
    obtain ⟨aO, cO, O, hg3, rfl, rfl, Ho, Hn, hb, Ht, Hk⟩ := hrel
    have hO := Ho.out.2.2
    by_cases hg0 : 0 < gk
    · obtain ⟨g, rfl⟩ : ∃ g, gk = g + 1 := ⟨gk - 1, by omega⟩
      rw [Nat.succ_mul] at hb
      obtain ⟨gr, hgr⟩ : ∃ gr, gr = g * rr := ⟨_, rfl⟩
      have Hgr := hid hgr
      rw [← hgr] at hb
      obtain ⟨i2, ht2⟩ := Ht.out
      have zk := Hk.out.size
      have C := hid (next_c p a l c i2 10 wr ht2 (HS.out wr (Hk.out.belowp (by omega))) (by omega) (by omega))
      clear ht2 Ht hgr
      have b0 : decide ((0 : Int) < ((g + 1 : Nat) : Int)) = true := by first | (simp; done) | (simp; omega)
      go_wp2_with fail
      refine C.out.mono ?_
      rintro _ w2 ⟨v2, hv2, rfl, ht2, hk2⟩
      have T2 := hid ht2
      have K2 := hid (Hk.out.tr hk2)
      have O2 := hid (Ho.out.kr hk2 hplt)
      have z2 := hk2.size
      clear ht2 hk2 C Hk Ho
      go_upto_block 2 with fail
      go_cut [5] (fun ov wx => ∃ (a3 : Option Addr) (c3 : Nat) (O3 : List Int), ov = .slice a3 O3.length c3 ∧ Hid (Own wx w.heap.size a3 c3 O3) ∧ Hid (Nst (d + 1) O3) ∧ O3.length + 5 ≤ O.length + rr ∧ Hid (∃ i, TapeAt wx p a l c i) ∧ Hid (Kpt (fun k => k = p) w wx))
      case first =>
        by_cases h3 : v2 < 3
        · have b1 : decide ((v2 : Int) < 3) = true := by simp; omega
          go_wp2_with fail
          refine (one_a ssA _ _ _ _ p a l c _ w2 T2.out (fun w' hb => HS.out w' ((K2.out.belowp (by omega)).trans hb)) rfl rfl rfl (by decide) (by decide) (by decide)).mono ?_
          rintro _ v3 ⟨s3, b3, d3, M3, hs3, rfl, hM3, ho3', ht3', hk3'⟩
          have P3 := hid (O2.out.kr hk3' (by omega))
          have T3' := hid ht3'
          have K3' := hid (K2.out.tr hk3')
          have S3 := hid ho3'.sl
          have y3 := hk3'.size
          have HM3 := hid hs3
          have lm3 := len_of_ssA hs3 hM3.out
          clear ho3' ht3' hk3' hs3
          go_wp2_with ((at_builtin; (refine wpL_appn rfl (.tmp 25) (.tmp 28) rfl w.heap.size aO b3 O.length M3.length cO d3 O M3 rfl (by first | rfl | simp | omega) P3.out rfl (by first | rfl | simp | omega) S3.out (by omega) (by omega) ?_); intro a3 c3 w3 L3 Hl3 ho3 hb3 hk3 hA3; have HA3 := hid hA3; clear hA3; have Ho3 := hid ho3; clear ho3; have Hk3 := hid hk3; clear hk3; have hz3 := hb3.size))
          have T3 := hid (tape_bel T3'.out hb3 (by omega))
          have K3 := hid (K3'.out.bel hb3 (Nat.le_refl _))
          clear T3' K3' P3 S3
          go_meet
          exact ⟨a3, c3, L3, rfl, Ho3, by rw [Hl3.out, hM3.out]; exact Hn.out.app (nst_part (.inl (in_ssA HM3.out))), by rw [Hl3.out, List.length_append]; omega, T3, K3⟩
        have b1 : decide ((v2 : Int) < 3) = false := by simp; omega
        by_cases h5 : v2 < 5
        · have b2 : decide ((v2 : Int) < 5) = true := by simp; omega
          go_wp2_with fail
          refine (one_a ssB _ _ _ _ p a l c _ w2 T2.out (fun w' hb => HS.out w' ((K2.out.belowp (by omega)).trans hb)) rfl rfl rfl (by decide) (by decide) (by decide)).mono ?_
          rintro _ v3 ⟨s3, b3, d3, M3, hs3, rfl, hM3, ho3', ht3', hk3'⟩
          have P3 := hid (O2.out.kr hk3' (by omega))
          have T3' := hid ht3'
          have K3' := hid (K2.out.tr hk3')
          have S3 := hid ho3'.sl
          have y3 := hk3'.size
          have HM3 := hid hs3
          have lm3 := len_of_ssB hs3 hM3.out
          clear ho3' ht3' hk3' hs3
          go_wp2_with ((at_builtin; (refine wpL_appn rfl (.tmp 33) (.tmp 36) rfl w.heap.size aO b3 O.length M3.length cO d3 O M3 rfl (by first | rfl | simp | omega) P3.out rfl (by first | rfl | simp | omega) S3.out (by omega) (by omega) ?_); intro a3 c3 w3 L3 Hl3 ho3 hb3 hk3 hA3; have HA3 := hid hA3; clear hA3; have Ho3 := hid ho3; clear ho3; have Hk3 := hid hk3; clear hk3; have hz3 := hb3.size))
          have T3 := hid (tape_bel T3'.out hb3 (by omega))
          have K3 := hid (K3'.out.bel hb3 (Nat.le_refl _))
          clear T3' K3' P3 S3
          go_meet
          exact ⟨a3, c3, L3, rfl, Ho3, by rw [Hl3.out, hM3.out]; exact Hn.out.app (nst_part (.inr (.inl (in_ssB HM3.out)))), by rw [Hl3.out, List.length_append]; omega, T3, K3⟩
        have b2 : decide ((v2 : Int) < 5) = false := by simp; omega
        by_cases h7 : v2 < 7 ∧ 0 < d
        · obtain ⟨d', rfl⟩ : ∃ d', d = d' + 1 := ⟨d - 1, by omega⟩
          obtain ⟨h7a, h7b⟩ := h7
          have b3 : decide ((v2 : Int) < 7) = true := by simp; omega
          have b4 : decide ((0 : Int) < ((d' + 1 : Nat) : Int)) = true := by first | (simp; done) | (simp; omega)
          have hwd : IntKind.i64.wrap (((d' + 1 : Nat) : Int) - 1) = (d' : Int) := by rw [IntKind.wrap_i64]; omega
          obtain ⟨r1, hr1⟩ : ∃ r1, r1 = rndP d' := ⟨_, rfl⟩
          have hrr1 : rr = 6 * r1 + 20 := by rw [HRR.out, hr1]; rfl
          clear h7a h7b
          go_wp2_with fail
          refine (one_a ssC _ _ _ _ p a l c _ w2 T2.out (fun w' hb => HS.out w' ((K2.out.belowp (by omega)).trans hb)) rfl rfl rfl (by decide) (by decide) (by decide)).mono ?_
          rintro _ v3 ⟨s3, b3, d3, M3, hs3, rfl, hM3, ho3', ht3', hk3'⟩
          have P3 := hid (O2.out.kr hk3' (by omega))
          have T3' := hid ht3'
          have K3' := hid (K2.out.tr hk3')
          have S3 := hid ho3'.sl
          have y3 := hk3'.size
          have HM3 := hid hs3
          have lm3 := len_of_ssC hs3 hM3.out
          clear ho3' ht3' hk3' hs3
          go_wp2_with ((at_builtin; (refine wpL_appn rfl (.tmp 45) (.tmp 48) rfl w.heap.size aO b3 O.length M3.length cO d3 O M3 rfl (by first | rfl | simp | omega) P3.out rfl (by first | rfl | simp | omega) S3.out (by omega) (by omega) ?_); intro a3 c3 w3 L3 Hl3 ho3 hb3 hk3 hA3; have HA3 := hid hA3; clear hA3; have Ho3 := hid ho3; clear ho3; have Hk3 := hid hk3; clear hk3; have hz3 := hb3.size))
          have T3 := hid (tape_bel T3'.out hb3 (by omega))
          have K3 := hid (K3'.out.bel hb3 (Nat.le_refl _))
          clear T3' K3' P3 S3
          have h3l : L3.length ≤ O.length + 3 := by rw [Hl3.out, List.length_append]; omega
          have z3 := hb3.size
          go_wp2_with fail
          refine (HIH.out d' rfl _ T3.out (fun w' hb => HS.out w' ((K3.out.belowp (by omega)).trans hb))).mono ?_
          rintro _ v4 ⟨b4, d4, M4, rfl, ho4', hn4, lm4, ht4', hk4'⟩
          have P4 := hid (Ho3.out.kr hk4' (by omega))
          have T4' := hid ht4'
          have K4' := hid (K3.out.tr hk4')
          have S4 := hid ho4'.sl
          have y4 := hk4'.size
          have HN4 := hid hn4
          rw [← hr1] at lm4
          clear ho4' ht4' hk4' hn4
          go_wp2_with ((at_builtin; (refine wpL_appn rfl (.tmp 50) (.tmp 54) rfl w.heap.size a3 b4 L3.length M4.length c3 d4 L3 M4 rfl (by first | rfl | simp | omega) P4.out rfl (by first | rfl | simp | omega) S4.out (by omega) (by omega) ?_); intro a4 c4 w4 L4 Hl4 ho4 hb4 hk4 hA4; have HA4 := hid hA4; clear hA4; have Ho4 := hid ho4; clear ho4; have Hk4 := hid hk4; clear hk4; have hz4 := hb4.size))
          have T4 := hid (tape_bel T4'.out hb4 (by omega))
          have K4 := hid (K4'.out.bel hb4 (Nat.le_refl _))
          have q4 := hid (show L4.length = L3.length + M4.length by rw [Hl4.out, List.length_append])
          have h4l : L4.length ≤ L3.length + 3 * r1 := by have := q4.out; omega
          clear T4' K4' P4 S4
          obtain ⟨i5, ht5⟩ := T4.out
          have C := hid (next_c p a l c i5 3 _ ht5 (HS.out _ (K4.out.belowp (by omega))) (by omega) (by omega))
          clear ht5
          go_wp2_with fail
          refine C.out.mono ?_
          rintro _ w5 ⟨v5, hv5, rfl, ht5, hk5⟩
          have T5 := hid ht5
          have K5 := hid (K4.out.tr hk5)
          have O5 := hid (Ho4.out.kr hk5 (by omega))
          have z5 := hk5.size
          clear ht5 hk5 C
          by_cases hv0 : v5 = 0
          · have c5b : ((v5 : Int) == 0) = true := by simp; omega
            clear hv0 hv5
            go_wp2_with ((at_builtin; (refine wpL_appn rfl (.tmp 59) (.tmp 60) rfl w.heap.size a4 (some ⟨w5.heap.size, 0, none⟩) L4.length 1 c4 1 L4 [124] rfl (by first | rfl | simp | omega) (O5.out.grow (by (repeat' (first | exact Below.refl _ _ | assumption | refine bdrewN ?_ _ | refine Below.drew ?_ | refine bal ?_ _ | refine bthen ?_ (by assumption))))) rfl (by first | rfl | simp | omega) (Sl.lit' _ [124] _ _ (by simp) (by simp) (by simp [rng]) _ rfl) (by simp; omega) (by simp; omega) ?_); intro a6 c6 w6 L6 Hl6 ho6 hb6 hk6 hA6; have HA6 := hid hA6; clear hA6; have Ho6 := hid ho6; clear ho6; have Hk6 := hid hk6; clear hk6; have hz6 := hb6.size))
            have T6 := hid (tape_bel (tape_bel T5.out ((Below.refl w5.heap.size w5).alloc (Nat.le_refl _) _) (by omega)) hb6 (by omega))
            have K6 := hid (((K5.out).alloc _).bel hb6 (Nat.le_refl _))
            have h6l : L6.length ≤ L4.length + 1 := by rw [Hl6.out, List.length_append]; simp
            have z6 : w5.heap.size ≤ w6.heap.size := by have := hb6.size; simp only [World.size_alloc] at this; omega
            go_wp2_with fail
            refine (HIH.out d' rfl _ T6.out (fun w' hb => HS.out w' ((K6.out.belowp (by omega)).trans hb))).mono ?_
            rintro _ v7 ⟨b7, d7, M7, rfl, ho7', hn7, lm7, ht7', hk7'⟩
            have P7 := hid (Ho6.out.kr hk7' (by omega))
            have T7' := hid ht7'
            have K7' := hid (K6.out.tr hk7')
            have S7 := hid ho7'.sl
            have y7 := hk7'.size
            have HN7 := hid hn7
            rw [← hr1] at lm7
            clear ho7' ht7' hk7' hn7
            go_wp2_with (first | (at_builtin; (refine wpL_appn rfl (.tmp 61) (.tmp 65) rfl w.heap.size a6 b7 L6.length M7.length c6 d7 L6 M7 rfl (by first | rfl | simp | omega) P7.out rfl (by first | rfl | simp | omega) S7.out (by omega) (by omega) ?_); intro a7 c7 w7 L7 Hl7 ho7 hb7 hk7 hA7; have HA7 := hid hA7; clear hA7; have Ho7 := hid ho7; clear ho7; have Hk7 := hid hk7; clear hk7; have hz7 := hb7.size) | (at_builtin; (refine wpL_appn rfl (.tmp 67) (.tmp 68) rfl w.heap.size a7 (some ⟨w7.heap.size, 0, none⟩) L7.length 1 c7 1 L7 [41] rfl (by first | rfl | simp | omega) (Ho7.out.grow (by (repeat' (first | exact Below.refl _ _ | assumption | refine bdrewN ?_ _ | refine Below.drew ?_ | refine bal ?_ _ | refine bthen ?_ (by assumption))))) rfl (by first | rfl | simp | omega) (Sl.lit' _ [41] _ _ (by simp) (by simp) (by simp [rng]) _ rfl) (by rw [Hl7.out, List.length_append]; simp; omega) (by simp; omega) ?_); intro a8 c8 w8 L8 Hl8 ho8 hb8 hk8 hA8; have HA8 := hid hA8; clear hA8; have Ho8 := hid ho8; clear ho8; have Hk8 := hid hk8; clear hk8; have hz8 := hb8.size))
            have T7 := hid (tape_bel T7'.out hb7 (by omega))
            have K7 := hid (K7'.out.bel hb7 (Nat.le_refl _))
            have q7 := hid (show L7.length = L6.length + M7.length by rw [Hl7.out, List.length_append])
            have h7l : L7.length ≤ L6.length + 3 * r1 := by have := q7.out; omega
            clear T7' K7' P7 S7
            have z7 := hb7.size
            go_meet
            have hN : Nst (d' + 1) (M4 ++ [124] ++ M7) := (HN4.out.app (Nst.one (by decide))).app HN7.out
            refine ⟨a8, c8, L8, rfl, Ho8, ?_, by rw [Hl8.out, List.length_append]; simp; omega, hid (tape_bel (tape_bel T7.out ((Below.refl w7.heap.size w7).alloc (Nat.le_refl _) _) (by omega)) hb8 (by omega)), hid ((K7.out.alloc _).bel hb8 (Nat.le_refl _))⟩
            have e : L8 = O ++ (strL s3 ++ ((M4 ++ [124] ++ M7) ++ [41])) := by rw [Hl8.out, Hl7.out, Hl6.out, Hl4.out, Hl3.out, hM3.out]; simp [List.append_assoc]
            rw [e]
            exact Hn.out.app (nst_open (in_ssC HM3.out) hN)
          · have c5b : ((v5 : Int) == 0) = false := by simp; omega
            clear hv0 hv5
            go_wp2_with ((at_builtin; (refine wpL_appn rfl (.tmp 67) (.tmp 68) rfl w.heap.size a4 (some ⟨w5.heap.size, 0, none⟩) L4.length 1 c4 1 L4 [41] rfl (by first | rfl | simp | omega) (O5.out.grow (by (repeat' (first | exact Below.refl _ _ | assumption | refine bdrewN ?_ _ | refine Below.drew ?_ | refine bal ?_ _ | refine bthen ?_ (by assumption))))) rfl (by first | rfl | simp | omega) (Sl.lit' _ [41] _ _ (by simp) (by simp) (by simp [rng]) _ rfl) (by simp; omega) (by simp; omega) ?_); intro a8 c8 w8 L8 Hl8 ho8 hb8 hk8 hA8; have HA8 := hid hA8; clear hA8; have Ho8 := hid ho8; clear ho8; have Hk8 := hid hk8; clear hk8; have hz8 := hb8.size))
            go_meet
            refine ⟨a8, c8, L8, rfl, Ho8, ?_, by rw [Hl8.out, List.length_append]; simp; omega, hid (tape_bel (tape_bel T5.out ((Below.refl w5.heap.size w5).alloc (Nat.le_refl _) _) (by omega)) hb8 (by omega)), hid ((K5.out.alloc _).bel hb8 (Nat.le_refl _))⟩
            have e : L8 = O ++ (strL s3 ++ (M4 ++ [41])) := by rw [Hl8.out, Hl4.out, Hl3.out, hM3.out]; simp [List.append_assoc]
            rw [e]
            exact Hn.out.app (nst_open (in_ssC HM3.out) HN4.out)
        have b3 : (decide ((v2 : Int) < 7) && decide ((0 : Int) < (d : Int))) = false := by simp; omega
        have b4 : decide ((v2 : Int) < 7) = true → decide ((0 : Int) < (d : Int)) = false := by simp; omega
        rcases (show ((v2 : Nat) < 7 ∧ d = 0) ∨ v2 = 7 ∨ 8 ≤ v2 by omega) with ⟨h7a, h7b⟩ | h7a | h7a
        · have b5 : decide ((v2 : Int) < 7) = true := by simp; omega
          have b6 : decide ((0 : Int) < (d : Int)) = false := by simp; omega
          have b7 : decide ((v2 : Int) < 8) = true := by simp; omega
          clear b3 b4 h7b
          go_wp2_with fail
          refine (one_a ssD _ _ _ _ p a l c _ w2 T2.out (fun w' hb => HS.out w' ((K2.out.belowp (by omega)).trans hb)) rfl rfl rfl (by decide) (by decide) (by decide)).mono ?_
          rintro _ v3 ⟨s3, b3, d3, M3, hs3, rfl, hM3, ho3', ht3', hk3'⟩
          have P3 := hid (O2.out.kr hk3' (by omega))
          have T3' := hid ht3'
          have K3' := hid (K2.out.tr hk3')
          have S3 := hid ho3'.sl
          have y3 := hk3'.size
          have HM3 := hid hs3
          have lm3 := len_of_ssD hs3 hM3.out
          clear ho3' ht3' hk3' hs3
          go_wp2_with ((at_builtin; (refine wpL_appn rfl (.tmp 73) (.tmp 76) rfl w.heap.size aO b3 O.length M3.length cO d3 O M3 rfl (by first | rfl | simp | omega) P3.out rfl (by first | rfl | simp | omega) S3.out (by omega) (by omega) ?_); intro a3 c3 w3 L3 Hl3 ho3 hb3 hk3 hA3; have HA3 := hid hA3; clear hA3; have Ho3 := hid ho3; clear ho3; have Hk3 := hid hk3; clear hk3; have hz3 := hb3.size))
          have T3 := hid (tape_bel T3'.out hb3 (by omega))
          have K3 := hid (K3'.out.bel hb3 (Nat.le_refl _))
          clear T3' K3' P3 S3
          go_roundg g
          case measure => omega
          case rel => exact ⟨a3, c3, L3, by omega, rfl, by go_num, Ho3, by rw [Hl3.out, hM3.out]; exact Hn.out.app (nst_part (.inr (.inr (.inl (in_ssD HM3.out))))), by rw [Hl3.out, List.length_append, ← Hgr.out]; omega, T3, K3⟩
        · have b5 : decide ((v2 : Int) < 7) = false := by simp; omega
          have b7 : decide ((v2 : Int) < 8) = true := by simp; omega
          clear b3 b4
          go_wp2_with fail
          refine (one_a ssD _ _ _ _ p a l c _ w2 T2.out (fun w' hb => HS.out w' ((K2.out.belowp (by omega)).trans hb)) rfl rfl rfl (by decide) (by decide) (by decide)).mono ?_
          rintro _ v3 ⟨s3, b3, d3, M3, hs3, rfl, hM3, ho3', ht3', hk3'⟩
          have P3 := hid (O2.out.kr hk3' (by omega))
          have T3' := hid ht3'
          have K3' := hid (K2.out.tr hk3')
          have S3 := hid ho3'.sl
          have y3 := hk3'.size
          have HM3 := hid hs3
          have lm3 := len_of_ssD hs3 hM3.out
          clear ho3' ht3' hk3' hs3
          go_wp2_with ((at_builtin; (refine wpL_appn rfl (.tmp 73) (.tmp 76) rfl w.heap.size aO b3 O.length M3.length cO d3 O M3 rfl (by first | rfl | simp | omega) P3.out rfl (by first | rfl | simp | omega) S3.out (by omega) (by omega) ?_); intro a3 c3 w3 L3 Hl3 ho3 hb3 hk3 hA3; have HA3 := hid hA3; clear hA3; have Ho3 := hid ho3; clear ho3; have Hk3 := hid hk3; clear hk3; have hz3 := hb3.size))
          have T3 := hid (tape_bel T3'.out hb3 (by omega))
          have K3 := hid (K3'.out.bel hb3 (Nat.le_refl _))
          clear T3' K3' P3 S3
          go_roundg g
          case measure => omega
          case rel => exact ⟨a3, c3, L3, by omega, rfl, by go_num, Ho3, by rw [Hl3.out, hM3.out]; exact Hn.out.app (nst_part (.inr (.inr (.inl (in_ssD HM3.out))))), by rw [Hl3.out, List.length_append, ← Hgr.out]; omega, T3, K3⟩
        · have b5 : decide ((v2 : Int) < 7) = false := by simp; omega
          have b7 : decide ((v2 : Int) < 8) = false := by simp; omega
          clear b3 b4
          go_wp2_with fail
          refine (one_a ssF _ _ _ _ p a l c _ w2 T2.out (fun w' hb => HS.out w' ((K2.out.belowp (by omega)).trans hb)) rfl rfl rfl (by decide) (by decide) (by decide)).mono ?_
          rintro _ v3 ⟨s3, b3, d3, M3, hs3, rfl, hM3, ho3', ht3', hk3'⟩
          have P3 := hid (O2.out.kr hk3' (by omega))
          have T3' := hid ht3'
          have K3' := hid (K2.out.tr hk3')
          have S3 := hid ho3'.sl
          have y3 := hk3'.size
          have HM3 := hid hs3
          have lm3 := len_of_ssF hs3 hM3.out
          clear ho3' ht3' hk3' hs3
          go_wp2_with ((at_builtin; (refine wpL_appn rfl (.tmp 17) (.tmp 20) rfl w.heap.size aO b3 O.length M3.length cO d3 O M3 rfl (by first | rfl | simp | omega) P3.out rfl (by first | rfl | simp | omega) S3.out (by omega) (by omega) ?_); intro a3 c3 w3 L3 Hl3 ho3 hb3 hk3 hA3; have HA3 := hid hA3; clear hA3; have Ho3 := hid ho3; clear ho3; have Hk3 := hid hk3; clear hk3; have hz3 := hb3.size))
          have T3 := hid (tape_bel T3'.out hb3 (by omega))
          have K3 := hid (K3'.out.bel hb3 (Nat.le_refl _))
          clear T3' K3' P3 S3
          go_meet
          exact ⟨a3, c3, L3, rfl, Ho3, by rw [Hl3.out, hM3.out]; exact Hn.out.app (nst_part (.inr (.inr (.inr (.inl (in_ssF HM3.out)))))), by rw [Hl3.out, List.length_append]; omega, T3, K3⟩
      case rest =>
        rename World => w4
        obtain ⟨aQ, cQ, Q, rfl, HoQ, HnQ, hlQ, HtQ, HkQ⟩ := hcut
        have zQ := HkQ.out.size
        go_wp2_with fail
        refine (one_a ssR _ _ _ _ p a l c _ w4 HtQ.out (fun w' hb => HS.out w' ((HkQ.out.belowp (by omega)).trans hb)) rfl rfl rfl (by decide) (by decide) (by decide)).mono ?_
        rintro _ v3 ⟨s3, b3, d3, M3, hs3, rfl, hM3, ho3', ht3', hk3'⟩
        have P3 := hid (HoQ.out.kr hk3' (by omega))
        have T3' := hid ht3'
        have K3' := hid (HkQ.out.tr hk3')
        have S3 := hid ho3'.sl
        have y3 := hk3'.size
        have HM3 := hid hs3
        have lm3 := len_of_ssR hs3 hM3.out
        clear ho3' ht3' hk3' hs3
        go_wp2_with ((at_builtin; (refine wpL_appn rfl (.tmp 78) (.tmp 81) rfl w.heap.size aQ b3 Q.length M3.length cQ d3 Q M3 rfl (by first | rfl | simp | omega) P3.out rfl (by first | rfl | simp | omega) S3.out (by omega) (by omega) ?_); intro a3 c3 w3 L3 Hl3 ho3 hb3 hk3 hA3; have HA3 := hid hA3; clear hA3; have Ho3 := hid ho3; clear ho3; have Hk3 := hid hk3; clear hk3; have hz3 := hb3.size))
        have T3 := hid (tape_bel T3'.out hb3 (by omega))
        have K3 := hid (K3'.out.bel hb3 (Nat.le_refl _))
        clear T3' K3' P3 S3
        go_roundg g
        case measure => omega
        case rel => exact ⟨a3, c3, L3, by omega, rfl, by go_num, Ho3, by rw [Hl3.out, hM3.out]; exact HnQ.out.app (nst_part (.inr (.inr (.inr (.inr (in_ssR HM3.out)))))), by rw [Hl3.out, List.length_append, ← Hgr.out]; omega, T3, K3⟩
    · obtain rfl : gk = 0 := by omega
      have b0 : decide ((0 : Int) < ((0 : Nat) : Int)) = false := by decide
      go_wp2_with fail
      go_ret
      exact ⟨aO, cO, O, rfl, Ho.out, Hn.out, by rw [← HRR.out]; omega, Ht.out, Hk.out⟩
theorem pattern_all (p : Nat) (a : Option Addr) (l : List Int) (c : Nat) : ∀ d, d ≤ 3 → PatIH p a l c d := by
  intro d
  induction d with
  | zero => intro h; exact pattern_t p a l c 0 h (fun d' e => by omega)
  | succ d ih =>
    intro h
    refine pattern_t p a l c (d + 1) h (fun d' e => ?_)
    obtain rfl : d' = d := by omega
    exact ih (by omega)
end Go.Proofs.YtefgjicegbhcaaaGreat
