/- Digits of numbers: with leading zeros, without. Lists alone. -/
import Derived.Test.YtijhkpbnalnpbaaDoorUtf
import Derived.Lib.ItoaNum
import Derived.Lib.LastIndexLaws
namespace Go.Proofs.YtijhkpbnalnpbaaDoor

def dg (d : Nat) : Int := if d < 10 then 48 + d else 87 + d
/-- k digits, the first ahead -/
def digs (b : Nat) : Nat → Nat → List Int
  | 0, _ => []
  | k + 1, n => digs b k (n / b) ++ [dg (n % b)]
theorem digs_len (b : Nat) : ∀ k n, (digs b k n).length = k
  | 0, _ => rfl
  | k + 1, n => by simp [digs, digs_len b k]
theorem digs_zero (b : Nat) : ∀ k, digs b k 0 = List.replicate k 48
  | 0 => rfl
  | k + 1 => by rw [digs, Nat.zero_div, digs_zero b k, List.replicate_succ']; simp [dg]
theorem digs_pad (b i : Nat) : ∀ j n, n < b ^ j → digs b (i + j) n = List.replicate i 48 ++ digs b j n
  | 0, n, h => by
    obtain rfl : n = 0 := by simpa using h
    rw [Nat.add_zero, digs_zero]; simp [digs]
  | j + 1, n, h => by
    have hb : 0 < b := by
      rcases Nat.eq_zero_or_pos b with rfl | h0
      · simp at h
      · exact h0
    rw [← Nat.add_assoc, digs, digs_pad b i j (n / b) (by rw [Nat.div_lt_iff_lt_mul hb]; rw [Nat.pow_succ] at h; exact h), List.append_assoc]
    rfl
theorem digs_front (b : Nat) : ∀ j n, digs b (j + 1) n = dg (n / b ^ j % b) :: digs b j n
  | 0, n => by simp [digs]
  | j + 1, n => by
    rw [digs, digs_front b j (n / b), Nat.div_div_eq_div_mul, Nat.pow_succ, Nat.mul_comm b]
    simp [digs]
theorem dg_rng (d : Nat) (h : d < 36) : 0 ≤ dg d ∧ dg d < 128 := by unfold dg; split <;> omega
theorem digs_asc (b : Nat) (h0 : 0 < b) (hb : b ≤ 36) : ∀ k n, asc (digs b k n) = true
  | 0, _ => rfl
  | k + 1, n => by
    have h1 := dg_rng (n % b) (by have := Nat.mod_lt n h0; omega)
    rw [digs]
    refine asc_app (digs_asc b h0 hb k _) ?_
    simp only [asc, List.all_cons, List.all_nil, Bool.and_true, decide_eq_true_eq]; exact h1

/-! ## how many -/
/-- how many digits (one for 0) -/
def nd (b : Nat) : Nat → Nat → Nat
  | 0, _ => 1
  | f + 1, n => if n < b then 1 else nd b f (n / b) + 1
theorem dec_digs (n : Nat) : (Lib.decDigits n).map (fun b => (b.toNat : Int)) = digs 10 (Lib.nDigits n) n := by
  induction n using Nat.strongRecOn with
  | _ n ih =>
    by_cases h : n < 10
    · rw [Lib.decDigits_one h, Lib.nDigits_small h]
      simp only [digs, List.map_cons, List.map_nil, List.nil_append, dg, Nat.mod_eq_of_lt h, if_pos h]
      rw [u8n _ (by omega)]; simp
    · rw [Lib.decDigits, dif_neg h, Lib.nDigits_big h, List.map_append, ih (n / 10) (by omega), digs]
      congr 1
      have : n % 10 < 10 := Nat.mod_lt _ (by decide)
      simp only [List.map_cons, List.map_nil, dg, if_pos this]
      rw [u8n _ (by omega)]; simp
theorem nDigits_le : ∀ (j n : Nat), n < 10 ^ (j + 1) → Lib.nDigits n ≤ j + 1
  | 0, n, h => by rw [Lib.nDigits_small (by simpa using h)]; exact Nat.le_refl _
  | j + 1, n, h => by
    by_cases h1 : n < 10
    · rw [Lib.nDigits_small h1]; omega
    · rw [Lib.nDigits_big h1]
      have := nDigits_le j (n / 10) (by rw [Nat.pow_succ] at h; omega)
      omega
theorem nDigits_lt {j n : Nat} (h : 0 < n / 10 ^ j) : j < Lib.nDigits n := by
  rcases Nat.lt_or_ge j (Lib.nDigits n) with h1 | h1
  · exact h1
  · have h2 := Lib.lt_pow_nDigits n
    have h3 : 10 ^ Lib.nDigits n ≤ 10 ^ j := Nat.pow_le_pow_right (by decide) h1
    rw [Nat.div_eq_of_lt (by omega)] at h; omega
theorem itoa_digs (n : Nat) : (Lib.itoa (n : Int)) = Lib.decDigits n := by
  unfold Lib.itoa; rw [if_neg (by omega)]; simp
theorem nd_le (b : Nat) : ∀ (f n : Nat), nd b f n ≤ f + 1
  | 0, _ => Nat.le_refl _
  | f + 1, n => by unfold nd; split
                   · omega
                   · have := nd_le b f (n / b); omega
theorem nd_pos (b : Nat) : ∀ (f n : Nat), 1 ≤ nd b f n
  | 0, _ => Nat.le_refl _
  | f + 1, n => by unfold nd; split <;> omega
theorem lt_pow_nd (b : Nat) (hb : 0 < b) : ∀ (f n : Nat), n < b ^ (f + 1) → n < b ^ nd b f n
  | 0, n, h => h
  | f + 1, n, h => by
    unfold nd; split
    · simpa
    · have := lt_pow_nd b hb f (n / b) (by rw [Nat.div_lt_iff_lt_mul hb]; rw [Nat.pow_succ] at h; exact h)
      rw [Nat.pow_succ]; exact (Nat.div_lt_iff_lt_mul hb).1 this

/-- a text of digits with its dashes -/
def uuidL (h : List Int) : List Int := h.take 8 ++ ([45] ++ ((h.take 12).drop 8 ++ ([45, 52] ++ ((h.take 15).drop 12 ++ ([45, 56] ++ ((h.take 18).drop 15 ++ ([45] ++ h.drop 18)))))))
/-- where the last period stands among the first k -/
def lastR (l : List Int) : Nat → Option Nat
  | 0 => none
  | i + 1 => if gt l i = 46 then some i else lastR l i
def baseAt (l : List Int) (k : Nat) : List Int :=
  match lastR l k with
  | some (i + 1) => l.take (i + 1)
  | _ => l
/-- a name up to its last period -/
def baseL (l : List Int) : List Int := baseAt l l.length
theorem lastR_lt {l : List Int} : ∀ {k i : Nat}, lastR l k = some i → i < k
  | 0, i, h => by cases h
  | k + 1, i, h => by
    unfold lastR at h; split at h
    · cases h; omega
    · have := lastR_lt h; omega
theorem baseAt_hit {l : List Int} {i : Nat} (h : gt l (i + 1) = 46) : baseAt l (i + 2) = l.take (i + 1) := by
  simp [baseAt, lastR, h]
theorem baseAt_miss {l : List Int} {i : Nat} (h : gt l i ≠ 46) : baseAt l (i + 1) = baseAt l i := by
  simp [baseAt, lastR, h]
theorem baseAt_one (l : List Int) : baseAt l 1 = l := by
  simp only [baseAt, lastR]; split <;> rename_i h
  · split at h <;> cases h
  · rfl
theorem baseL_may {l : List Int} (h : may l = true) : may (baseL l) = true := by
  unfold baseL baseAt; split
  · rw [may, List.all_eq_true] at *; exact fun x hx => h x (List.mem_of_mem_take hx)
  · exact h
/-! ### the same on bytes -/
theorem occ_at (s : List UInt8) (i : Nat) (h : i < s.length) : Lib.occAt s [46] i = decide (s[i] = 46) := by
  unfold Lib.occAt
  rw [List.drop_eq_getElem_cons h]
  simp only [List.isPrefixOf, Bool.and_true]
  rw [Bool.eq_iff_iff]; simp only [beq_iff_eq, decide_eq_true_eq]
  exact eq_comm
theorem enc_no46 {r : Int} (h : sgn r = true) (h1 : r ≠ 46) : ∀ b ∈ encL r, b ≠ 46 := by
  intro b hb e
  subst e
  rcases Int.lt_or_le r 128 with h2 | h2
  · have h0 : 0 ≤ r := by simp only [sgn, decide_eq_true_eq] at h; omega
    rw [encL_low ⟨h0, h2⟩] at hb
    simp only [List.mem_cons, List.not_mem_nil, or_false] at hb
    have := congrArg UInt8.toNat hb
    rw [u8n _ (by omega)] at this
    simp at this; omega
  · have := encL_high h h2 _ hb
    simp at this
theorem skip_occ (s : List UInt8) (m : Nat) : ∀ e, m + e ≤ s.length → (∀ j, m ≤ j → j < m + e → (hj : j < s.length) → s[j] ≠ 46) → Lib.lastOcc s [46] (m + e) = Lib.lastOcc s [46] m
  | 0, _, _ => rfl
  | e + 1, h, hn => by
    rw [← Nat.add_assoc, Lib.lastOcc_miss s [46] (m + e) (by rw [occ_at s _ (by omega)]; simpa using hn (m + e) (by omega) (by omega) (by omega))]
    exact skip_occ s m e (by omega) fun j h1 h2 => hn j h1 (by omega)
theorem lastOcc_utf {l : List Int} (hm : may l = true) : ∀ k, k ≤ l.length → Lib.lastOcc (utf l) [46] (utf (l.take k)).length = match lastR l k with | none => -1 | some i => ((utf (l.take i)).length : Int)
  | 0, _ => by simp [utf, Lib.lastOcc, lastR]
  | k + 1, hk => by
    have hlt : k < l.length := by omega
    have ih := lastOcc_utf hm k (by omega)
    have ht : l.take (k + 1) = l.take k ++ [gt l k] := take_succ hlt
    have hu : utf l = utf (l.take k) ++ (encL (gt l k) ++ utf (l.drop (k + 1))) := by
      conv => lhs; rw [← List.take_append_drop k l, utf_app, List.drop_eq_getElem_cons hlt, utf_cons, ← gt_get hlt]
    have hs : sgn (gt l k) = true := List.all_eq_true.1 hm _ (gt_mem hlt)
    have hlen : (utf (l.take (k + 1))).length = (utf (l.take k)).length + (encL (gt l k)).length := by rw [ht, utf_app]; simp [utf]
    have htot := congrArg List.length hu
    simp only [List.length_append] at htot
    have hat : ∀ j, (hj : j < (encL (gt l k)).length) → (h2 : (utf (l.take k)).length + j < (utf l).length) → (utf l)[(utf (l.take k)).length + j] = (encL (gt l k))[j] := by
      intro j hj h2
      have := List.getElem_of_eq hu h2
      rw [this, List.getElem_append_right (by omega)]
      simp only [Nat.add_sub_cancel_left]
      rw [List.getElem_append_left hj]
    unfold lastR
    by_cases h46 : gt l k = 46
    · rw [if_pos h46]
      have e1 : encL (gt l k) = [46] := by rw [h46]; decide
      have hl1 : (encL (gt l k)).length = 1 := by rw [e1]; rfl
      rw [hlen, hl1]
      have h3 : (utf (l.take k)).length < (utf l).length := by omega
      rw [Lib.lastOcc_hit (utf l) [46] (utf (l.take k)).length (by
        rw [occ_at _ _ h3]
        have := hat 0 (by omega) (by simpa using h3)
        simp only [Nat.add_zero] at this
        rw [this]
        simp [e1])]
    · rw [if_neg h46, hlen, skip_occ (utf l) (utf (l.take k)).length (encL (gt l k)).length (by omega) (by
        intro j h1 h2 hj
        obtain ⟨t, rfl⟩ : ∃ t, j = (utf (l.take k)).length + t := ⟨j - (utf (l.take k)).length, by omega⟩
        rw [hat t (by omega) hj]
        exact enc_no46 hs h46 _ (List.getElem_mem _))]
      exact ih
theorem lastIndex_utf {l : List Int} (hm : may l = true) : Lib.lastIndex (utf l) [46] = match lastR l l.length with | none => -1 | some i => ((utf (l.take i)).length : Int) := by
  have h := lastOcc_utf hm l.length (Nat.le_refl _)
  rw [List.take_length] at h
  rw [← h]
  unfold Lib.lastIndex
  cases hl : utf l with
  | nil => simp [Lib.lastOcc]
  | cons b t => rw [if_pos (by simp)]; rfl
end Go.Proofs.YtijhkpbnalnpbaaDoor
