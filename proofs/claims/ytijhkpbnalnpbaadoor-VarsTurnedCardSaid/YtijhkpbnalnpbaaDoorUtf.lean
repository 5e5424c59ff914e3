/- Texts as strings: what UTF-8 writes and reads back; digits of numbers. Lists alone. -/
import Derived.Test.YtijhkpbnalnpbaaDoorSignsM
import Derived.Laws.Cover4
import Derived.Laws.IdiomStrings
import Derived.Laws.Runes
namespace Go.Proofs.YtijhkpbnalnpbaaDoor

def encL (r : Int) : List UInt8 := (Utf8.encode r).data.toList
def utf (l : List Int) : List UInt8 := l.flatMap encL
theorem utf_app (a b : List Int) : utf (a ++ b) = utf a ++ utf b := by simp [utf]
theorem utf_cons (r : Int) (b : List Int) : utf (r :: b) = encL r ++ utf b := by simp [utf]
theorem foldl_utf (l : List Int) : ∀ s : ByteArray, (l.foldl (fun r n => r ++ Utf8.encode n) s).data.toList = s.data.toList ++ utf l := by
  induction l with
  | nil => intro s; simp [utf]
  | cons n l ih => intro s; rw [List.foldl_cons, ih]; simp [utf, encL]
theorem runesBytes_utf (l : List Int) : (runesBytes l).data.toList = utf l := by
  unfold runesBytes; rw [foldl_utf]; simp

theorem valid_sgn {r : Int} (h : sgn r = true) : Utf8.valid r = true := by
  rw [validRune_eq]; simp only [validRune, decide_eq_true_eq]; simp only [sgn, decide_eq_true_eq] at h; omega
theorem encL_low {r : Int} (h : 0 ≤ r ∧ r < 128) : encL r = [UInt8.ofNat r.toNat] := by
  have hv : Utf8.valid r = true := by rw [validRune_eq]; simp only [validRune, decide_eq_true_eq]; omega
  unfold encL Utf8.encode
  simp only [hv, if_true]
  rw [if_pos (by omega)]
theorem encL_len {r : Int} : 1 ≤ (encL r).length ∧ (encL r).length ≤ 4 := by
  unfold encL Utf8.encode
  simp only
  generalize (if Utf8.valid r = true then r.toNat else Utf8.runeError) = c
  repeat' split
  all_goals simp
theorem u8n (n : Nat) (h : n < 256) : (UInt8.ofNat n).toNat = n := by simp; omega
/-- a sign's bytes from 128 on are none of the small ones -/
theorem encL_high {r : Int} (h : sgn r = true) (h1 : 128 ≤ r) : ∀ b ∈ encL r, 128 ≤ b.toNat := by
  have hv := valid_sgn h
  have hr : r ≤ 1114111 := by simp only [sgn, decide_eq_true_eq] at h; omega
  unfold encL Utf8.encode
  simp only [hv, if_true]
  have h0 : ¬ r.toNat < 128 := by omega
  rw [if_neg h0]
  split
  · intro b hb; simp only [List.mem_cons, List.not_mem_nil, or_false] at hb
    rcases hb with rfl | rfl <;> rw [u8n _ (by omega)] <;> omega
  · split
    · intro b hb; simp only [List.mem_cons, List.not_mem_nil, or_false] at hb
      rcases hb with rfl | rfl | rfl <;> rw [u8n _ (by omega)] <;> omega
    · intro b hb; simp only [List.mem_cons, List.not_mem_nil, or_false] at hb
      rcases hb with rfl | rfl | rfl | rfl <;> rw [u8n _ (by omega)] <;> omega

theorem get_bang {s : ByteArray} {l : List UInt8} (h : s.data.toList = l) (i : Nat) : s.get! i = l.getD i 0 := by
  subst h
  show s.data[i]! = _
  by_cases hi : i < s.data.size
  · rw [getElem!_pos s.data i hi, List.getD, List.getElem?_eq_getElem (by simpa using hi)]; simp
  · rw [getElem!_neg s.data i hi, List.getD, List.getElem?_eq_none (by rw [Array.length_toList]; omega)]; rfl
theorem size_of {s : ByteArray} {l : List UInt8} (h : s.data.toList = l) : s.size = l.length := by
  rw [← h, Array.length_toList]; rfl
theorem getD_mid (p e q : List UInt8) (k : Nat) (h : k < e.length) : (p ++ (e ++ q)).getD (p.length + k) 0 = e.getD k 0 := by
  simp only [List.getD]
  rw [List.getElem?_append_right (by omega), Nat.add_sub_cancel_left, List.getElem?_append_left h]
set_option maxRecDepth 100000 in
/-- a sign is read back -/
theorem decode_enc {s : ByteArray} {p q : List UInt8} {r : Int} (hr : sgn r = true) (h : s.data.toList = p ++ (encL r ++ q)) :
    Utf8.decode s p.length = (r.toNat, (encL r).length) := by
  have hv := valid_sgn hr
  have hr2 : 0 ≤ r ∧ r ≤ 1114111 := by simp only [sgn, decide_eq_true_eq] at hr; omega
  obtain ⟨n, rfl⟩ := Int.eq_ofNat_of_zero_le hr2.1
  have hn : n ≤ 1114111 := by omega
  have hsz := size_of h
  have hg : ∀ k, k < (encL (n : Int)).length → (s.get! (p.length + k)).toNat = ((encL (n : Int)).getD k 0).toNat := fun k hk => by
    rw [get_bang h, getD_mid _ _ _ _ hk]
  have hvv : Utf8.valid ((n : Nat) : Int) = true := hv
  have hvb : 2048 ≤ n → n < 65536 → Utf8.valid (n : Int) = true := fun _ _ => hv
  simp only [List.length_append] at hsz
  unfold Utf8.decode
  by_cases c1 : n < 128
  · have e : encL (n : Int) = [UInt8.ofNat n] := by rw [encL_low ⟨by omega, by omega⟩]; simp
    rw [e] at hg hsz ⊢
    have g0 := hg 0 (by simp)
    simp only [List.getD_cons_zero, u8n n (by omega)] at g0
    simp only [g0]
    rw [if_pos c1]
    rfl
  by_cases c2 : n < 2048
  · have e : encL (n : Int) = [UInt8.ofNat (192 + n / 64), UInt8.ofNat (128 + n % 64)] := by
      unfold encL Utf8.encode; simp only [hv, if_true, Int.toNat_natCast]; rw [if_neg (by omega), if_pos (by omega)]
    rw [e] at hg hsz ⊢
    have g0 := hg 0 (by simp); have g1 := hg 1 (by simp)
    simp only [List.getD_cons_zero, List.getD_cons_succ, u8n (192 + n / 64) (by omega), u8n (128 + n % 64) (by omega)] at g0 g1
    simp only [List.length_cons, List.length_nil] at hsz
    simp only [g0, g1]
    rw [if_neg (by omega), if_pos (by simp; omega), if_pos (by omega)]
    simp only [Int.toNat_natCast, List.length_cons, List.length_nil, Prod.mk.injEq]
    exact ⟨by omega, trivial⟩
  by_cases c3 : n < 65536
  · have e : encL (n : Int) = [UInt8.ofNat (224 + n / 4096), UInt8.ofNat (128 + n / 64 % 64), UInt8.ofNat (128 + n % 64)] := by
      unfold encL Utf8.encode; simp only [hv, if_true, Int.toNat_natCast]; rw [if_neg (by omega), if_neg (by omega), if_pos (by omega)]
    rw [e] at hg hsz ⊢
    have g0 := hg 0 (by simp); have g1 := hg 1 (by simp); have g2 := hg 2 (by simp)
    simp only [List.getD_cons_zero, List.getD_cons_succ, u8n (224 + n / 4096) (by omega), u8n (128 + n / 64 % 64) (by omega), u8n (128 + n % 64) (by omega)] at g0 g1 g2
    simp only [List.length_cons, List.length_nil] at hsz
    simp only [g0, g1, g2]
    have ec : (224 + n / 4096) % 16 * 4096 + (128 + n / 64 % 64) % 64 * 64 + (128 + n % 64) % 64 = n := by omega
    rw [ec]
    rw [if_neg (by omega), if_neg (by simp; omega), if_pos (by simp; omega), if_pos (by simp only [ge_iff_le, Bool.and_eq_true, decide_eq_true_eq]; exact ⟨by omega, hvv⟩)]
    simp
  · have e : encL (n : Int) = [UInt8.ofNat (240 + n / 262144), UInt8.ofNat (128 + n / 4096 % 64), UInt8.ofNat (128 + n / 64 % 64), UInt8.ofNat (128 + n % 64)] := by
      unfold encL Utf8.encode; simp only [hv, if_true, Int.toNat_natCast]; rw [if_neg (by omega), if_neg (by omega), if_neg (by omega)]
    rw [e] at hg hsz ⊢
    have g0 := hg 0 (by simp); have g1 := hg 1 (by simp); have g2 := hg 2 (by simp); have g3 := hg 3 (by simp)
    simp only [List.getD_cons_zero, List.getD_cons_succ, u8n (240 + n / 262144) (by omega), u8n (128 + n / 4096 % 64) (by omega), u8n (128 + n / 64 % 64) (by omega), u8n (128 + n % 64) (by omega)] at g0 g1 g2 g3
    simp only [List.length_cons, List.length_nil] at hsz
    simp only [g0, g1, g2, g3]
    have ec : (240 + n / 262144) % 8 * 262144 + (128 + n / 4096 % 64) % 64 * 4096 + (128 + n / 64 % 64) % 64 * 64 + (128 + n % 64) % 64 = n := by omega
    rw [ec]
    rw [if_neg (by omega), if_neg (by simp; omega), if_neg (by simp; omega), if_pos (by simp; omega), if_pos (by simp only [ge_iff_le, Bool.and_eq_true, decide_eq_true_eq]; exact ⟨by omega, hvv⟩)]
    simp

theorem runes_from {s : ByteArray} : ∀ (l : List Int) (bound : Nat) (p : List UInt8) (acc : Array Value), may l = true → s.data.toList = p ++ utf l → l.length ≤ bound →
    Conv.runesFrom s bound p.length acc = acc ++ (l.map (Value.int .i32)).toArray := by
  intro l
  induction l with
  | nil =>
    intro bound p acc _ h _
    have hsz := size_of h
    simp [utf] at hsz
    cases bound with
    | zero => simp [Conv.runesFrom]
    | succ n => simp only [Conv.runesFrom]; rw [if_neg (by omega)]; simp
  | cons r l ih =>
    intro bound p acc hm h hb
    obtain ⟨n, rfl⟩ : ∃ n, bound = n + 1 := ⟨bound - 1, by simp at hb; omega⟩
    rw [utf_cons] at h
    have hr : sgn r = true ∧ may l = true := by simpa [may] using hm
    have hd := decode_enc hr.1 h
    have hsz := size_of h
    have h1 := (encL_len (r := r)).1
    simp only [List.length_append] at hsz
    simp only [Conv.runesFrom]
    rw [if_pos (by omega), hd]
    have hr0 : Int.ofNat r.toNat = r := by
      have := hr.1; simp only [sgn, decide_eq_true_eq] at this
      exact Int.toNat_of_nonneg (by omega)
    simp only [hr0]
    rw [← List.length_append, ih n (p ++ encL r) _ hr.2 (by simpa using h) (by simp at hb; omega)]
    simp
theorem utf_len_ge (l : List Int) : l.length ≤ (utf l).length := by
  induction l with
  | nil => simp
  | cons r l ih => rw [utf_cons]; have := (encL_len (r := r)).1; simp; omega
theorem utf_len_le (l : List Int) : (utf l).length ≤ 4 * l.length := by
  induction l with
  | nil => simp [utf]
  | cons r l ih => rw [utf_cons]; have := (encL_len (r := r)).2; simp; omega

/-! ## a string that is a list of signs -/
/-- the string holds just these signs -/
structure Str (s : ByteArray) (l : List Int) : Prop where
  may : may l = true
  eq : s.data.toList = utf l
theorem Str.runes {s : ByteArray} {l : List Int} (h : Str s l) : Conv.runesFrom s s.size 0 #[] = (l.map (Value.int .i32)).toArray := by
  have := runes_from (s := s) l s.size [] #[] h.may (by simpa using h.eq) (by rw [size_of h.eq]; exact utf_len_ge l)
  simpa using this
theorem Str.size_le {s : ByteArray} {l : List Int} (h : Str s l) : s.size ≤ 4 * l.length := by rw [size_of h.eq]; exact utf_len_le l
theorem Str.len_le {s : ByteArray} {l : List Int} (h : Str s l) : l.length ≤ s.size := by rw [size_of h.eq]; exact utf_len_ge l
theorem Str.of {l : List Int} (h : Go.Proofs.YtijhkpbnalnpbaaDoor.may l = true) : Str (runesBytes l) l := ⟨h, runesBytes_utf l⟩
theorem Str.app {s t : ByteArray} {a b : List Int} (h : Str s a) (k : Str t b) : Str (s ++ t) (a ++ b) :=
  ⟨by have h1 := h.may; have h2 := k.may; simp only [Go.Proofs.YtijhkpbnalnpbaaDoor.may, List.all_append, Bool.and_eq_true] at *; exact ⟨h1, h2⟩, by rw [utf_app, ← h.eq, ← k.eq]; simp⟩
/-! ### signs of one byte -/
def asc (l : List Int) : Bool := l.all fun r => decide (0 ≤ r ∧ r < 128)
theorem asc_may {l : List Int} (h : asc l = true) : may l = true := by
  simp only [asc, may, List.all_eq_true, decide_eq_true_eq, sgn] at *
  intro x hx; have := h x hx; omega
theorem asc_utf {l : List Int} (h : asc l = true) : utf l = l.map fun r => UInt8.ofNat r.toNat := by
  induction l with
  | nil => rfl
  | cons r l ih =>
    have h2 : (0 ≤ r ∧ r < 128) ∧ asc l = true := by simpa [asc] using h
    rw [utf_cons, encL_low h2.1, ih h2.2]; rfl
theorem asc_app {a b : List Int} (ha : asc a = true) (hb : asc b = true) : asc (a ++ b) = true := by simp only [asc, List.all_append, Bool.and_eq_true] at *; exact ⟨ha, hb⟩
theorem asc_drop {a : List Int} (ha : asc a = true) (n : Nat) : asc (a.drop n) = true := by
  simp only [asc, List.all_eq_true] at *; exact fun x hx => ha x (List.mem_of_mem_drop hx)
theorem asc_take {a : List Int} (ha : asc a = true) (n : Nat) : asc (a.take n) = true := by
  simp only [asc, List.all_eq_true] at *; exact fun x hx => ha x (List.mem_of_mem_take hx)
theorem Str.asc_size {s : ByteArray} {l : List Int} (h : Str s l) (ha : asc l = true) : s.size = l.length := by rw [size_of h.eq, asc_utf ha]; simp
/-- a part of a string of single bytes -/
theorem Str.mid {s : ByteArray} {l : List Int} (h : Str s l) (ha : asc l = true) (n m : Nat) : Str (s.extract n m) ((l.take m).drop n) := by
  have h1 := asc_drop (asc_take ha m) n
  refine ⟨asc_may h1, ?_⟩
  rw [asc_utf h1, ByteArray.data_extract, Array.toList_extract, List.extract_eq_take_drop, h.eq, asc_utf ha, List.map_drop, List.map_take, List.drop_take]
/-- the signs of a string of single bytes -/
def sig (s : ByteArray) : List Int := s.data.toList.map fun b => (b.toNat : Int)
theorem Str.sig {s : ByteArray} (h : (s.data.toList.all fun b => decide (b.toNat < 128)) = true) : Str s (sig s) ∧ asc (sig s) = true := by
  have hb : ∀ b ∈ s.data.toList, b.toNat < 128 := fun b hb => of_decide_eq_true (List.all_eq_true.1 h b hb)
  have ha : asc (Go.Proofs.YtijhkpbnalnpbaaDoor.sig s) = true := by
    simp only [asc, Go.Proofs.YtijhkpbnalnpbaaDoor.sig, List.all_map, List.all_eq_true, Function.comp, decide_eq_true_eq]
    intro b hb'; have := hb b hb'; omega
  refine ⟨⟨asc_may ha, ?_⟩, ha⟩
  rw [asc_utf ha]
  simp only [Go.Proofs.YtijhkpbnalnpbaaDoor.sig, List.map_map]
  conv => lhs; rw [← List.map_id s.data.toList]
  refine List.map_congr_left fun b _ => ?_
  simp
end Go.Proofs.YtijhkpbnalnpbaaDoor
