/- Layer 9 as plain functions: a program written instruction by instruction as the code does (nodeE), the code of a tree as the document has it (blk), and that they agree (node_sp). Layer 9: numbers of a tree are small (all_lo); the targets of a tree's code (TgL, blk_tg); Compile as a plain function (compW) and what it tells (comp_eq, comp_tg). Layer 9: how long a program gets while it is written (Gw, node_gw). -/
import Derived.Test.YtefgjicegbhcaaaGreatReQ
import Derived.Test.YtefgjicegbhcaaaGreatRrp
namespace Go.Proofs.YtefgjicegbhcaaaGreat
namespace ReM
/-- an instruction of the list -/
structure Ins where
  op : Int
  x : Int
  y : Int
  not : Bool
  set : List Int
deriving DecidableEq, Inhabited
def iSet (n : Bool) (l : List Int) : Ins := ⟨0, 0, 0, n, l⟩
def iStart : Ins := ⟨1, 0, 0, false, []⟩
def iEnd : Ins := ⟨2, 0, 0, false, []⟩
def iSave (x : Int) : Ins := ⟨3, x, 0, false, []⟩
def iSplit (x y : Int) : Ins := ⟨4, x, y, false, []⟩
def iJump (x : Int) : Ins := ⟨5, x, 0, false, []⟩
def iMatch : Ins := ⟨6, 0, 0, false, []⟩
def dpr (x y : Rn) : Bool := decide (x.deep < y.deep)
/-- the trees that stand in a list, one behind the other -/
def partsF : Nat → List Rn → List (List Rn)
  | 0, _ => []
  | _ + 1, [] => []
  | k + 1, x :: l => (x :: l.takeWhile (dpr x)) :: partsF k (l.dropWhile (dpr x))
def partsL (l : List Rn) : List (List Rn) := partsF l.length l
def igt (o : List Ins) (i : Nat) : Ins := o.getD i default
def aimE (o : List Ins) (i : Nat) (z : Bool) : List Ins :=
  o.set i { igt o i with x := if z then (o.length : Int) else i + 1, y := if z then (i : Int) + 1 else o.length }
def landE (o : List Ins) (i : Nat) : List Ins := o.set i { igt o i with x := o.length }
abbrev Wr := List Ins → List Ins
def altStep (f : List Rn → Wr) (st : List Nat × List Ins) (r : List Rn) : List Nat × List Ins :=
  (st.1 ++ [(f r (st.2 ++ [iSplit 0 0])).length], aimE (f r (st.2 ++ [iSplit 0 0]) ++ [iJump 0]) st.2.length false)
def altRows (f : List Rn → Wr) (rows : List (List Rn)) (o : List Ins) : List Nat × List Ins := rows.foldl (altStep f) ([], o)
def altE (f : List Rn → Wr) (rows : List (List Rn)) (o : List Ins) : List Ins :=
  (altRows f (rows.take (rows.length - 1)) o).1.foldl landE (f (rows.getD (rows.length - 1) []) (altRows f (rows.take (rows.length - 1)) o).2)
def timesE (f : Wr) : Nat → Wr
  | 0, o => o
  | n + 1, o => if (f o).length = o.length then f o else timesE f n (f o)
def loopE (f : Wr) (z : Bool) (o : List Ins) : List Ins := aimE (f (o ++ [iSplit 0 0]) ++ [iJump o.length]) o.length z
def optRows (f : Wr) (o : List Ins) : Nat → List Nat × List Ins
  | 0 => ([], o)
  | n + 1 => ((optRows f o n).1 ++ [(optRows f o n).2.length], f ((optRows f o n).2 ++ [iSplit 0 0]))
def optE (f : Wr) (n : Nat) (z : Bool) (o : List Ins) : List Ins := (optRows f o n).1.foldl (fun o i => aimE o i z) (optRows f o n).2
def groupE (f : Wr) (no : Int) (o : List Ins) : List Ins := if no = 0 then f o else f (o ++ [iSave (2 * no)]) ++ [iSave (2 * no + 1)]
def nodeE : Nat → List Rn → Wr
  | 0, _, o => o
  | k + 1, t, o => if 300 < o.length then o else match t with
    | [] => o
    | x :: cs =>
      if x.kind = 0 then (partsL cs).foldl (fun o l => nodeE k l o) o
      else if x.kind = 1 then altE (nodeE k) (partsL cs) o
      else if x.kind = 2 then o ++ [iSet x.not x.set]
      else if x.kind = 3 then o ++ [iStart]
      else if x.kind = 4 then o ++ [iEnd]
      else if x.kind = 5 then groupE (nodeE k cs) x.lo o
      else if x.kind = 6 then
        if x.hi = -1 then loopE (nodeE k cs) x.lazy (timesE (nodeE k cs) x.lo.toNat o)
        else optE (nodeE k cs) (x.hi - x.lo).toNat x.lazy (timesE (nodeE k cs) x.lo.toNat o)
      else o
/-! ## the code of a tree, from instruction 0 on -/
def shI1 (j : Nat) (i : Ins) : Ins := { i with x := if i.op = 4 ∨ i.op = 5 then i.x + j else i.x, y := if i.op = 4 then i.y + j else i.y }
def shI (j : Nat) (l : List Ins) : List Ins := l.map (shI1 j)
def catB : List (List Ins) → List Ins
  | [] => []
  | b :: bs => b ++ shI b.length (catB bs)
def spl (z : Bool) (on off : Int) : Ins := if z then iSplit off on else iSplit on off
def altLen : List (List Ins) → Nat
  | [] => 0
  | [b] => b.length
  | b :: c :: bs => b.length + 2 + altLen (c :: bs)
def altC (E : Nat) : Nat → List (List Ins) → List Ins
  | _, [] => []
  | n, [b] => shI n b
  | n, b :: c :: bs => iSplit (n + 1) ((n : Int) + b.length + 2) :: (shI (n + 1) b ++ iJump E :: altC E (n + b.length + 2) (c :: bs))
def loopB (b : List Ins) (z : Bool) : List Ins := spl z 1 ((b.length : Int) + 2) :: (shI 1 b ++ [iJump 0])
def optC (sp : Nat → Ins) (b : List Ins) : Nat → Nat → List Ins
  | _, 0 => []
  | n, m + 1 => sp n :: (shI (n + 1) b ++ optC sp b (n + 1 + b.length) m)
def optB (b : List Ins) (z : Bool) (m : Nat) : List Ins := optC (fun n => spl z (n + 1) ((m * (b.length + 1) : Nat) : Int)) b 0 m
def groupB (b : List Ins) (no : Int) : List Ins := if no = 0 then b else iSave (2 * no) :: (shI 1 b ++ [iSave (2 * no + 1)])
def blk : Nat → List Rn → List Ins
  | 0, _ => []
  | k + 1, t => match t with
    | [] => []
    | x :: cs =>
      if x.kind = 0 then catB ((partsL cs).map (blk k))
      else if x.kind = 1 then altC (altLen ((partsL cs).map (blk k))) 0 ((partsL cs).map (blk k))
      else if x.kind = 2 then [iSet x.not x.set]
      else if x.kind = 3 then [iStart]
      else if x.kind = 4 then [iEnd]
      else if x.kind = 5 then groupB (blk k cs) x.lo
      else if x.kind = 6 then
        catB (List.replicate x.lo.toNat (blk k cs) ++ [if x.hi = -1 then loopB (blk k cs) x.lazy else optB (blk k cs) x.lazy (x.hi - x.lo).toNat])
      else []
/-! ## they agree -/
theorem shI_len (j : Nat) (l : List Ins) : (shI j l).length = l.length := by simp [shI]
theorem shI_app (j : Nat) (a b : List Ins) : shI j (a ++ b) = shI j a ++ shI j b := by simp [shI]
theorem shI_cons (j : Nat) (a : Ins) (b : List Ins) : shI j (a :: b) = shI1 j a :: shI j b := rfl
theorem shI1_two (i j : Nat) (a : Ins) : shI1 i (shI1 j a) = shI1 (i + j) a := by
  obtain ⟨op, x, y, n, s⟩ := a
  simp only [shI1, Ins.mk.injEq, true_and, and_true]
  constructor <;> split <;> simp <;> omega
theorem shI_two (i j : Nat) (l : List Ins) : shI i (shI j l) = shI (i + j) l := by
  simp only [shI, List.map_map]
  congr 1
  funext a
  exact shI1_two i j a
theorem shI_zero (l : List Ins) : shI 0 l = l := by
  have : ∀ a, shI1 0 a = a := by
    rintro ⟨op, x, y, n, s⟩
    simp [shI1]
  unfold shI
  rw [show shI1 0 = id from funext this, List.map_id]
theorem catB_app (a b : List (List Ins)) : catB (a ++ b) = catB a ++ shI (catB a).length (catB b) := by
  induction a with
  | nil => simp [catB, shI_zero]
  | cons x a ih =>
    simp only [List.cons_append, catB, ih, shI_app, shI_two, List.length_append, shI_len, List.append_assoc]
theorem catB_one (b : List Ins) : catB [b] = b := by simp [catB, shI]
/-- f writes b behind what there is, or passes the bound -/
def Sp (f : Wr) (b : List Ins) : Prop := ∀ o : List Ins, (o.length + b.length ≤ 300 → f o = o ++ shI o.length b) ∧ (300 < o.length + b.length → 300 < (f o).length)
theorem Sp.len {f : Wr} {b : List Ins} (h : Sp f b) {o : List Ins} (hl : (f o).length ≤ 300) : o.length + b.length ≤ 300 := by
  by_cases hc : o.length + b.length ≤ 300
  · exact hc
  · have := (h o).2 (by omega); omega
theorem Sp.eq {f : Wr} {b : List Ins} (h : Sp f b) {o : List Ins} (hl : (f o).length ≤ 300) : f o = o ++ shI o.length b := (h o).1 (h.len hl)
theorem Sp.big {f : Wr} {b : List Ins} (h : Sp f b) {o : List Ins} (hl : 300 < o.length) : 300 < (f o).length := (h o).2 (by omega)
/-- enough: where what is written stays within the bound it is o and b, and what passes the bound isn't less -/
theorem Sp.of {f : Wr} {b : List Ins} (h1 : ∀ o, (f o).length ≤ 300 → f o = o ++ shI o.length b) (h2 : ∀ o : List Ins, o.length + b.length ≤ 300 → (f o).length ≤ 300) : Sp f b := fun o => by
  refine ⟨fun h => h1 o (h2 o h), fun h => ?_⟩
  by_cases hc : (f o).length ≤ 300
  · have e := h1 o hc
    rw [e, List.length_append, shI_len] at hc
    omega
  · omega
theorem Sp.nil : Sp (fun o => o) [] := fun o => ⟨fun _ => by simp [shI], fun h => by simpa using h⟩
theorem Sp.comp {f g : Wr} {a b : List Ins} (hf : Sp f a) (hg : Sp g b) : Sp (fun o => g (f o)) (a ++ shI a.length b) := fun o => by
  refine ⟨fun h => ?_, fun h => ?_⟩
  · rw [List.length_append, shI_len] at h
    have e := (hf o).1 (by omega)
    show g (f o) = _
    rw [e, (hg _).1 (by rw [List.length_append, shI_len]; omega), List.length_append, shI_len, shI_app, shI_two, List.append_assoc]
  · rw [List.length_append, shI_len] at h
    show 300 < (g (f o)).length
    by_cases hc : o.length + a.length ≤ 300
    · have e := (hf o).1 hc
      rw [e]
      exact (hg _).2 (by rw [List.length_append, shI_len]; omega)
    · exact hg.big ((hf o).2 (by omega))
theorem Sp.foldl {α : Type} {f : α → Wr} {b : α → List Ins} {l : List α} (h : ∀ a, a ∈ l → Sp (f a) (b a)) : Sp (fun o => l.foldl (fun o a => f a o) o) (catB (l.map b)) := by
  induction l with
  | nil => exact Sp.nil
  | cons x l ih =>
    have := (h x (by simp)).comp (ih fun a ha => h a (by simp [ha]))
    simpa [catB] using this
theorem Sp.times {f : Wr} {b : List Ins} (h : Sp f b) (n : Nat) : Sp (timesE f n) (catB (List.replicate n b)) := by
  induction n with
  | zero => exact Sp.nil
  | succ n ih =>
    intro o
    have hc := h.comp ih o
    have e : catB (List.replicate (n + 1) b) = b ++ shI b.length (catB (List.replicate n b)) := rfl
    rw [e]
    unfold timesE
    split
    · rename_i hl
      refine ⟨fun hs => ?_, fun hs => ?_⟩
      · rw [List.length_append, shI_len] at hs
        have e1 := (h o).1 (by omega)
        have hb : b = [] := by
          rw [e1, List.length_append, shI_len] at hl
          exact List.length_eq_zero_iff.1 (by omega)
        subst hb
        have : ∀ n, catB (List.replicate n ([] : List Ins)) = [] := fun n => by
          induction n with
          | zero => rfl
          | succ n ih => rw [List.replicate_succ, catB, ih]; rfl
        rw [this, e1]; rfl
      · by_cases hb : 300 < o.length + b.length
        · exact (h o).2 hb
        · have e1 := (h o).1 (by omega)
          have hb0 : b = [] := by
            rw [e1, List.length_append, shI_len] at hl
            exact List.length_eq_zero_iff.1 (by omega)
          subst hb0
          have : ∀ n, catB (List.replicate n ([] : List Ins)) = [] := fun n => by
            induction n with
            | zero => rfl
            | succ n ih => rw [List.replicate_succ, catB, ih]; rfl
          rw [this] at hs
          simp [shI] at hs
          rw [hl]; omega
    · exact hc
theorem Sp.add (i : Ins) (hi : i.op ≠ 4 ∧ i.op ≠ 5) : Sp (fun o => o ++ [i]) [i] := fun o => by
  have e : shI o.length [i] = [i] := by obtain ⟨op, x, y, n, s⟩ := i; simp [shI, shI1, hi.1, hi.2]
  exact ⟨fun _ => by rw [e], fun h => by simpa using h⟩
theorem Sp.group {f : Wr} {b : List Ins} (h : Sp f b) (no : Int) : Sp (groupE f no) (groupB b no) := by
  unfold groupE groupB
  split
  · exact h
  · have h1 := ((Sp.add (iSave (2 * no)) ⟨by simp [iSave], by simp [iSave]⟩).comp h).comp (Sp.add (iSave (2 * no + 1)) ⟨by simp [iSave], by simp [iSave]⟩)
    have e2 : shI ([iSave (2 * no)] ++ shI [iSave (2 * no)].length b).length [iSave (2 * no + 1)] = [iSave (2 * no + 1)] := by simp [shI, shI1, iSave]
    rw [e2] at h1
    simpa using h1
/-! ## what is filled in later -/
theorem set_mid {α : Type} (pre : List α) (x v : α) (post : List α) {n : Nat} (h : pre.length = n) : (pre ++ x :: post).set n v = pre ++ v :: post := by
  subst h; simp
theorem igt_mid (pre : List Ins) (x : Ins) (post : List Ins) {n : Nat} (h : pre.length = n) : igt (pre ++ x :: post) n = x := by
  subst h; simp [igt]
theorem aim_mid (pre : List Ins) (post : List Ins) (z : Bool) {n : Nat} (h : pre.length = n) (x y : Int) :
    aimE (pre ++ iSplit x y :: post) n z = pre ++ spl z (n + 1) ((n + 1 + post.length : Nat) : Int) :: post := by
  unfold aimE
  rw [set_mid _ _ _ _ h, igt_mid _ _ _ h, List.length_append, List.length_cons, h]
  congr 2
  cases z <;> simp [spl, iSplit] <;> omega
theorem land_mid (pre : List Ins) (post : List Ins) {n : Nat} (h : pre.length = n) (x : Int) :
    landE (pre ++ iJump x :: post) n = pre ++ iJump ((n + 1 + post.length : Nat) : Int) :: post := by
  unfold landE
  rw [set_mid _ _ _ _ h, igt_mid _ _ _ h, List.length_append, List.length_cons, h]
  congr 2
  simp [iJump]; omega
theorem aim_len (o : List Ins) (i : Nat) (z : Bool) : (aimE o i z).length = o.length := by simp [aimE]
theorem land_len (o : List Ins) (i : Nat) : (landE o i).length = o.length := by simp [landE]
theorem aims_len (l : List Nat) (z : Bool) (o : List Ins) : (l.foldl (fun o i => aimE o i z) o).length = o.length := by
  induction l generalizing o with
  | nil => rfl
  | cons x l ih => rw [List.foldl_cons, ih, aim_len]
theorem lands_len (l : List Nat) (o : List Ins) : (l.foldl landE o).length = o.length := by
  induction l generalizing o with
  | nil => rfl
  | cons x l ih => rw [List.foldl_cons, ih, land_len]
theorem spl_sh (n : Nat) (z : Bool) (a b : Int) : shI1 n (spl z a b) = spl z (a + n) (b + n) := by
  cases z <;> simp [shI1, spl, iSplit]
theorem jump_sh (n : Nat) (a : Int) : shI1 n (iJump a) = iJump (a + n) := by simp [shI1, iJump]
theorem split_sh (n : Nat) (a b : Int) : shI1 n (iSplit a b) = iSplit (a + n) (b + n) := by simp [shI1, iSplit]
theorem Sp.loop {f : Wr} {b : List Ins} (h : Sp f b) (z : Bool) : Sp (loopE f z) (loopB b z) := fun o => by
  have hB : (loopB b z).length = b.length + 2 := by simp [loopB, shI_len]
  rw [hB]
  have hl : (loopE f z o).length = (f (o ++ [iSplit 0 0])).length + 1 := by simp [loopE, aim_len]
  have h1 := h (o ++ [iSplit 0 0])
  rw [List.length_append, List.length_singleton] at h1
  refine ⟨fun hs => ?_, fun hs => ?_⟩
  · unfold loopE
    rw [h1.1 (by omega)]
    rw [show o ++ [iSplit 0 0] ++ shI (o.length + 1) b ++ [iJump o.length] = o ++ iSplit 0 0 :: (shI (o.length + 1) b ++ [iJump o.length]) from by simp]
    rw [aim_mid o _ z rfl]
    congr 1
    unfold loopB
    rw [shI_cons, spl_sh, shI_app, shI_two, shI_cons, jump_sh]
    simp only [List.length_append, shI_len, List.length_singleton]
    congr 1
    · congr 1 <;> omega
    · simp [shI]
  · rw [hl]
    by_cases hc : 300 < o.length + 1 + b.length
    · have := h1.2 hc; omega
    · rw [h1.1 (by omega)]
      simp [shI_len]; omega
/-! ## so many times, of which any number is gone through -/
def optP (L : Nat) : Nat → Nat → List Nat
  | _, 0 => []
  | n, m + 1 => n :: optP L (n + 1 + L) m
theorem optP_snoc (L n m : Nat) : optP L n (m + 1) = optP L n m ++ [n + m * (L + 1)] := by
  induction m generalizing n with
  | zero => simp [optP]
  | succ m ih =>
    rw [optP, ih, optP]
    simp only [List.cons_append, List.cons.injEq, true_and, List.append_cancel_left_eq, and_true]
    rw [Nat.succ_mul]; omega
theorem optC_snoc (sp : Nat → Ins) (b : List Ins) (n m : Nat) : optC sp b n (m + 1) = optC sp b n m ++ sp (n + m * (b.length + 1)) :: shI (n + m * (b.length + 1) + 1) b := by
  induction m generalizing n with
  | zero => simp [optC]
  | succ m ih =>
    rw [optC, ih, optC]
    have e : n + 1 + b.length + m * (b.length + 1) = n + (m + 1) * (b.length + 1) := by rw [Nat.succ_mul]; omega
    simp only [List.cons_append, List.append_assoc, e]
theorem optC_len (sp : Nat → Ins) (b : List Ins) (n m : Nat) : (optC sp b n m).length = m * (b.length + 1) := by
  induction m generalizing n with
  | zero => simp [optC]
  | succ m ih => rw [optC, List.length_cons, List.length_append, ih, shI_len, Nat.succ_mul]; omega
theorem optC_sh (b : List Ins) (z : Bool) (E : Int) (n k m : Nat) : shI n (optC (fun i => spl z (i + 1) E) b k m) = optC (fun i => spl z (i + 1) (E + n)) b (n + k) m := by
  induction m generalizing k with
  | zero => rfl
  | succ m ih =>
    rw [optC, optC, shI_cons, spl_sh, shI_app, shI_two, ih]
    congr 1
    · congr 1; omega
    · congr 2; omega
theorem opt_aims (b : List Ins) (z : Bool) (E : Nat) (m : Nat) : ∀ (n : Nat) (pre : List Ins), pre.length = n → n + m * (b.length + 1) = E →
    (optP b.length n m).foldl (fun o i => aimE o i z) (pre ++ optC (fun _ => iSplit 0 0) b n m) = pre ++ optC (fun i => spl z (i + 1) E) b n m := by
  induction m with
  | zero => intro n pre _ _; rfl
  | succ m ih =>
    intro n pre hn hE
    rw [Nat.succ_mul] at hE
    rw [optP, List.foldl_cons, optC, optC, aim_mid pre _ z hn]
    have := ih (n + 1 + b.length) (pre ++ spl z (n + 1) E :: shI (n + 1) b) (by simp [shI_len, hn]; omega) (by omega)
    rw [List.length_append, optC_len, shI_len, show n + 1 + (b.length + m * (b.length + 1)) = E from by omega]
    simpa using this
theorem opt_rows {f : Wr} {b : List Ins} (h : Sp f b) (o : List Ins) (m : Nat) :
    (o.length + m * (b.length + 1) ≤ 300 → optRows f o m = (optP b.length o.length m, o ++ optC (fun _ => iSplit 0 0) b o.length m)) ∧ (300 < o.length + m * (b.length + 1) → 300 < (optRows f o m).2.length) := by
  induction m with
  | zero => exact ⟨fun _ => by simp [optRows, optP, optC], fun h => by simpa [optRows] using h⟩
  | succ m ih =>
    rw [Nat.succ_mul]
    have h1 := h ((optRows f o m).2 ++ [iSplit 0 0])
    rw [List.length_append, List.length_singleton] at h1
    refine ⟨fun hs => ?_, fun hs => ?_⟩
    · have e := ih.1 (by omega)
      rw [optRows, optP_snoc, optC_snoc]
      rw [e] at h1 ⊢
      simp only [List.length_append, optC_len] at h1
      rw [h1.1 (by omega)]
      simp [optC_len]
    · rw [optRows]
      by_cases hc : 300 < o.length + m * (b.length + 1)
      · exact h1.2 (by have := ih.2 hc; omega)
      · have e := ih.1 (by omega)
        rw [e] at h1 ⊢
        simp only [List.length_append, optC_len] at h1
        exact h1.2 (by omega)
theorem optB_len (b : List Ins) (z : Bool) (m : Nat) : (optB b z m).length = m * (b.length + 1) := optC_len _ _ _ _
theorem Sp.opt {f : Wr} {b : List Ins} (h : Sp f b) (m : Nat) (z : Bool) : Sp (optE f m z) (optB b z m) := fun o => by
  rw [optB_len]
  refine ⟨fun hs => ?_, fun hs => ?_⟩
  · unfold optE
    rw [(opt_rows h o m).1 hs]
    rw [opt_aims b z (o.length + m * (b.length + 1)) m o.length o rfl rfl]
    unfold optB
    rw [optC_sh, Nat.add_zero]
    congr 3
    funext i
    congr 1
    omega
  · unfold optE
    rw [aims_len]
    exact (opt_rows h o m).2 hs
/-! ## one of the rows -/
def altR (J : Ins) : Nat → List (List Ins) → List Ins
  | _, [] => []
  | n, b :: bs => iSplit (n + 1) ((n : Int) + b.length + 2) :: (shI (n + 1) b ++ J :: altR J (n + b.length + 2) bs)
def altS : List (List Ins) → Nat
  | [] => 0
  | b :: bs => b.length + 2 + altS bs
def altPs : Nat → List (List Ins) → List Nat
  | _, [] => []
  | n, b :: bs => (n + 1 + b.length) :: altPs (n + b.length + 2) bs
theorem altR_len (J : Ins) (n : Nat) (bs : List (List Ins)) : (altR J n bs).length = altS bs := by
  induction bs generalizing n with
  | nil => rfl
  | cons b bs ih => rw [altR, altS, List.length_cons, List.length_append, List.length_cons, ih, shI_len]; omega
theorem altC_snoc (E n : Nat) (bs : List (List Ins)) (b : List Ins) : altC E n (bs ++ [b]) = altR (iJump E) n bs ++ shI (n + altS bs) b := by
  induction bs generalizing n with
  | nil => rfl
  | cons x bs ih =>
    have e : altC E n (x :: bs ++ [b]) = iSplit (n + 1) ((n : Int) + x.length + 2) :: (shI (n + 1) x ++ iJump E :: altC E (n + x.length + 2) (bs ++ [b])) := by
      cases bs <;> rfl
    rw [e, ih, altR, altS]
    simp only [List.cons_append, List.append_assoc]
    congr 5
    omega
theorem altLen_snoc (bs : List (List Ins)) (b : List Ins) : altLen (bs ++ [b]) = altS bs + b.length := by
  induction bs with
  | nil => simp [altLen, altS]
  | cons x bs ih =>
    have e : altLen (x :: bs ++ [b]) = x.length + 2 + altLen (bs ++ [b]) := by cases bs <;> rfl
    rw [e, ih, altS]; omega
theorem altC_len (E n : Nat) (bs : List (List Ins)) : (altC E n bs).length = altLen bs := by
  rcases List.eq_nil_or_concat bs with rfl | ⟨l, b, rfl⟩
  · rfl
  · rw [List.concat_eq_append, altC_snoc, altLen_snoc, List.length_append, altR_len, shI_len]
theorem altC_sh (E n k : Nat) (bs : List (List Ins)) : shI n (altC E k bs) = altC (n + E) (n + k) bs := by
  induction bs generalizing k with
  | nil => rfl
  | cons b bs ih =>
    cases bs with
    | nil => simp only [altC, shI_two]
    | cons c bs =>
      simp only [altC, shI_cons, shI_app, shI_two, split_sh, jump_sh, ih]
      congr 1
      · congr 1 <;> omega
      · congr 2
        · congr 1; omega
        · congr 1; omega
theorem alt_rows {f : List Rn → Wr} {b : List Rn → List Ins} (rows : List (List Rn)) (h : ∀ r, r ∈ rows → Sp (f r) (b r)) : ∀ (js : List Nat) (o : List Ins),
    (o.length + altS (rows.map b) ≤ 300 → rows.foldl (altStep f) (js, o) = (js ++ altPs o.length (rows.map b), o ++ altR (iJump 0) o.length (rows.map b))) ∧ (300 < o.length + altS (rows.map b) → 300 < (rows.foldl (altStep f) (js, o)).2.length) := by
  induction rows with
  | nil => exact fun js o => ⟨fun _ => by simp [altPs, altR], fun h => by simpa [altS] using h⟩
  | cons r rows ih =>
    intro js o
    have h1 := h r (by simp) (o ++ [iSplit 0 0])
    rw [List.length_append, List.length_singleton] at h1
    rw [List.map_cons, altS, List.foldl_cons]
    have hl : (altStep f (js, o) r).2.length = (f r (o ++ [iSplit 0 0])).length + 1 := by simp [altStep, aim_len]
    have i1 := ih (fun r hr => h r (by simp [hr])) (altStep f (js, o) r).1 (altStep f (js, o) r).2
    rw [show ((altStep f (js, o) r).1, (altStep f (js, o) r).2) = altStep f (js, o) r from rfl] at i1
    by_cases hc : 300 < o.length + 1 + (b r).length
    · have := h1.2 hc
      exact ⟨fun _ => by omega, fun _ => i1.2 (by omega)⟩
    · have e1 := h1.1 (by omega)
      have e2 : altStep f (js, o) r = (js ++ [o.length + 1 + (b r).length], o ++ iSplit (o.length + 1) ((o.length : Int) + (b r).length + 2) :: (shI (o.length + 1) (b r) ++ [iJump 0])) := by
        unfold altStep
        dsimp only
        rw [e1]
        congr 1
        · simp [shI_len]; omega
        · rw [show o ++ [iSplit 0 0] ++ shI (o.length + 1) (b r) ++ [iJump 0] = o ++ iSplit 0 0 :: (shI (o.length + 1) (b r) ++ [iJump 0]) from by simp]
          rw [aim_mid o _ _ rfl]
          congr 2
          simp [spl, shI_len, iSplit]; omega
      rw [e2] at i1 ⊢
      have e3 : (o ++ iSplit (o.length + 1) ((o.length : Int) + (b r).length + 2) :: (shI (o.length + 1) (b r) ++ [iJump 0])).length = o.length + (b r).length + 2 := by
        simp [shI_len]; omega
      rw [e3] at i1
      refine ⟨fun hs => ?_, fun hs => i1.2 (by omega)⟩
      rw [i1.1 (by omega), altPs, altR]
      simp
theorem alt_lands (E : Nat) (bs : List (List Ins)) (post : List Ins) : ∀ (n : Nat) (pre : List Ins), pre.length = n → n + altS bs + post.length = E →
    (altPs n bs).foldl landE (pre ++ (altR (iJump 0) n bs ++ post)) = pre ++ (altR (iJump E) n bs ++ post) := by
  induction bs with
  | nil => intro n pre _ _; rfl
  | cons b bs ih =>
    intro n pre hn hE
    rw [altS] at hE
    rw [altPs, List.foldl_cons, altR, altR]
    have e1 : pre ++ (iSplit (n + 1) ((n : Int) + b.length + 2) :: (shI (n + 1) b ++ iJump 0 :: altR (iJump 0) (n + b.length + 2) bs) ++ post) = (pre ++ iSplit (n + 1) ((n : Int) + b.length + 2) :: shI (n + 1) b) ++ iJump 0 :: (altR (iJump 0) (n + b.length + 2) bs ++ post) := by simp
    rw [e1, land_mid _ _ (n := n + 1 + b.length) (by simp [shI_len, hn]; omega), List.length_append, altR_len, show n + 1 + b.length + 1 + (altS bs + post.length) = E from by omega]
    have := ih (n + b.length + 2) (pre ++ iSplit (n + 1) ((n : Int) + b.length + 2) :: (shI (n + 1) b ++ [iJump E])) (by simp [shI_len, hn]; omega) (by omega)
    simpa using this
theorem Sp.alt {f : List Rn → Wr} {b : List Rn → List Ins} {rows : List (List Rn)} (h : ∀ r, r ∈ rows → Sp (f r) (b r)) (hne : rows ≠ []) : Sp (altE f rows) (altC (altLen (rows.map b)) 0 (rows.map b)) := fun o => by
  rcases List.eq_nil_or_concat rows with rfl | ⟨l, r, rfl⟩
  · exact absurd rfl hne
  · rw [List.concat_eq_append] at h hne ⊢
    rw [altC_len]
    have e1 : (l ++ [r]).take ((l ++ [r]).length - 1) = l := by simp
    have e2 : (l ++ [r]).getD ((l ++ [r]).length - 1) [] = r := by simp
    unfold altE altRows
    rw [e1, e2, List.map_append, List.map_singleton, altLen_snoc, lands_len]
    have h1 := alt_rows l (fun r hr => h r (by simp [hr])) [] o
    have h2 := h r (by simp)
    refine ⟨fun hs => ?_, fun hs => ?_⟩
    · rw [h1.1 (by omega)]
      dsimp only
      rw [(h2 _).1 (by rw [List.length_append, altR_len]; omega), List.nil_append, List.append_assoc]
      rw [alt_lands (o.length + altS (l.map b) + (b r).length) (l.map b) _ o.length o rfl (by rw [shI_len])]
      rw [altC_sh, altC_snoc, List.length_append, altR_len]
      simp [Nat.add_assoc]
    · by_cases hc : 300 < o.length + altS (l.map b)
      · exact (h2 _).2 (by have := h1.2 hc; omega)
      · rw [h1.1 (by omega)]
        exact (h2 _).2 (by dsimp only; rw [List.length_append, altR_len]; omega)
/-! ## a tree -/
theorem parts_cons (k : Nat) (x : Rn) (l : List Rn) : partsF (k + 1) (x :: l) = (x :: l.takeWhile (dpr x)) :: partsF k (l.dropWhile (dpr x)) := rfl
theorem partsF_flat {d : Int} (cs : List (List Rn)) (h : ∀ c, c ∈ cs → NodAt d c) : ∀ k, cs.flatten.length ≤ k → partsF k cs.flatten = cs := by
  induction cs with
  | nil => intro k _; cases k <;> rfl
  | cons c cs ih =>
    intro k hk
    obtain ⟨x, t, rfl, hx, ht⟩ := (h c (by simp)).head
    cases k with
    | zero => simp at hk
    | succ k =>
      have e : ((x :: t) :: cs).flatten = x :: (t ++ cs.flatten) := rfl
      have hh : ∀ y r, cs.flatten = y :: r → dpr x y = false := by
        intro y r hy
        have := ends_flat (cs := cs) (d := d) (rest := []) (fun c hc => h c (List.mem_cons_of_mem _ hc)) (Ends.nil d) y r (by simpa using hy)
        simp [dpr, hx]; omega
      have ht' : ∀ y, y ∈ t → dpr x y = true := fun y hy => by have := ht y hy; simp [dpr, hx]; omega
      have e1 : (t ++ cs.flatten).takeWhile (dpr x) = t := by
        rw [List.takeWhile_append_of_pos ht']
        cases hf : cs.flatten with
        | nil => simp
        | cons y r => simp [hh y r hf]
      have e2 : (t ++ cs.flatten).dropWhile (dpr x) = cs.flatten := by
        rw [List.dropWhile_append_of_pos ht']
        cases hf : cs.flatten with
        | nil => rfl
        | cons y r => simp [hh y r hf]
      rw [e, parts_cons, e1, e2, ih (fun c hc => h c (by simp [hc])) k (by rw [e, List.length_cons, List.length_append] at hk; omega)]
theorem parts_flat {d : Int} (cs : List (List Rn)) (h : ∀ c, c ∈ cs → NodAt d c) : partsL cs.flatten = cs := partsF_flat cs h _ (Nat.le_refl _)
theorem len_flat {c : List Rn} {cs : List (List Rn)} (h : c ∈ cs) : c.length ≤ cs.flatten.length := by
  obtain ⟨a, b, rfl⟩ := List.append_of_mem h
  simp; omega
theorem node_sp (k : Nat) : ∀ (d : Int) (t : List Rn), t.length ≤ k → NodAt d t → Sp (nodeE k t) (blk k t) := by
  induction k with
  | zero =>
    intro d t hk h
    obtain ⟨x, t, rfl, -, -⟩ := h.head
    simp at hk
  | succ k ih =>
    intro d t hk h
    obtain ⟨_, x, cs, hx, hc, hl⟩ := h
    rw [List.length_cons] at hk
    have hp : partsL cs.flatten = cs := parts_flat cs hc
    have hs : ∀ c, c ∈ cs → Sp (nodeE k c) (blk k c) := fun c h => ih (d + 1) c (by have := len_flat h; omega) (hc c h)
    intro o
    by_cases ho : 300 < o.length
    · refine ⟨fun h => by omega, fun _ => ?_⟩
      unfold nodeE
      rw [if_pos ho]; exact ho
    · unfold nodeE blk
      rw [if_neg ho]
      dsimp only
      rw [hp]
      by_cases h0 : x.kind = 0
      · rw [if_pos h0, if_pos h0]
        exact Sp.foldl (f := nodeE k) (b := blk k) hs o
      rw [if_neg h0, if_neg h0]
      by_cases h1 : x.kind = 1
      · rw [if_pos h1, if_pos h1]
        exact Sp.alt hs (fun e => by have := hl.2.2.1 h1; rw [e] at this; simp at this) o
      rw [if_neg h1, if_neg h1]
      by_cases h2 : x.kind = 2
      · rw [if_pos h2, if_pos h2]
        exact Sp.add _ ⟨by simp [iSet], by simp [iSet]⟩ o
      rw [if_neg h2, if_neg h2]
      by_cases h3 : x.kind = 3
      · rw [if_pos h3, if_pos h3]
        exact Sp.add _ ⟨by simp [iStart], by simp [iStart]⟩ o
      rw [if_neg h3, if_neg h3]
      by_cases h4 : x.kind = 4
      · rw [if_pos h4, if_pos h4]
        exact Sp.add _ ⟨by simp [iEnd], by simp [iEnd]⟩ o
      rw [if_neg h4, if_neg h4]
      have one : cs.length = 1 → Sp (nodeE k cs.flatten) (blk k cs.flatten) := fun e => by
        match cs, e with
        | [c], _ => simpa using hs c (by simp)
      by_cases h5 : x.kind = 5
      · rw [if_pos h5, if_pos h5]
        exact (one (hl.1 h5)).group _ o
      rw [if_neg h5, if_neg h5]
      by_cases h6 : x.kind = 6
      · rw [if_pos h6, if_pos h6]
        have s1 := one (hl.2.1 h6).1
        by_cases hi : x.hi = -1
        · rw [if_pos hi, if_pos hi]
          have := (s1.times x.lo.toNat).comp (s1.loop x.lazy) o
          rw [catB_app, catB_one]
          exact this
        · rw [if_neg hi, if_neg hi]
          have := (s1.times x.lo.toNat).comp (s1.opt (x.hi - x.lo).toNat x.lazy) o
          rw [catB_app, catB_one]
          exact this
      rw [if_neg h6, if_neg h6]
      exact Sp.nil o
end ReM
end Go.Proofs.YtefgjicegbhcaaaGreat
namespace Go.Proofs.YtefgjicegbhcaaaGreat
open Go.RowKit ReM
namespace ReM
def LoOk (x : Rn) : Prop := 0 ≤ x.lo ∧ x.lo ≤ 9 ∧ -1 ≤ x.hi ∧ x.hi ≤ 9
def Los (l : List Rn) : Prop := ∀ x, x ∈ l → LoOk x
theorem Los.nil : Los [] := fun x h => by cases h
theorem Los.app {a b : List Rn} (ha : Los a) (hb : Los b) : Los (a ++ b) := fun x h => by
  rcases List.mem_append.1 h with h | h
  · exact ha x h
  · exact hb x h
theorem Los.cons {x : Rn} {b : List Rn} (ha : LoOk x) (hb : Los b) : Los (x :: b) := fun y h => by
  rcases List.mem_cons.1 h with rfl | h
  · exact ha
  · exact hb y h
theorem Los.low {a : List Rn} (ha : Los a) : Los (lower a) := fun x h => by
  obtain ⟨y, hy, rfl⟩ := List.mem_map.1 h
  exact ha y hy
theorem lo_row : LoOk nRow := by simp [LoOk, nRow]
theorem lo_alt : LoOk nAlt := by simp [LoOk, nAlt]
theorem times_lo {n : Nat} {s s' : List Int} {lo hi : Int} (h : times n s = .ok lo hi s') : 0 ≤ lo ∧ lo ≤ 9 ∧ -1 ≤ hi ∧ hi ≤ 9 := by
  unfold times at h
  split at h
  · rename_i r s1
    split at h
    · rename_i hr
      simp only [dig, decide_eq_true_eq] at hr
      split at h
      · cases h; omega
      · cases h; omega
      · split at h
        · rename_i hq
          simp only [dig, decide_eq_true_eq] at hq
          split at h
          · split at h
            · cases h
            · cases h; omega
          · cases h
        · cases h
      · cases h
      · cases h
    · cases h
  · cases h
theorem fin_lo {a l : List Rn} {g g' : Nat} {lo hi : Int} {s s' : List Int} (h : finR a g lo hi s = .ok l s' g') (ha : Los a) (hl : 0 ≤ lo ∧ lo ≤ 9 ∧ -1 ≤ hi ∧ hi ≤ 9) : Los l := by
  unfold finR at h
  split at h <;> (cases h; exact Los.cons hl ha.low)
theorem reps_lo {n : Nat} {a l : List Rn} {g g' : Nat} {s s' : List Int} (h : reps n a s g = .ok l s' g') (ha : Los a) : Los l := by
  rw [reps_def] at h
  split at h
  · exact fin_lo h ha (by omega)
  · exact fin_lo h ha (by omega)
  · exact fin_lo h ha (by omega)
  · split at h
    · rename_i ht; exact fin_lo h ha (times_lo ht)
    · cases h
  · cases h; exact ha
theorem los_one {x : Rn} (h : LoOk x) : Los [x] := Los.nil.cons h
theorem all_lo (C : Cls) (n : Nat) (k : Nat) :
    (∀ s g d l s' g', altP C n k s g d = .ok l s' g' → Los l) ∧
    (∀ acc s g d l s' g', altsP C n k acc s g d = .ok l s' g' → Los acc → Los l) ∧
    (∀ acc s g d l s' g', rowP C n k acc s g d = .ok l s' g' → Los acc → Los l) ∧
    (∀ s g d l s' g', itemP C n k s g d = .ok l s' g' → Los l) ∧
    (∀ no s g d l s' g', grpP C n k no s g d = .ok l s' g' → 0 ≤ no ∧ no ≤ 9 → Los l) := by
  induction k with
  | zero => refine ⟨?_, ?_, ?_, ?_, ?_⟩ <;> (intros; rename_i h; simp [altP, altsP, rowP, itemP, grpP] at *)
  | succ k ih =>
    obtain ⟨iA, iB, iR, iI, iG⟩ := ih
    refine ⟨?_, ?_, ?_, ?_, ?_⟩
    · intro s g d l s' g' h
      unfold altP at h
      split at h
      · cases h
      · rename_i r s1 g1 hr
        have h1 := iR _ _ _ _ _ _ _ hr Los.nil
        split at h
        · exact iB _ _ _ _ _ _ _ h (Los.cons lo_alt (Los.cons lo_row h1).low)
        · cases h; exact Los.cons lo_row h1
    · intro acc s g d l s' g' h ha
      unfold altsP at h
      split at h
      · cases h
      · rename_i r s1 g1 hr
        have h1 := iR _ _ _ _ _ _ _ hr Los.nil
        split at h
        · exact iB _ _ _ _ _ _ _ h (ha.app (Los.cons lo_row h1).low)
        · cases h; exact ha.app (Los.cons lo_row h1).low
    · intro acc s g d l s' g' h ha
      unfold rowP at h
      split at h
      · cases h; exact ha
      · split at h
        · cases h; exact ha
        · split at h
          · cases h
          · rename_i it s1 g1 hi
            exact iR _ _ _ _ _ _ _ h (ha.app (iI _ _ _ _ _ _ hi).low)
    · intro s g d l s' g' h
      unfold itemP at h
      split at h
      · cases h
      · rename_i r s1
        split at h
        · cases h; exact los_one (by simp [LoOk, nStart])
        · split at h
          · cases h; exact los_one (by simp [LoOk, nEnd])
          · split at h
            · exact reps_lo h (los_one (by simp [LoOk, nSet]))
            · split at h
              · split at h
                · cases h
                · split at h
                  · split at h
                    · exact iG _ _ _ _ _ _ _ h (by omega)
                    · cases h
                  · split at h
                    · cases h
                    · exact iG _ _ _ _ _ _ _ h (by omega)
              · split at h
                · split at h
                  rename_i neg s2 hs2
                  split at h
                  · cases h
                  · exact reps_lo h (los_one (by simp [LoOk, nSet]))
                · split at h
                  · split at h
                    · cases h
                    · split at h
                      · cases h
                      · exact reps_lo h (los_one (by simp [LoOk, nSet]))
                  · split at h
                    · cases h
                    · exact reps_lo h (los_one (by simp [LoOk, nSet]))
    · intro no s g d l s' g' h hn
      unfold grpP at h
      split at h
      · cases h
      · rename_i r s1 g1 hr
        have h1 := iA _ _ _ _ _ _ hr
        split at h
        · exact reps_lo h (Los.cons (by simp only [LoOk, nGroup]; omega) h1.low)
        · cases h
/-! ## targets -/
def TgI (G : Int) (lo hi : Nat) (i : Nat) (q : Ins) : Prop :=
  (q.op = 4 → (lo : Int) ≤ q.x ∧ q.x ≤ hi ∧ (lo : Int) ≤ q.y ∧ q.y ≤ hi ∧ (q.x = i + 1 ∨ q.y = i + 1)) ∧ (q.op = 5 → (lo : Int) ≤ q.x ∧ q.x ≤ hi) ∧ (q.op = 3 → 0 ≤ q.x ∧ q.x ≤ 2 * G + 1) ∧ (q.op = 0 → q.set ≠ [] ∧ q.set.length % 2 = 0)
def TgL (G : Int) (lo hi : Nat) : Nat → List Ins → Prop
  | _, [] => True
  | n, q :: l => TgI G lo hi n q ∧ TgL G lo hi (n + 1) l
theorem TgL.app {G : Int} {lo hi : Nat} {a b : List Ins} : ∀ {n : Nat}, TgL G lo hi n a → TgL G lo hi (n + a.length) b → TgL G lo hi n (a ++ b) := by
  induction a with
  | nil => intro n _ h; simpa using h
  | cons x a ih =>
    intro n h k
    exact ⟨h.1, ih h.2 (by rw [List.length_cons] at k; rw [show n + 1 + a.length = n + (a.length + 1) from by omega]; exact k)⟩
theorem TgI.mono {G : Int} {lo hi lo' hi' i : Nat} {q : Ins} (h : TgI G lo hi i q) (h1 : lo' ≤ lo) (h2 : hi ≤ hi') : TgI G lo' hi' i q := by
  obtain ⟨a, b, c, d⟩ := h
  refine ⟨fun e => ?_, fun e => ?_, c, d⟩
  · have := a e; omega
  · have := b e; omega
theorem TgL.mono {G : Int} {lo hi lo' hi' : Nat} {l : List Ins} (h1 : lo' ≤ lo) (h2 : hi ≤ hi') : ∀ {n : Nat}, TgL G lo hi n l → TgL G lo' hi' n l := by
  induction l with
  | nil => intro n _; trivial
  | cons x l ih => intro n h; exact ⟨h.1.mono h1 h2, ih h.2⟩
theorem TgI.sh {G : Int} {lo hi i : Nat} {q : Ins} (j : Nat) (h : TgI G lo hi i q) : TgI G (lo + j) (hi + j) (i + j) (shI1 j q) := by
  obtain ⟨a, b, c, d⟩ := h
  obtain ⟨op, x, y, nt, st⟩ := q
  simp only [TgI, shI1] at *
  refine ⟨fun e => ?_, fun e => ?_, fun e => ?_, fun e => ?_⟩
  · have := a e; simp only [e, true_or, if_true]; omega
  · have := b e; simp only [e, or_true, if_true]; omega
  · rw [if_neg (by omega)]; exact c e
  · exact d e
theorem TgL.sh {G : Int} {lo hi : Nat} {l : List Ins} (j : Nat) : ∀ {n : Nat}, TgL G lo hi n l → TgL G (lo + j) (hi + j) (n + j) (shI j l) := by
  induction l with
  | nil => intro n _; trivial
  | cons x l ih => intro n h; exact ⟨h.1.sh j, by have := ih h.2; rw [show n + 1 + j = n + j + 1 from by omega] at this; exact this⟩
/-- a whole code: targets within it -/
abbrev TgB (G : Int) (b : List Ins) : Prop := TgL G 0 b.length 0 b
theorem TgB.at {G : Int} {b : List Ins} (h : TgB G b) (n : Nat) {lo hi : Nat} (h1 : lo ≤ n) (h2 : n + b.length ≤ hi) : TgL G lo hi n (shI n b) := by
  have := TgL.sh n h
  rw [Nat.zero_add] at this
  exact this.mono h1 (by omega)
theorem TgB.cat {G : Int} {bs : List (List Ins)} (h : ∀ b, b ∈ bs → TgB G b) : TgB G (catB bs) := by
  induction bs with
  | nil => trivial
  | cons b bs ih =>
    have h1 := ih fun c hc => h c (List.mem_cons_of_mem _ hc)
    show TgL G 0 _ 0 (b ++ shI b.length (catB bs))
    refine TgL.app ((h b (by simp)).mono (Nat.le_refl _) (by show _ ≤ (b ++ shI b.length (catB bs)).length; rw [List.length_append]; omega)) ?_
    rw [Nat.zero_add]
    exact h1.at _ (by omega) (by show _ ≤ (b ++ shI b.length (catB bs)).length; rw [List.length_append, shI_len]; omega)
theorem TgB.leaf {G : Int} {q : Ins} (h : q.op ≠ 4 ∧ q.op ≠ 5 ∧ (q.op = 3 → 0 ≤ q.x ∧ q.x ≤ 2 * G + 1) ∧ (q.op = 0 → q.set ≠ [] ∧ q.set.length % 2 = 0)) : TgB G [q] :=
  ⟨⟨fun e => absurd e h.1, fun e => absurd e h.2.1, h.2.2⟩, trivial⟩
theorem tg_spl {G : Int} {lo hi i : Nat} (z : Bool) {off : Int} (h1 : lo ≤ i + 1) (h2 : i + 1 ≤ hi) (h3 : (lo : Int) ≤ off) (h4 : off ≤ hi) : TgI G lo hi i (spl z (i + 1) off) := by
  cases z <;> simp [TgI, spl, iSplit] <;> omega
theorem tg_jump {G : Int} {lo hi i : Nat} {x : Int} (h1 : (lo : Int) ≤ x) (h2 : x ≤ hi) : TgI G lo hi i (iJump x) := by
  simp [TgI, iJump]; omega
theorem TgB.loop {G : Int} {b : List Ins} (h : TgB G b) (z : Bool) : TgB G (loopB b z) := by
  have hl : (loopB b z).length = b.length + 2 := by simp [loopB, shI_len]
  unfold TgB
  rw [hl]
  refine ⟨by have := tg_spl (G := G) (lo := 0) (hi := b.length + 2) (i := 0) z (off := (b.length : Int) + 2) (by omega) (by omega) (by omega) (by omega); simpa using this, ?_⟩
  refine TgL.app (h.at 1 (by omega) (by omega)) ⟨tg_jump (by omega) (by omega), trivial⟩
theorem tg_opt {G : Int} {b : List Ins} (h : TgB G b) (z : Bool) (E : Nat) (m : Nat) : ∀ n, n + m * (b.length + 1) ≤ E → TgL G 0 E n (optC (fun i => spl z (i + 1) (E : Int)) b n m) := by
  induction m with
  | zero => intro n _; trivial
  | succ m ih =>
    intro n hn
    rw [Nat.succ_mul] at hn
    refine ⟨tg_spl z (by omega) (by omega) (by omega) (by omega), TgL.app (h.at (n + 1) (by omega) (by omega)) ?_⟩
    rw [shI_len]
    exact ih _ (by omega)
theorem TgB.opt {G : Int} {b : List Ins} (h : TgB G b) (z : Bool) (m : Nat) : TgB G (optB b z m) := by
  unfold TgB
  rw [optB_len]
  exact tg_opt h z _ m 0 (by omega)
theorem TgB.group {G : Int} {b : List Ins} (h : TgB G b) {no : Int} (hn : 0 ≤ no ∧ no ≤ G) : TgB G (groupB b no) := by
  unfold groupB
  split
  · exact h
  · have hl : (iSave (2 * no) :: (shI 1 b ++ [iSave (2 * no + 1)])).length = b.length + 2 := by simp [shI_len]
    unfold TgB
    rw [hl]
    refine ⟨by simp [TgI, iSave]; omega, TgL.app (h.at 1 (by omega) (by omega)) ⟨by simp [TgI, iSave]; omega, trivial⟩⟩
theorem tg_altR {G : Int} (E : Nat) {bs : List (List Ins)} (h : ∀ b, b ∈ bs → TgB G b) : ∀ n, n + altS bs ≤ E → TgL G 0 E n (altR (iJump E) n bs) := by
  induction bs with
  | nil => intro n _; trivial
  | cons b bs ih =>
    intro n hn
    rw [altS] at hn
    refine ⟨?_, TgL.app ((h b (by simp)).at (n + 1) (by omega) (by omega)) ⟨tg_jump (by omega) (by omega), ?_⟩⟩
    · exact tg_spl (z := false) (off := (n : Int) + b.length + 2) (by omega) (by omega) (by omega) (by omega)
    · rw [shI_len, show n + 1 + b.length + 1 = n + b.length + 2 from by omega]
      exact ih (fun c hc => h c (List.mem_cons_of_mem _ hc)) _ (by omega)
theorem TgB.alt {G : Int} {bs : List (List Ins)} (h : ∀ b, b ∈ bs → TgB G b) : TgB G (altC (altLen bs) 0 bs) := by
  unfold TgB
  rw [altC_len]
  rcases List.eq_nil_or_concat bs with rfl | ⟨l, b, rfl⟩
  · trivial
  · rw [List.concat_eq_append] at h ⊢
    rw [altC_snoc, altLen_snoc]
    refine TgL.app (tg_altR _ (fun c hc => h c (by simp [hc])) 0 (by omega)) ?_
    rw [altR_len]
    exact (h b (by simp)).at _ (by omega) (by omega)
theorem blk_tg (G : Int) (k : Nat) : ∀ (d : Int) (t : List Rn), t.length ≤ k → NodAt d t → (∀ x, x ∈ t → x.kind = 5 → 0 ≤ x.lo ∧ x.lo ≤ G) → TgB G (blk k t) := by
  induction k with
  | zero => intro d t _ _ _; trivial
  | succ k ih =>
    intro d t hk h hG
    obtain ⟨_, x, cs, hx, hc, hl⟩ := h
    rw [List.length_cons] at hk
    have hp : partsL cs.flatten = cs := parts_flat cs hc
    have hs : ∀ c, c ∈ cs → TgB G (blk k c) := fun c h => ih (d + 1) c (by have := len_flat h; omega) (hc c h) (fun y hy => hG y (List.mem_cons_of_mem _ (List.mem_flatten.2 ⟨c, h, hy⟩)))
    have hm : ∀ b, b ∈ cs.map (blk k) → TgB G b := fun b hb => by
      obtain ⟨c, h, rfl⟩ := List.mem_map.1 hb
      exact hs c h
    unfold blk
    dsimp only
    rw [hp]
    have one : cs.length = 1 → TgB G (blk k cs.flatten) := fun e => by
      match cs, e with
      | [c], _ => simpa using hs c (by simp)
    split
    · exact TgB.cat hm
    split
    · exact TgB.alt hm
    split
    · rename_i h2
      exact TgB.leaf ⟨by simp [iSet], by simp [iSet], by simp [iSet], fun _ => (hl.2.2.2 h2).2⟩
    split
    · exact TgB.leaf ⟨by simp [iStart], by simp [iStart], by simp [iStart], by simp [iStart]⟩
    split
    · exact TgB.leaf ⟨by simp [iEnd], by simp [iEnd], by simp [iEnd], by simp [iEnd]⟩
    split
    · rename_i h5
      exact (one (hl.1 h5)).group (hG x (by simp) h5)
    split
    · rename_i h6
      have h1 := one (hl.2.1 h6).1
      refine TgB.cat fun b hb => ?_
      rcases List.mem_append.1 hb with hb | hb
      · rw [(List.mem_replicate.1 hb).2]; exact h1
      · rw [List.mem_singleton.1 hb]
        split
        · exact h1.loop _
        · exact h1.opt _ _
    · trivial
theorem TgL.get {G : Int} {lo hi : Nat} {l : List Ins} : ∀ {n : Nat}, TgL G lo hi n l → ∀ i, (h : i < l.length) → TgI G lo hi (n + i) (igt l i) := by
  induction l with
  | nil => intro n _ i h; simp at h
  | cons x l ih =>
    intro n h i hi
    cases i with
    | zero => exact h.1
    | succ i =>
      have := ih h.2 i (by simpa using hi)
      rw [show n + (i + 1) = n + 1 + i from by omega]
      exact this
/-! ## the whole -/
def outW (l : List Rn) : List Ins := nodeE l.length l [iSave 0] ++ [iSave 1] ++ [iMatch]
def compW (p : List Int) : List Ins × Int × Int :=
  if (parseW p).2.1 ≠ 0 then ([], (parseW p).2) else if 300 < (outW (parseW p).1).length then ([], 3, (p.length : Int)) else (outW (parseW p).1, 0, 0)
def codeW (l : List Rn) : List Ins := iSave 0 :: (shI 1 (blk l.length l) ++ [iSave 1, iMatch])
theorem codeW_len (l : List Rn) : (codeW l).length = (blk l.length l).length + 3 := by simp [codeW, shI_len]
theorem out_eq {l : List Rn} (h : NodAt 0 l) : ((codeW l).length ≤ 300 → outW l = codeW l) ∧ (300 < (codeW l).length → 300 < (outW l).length) := by
  have hs := node_sp l.length 0 l (Nat.le_refl _) h [iSave 0]
  rw [List.length_singleton] at hs
  rw [codeW_len]
  unfold outW
  refine ⟨fun hl => ?_, fun hl => ?_⟩
  · rw [hs.1 (by omega)]; simp [codeW]
  · rw [List.length_append, List.length_append]
    by_cases hc : 300 < 1 + (blk l.length l).length
    · have := hs.2 hc; omega
    · rw [hs.1 (by omega), List.length_append, shI_len]; simp; omega
theorem code_tg {l : List Rn} {G : Int} (h : NodAt 0 l) (hG : ∀ x, x ∈ l → x.kind = 5 → 0 ≤ x.lo ∧ x.lo ≤ G) (hp : 0 ≤ G) : ∀ i, i < (codeW l).length → TgI G 1 ((codeW l).length - 1) i (igt (codeW l) i) := by
  have hb := blk_tg G l.length 0 l (Nat.le_refl _) h hG
  have hl := codeW_len l
  have : TgL G 1 ((codeW l).length - 1) 0 (codeW l) := by
    rw [hl]
    refine ⟨by simp [TgI, iSave]; omega, TgL.app (hb.at 1 (by omega) (by omega)) ⟨by simp [TgI, iSave]; omega, by simp [TgI, iMatch], trivial⟩⟩
  intro i hi
  have := this.get i hi
  rwa [Nat.zero_add] at this
end ReM
end Go.Proofs.YtefgjicegbhcaaaGreat
namespace Go.Proofs.YtefgjicegbhcaaaGreat
open Go.RowKit ReM
namespace ReM
def KK (n : Nat) : Nat := n * (n + 19)
theorem KK_mono {a b : Nat} (h : a ≤ b) : KK a ≤ KK b := Nat.mul_le_mul h (by omega)
theorem KK_succ (n : Nat) : KK (n + 1) = KK n + 2 * n + 20 := by
  unfold KK
  simp only [Nat.add_mul, Nat.mul_add]
  omega
/-- f makes nothing shorter, leaves alone what has passed the bound, and passes it by K at most -/
structure Gw (f : Wr) (K : Nat) : Prop where
  ge : ∀ o, o.length ≤ (f o).length
  big : ∀ o : List Ins, 300 < o.length → f o = o
  le : ∀ o : List Ins, o.length ≤ 300 → (f o).length ≤ 300 + K
theorem Gw.any {f : Wr} {K : Nat} (h : Gw f K) (o : List Ins) : (f o).length ≤ max o.length (300 + K) := by
  by_cases hc : 300 < o.length
  · rw [h.big o hc]; omega
  · have := h.le o (by omega); omega
theorem Gw.mono {f : Wr} {K K' : Nat} (h : Gw f K) (hk : K ≤ K') : Gw f K' := ⟨h.ge, h.big, fun o ho => by have := h.le o ho; omega⟩
theorem gw_times {f : Wr} {K : Nat} (h : Gw f K) (n : Nat) : ∀ o, o.length ≤ (timesE f n o).length ∧ (timesE f n o).length ≤ max o.length (300 + K) := by
  induction n with
  | zero => intro o; simp only [timesE]; omega
  | succ n ih =>
    intro o
    have h1 := h.ge o
    have h2 := h.any o
    unfold timesE
    split
    · omega
    · have := ih (f o); omega
theorem gw_opt {f : Wr} {K : Nat} (h : Gw f K) (o : List Ins) (n : Nat) : o.length ≤ (optRows f o n).2.length ∧ (optRows f o n).2.length ≤ max o.length (300 + K) + n ∧ ∀ j, j ∈ (optRows f o n).1 → j < (optRows f o n).2.length := by
  induction n with
  | zero => simp only [optRows]; exact ⟨by omega, by omega, fun j hj => by cases hj⟩
  | succ n ih =>
    obtain ⟨h1, h2, h3⟩ := ih
    have g1 := h.ge ((optRows f o n).2 ++ [iSplit 0 0])
    have g2 := h.any ((optRows f o n).2 ++ [iSplit 0 0])
    rw [List.length_append, List.length_singleton] at g1 g2
    simp only [optRows]
    refine ⟨by omega, by omega, fun j hj => ?_⟩
    rcases List.mem_append.1 hj with hj | hj
    · have := h3 j hj; omega
    · rw [List.mem_singleton.1 hj]; omega
theorem gw_alt {f : List Rn → Wr} {K : Nat} (rows : List (List Rn)) (h : ∀ r, r ∈ rows → Gw (f r) K) : ∀ (st : List Nat × List Ins), (∀ j, j ∈ st.1 → j < st.2.length) →
    st.2.length ≤ (rows.foldl (altStep f) st).2.length ∧ (rows.foldl (altStep f) st).2.length ≤ max st.2.length (300 + K) + 2 * rows.length ∧ ∀ j, j ∈ (rows.foldl (altStep f) st).1 → j < (rows.foldl (altStep f) st).2.length := by
  induction rows with
  | nil => intro st hs; exact ⟨by simp, by simp; omega, hs⟩
  | cons r rows ih =>
    intro st hs
    have hr := h r (by simp)
    have g1 := hr.ge (st.2 ++ [iSplit 0 0])
    have g2 := hr.any (st.2 ++ [iSplit 0 0])
    rw [List.length_append, List.length_singleton] at g1 g2
    have hl : (altStep f st r).2.length = (f r (st.2 ++ [iSplit 0 0])).length + 1 := by simp [altStep, aim_len]
    obtain ⟨i1, i2, i3⟩ := ih (fun r hr => h r (List.mem_cons_of_mem _ hr)) (altStep f st r) (fun j hj => by
      rw [hl]
      rcases List.mem_append.1 hj with hj | hj
      · have := hs j hj; omega
      · rw [List.mem_singleton.1 hj]; omega)
    rw [List.foldl_cons, List.length_cons]
    exact ⟨by omega, by omega, i3⟩
theorem gw_fold {f : List Rn → Wr} {K : Nat} (rows : List (List Rn)) (h : ∀ r, r ∈ rows → Gw (f r) K) : Gw (fun o => rows.foldl (fun o l => f l o) o) K := by
  induction rows with
  | nil => exact ⟨fun o => Nat.le_refl _, fun o _ => rfl, fun o ho => by show o.length ≤ _; omega⟩
  | cons r rows ih =>
    have hr := h r (by simp)
    have hi := ih fun r hr => h r (List.mem_cons_of_mem _ hr)
    refine ⟨fun o => ?_, fun o ho => ?_, fun o ho => ?_⟩
    · exact Nat.le_trans (hr.ge o) (hi.ge (f r o))
    · show rows.foldl (fun o l => f l o) (f r o) = o
      rw [hr.big o ho]; exact hi.big o ho
    · have h1 := hr.le o ho
      have h2 := hi.any (f r o)
      show (rows.foldl (fun o l => f l o) (f r o)).length ≤ _
      omega
theorem partsF_mem (k : Nat) : ∀ (l : List Rn), (partsF k l).length ≤ l.length ∧ ∀ r, r ∈ partsF k l → r.length ≤ l.length ∧ ∀ y, y ∈ r → y ∈ l := by
  induction k with
  | zero => intro l; exact ⟨by simp [partsF], fun r hr => by cases hr⟩
  | succ k ih =>
    intro l
    cases l with
    | nil => exact ⟨by simp [partsF], fun r hr => by cases hr⟩
    | cons x l =>
      obtain ⟨h1, h2⟩ := ih (l.dropWhile (dpr x))
      have hd : (l.dropWhile (dpr x)).length ≤ l.length := (List.dropWhile_suffix _).length_le
      have ht : (l.takeWhile (dpr x)).length ≤ l.length := (List.takeWhile_prefix _).length_le
      rw [parts_cons]
      refine ⟨by simp only [List.length_cons]; omega, fun r hr => ?_⟩
      rcases List.mem_cons.1 hr with rfl | hr
      · refine ⟨by simp only [List.length_cons]; omega, fun y hy => ?_⟩
        rcases List.mem_cons.1 hy with rfl | hy
        · simp
        · exact List.mem_cons_of_mem _ ((List.takeWhile_prefix _).subset hy)
      · obtain ⟨h3, h4⟩ := h2 r hr
        exact ⟨by simp only [List.length_cons]; omega, fun y hy => List.mem_cons_of_mem _ ((List.dropWhile_suffix _).subset (h4 y hy))⟩
theorem node_gw (k : Nat) : ∀ t : List Rn, Los t → Gw (nodeE k t) (KK t.length) := by
  induction k with
  | zero => intro t _; exact ⟨fun o => Nat.le_refl _, fun o _ => rfl, fun o ho => by show o.length ≤ _; omega⟩
  | succ k ih =>
    intro t hL
    cases t with
    | nil => exact ⟨fun o => by unfold nodeE; simp, fun o _ => by unfold nodeE; simp, fun o ho => by unfold nodeE; simp; omega⟩
    | cons x cs =>
      have hcs : Los cs := fun y hy => hL y (List.mem_cons_of_mem _ hy)
      have hx := hL x (by simp)
      have hK := KK_succ cs.length
      obtain ⟨p1, p2⟩ := partsF_mem cs.length cs
      have hr : ∀ r, r ∈ partsL cs → Gw (nodeE k r) (KK cs.length) := fun r hr => (ih r fun y hy => hcs y ((p2 r hr).2 y hy)).mono (KK_mono (p2 r hr).1)
      have hc := ih cs hcs
      rw [List.length_cons, hK]
      have main : ∀ o : List Ins, o.length ≤ 300 → o.length ≤ (nodeE (k + 1) (x :: cs) o).length ∧ (nodeE (k + 1) (x :: cs) o).length ≤ 300 + (KK cs.length + 2 * cs.length + 20) := by
        intro o ho
        unfold nodeE
        rw [if_neg (by omega)]
        dsimp only
        split
        · have h1 := gw_fold (f := nodeE k) (partsL cs) hr
          have := h1.ge o
          have := h1.le o ho
          (try dsimp only at *)
          omega
        split
        · unfold altE altRows
          rw [lands_len]
          have hsub : ∀ r, r ∈ (partsL cs).take ((partsL cs).length - 1) → Gw (nodeE k r) (KK cs.length) := fun r h => hr r (List.mem_of_mem_take h)
          obtain ⟨a1, a2, -⟩ := gw_alt ((partsL cs).take ((partsL cs).length - 1)) hsub ([], o) (fun j hj => by cases hj)
          have hlast : Gw (nodeE k ((partsL cs).getD ((partsL cs).length - 1) [])) (KK cs.length) := by
            rcases List.eq_nil_or_concat (partsL cs) with e | ⟨l, b, e⟩
            · rw [e]; exact (ih [] Los.nil).mono (KK_mono (by simp))
            · refine hr _ ?_
              rw [e]; simp
          have b1 := hlast.ge (List.foldl (altStep (nodeE k)) ([], o) ((partsL cs).take ((partsL cs).length - 1))).2
          have b2 := hlast.any (List.foldl (altStep (nodeE k)) ([], o) ((partsL cs).take ((partsL cs).length - 1))).2
          have hp : ((partsL cs).take ((partsL cs).length - 1)).length ≤ cs.length := by
            rw [List.length_take]
            have : (partsL cs).length ≤ cs.length := p1
            omega
          (try dsimp only at *)
          omega
        split
        · simp; omega
        split
        · simp; omega
        split
        · simp; omega
        split
        · unfold groupE
          split
          · have := hc.ge o
            have := hc.le o ho
            omega
          · have h1 := hc.ge (o ++ [iSave (2 * x.lo)])
            have h2 := hc.any (o ++ [iSave (2 * x.lo)])
            rw [List.length_append, List.length_singleton] at h1 h2 ⊢
            omega
        split
        · obtain ⟨t1, t2⟩ := gw_times hc x.lo.toNat o
          split
          · unfold loopE
            rw [aim_len]
            have h1 := hc.ge (timesE (nodeE k cs) x.lo.toNat o ++ [iSplit 0 0])
            have h2 := hc.any (timesE (nodeE k cs) x.lo.toNat o ++ [iSplit 0 0])
            rw [List.length_append, List.length_singleton] at h1 h2 ⊢
            omega
          · unfold optE
            rw [aims_len]
            obtain ⟨h1, h2, -⟩ := gw_opt hc (timesE (nodeE k cs) x.lo.toNat o) (x.hi - x.lo).toNat
            have : (x.hi - x.lo).toNat ≤ 10 := by have := hx; unfold LoOk at this; omega
            omega
        · omega
      have big : ∀ o : List Ins, 300 < o.length → nodeE (k + 1) (x :: cs) o = o := fun o ho => by unfold nodeE; rw [if_pos ho]
      refine ⟨fun o => ?_, big, fun o ho => (main o ho).2⟩
      by_cases ho : 300 < o.length
      · rw [big o ho]; exact Nat.le_refl _
      · exact (main o (by omega)).1
end ReM
end Go.Proofs.YtefgjicegbhcaaaGreat
