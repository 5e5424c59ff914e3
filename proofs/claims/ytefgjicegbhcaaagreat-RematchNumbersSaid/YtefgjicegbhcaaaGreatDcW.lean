/- Trees in a list by places (SubT), how long the code of a node is by that of its kids, for the document's compiler. The document's end and size of a node. The document's SameInst: programs that read alike are told to be the same (sameinst_c). The document's shifted. The document's split and repeated. Codes of nodes by numbers (szN), small ones (okB), for the document's code; its choices, its code, by rounds. The document's choices, by what codes of fewer rounds are. The document's code of a node, by rounds. -/
import Derived.Test.YtefgjicegbhcaaaGreatCpA
import Derived.Test.YtefgjicegbhcaaaGreatPgA
import Derived.Test.YtefgjicegbhcaaaGreatRga
import Derived.Test.YtefgjicegbhcaaaGreatSignsL
import Derived.Deep.RegionHeld3
namespace Go.Proofs.YtefgjicegbhcaaaGreat
namespace ReM
/-- the tree t of depth d stands at place i of a list -/
def SubT (l : List Rn) (i : Nat) (d : Int) (t : List Rn) : Prop := ∃ pre post, l = pre ++ (t ++ post) ∧ pre.length = i ∧ NodAt d t ∧ Ends d post
def lgt (l : List Rn) (i : Nat) : Rn := l.getD i ⟨0, 0, 0, 0, false, false, []⟩
theorem lgt_mid (pre : List Rn) (x : Rn) (post : List Rn) {n : Nat} (h : pre.length = n) : lgt (pre ++ x :: post) n = x := by
  subst h; simp [lgt]
theorem SubT.whole {l : List Rn} (h : NodAt 0 l) : SubT l 0 0 l := ⟨[], [], by simp, rfl, h, Ends.nil _⟩
theorem NodAt.pos {d : Int} {t : List Rn} (h : NodAt d t) : 0 < t.length := by
  obtain ⟨x, t', rfl, _⟩ := h.head; exact Nat.succ_pos _
theorem SubT.len {l : List Rn} {i : Nat} {d : Int} {t : List Rn} (h : SubT l i d t) : i + t.length ≤ l.length ∧ 0 < t.length := by
  obtain ⟨pre, post, rfl, rfl, h1, _⟩ := h
  exact ⟨by simp only [List.length_append]; omega, h1.pos⟩
theorem SubT.head {l : List Rn} {i : Nat} {d : Int} {x : Rn} {t : List Rn} (h : SubT l i d (x :: t)) : lgt l i = x ∧ x.deep = d := by
  obtain ⟨pre, post, rfl, rfl, h1, _⟩ := h
  obtain ⟨y, t', e, h2, _⟩ := h1.head
  injection e with e1 e2
  exact ⟨lgt_mid pre x _ rfl, by rw [e1]; exact h2⟩
/-- where the node ends -/
theorem SubT.in {l : List Rn} {i : Nat} {d : Int} {t : List Rn} (h : SubT l i d t) {k : Nat} (h1 : i < k) (h2 : k < i + t.length) : (lgt l i).deep < (lgt l k).deep := by
  obtain ⟨pre, post, rfl, rfl, hn, _⟩ := h
  obtain ⟨x, t', rfl, h3, h4⟩ := hn.head
  rw [List.cons_append, lgt_mid pre x _ rfl, h3]
  obtain ⟨j, rfl⟩ : ∃ j, k = pre.length + (j + 1) := ⟨k - pre.length - 1, by omega⟩
  have hj : j < t'.length := by rw [List.length_cons] at h2; omega
  refine h4 _ ?_
  unfold lgt
  rw [List.getD_eq_getElem?_getD, List.getElem?_append_right (by omega), show pre.length + (j + 1) - pre.length = j + 1 by omega, List.getElem?_cons_succ, List.getElem?_append_left hj, List.getElem?_eq_getElem hj]
  exact List.getElem_mem hj
theorem SubT.out {l : List Rn} {i : Nat} {d : Int} {t : List Rn} (h : SubT l i d t) (h1 : i + t.length < l.length) : ¬ (lgt l i).deep < (lgt l (i + t.length)).deep := by
  obtain ⟨pre, post, rfl, rfl, hn, he⟩ := h
  obtain ⟨x, t', rfl, h3, h4⟩ := hn.head
  cases post with
  | nil => simp at h1
  | cons y post =>
    have h5 := he y post rfl
    have e1 : lgt (pre ++ (x :: t' ++ y :: post)) pre.length = x := lgt_mid pre x _ rfl
    have e2 : lgt (pre ++ (x :: t' ++ y :: post)) (pre.length + (x :: t').length) = y := by
      rw [← List.append_assoc]
      exact lgt_mid (pre ++ x :: t') y post (by rw [List.length_append])
    rw [e1, e2, h3]
    omega
theorem SubT.kid {l : List Rn} {i : Nat} {d : Int} {x : Rn} {as' bs : List (List Rn)} {c : List Rn} (h : SubT l i d (x :: (as' ++ c :: bs).flatten)) (hc : ∀ e, e ∈ as' ++ c :: bs → NodAt (d + 1) e) : SubT l (i + 1 + as'.flatten.length) (d + 1) c := by
  obtain ⟨pre, post, rfl, rfl, hn, he⟩ := h
  refine ⟨pre ++ x :: as'.flatten, bs.flatten ++ post, by simp, by simp; omega, hc c (by simp), ?_⟩
  exact ends_flat (fun e h => hc e (by simp [h])) (fun y t hy => by have := he y t hy; omega)
theorem SubT.kids {l : List Rn} {i : Nat} {d : Int} {t : List Rn} (h : SubT l i d t) : ∃ x cs, t = x :: cs.flatten ∧ x.deep = d ∧ (∀ c, c ∈ cs → NodAt (d + 1) c) ∧ Loc x cs.length ∧ partsL cs.flatten = cs := by
  obtain ⟨pre, post, rfl, rfl, hn, he⟩ := h
  cases hn with
  | mk _ x cs hx hc hl => exact ⟨x, cs, rfl, hx, hc, hl, parts_flat cs hc⟩
/-- a size as the document counts it, and how many there are -/
def RelS (s : Int) (n : Nat) : Prop := (n ≤ 300 → s = n) ∧ (300 < n → 300 < s) ∧ 0 ≤ s
theorem RelS.add {s s' : Int} {n n' : Nat} (h : RelS s n) (h' : RelS s' n') : RelS (min (s + s') 100000) (n + n') := by
  obtain ⟨h1, h2, h3⟩ := h
  obtain ⟨h4, h5, h6⟩ := h'
  refine ⟨fun hn => ?_, fun hn => ?_, by omega⟩
  · rw [h1 (by omega), h4 (by omega)]; omega
  · rcases Nat.lt_or_ge 300 n with h | h
    · have := h2 h; omega
    · have e1 := h1 h
      rcases Nat.lt_or_ge 300 n' with h' | h'
      · have := h5 h'; omega
      · have e2 := h4 h'; omega
theorem RelS.plus {s : Int} {n : Nat} (h : RelS s n) (k : Nat) : RelS (s + k) (n + k) := by
  obtain ⟨h1, h2, h3⟩ := h
  refine ⟨fun hn => ?_, fun hn => ?_, by omega⟩
  · rw [h1 (by omega)]; omega
  · rcases Nat.lt_or_ge 300 n with h | h
    · have := h2 h; omega
    · have e1 := h1 h; omega
theorem RelS.times {s : Int} {n : Nat} (h : RelS s n) (k : Nat) : RelS ((k : Int) * s) (k * n) := by
  obtain ⟨h1, h2, h3⟩ := h
  rcases Nat.lt_or_ge 300 n with h | h
  · have h4 := h2 h
    cases k with
    | zero => simp [RelS]
    | succ k =>
      have e1 : (300 : Nat) < (k + 1) * n := by rw [Nat.succ_mul]; omega
      have e2 : s ≤ ((k + 1 : Nat) : Int) * s := by
        rw [show ((k + 1 : Nat) : Int) = (k : Int) + 1 from rfl, Int.add_mul, Int.one_mul]
        have := Int.mul_nonneg (show (0 : Int) ≤ k by omega) h3
        omega
      exact ⟨fun h => by omega, fun _ => by omega, by omega⟩
  · rw [h1 h]
    have e : (k : Int) * (n : Int) = ((k * n : Nat) : Int) := by simp
    rw [e]
    exact ⟨fun _ => rfl, fun h => by omega, by omega⟩
theorem RelS.sat {s : Int} {n : Nat} (h : RelS s n) : RelS (min s 100000) n := by
  obtain ⟨h1, h2, h3⟩ := h
  exact ⟨fun hn => by rw [h1 hn]; omega, fun hn => by have := h2 hn; omega, by omega⟩
theorem RelS.both {s s' : Int} {n n' : Nat} (h : RelS s n) (h' : RelS s' n') : RelS (s + s') (n + n') := by
  obtain ⟨h1, h2, h3⟩ := h
  obtain ⟨h4, h5, h6⟩ := h'
  refine ⟨fun hn => ?_, fun hn => ?_, by omega⟩
  · rw [h1 (by omega), h4 (by omega)]; omega
  · rcases Nat.lt_or_ge 300 n with h | h
    · have := h2 h; omega
    · have e1 := h1 h
      rcases Nat.lt_or_ge 300 n' with h' | h'
      · have := h5 h'; omega
      · have e2 := h4 h'; omega
/-- how long the kids' codes are -/
def sumB (bs : List (List Ins)) : Nat := (bs.map List.length).sum
theorem catB_len (bs : List (List Ins)) : (catB bs).length = sumB bs := by
  induction bs with
  | nil => rfl
  | cons b bs ih => simp only [catB, List.length_append, shI_len, ih, sumB, List.map_cons, List.sum_cons]
theorem altLen_eq (bs : List (List Ins)) (h : bs ≠ []) : altLen bs = sumB bs + 2 * (bs.length - 1) := by
  induction bs with
  | nil => exact absurd rfl h
  | cons b bs ih =>
    cases bs with
    | nil => simp [altLen, sumB]
    | cons c bs =>
      rw [altLen, ih (by simp)]
      simp only [sumB, List.map_cons, List.sum_cons, List.length_cons]
      omega
theorem sumB_snoc (bs : List (List Ins)) (b : List Ins) : sumB (bs ++ [b]) = sumB bs + b.length := by simp [sumB]
/-- the code of a node by its kids' -/
theorem blk_kids {k : Nat} {x : Rn} {cs : List (List Rn)} (h : partsL cs.flatten = cs) : blk (k + 1) (x :: cs.flatten) = (
      if x.kind = 0 then catB (cs.map (blk k))
      else if x.kind = 1 then altC (altLen (cs.map (blk k))) 0 (cs.map (blk k))
      else if x.kind = 2 then [iSet x.not x.set]
      else if x.kind = 3 then [iStart]
      else if x.kind = 4 then [iEnd]
      else if x.kind = 5 then groupB (blk k cs.flatten) x.lo
      else if x.kind = 6 then
        catB (List.replicate x.lo.toNat (blk k cs.flatten) ++ [if x.hi = -1 then loopB (blk k cs.flatten) x.lazy else optB (blk k cs.flatten) x.lazy (x.hi - x.lo).toNat])
      else []) := by
  rw [blk, h]
theorem loopB_len (b : List Ins) (z : Bool) : (loopB b z).length = b.length + 2 := by simp [loopB, shI_len]
theorem rep_len (n : Nat) (b c : List Ins) : (catB (List.replicate n b ++ [c])).length = n * b.length + c.length := by
  rw [catB_len, sumB_snoc]; simp [sumB]
end ReM
end Go.Proofs.YtefgjicegbhcaaaGreat
namespace Go.Proofs.YtefgjicegbhcaaaGreat
open Go.RowKit ReM

/-- a tree in memory that can be read -/
structure TrM (w : World) (a : Option Addr) (T : List Rm) : Prop where
  sl : RSl encRe w a T
  ok : Rms w (fun _ => False) T
  len : T.length ≤ 5000
theorem TrM.bel {w w' : World} {a : Option Addr} {T : List Rm} (h : TrM w a T) (hb : Below w.heap.size w w') : TrM w' a T := ⟨h.sl.bel hb, h.ok.bel hb, h.len⟩
theorem lgt_rns {T : List Rm} {k : Nat} (h : k < T.length) : lgt (rns T) k = (rgt T k).rn := by
  unfold lgt
  rw [List.getD_eq_getElem?_getD, List.getElem?_eq_getElem (by rw [rns_len]; exact h), rns_get T h]
  rfl
set_option maxHeartbeats 8000000 in
theorem end_d (a : Option Addr) (c : Nat) (T : List Rm) (w : World) (i : Nat) (d : Int) (t : List Rn) (h : TrM w a T) (hS : SubT (rns T) i d t) :
    Calls Tryz.prog 109 #[.slice a T.length c, .int .i64 i] w fun e' w' => e' = .returned (.int .i64 ((i + t.length : Nat) : Int)) ∧ Below w.heap.size w w' := by
  have hl := h.len
  obtain ⟨hl1, hl0⟩ := hS.len
  rw [rns_len] at hl1
  have W0 : IntKind.i64.wrap ((i : Int) + 1) = ((i + 1 : Nat) : Int) := by rw [IntKind.wrap_i64]; omega
  obtain ⟨m, hm⟩ : ∃ m, m = i + t.length := ⟨_, rfl⟩
  have HM := hid hm
  rw [← hm] at hl1 ⊢
  have him : i + 1 ≤ m := by omega
  have Hin := hid (fun k (h1 : i < k) (h2 : k < m) => hS.in h1 (by rw [← HM.out]; exact h2))
  have Hout := hid (fun (h1 : m < T.length) => (show ¬ (lgt (rns T) i).deep < (lgt (rns T) m).deep by rw [HM.out]; exact hS.out (by rw [rns_len, ← HM.out]; exact h1)))
  have HT := hid h
  obtain ⟨n, hn⟩ : ∃ n, n = T.length := ⟨_, rfl⟩
  rw [← hn] at hl hl1 ⊢
  have HN := hid hn
  clear h hS hm hn hl0
  go_enter Tryz.func109, Tryz.ntmps109
  go_wp2_with fail
  go_loopw [5] (fun kv wr => ∃ k : Nat, i < k ∧ k ≤ m ∧ kv = .int .i64 k ∧ Below w.heap.size w wr) (fun kv _ => n - (intOf kv).toNat)
  case atStart => exact ⟨i + 1, by omega, by omega, rfl, by (repeat' (first | exact Below.refl _ _ | assumption | refine bdrewN ?_ _ | refine Below.drew ?_ | refine Below.setCell ?_ (Nat.le_refl _) _ | refine bal ?_ _ | refine bthen ?_ (by assumption)))⟩
  case round =>
    obtain ⟨k, hk1, hk2, rfl, hb⟩ := hrel
    have W1 : IntKind.i64.wrap ((k : Int) + 1) = ((k + 1 : Nat) : Int) := by rw [IntKind.wrap_i64]; omega
    by_cases hkn : k < n
    · have hkT : k < T.length := by rw [← HN.out]; exact hkn
      have hiT : i < T.length := by omega
      obtain ⟨b, o, rfl, r1⟩ := (HT.out.sl.bel hb).rc1 hkT
      obtain ⟨b', o', he, r2⟩ := (HT.out.sl.bel hb).rc1 hiT
      simp only [Option.some.injEq, Addr.mk.injEq, and_true] at he
      obtain ⟨rfl, rfl⟩ := he
      have x1 := (rec_re r1).2.1
      have x2 := (rec_re r2).2.1
      have b1 : decide ((k : Int) < (n : Int)) = true := decide_eq_true (by omega)
      have zk : (k : Int) < (n : Int) := by omega
      have zi : (i : Int) < (n : Int) := by omega
      have e1 : (lgt (rns T) k).deep = (rgt T k).deep := by rw [lgt_rns hkT]; rfl
      have e2 : (lgt (rns T) i).deep = (rgt T i).deep := by rw [lgt_rns hiT]; rfl
      by_cases hkm : k < m
      · have hd := Hin.out k hk1 hkm
        rw [e1, e2] at hd
        have b2 : decide ((rgt T i).deep < (rgt T k).deep) = true := decide_eq_true hd
        clear r1 r2 e1 e2 hd
        generalize (rgt T k).deep = dk at *
        generalize (rgt T i).deep = di at *
        go_wp2_with fail
        go_quiet (fail)
        go_wp2_with fail
        go_roundw
        case rel => exact ⟨k + 1, by omega, by omega, by go_num, by (repeat' (first | exact Below.refl _ _ | assumption | refine bdrewN ?_ _ | refine Below.drew ?_ | refine Below.setCell ?_ (Nat.le_refl _) _ | refine bal ?_ _ | refine bthen ?_ (by assumption)))⟩
        case measure => simp [intOf]; omega
      · obtain rfl : k = m := by omega
        have hd := Hout.out hkT
        rw [e1, e2] at hd
        have b2 : decide ((rgt T i).deep < (rgt T k).deep) = false := decide_eq_false (by omega)
        clear r1 r2 e1 e2 hd
        generalize (rgt T k).deep = dk at *
        generalize (rgt T i).deep = di at *
        go_wp2_with fail
        go_quiet (fail)
        go_wp2_with fail
        go_ret
        exact ⟨rfl, by (repeat' (first | exact Below.refl _ _ | assumption | refine bdrewN ?_ _ | refine Below.drew ?_ | refine Below.setCell ?_ (Nat.le_refl _) _ | refine bal ?_ _ | refine bthen ?_ (by assumption)))⟩
    · obtain rfl : k = m := by omega
      have b1 : decide ((k : Int) < (n : Int)) = false := decide_eq_false (by omega)
      go_wp2_with fail
      go_quiet (fail)
      go_wp2_with fail
      go_ret
      exact ⟨rfl, by (repeat' (first | exact Below.refl _ _ | assumption | refine bdrewN ?_ _ | refine Below.drew ?_ | refine Below.setCell ?_ (Nat.le_refl _) _ | refine bal ?_ _ | refine bthen ?_ (by assumption)))⟩
/-- numbers and kinds as the reader leaves them -/
def NumOk (t : List Rn) : Prop := ∀ x, x ∈ t → LoOk x ∧ 0 ≤ x.kind ∧ x.kind ≤ 6
def SizeC (k : Nat) : Prop := ∀ (a : Option Addr) (c : Nat) (T : List Rm) (w : World) (i : Nat) (d : Int) (t : List Rn), TrM w a T → SubT (rns T) i d t → t.length ≤ k → NumOk t →
    Calls Tryz.prog 80 #[.slice a T.length c, .int .i64 i] w fun e' w' => ∃ s, e' = .returned (.int .i64 s) ∧ RelS s (blk k t).length ∧ s ≤ 120000 ∧ Below w.heap.size w w'
set_option maxRecDepth 20000 in
set_option maxHeartbeats 16000000 in
theorem size_step (k : Nat) (IH : SizeC k) : SizeC (k + 1) := by
  intro a c T w i d t h hS hk hno
  have hl := h.len
  obtain ⟨hl1, hl0⟩ := hS.len
  rw [rns_len] at hl1
  obtain ⟨x, cs, rfl, hx, hc, hloc, hp⟩ := hS.kids
  have hiT : i < T.length := by omega
  have HT := hid h
  have hxi : (rgt T i).rn = x := by rw [← lgt_rns hiT]; exact hS.head.1
  have HS := hid hS
  have EC := hid (fun w' h' => end_d a c T w' i d _ h' hS)
  obtain ⟨N, hN⟩ : ∃ N, N = i + (x :: cs.flatten).length := ⟨_, rfl⟩
  rw [← hN] at EC
  have hNT : N ≤ T.length := by omega
  have hNi : N = i + 1 + cs.flatten.length := by rw [hN, List.length_cons]; omega
  have W0 : IntKind.i64.wrap ((i : Int) + 1) = ((i + 1 : Nat) : Int) := by rw [IntKind.wrap_i64]; omega
  have hno' := hno x (by simp)
  have Hno := hid hno
  have HI := hid IH
  have Hp := hid hp
  have Hloc := hid hloc
  have Hxi := hid hxi
  have hcl : cs.flatten.length ≤ k := by rw [List.length_cons] at hk; omega
  have HNi := hid hNi
  clear h hS hN hno hk hl0 hl1 hNi IH hp hloc hxi hx
  go_enter Tryz.func80, Tryz.ntmps80
  go_wp2_with fail
  go_loopg [5, 6, 7] (T.length - (i + 1) + 1) (fun gk sv mv kv wr => ∃ (as' bs : List (List Rn)) (s : Int) (q : Nat), gk = T.length - q + 1 ∧ cs = as' ++ bs ∧ q = i + 1 + as'.flatten.length ∧ q ≤ N ∧ sv = .int .i64 s ∧ mv = .int .i64 (as'.length : Int) ∧ kv = .int .i64 q ∧ Hid (RelS s (sumB (as'.map (blk k)))) ∧ s ≤ 100000 ∧ Hid (Below w.heap.size w wr))
  case atStart => exact ⟨[], cs, 0, i + 1, rfl, rfl, by simp, by have := HNi.out; omega, rfl, rfl, rfl, hid ⟨fun _ => rfl, fun h => by simp [sumB] at h, by omega⟩, by omega, hid (by (repeat' (first | exact Below.refl _ _ | assumption | refine bdrewN ?_ _ | refine Below.drew ?_ | refine Below.setCell ?_ (Nat.le_refl _) _ | refine bal ?_ _ | refine bthen ?_ (by assumption))))⟩
  case round =>
    obtain ⟨as', bs, s, q, rfl, hcs, hq, hqN, rfl, rfl, rfl, HR, hs, HB⟩ := hrel
    have hs0 := HR.out.2.2
    have Wq : ∀ m : Nat, m ≤ 5000 → IntKind.i64.wrap ((m : Int) + 1) = ((m + 1 : Nat) : Int) := fun m hm => by rw [IntKind.wrap_i64]; omega
    have hasl : as'.length ≤ 5000 := by
      have h1 : as'.length ≤ cs.flatten.length := by
        rw [hcs]
        have : ∀ e, e ∈ as' → 0 < e.length := fun e he => (hc e (by rw [hcs]; exact List.mem_append_left _ he)).pos
        rw [List.flatten_append, List.length_append]
        refine Nat.le_trans ?_ (Nat.le_add_right _ _)
        clear hcs hq HR
        induction as' with
        | nil => simp
        | cons e es ih => rw [List.flatten_cons, List.length_append, List.length_cons]; have h1 := this e (by simp); have h2 := ih (fun e he => this e (List.mem_cons_of_mem _ he)); omega
      have := HNi.out; omega
    have Wk := Wq as'.length hasl
    clear Wq
    have E1 := hid (EC.out wr (HT.out.bel HB.out))
    have hz := HB.out.size
    cases bs with
    | cons e bs =>
      have hkid := HS.out
      rw [hcs] at hkid
      have hkid := hkid.kid (fun e' he' => hc e' (by rw [hcs]; exact he'))
      rw [← hq] at hkid
      have hel : 0 < e.length := (hc e (by rw [hcs]; simp)).pos
      have hfl : cs.flatten.length = as'.flatten.length + e.length + bs.flatten.length := by rw [hcs, List.flatten_append, List.length_append, List.flatten_cons, List.length_append]; omega
      have hqe : q + e.length ≤ N := by have := HNi.out; omega
      have b1 : decide ((q : Int) < (N : Int)) = true := decide_eq_true (by omega)
      have hsub : NumOk e := fun y hy => Hno.out y (List.mem_cons_of_mem _ (List.mem_flatten.2 ⟨e, by rw [hcs]; simp, hy⟩))
      have SC := hid (fun w' h' => HI.out a c T w' q (d + 1) e h' hkid (by omega) hsub)
      have E2 := hid (fun w' h' => end_d a c T w' q (d + 1) e h' hkid)
      have Hcs := hid (show cs = (as' ++ [e]) ++ bs by rw [hcs]; simp)
      have hq2 : q + e.length = i + 1 + (as' ++ [e]).flatten.length := by rw [hq, List.flatten_append]; simp; omega
      have Hq2 := hid hq2
      clear hcs hq hkid hsub hfl hq2
      go_wp2_with fail
      refine E1.out.mono ?_
      rintro _ w1 ⟨rfl, b1'⟩
      have HB1 := hid (HB.out.trans (b1'.mono hz))
      have z1 := HB1.out.size
      clear b1' E1 HB
      go_wp2_with fail
      refine (SC.out w1 (HT.out.bel HB1.out)).mono ?_
      rintro _ w2 ⟨s2, rfl, hr2, hs2, b2⟩
      have HB2 := hid (HB1.out.trans (b2.mono z1))
      have z2 := HB2.out.size
      have hs20 := hr2.2.2
      have hr3 : RelS (min (s + s2) 100000) (sumB ((as' ++ [e]).map (blk k))) := by rw [List.map_append, List.map_cons, List.map_nil, sumB_snoc]; exact HR.out.add hr2
      have HR1 := hid (fun (h : s + s2 ≤ 100000) => (show RelS (s + s2) (sumB ((as' ++ [e]).map (blk k))) by rw [Int.min_eq_left h] at hr3; exact hr3))
      have HR2 := hid (fun (h : 100000 ≤ s + s2) => (show RelS 100000 (sumB ((as' ++ [e]).map (blk k))) by rw [Int.min_eq_right h] at hr3; exact hr3))
      have Ws : IntKind.i64.wrap (s + s2) = s + s2 := by rw [IntKind.wrap_i64]; omega
      clear b2 hr2 hr3 HR SC HB1
      go_wp2_with fail
      all_goals
        refine (E2.out w2 (HT.out.bel HB2.out)).mono ?_
        rintro _ w3 ⟨rfl, b3⟩
        have HB3 := hid (HB2.out.trans (b3.mono z2))
        clear b3 E2 HB2
        go_wp2_with fail
        go_roundg (T.length - (q + e.length) + 1)
        case measure => omega
        case rel =>
          first
            | exact ⟨as' ++ [e], bs, s + s2, q + e.length, rfl, Hcs.out, Hq2.out, hqe, rfl, by simp, by simp, hid (HR1.out (by omega)), by omega, HB3⟩
            | exact ⟨as' ++ [e], bs, 100000, q + e.length, rfl, Hcs.out, Hq2.out, hqe, rfl, by simp, by simp, hid (HR2.out (by omega)), by omega, HB3⟩
    | nil =>
      have hqN2 : q = N := by rw [HNi.out, hcs]; simp at hq ⊢; exact hq
      have hcs2 : as' = cs := by rw [hcs]; simp
      subst hqN2
      rw [hcs2] at HR
      have hcn := hid (show (as'.length : Int) = cs.length by rw [hcs2])
      have b1 : decide ((q : Int) < (q : Int)) = false := decide_eq_false (by omega)
      clear hcs hq hcs2 Wk
      go_wp2_with fail
      refine E1.out.mono ?_
      rintro _ w1 ⟨rfl, b1'⟩
      have HB1 := hid (HB.out.trans (b1'.mono hz))
      obtain ⟨bb, oo, rfl, r1⟩ := (HT.out.sl.bel HB1.out).rc1 (show i < T.length by omega)
      obtain ⟨x0, x1, x2, x3, x4, x5, x6⟩ := rec_re r1
      have hx' := Hxi.out
      have zi : (i : Int) < (T.length : Int) := by omega
      generalize rgt T i = m at *
      obtain ⟨mk, md, ml, mh, mz, mn, ma, ms, mc⟩ := m
      dsimp only [Rm.rn] at *
      subst hx'
      clear r1 b1' E1 HB
      have hblk := blk_kids (k := k) (x := ⟨mk, md, ml, mh, mz, mn, ms⟩) Hp.out
      dsimp only at hblk
      obtain ⟨⟨hlo0, hlo9, hhi0, hhi9⟩, hk0, hk6⟩ := hno'
      dsimp only at hlo0 hlo9 hhi0 hhi9 hk0 hk6
      have hloc := Hloc.out
      unfold ReM.Loc at hloc
      dsimp only at hloc
      have hone : cs.length = 1 → sumB (cs.map (blk k)) = (blk k cs.flatten).length := fun h => by
        match cs, h with
        | [c], _ => simp [sumB]
      have HOne := hid hone
      have HBlk := hid hblk
      have HLoc := hid hloc
      clear hblk hloc hone
      go_upto_region 8 with fail
      obtain ⟨V, hV⟩ : ∃ V, V = w1.alloc (.cells #[.int .i64 mk, .int .i64 md, .int .i64 ml, .int .i64 mh, .bool mz, .bool mn, .slice ma ms.length mc] 128) := ⟨_, rfl⟩
      have nn : NdC V w1.heap.size mk md ml mh mz mn (.slice ma ms.length mc) := by subst hV; exact NdC.new _ _ _ _ _ _ _ _ _ _ rfl
      have HBV : Hid (Below w.heap.size w V) := by subst hV; exact HB1.out.alloc (by have := HB1.out.size; omega) _
      rw [← hV]
      clear hV HB1 x0 x1 x2 x3 x4 x5 x6
      (have g0 := nn.c0; have g1 := nn.c1; have g2 := nn.c2; have g3 := nn.c3; have g4 := nn.c4; have g5 := nn.c5; have g6 := nn.c6; have gf0 := nn.fz 0; have gf1 := nn.fz 1; have gf2 := nn.fz 2; have gf3 := nn.fz 3; have gf4 := nn.fz 4; have gf5 := nn.fz 5; have gf6 := nn.fz 6; have gz := nn.lt; clear nn)
      rcases (show mk = 2 ∨ mk = 3 ∨ mk = 4 ∨ mk = 1 ∨ mk = 5 ∨ mk = 6 ∨ mk = 0 by omega) with rfl | rfl | rfl | rfl | rfl | rfl | rfl
      · go_wp2_with fail
        go_ret
        exact ⟨1, rfl, by rw [HBlk.out]; show RelS 1 1; exact ⟨fun _ => rfl, fun h => by omega, by omega⟩, by decide, HBV.out⟩
      · go_wp2_with fail
        go_ret
        exact ⟨1, rfl, by rw [HBlk.out]; show RelS 1 1; exact ⟨fun _ => rfl, fun h => by omega, by omega⟩, by decide, HBV.out⟩
      · go_wp2_with fail
        go_ret
        exact ⟨1, rfl, by rw [HBlk.out]; show RelS 1 1; exact ⟨fun _ => rfl, fun h => by omega, by omega⟩, by decide, HBV.out⟩
      · have h2 := HLoc.out.2.2.1 rfl
        have hcn' := hcn.out
        have wa : IntKind.i64.wrap ((as'.length : Int) - 1) = (as'.length : Int) - 1 := by rw [IntKind.wrap_i64]; omega
        have wb : IntKind.i64.wrap (2 * ((as'.length : Int) - 1)) = 2 * ((as'.length : Int) - 1) := by rw [IntKind.wrap_i64]; omega
        have wc : IntKind.i64.wrap (s + 2 * ((as'.length : Int) - 1)) = s + 2 * ((as'.length : Int) - 1) := by rw [IntKind.wrap_i64]; omega
        clear hcn'
        go_wp2_with fail
        go_ret
        refine ⟨_, rfl, ?_, by omega, HBV.out⟩
        have hcn' := hcn.out
        rw [HBlk.out]
        show RelS _ (altC (altLen (cs.map (blk k))) 0 (cs.map (blk k))).length
        rw [altC_len, altLen_eq _ (by intro h; have := congrArg List.length h; simp at this; rw [this] at h2; simp at h2), List.length_map]
        have hq2 := HR.out.plus (2 * (cs.length - 1))
        rw [show ((2 * (cs.length - 1) : Nat) : Int) = 2 * ((as'.length : Int) - 1) by omega] at hq2
        exact hq2
      · have h1 := HOne.out (HLoc.out.1 rfl)
        have wa : IntKind.i64.wrap (s + 2) = s + 2 := by rw [IntKind.wrap_i64]; omega
        have hr := HR.out
        rw [h1] at hr
        by_cases hl0 : ml = 0
        · subst hl0
          go_wp2_with fail
          go_ret
          exact ⟨s, rfl, by rw [HBlk.out]; exact hr, by omega, HBV.out⟩
        · have b2 : decide ((0 : Int) < ml) = true := decide_eq_true (by omega)
          have hg : (groupB (blk k cs.flatten) ml).length = (blk k cs.flatten).length + 2 := by unfold groupB; rw [if_neg hl0]; simp [shI_len]
          have Hg := hid hg
          have Hr := hid hr
          clear hg h1 hr
          go_wp2_with fail
          go_ret
          exact ⟨s + 2, rfl, by rw [HBlk.out]; show RelS _ (groupB (blk k cs.flatten) ml).length; rw [Hg.out]; exact Hr.out.plus 2, by omega, HBV.out⟩
      · have hL6 := HLoc.out.2.1 rfl
        have h1 := HOne.out hL6.1
        have hr := HR.out
        rw [h1] at hr
        obtain ⟨lo, rfl⟩ := Int.eq_ofNat_of_zero_le hlo0
        have hp0 : 0 ≤ (lo : Int) * s := Int.mul_nonneg (by omega) hs0
        have hp1 : (lo : Int) * s ≤ 9 * 100000 := Int.mul_le_mul (by omega) hs hs0 (by omega)
        have wa : IntKind.i64.wrap ((lo : Int) * s) = (lo : Int) * s := by rw [IntKind.wrap_i64]; omega
        have hcat := rep_len lo (blk k cs.flatten)
        have Hcat := hid hcat
        clear hcat h1
        by_cases hh : mh = -1
        · subst hh
          have wb : IntKind.i64.wrap ((lo : Int) * s + s) = (lo : Int) * s + s := by rw [IntKind.wrap_i64]; omega
          have wc : IntKind.i64.wrap ((lo : Int) * s + s + 2) = (lo : Int) * s + s + 2 := by rw [IntKind.wrap_i64]; omega
          have hz2 := ((hr.times lo).both hr).plus 2
          have Hz1 := hid (hz2)
          have Hz2 := hid (hz2.sat)
          clear hz2 hr
          go_wp2_with fail
          all_goals
            go_ret
            refine ⟨_, rfl, ?_, by omega, HBV.out⟩
            rw [HBlk.out]
            show RelS _ (catB (List.replicate (lo : Int).toNat (blk k cs.flatten) ++ [loopB (blk k cs.flatten) mz])).length
            rw [Int.toNat_natCast, Hcat.out, loopB_len, ← Nat.add_assoc]
            have e1 := Hz1.out
            have e2 := Hz2.out
            rw [show (((2 : Nat)) : Int) = 2 from rfl] at e1 e2
            first
              | exact e1
              | (rw [Int.min_eq_right (by omega)] at e2; exact e2)
        · have hhi : 0 ≤ mh := by omega
          have hlh := hL6.2 hhi
          obtain ⟨D, hD⟩ : ∃ D : Nat, mh - (lo : Int) = D := ⟨(mh - lo).toNat, by omega⟩
          have b2 : decide (mh < (0 : Int)) = false := decide_eq_false (by omega)
          have hq0 : 0 ≤ (D : Int) * (s + 1) := Int.mul_nonneg (by omega) (by omega)
          have hq1 : (D : Int) * (s + 1) ≤ 9 * 100001 := Int.mul_le_mul (by omega) (by omega) (by omega) (by omega)
          have wb : IntKind.i64.wrap (mh - (lo : Int)) = (D : Int) := by rw [IntKind.wrap_i64]; omega
          have wc : IntKind.i64.wrap (s + 1) = s + 1 := by rw [IntKind.wrap_i64]; omega
          have wd : IntKind.i64.wrap ((D : Int) * (s + 1)) = (D : Int) * (s + 1) := by rw [IntKind.wrap_i64]; omega
          have we : IntKind.i64.wrap ((lo : Int) * s + (D : Int) * (s + 1)) = (lo : Int) * s + (D : Int) * (s + 1) := by rw [IntKind.wrap_i64]; omega
          have hz2 := (hr.times lo).both ((hr.plus 1).times D)
          rw [show (((1 : Nat)) : Int) = 1 from rfl] at hz2
          have Hz1 := hid (hz2)
          have Hz2 := hid (hz2.sat)
          have hDn : (mh - (lo : Int)).toNat = D := by omega
          have HDn := hid hDn
          clear hz2 hr hDn hD
          go_wp2_with fail
          all_goals
            go_ret
            refine ⟨_, rfl, ?_, by omega, HBV.out⟩
            rw [HBlk.out]
            show RelS _ (catB (List.replicate (lo : Int).toNat (blk k cs.flatten) ++ [if mh = -1 then loopB (blk k cs.flatten) mz else optB (blk k cs.flatten) mz (mh - (lo : Int)).toNat])).length
            rw [Int.toNat_natCast, if_neg hh, Hcat.out, optB_len, HDn.out]
            have e1 := Hz1.out
            have e2 := Hz2.out
            first
              | exact e1
              | (rw [Int.min_eq_right (by omega)] at e2; exact e2)
      · have hr := HR.out
        rw [← catB_len] at hr
        have Hr := hid hr
        clear hr
        go_wp2_with fail
        go_ret
        exact ⟨s, rfl, by rw [HBlk.out]; exact Hr.out, by omega, HBV.out⟩
theorem size_all (k : Nat) : SizeC k := by
  induction k with
  | zero => intro a c T w i d t h hS hk; have := hS.len.2; omega
  | succ k ih => exact size_step k ih
end Go.Proofs.YtefgjicegbhcaaaGreat
namespace Go.Proofs.YtefgjicegbhcaaaGreat
open Go.RowKit ReM

structure IdC (w : World) (b : Nat) (o x y : Int) (n : Bool) (s : Value) : Prop where
  c0 : w.cell? ⟨b, 0, none⟩ = some (.int .i64 o)
  c1 : w.cell? ⟨b, 1, none⟩ = some (.int .i64 x)
  c2 : w.cell? ⟨b, 2, none⟩ = some (.int .i64 y)
  c3 : w.cell? ⟨b, 3, none⟩ = some (.bool n)
  c4 : w.cell? ⟨b, 4, none⟩ = some s
theorem IdC.new (w : World) (o x y : Int) (n : Bool) (s : Value) (T : TypeId) (b : Nat) (hb : b = w.heap.size) : IdC (w.alloc (.cells #[.int .i64 o, .int .i64 x, .int .i64 y, .bool n, s] T)) b o x y n s := by
  subst hb
  exact ⟨by rw [cell_alloc_new]; rfl, by rw [cell_alloc_new]; rfl, by rw [cell_alloc_new]; rfl, by rw [cell_alloc_new]; rfl, by rw [cell_alloc_new]; rfl⟩
theorem IdC.alloc {w : World} {b : Nat} {o x y : Int} {n : Bool} {s : Value} (h : IdC w b o x y n s) (ob : Obj) : IdC (w.alloc ob) b o x y n s := by
  have hl := World.block_lt_of_cell? w _ h.c0
  have e : (w.alloc ob).heap[b]? = w.heap[b]? := ((Below.refl w.heap.size w).alloc (Nat.le_refl _) ob).block b hl
  have c : ∀ i, (w.alloc ob).cell? ⟨b, i, none⟩ = w.cell? ⟨b, i, none⟩ := fun i => World.cell?_of_block (a := ⟨b, i, none⟩) e
  exact ⟨by rw [c]; exact h.c0, by rw [c]; exact h.c1, by rw [c]; exact h.c2, by rw [c]; exact h.c3, by rw [c]; exact h.c4⟩
def Ims (w : World) (l : List Im) : Prop := ∀ m, m ∈ l → Sl w m.sa m.set
theorem Ims.bel {w w' : World} {l : List Im} (h : Ims w l) (hb : Below w.heap.size w w') : Ims w' l := fun m hm => (h m hm).bel hb
end Go.Proofs.YtefgjicegbhcaaaGreat
namespace Go.Proofs.YtefgjicegbhcaaaGreat
open Go.RowKit ReM

/-- an instruction in a variable of its own -/
structure InC (w : World) (b : Nat) (o x y : Int) (n : Bool) (s : Value) : Prop where
  c0 : w.cell? ⟨b, 0, none⟩ = some (.int .i64 o)
  c1 : w.cell? ⟨b, 1, none⟩ = some (.int .i64 x)
  c2 : w.cell? ⟨b, 2, none⟩ = some (.int .i64 y)
  c3 : w.cell? ⟨b, 3, none⟩ = some (.bool n)
  c4 : w.cell? ⟨b, 4, none⟩ = some s
  fz : ∀ i, w.frozen? ⟨b, i, none⟩ = false
theorem InC.new (w : World) (o x y : Int) (n : Bool) (s : Value) (T : TypeId) (b : Nat) (hb : b = w.heap.size) : InC (w.alloc (.cells #[.int .i64 o, .int .i64 x, .int .i64 y, .bool n, s] T)) b o x y n s := by
  subst hb
  exact ⟨by rw [cell_alloc_new]; rfl, by rw [cell_alloc_new]; rfl, by rw [cell_alloc_new]; rfl, by rw [cell_alloc_new]; rfl, by rw [cell_alloc_new]; rfl, fun i => by simp⟩
theorem InC.set1 {w : World} {b : Nat} {o x y : Int} {n : Bool} {s : Value} (h : InC w b o x y n s) (v : Int) : InC (w.setCell ⟨b, 1, none⟩ (.int .i64 v)) b o v y n s :=
  ⟨cell_set1 h.c0 (by decide), by rw [World.cell?_setCell_same (h := h.c1)], cell_set1 h.c2 (by decide), cell_set1 h.c3 (by decide), cell_set1 h.c4 (by decide), fun i => by rw [World.frozen?_setCell]; exact h.fz i⟩
theorem InC.set2 {w : World} {b : Nat} {o x y : Int} {n : Bool} {s : Value} (h : InC w b o x y n s) (v : Int) : InC (w.setCell ⟨b, 2, none⟩ (.int .i64 v)) b o x v n s :=
  ⟨cell_set1 h.c0 (by decide), cell_set1 h.c1 (by decide), by rw [World.cell?_setCell_same (h := h.c2)], cell_set1 h.c3 (by decide), cell_set1 h.c4 (by decide), fun i => by rw [World.frozen?_setCell]; exact h.fz i⟩
abbrev RIn (w : World) (base : Nat) (a : Option Addr) (c : Nat) (l : List Im) : Prop := ROwn encIn 121 w base a c l
/-- a new program -/
def InsP (w : World) (T : List Rm) (res : List Ins) (e' : Ending) (w' : World) : Prop :=
  ∃ a' c' L', e' = .returned (.slice a' L'.length c') ∧ inss L' = res ∧ RIn w' w.heap.size a' c' L' ∧ (∀ v, Rms v (fun _ => False) T → Ims v L') ∧ Below w.heap.size w w'
/-- a shifted program: its sets are those of the other one -/
def ShP (w : World) (L : List Im) (j : Nat) (e' : Ending) (w' : World) : Prop :=
  ∃ a' c' L', e' = .returned (.slice a' L'.length c') ∧ inss L' = shI j (inss L) ∧ RIn w' w.heap.size a' c' L' ∧ L'.map Im.key = L.map Im.key ∧ Below w.heap.size w w'
theorem Ims.key {w : World} {L M : List Im} (h : Ims w L) (hk : M.map Im.key = L.map Im.key) : Ims w M := fun m hm => by
  have h1 : m.key ∈ L.map Im.key := by rw [← hk]; exact List.mem_map.2 ⟨m, hm, rfl⟩
  obtain ⟨q, hq, he⟩ := List.mem_map.1 h1
  have h2 := h q hq
  simp only [Im.key, Prod.mk.injEq] at he
  rw [← he.1, ← he.2.1]
  exact h2
def InB (l : List Ins) : Prop := ∀ q, q ∈ l → (q.op = 4 ∨ q.op = 5 → 0 ≤ q.x ∧ q.x ≤ 1000000) ∧ (q.op = 4 → 0 ≤ q.y ∧ q.y ≤ 1000000)
theorem inss_take (L : List Im) (k : Nat) : inss (L.take k) = (inss L).take k := by simp [inss]
theorem shI_take {l : List Ins} {k j : Nat} (h : k < l.length) : shI j (l.take (k + 1)) = shI j (l.take k) ++ [shI1 j (igt l k)] := by
  rw [List.take_add_one, shI_app]
  congr 1
  rw [List.getElem?_eq_getElem h]
  simp only [Option.toList, shI, List.map_cons, List.map_nil, igt, List.getD_eq_getElem?_getD, List.getElem?_eq_getElem h, Option.getD_some]
theorem Ims.app {w : World} {l r : List Im} (h : Ims w l) (hr : Ims w r) : Ims w (l ++ r) := fun m hm => by
  rcases List.mem_append.1 hm with hm | hm
  · exact h m hm
  · exact hr m hm
set_option maxRecDepth 20000 in
set_option maxHeartbeats 16000000 in
theorem shifted_d (a : Option Addr) (c : Nat) (L : List Im) (j : Nat) (w : World) (h : RSl encIn w a L) (hj : j ≤ 1000000) (hx : InB (inss L)) (hl : L.length ≤ 1000000) :
    Calls Tryz.prog 81 #[.slice a L.length c, .int .i64 j] w (ShP w L j) := by
  have HS := hid h
  have HX := hid hx
  clear h hx
  go_enter Tryz.func81, Tryz.ntmps81
  go_wp2_with fail
  go_loopg [5, 6] (L.length + 1) (fun gk lv kv wr => ∃ (k : Nat) (aL : Option Addr) (cL : Nat) (M : List Im), gk = L.length - k + 1 ∧ k ≤ L.length ∧ kv = .int .i64 k ∧ lv = .slice aL M.length cL ∧ M.length = k ∧ Hid (inss M = shI j ((inss L).take k)) ∧ Hid (RIn wr w.heap.size aL cL M) ∧ Hid (M.map Im.key = (L.take k).map Im.key) ∧ Hid (Below w.heap.size w wr))
  case atStart => exact ⟨0, none, 0, [], rfl, by omega, rfl, rfl, rfl, hid (by simp [inss, shI]), hid (ROwn.nil _ _), hid (by simp), hid (by (repeat' (first | exact Below.refl _ _ | assumption | refine bdrewN ?_ _ | refine Below.drew ?_ | refine Below.setCell ?_ (Nat.le_refl _) _ | refine bal ?_ _ | refine bthen ?_ (by assumption))))⟩
  case round =>
    obtain ⟨k, aL, cL, M, rfl, hk, rfl, rfl, hMl, HM, HO, HMi, HB⟩ := hrel
    have hz := HB.out.size
    by_cases hlt : k < L.length
    · obtain ⟨b, o, rfl, r1⟩ := (HS.out.bel HB.out).at hlt
      have r1 := r1 k hlt
      obtain ⟨x0, x1, x2, x3, x4⟩ := rec_in r1
      have hins : igt (inss L) k = (rgt L k).ins := igt_inss hlt
      have hmem : (rgt L k).ins ∈ inss L := List.mem_map.2 ⟨_, rgt_mem hlt, rfl⟩
      obtain ⟨hq1, hq2⟩ := HX.out _ hmem
      have HKt := hid (show (L.take (k + 1)).map Im.key = (L.take k).map Im.key ++ [(rgt L k).key] by rw [rgt_take hlt]; simp)
      have HT := hid (shI_take (l := inss L) (k := k) (j := j) (by rw [inss_len]; exact hlt))
      rw [hins] at HT
      have b1 : decide ((k : Int) < (L.length : Int)) = true := decide_eq_true (by omega)
      have zk : (k : Int) < (L.length : Int) := by omega
      have W1 : IntKind.i64.wrap ((k : Int) + 1) = ((k + 1 : Nat) : Int) := by rw [IntKind.wrap_i64]; omega
      have HML := hid hMl
      change wr.cell? ⟨b, o + k * 5, none⟩ = _ at x0
      change wr.cell? ⟨b, o + k * 5 + 1, none⟩ = _ at x1
      change wr.cell? ⟨b, o + k * 5 + 2, none⟩ = _ at x2
      change wr.cell? ⟨b, o + k * 5 + 3, none⟩ = _ at x3
      change wr.cell? ⟨b, o + k * 5 + 4, none⟩ = _ at x4
      clear r1 hins hmem hMl
      generalize rgt L k = m at *
      obtain ⟨mo, mx, my, mn, ma, ms, mc⟩ := m
      dsimp only [Im.ins] at *
      obtain ⟨V, hV⟩ : ∃ V, V = wr.alloc (.cells #[.int .i64 mo, .int .i64 mx, .int .i64 my, .bool mn, .slice ma ms.length mc] 121) := ⟨_, rfl⟩
      have nn : InC V wr.heap.size mo mx my mn (.slice ma ms.length mc) := by subst hV; exact InC.new _ _ _ _ _ _ _ _ rfl
      have bV : Below wr.heap.size wr V := by subst hV; (repeat' (first | exact Below.refl _ _ | assumption | refine bdrewN ?_ _ | refine Below.drew ?_ | refine bal ?_ _ | refine bthen ?_ (by assumption)))
      have zV : V.heap.size = wr.heap.size + 1 := by subst hV; simp
      go_upto_region 6 with fail
      rw [← hV]; clear hV x0 x1 x2 x3 x4
      have n0 := nn.c0
      have n1 := nn.c1
      have n2 := nn.c2
      have n3 := nn.c3
      have n4 := nn.c4
      have f1 := nn.fz 1
      have f2 := nn.fz 2
      rcases (show mo = 4 ∨ mo = 5 ∨ (mo ≠ 4 ∧ mo ≠ 5) by omega) with rfl | rfl | ⟨h4, h5⟩
      · obtain ⟨hx0, hx1⟩ := hq1 (.inl rfl)
        obtain ⟨hy0, hy1⟩ := hq2 rfl
        have wx : IntKind.i64.wrap (mx + (j : Int)) = mx + j := by rw [IntKind.wrap_i64]; omega
        have wy : IntKind.i64.wrap (my + (j : Int)) = my + j := by rw [IntKind.wrap_i64]; omega
        have nn2 := (nn.set1 (mx + j)).set2 (my + j)
        have bV2 := (bV.setCell (p := ⟨wr.heap.size, 1, none⟩) (Nat.le_refl _) (.int .i64 (mx + j))).setCell (p := ⟨wr.heap.size, 2, none⟩) (Nat.le_refl _) (.int .i64 (my + j))
        go_upto_region 10 with fail
        obtain ⟨V2, hV2⟩ : ∃ V2, V2 = (V.setCell ⟨wr.heap.size, 1, none⟩ (.int .i64 (mx + j))).setCell ⟨wr.heap.size, 2, none⟩ (.int .i64 (my + j)) := ⟨_, rfl⟩
        rw [← hV2] at nn2 bV2 ⊢
        have zV2 : V2.heap.size = wr.heap.size + 1 := by rw [hV2]; simpa using zV
        have hsh : shI1 j ⟨4, mx, my, mn, ms⟩ = ⟨4, mx + j, my + j, mn, ms⟩ := by simp [shI1]
        clear hV2
        obtain ⟨m0, m1, m2, m3, m4, -⟩ := nn2
        have hz2 := bV2.size
        have HBz := hid (HB.out.trans (bV2.mono hz))
        have HO2 := hid (HO.out.grow bV2)
        have HMi2 := hid HMi.out
        have HTe := hid (HT.out.trans (by rw [hsh] : _ = shI j ((inss L).take k) ++ [⟨4, mx + (j : Int), my + (j : Int), mn, ms⟩]))
        have hMb : M.length + 1 ≤ 2199023255552 := by have := HML.out; omega
        clear nn bV n0 n1 n2 n3 n4 f1 f2 hsh HT HO HMi HB bV2
        go_wp2_with ((at_builtin; (refine wpL_rapp Tryz.tyIn rfl (.tmp 39) (.tmp 41) rfl w.heap.size aL (some ⟨wr.heap.size + 1, 0, none⟩) M.length 1 cL 1 M [⟨4, mx + (j : Int), my + (j : Int), mn, ma, ms, mc⟩] rfl (by first | rfl | simp | omega) (HO2.out.grow (by (repeat' (first | exact Below.refl _ _ | assumption | refine bdrewN ?_ _ | refine Below.drew ?_ | refine bal ?_ _ | refine bthen ?_ (by assumption))))) rfl (by first | rfl | simp | omega) (RSl.lit (E := encIn) V2 ⟨4, mx + (j : Int), my + (j : Int), mn, ma, ms, mc⟩ 121 (wr.heap.size + 1) zV2.symm #[.int .i64 4, .int .i64 (mx + (j : Int)), .int .i64 (my + (j : Int)), .bool mn, .slice ma ms.length mc] rfl (by decide)) hMb (by simp; omega) ?_); intro a5 c5 w5 L5 Hl5 ho5 hb5 hk5 hA5; have HA5 := hid hA5; clear hA5; have Ho5 := hid ho5; clear ho5; have Hk5 := hid hk5; clear hk5; have hz5 := hb5.size))
        go_roundg (L.length - (k + 1) + 1)
        case measure => omega
        case rel =>
          refine ⟨k + 1, a5, c5, L5, rfl, by omega, by go_num, rfl, by rw [Hl5.out, List.length_append, HML.out]; rfl, hid ?_, Ho5, hid ?_, hid (HBz.out.trans (Below.trans ((Below.refl _ _).alloc (by omega) _) hb5))⟩
          · rw [Hl5.out, inss_app, HM.out, HTe.out]; rfl
          · rw [Hl5.out, List.map_append, HMi2.out, HKt.out]; rfl
      · obtain ⟨hx0, hx1⟩ := hq1 (.inr rfl)
        have wx : IntKind.i64.wrap (mx + (j : Int)) = mx + j := by rw [IntKind.wrap_i64]; omega
        have nn2 := nn.set1 (mx + j)
        have bV2 := bV.setCell (p := ⟨wr.heap.size, 1, none⟩) (Nat.le_refl _) (.int .i64 (mx + j))
        go_upto_region 10 with fail
        obtain ⟨V2, hV2⟩ : ∃ V2, V2 = V.setCell ⟨wr.heap.size, 1, none⟩ (.int .i64 (mx + j)) := ⟨_, rfl⟩
        rw [← hV2] at nn2 bV2 ⊢
        have zV2 : V2.heap.size = wr.heap.size + 1 := by rw [hV2]; simpa using zV
        have hsh : shI1 j ⟨5, mx, my, mn, ms⟩ = ⟨5, mx + j, my, mn, ms⟩ := by simp [shI1]
        clear hV2
        obtain ⟨m0, m1, m2, m3, m4, -⟩ := nn2
        have hz2 := bV2.size
        have HBz := hid (HB.out.trans (bV2.mono hz))
        have HO2 := hid (HO.out.grow bV2)
        have HMi2 := hid HMi.out
        have HTe := hid (HT.out.trans (by rw [hsh] : _ = shI j ((inss L).take k) ++ [⟨5, mx + (j : Int), my, mn, ms⟩]))
        have hMb : M.length + 1 ≤ 2199023255552 := by have := HML.out; omega
        clear nn bV n0 n1 n2 n3 n4 f1 f2 hsh HT HO HMi HB bV2
        go_wp2_with ((at_builtin; (refine wpL_rapp Tryz.tyIn rfl (.tmp 39) (.tmp 41) rfl w.heap.size aL (some ⟨wr.heap.size + 1, 0, none⟩) M.length 1 cL 1 M [⟨5, mx + (j : Int), my, mn, ma, ms, mc⟩] rfl (by first | rfl | simp | omega) (HO2.out.grow (by (repeat' (first | exact Below.refl _ _ | assumption | refine bdrewN ?_ _ | refine Below.drew ?_ | refine bal ?_ _ | refine bthen ?_ (by assumption))))) rfl (by first | rfl | simp | omega) (RSl.lit (E := encIn) V2 ⟨5, mx + (j : Int), my, mn, ma, ms, mc⟩ 121 (wr.heap.size + 1) zV2.symm #[.int .i64 5, .int .i64 (mx + (j : Int)), .int .i64 (my), .bool mn, .slice ma ms.length mc] rfl (by decide)) hMb (by simp; omega) ?_); intro a5 c5 w5 L5 Hl5 ho5 hb5 hk5 hA5; have HA5 := hid hA5; clear hA5; have Ho5 := hid ho5; clear ho5; have Hk5 := hid hk5; clear hk5; have hz5 := hb5.size))
        go_roundg (L.length - (k + 1) + 1)
        case measure => omega
        case rel =>
          refine ⟨k + 1, a5, c5, L5, rfl, by omega, by go_num, rfl, by rw [Hl5.out, List.length_append, HML.out]; rfl, hid ?_, Ho5, hid ?_, hid (HBz.out.trans (Below.trans ((Below.refl _ _).alloc (by omega) _) hb5))⟩
          · rw [Hl5.out, inss_app, HM.out, HTe.out]; rfl
          · rw [Hl5.out, List.map_append, HMi2.out, HKt.out]; rfl
      · have b4 : (mo == 4) = false := by simpa using h4
        have b5 : (mo == 5) = false := by simpa using h5
        go_upto_region 10 with fail
        obtain ⟨V2, hV2⟩ : ∃ V2, V2 = V := ⟨_, rfl⟩
        have hsh : shI1 j ⟨mo, mx, my, mn, ms⟩ = ⟨mo, mx, my, mn, ms⟩ := by simp [shI1, h4, h5]
        have nn2 := nn
        have bV2 := bV
        have zV2 := zV
        rw [← hV2] at nn2 bV2 zV2 ⊢
        clear hV2
        obtain ⟨m0, m1, m2, m3, m4, -⟩ := nn2
        have hz2 := bV2.size
        have HBz := hid (HB.out.trans (bV2.mono hz))
        have HO2 := hid (HO.out.grow bV2)
        have HMi2 := hid HMi.out
        have HTe := hid (HT.out.trans (by rw [hsh] : _ = shI j ((inss L).take k) ++ [⟨mo, mx, my, mn, ms⟩]))
        have hMb : M.length + 1 ≤ 2199023255552 := by have := HML.out; omega
        clear nn bV n0 n1 n2 n3 n4 f1 f2 hsh HT HO HMi HB bV2
        go_wp2_with ((at_builtin; (refine wpL_rapp Tryz.tyIn rfl (.tmp 39) (.tmp 41) rfl w.heap.size aL (some ⟨wr.heap.size + 1, 0, none⟩) M.length 1 cL 1 M [⟨mo, mx, my, mn, ma, ms, mc⟩] rfl (by first | rfl | simp | omega) (HO2.out.grow (by (repeat' (first | exact Below.refl _ _ | assumption | refine bdrewN ?_ _ | refine Below.drew ?_ | refine bal ?_ _ | refine bthen ?_ (by assumption))))) rfl (by first | rfl | simp | omega) (RSl.lit (E := encIn) V2 ⟨mo, mx, my, mn, ma, ms, mc⟩ 121 (wr.heap.size + 1) zV2.symm #[.int .i64 mo, .int .i64 (mx), .int .i64 (my), .bool mn, .slice ma ms.length mc] rfl (by decide)) hMb (by simp; omega) ?_); intro a5 c5 w5 L5 Hl5 ho5 hb5 hk5 hA5; have HA5 := hid hA5; clear hA5; have Ho5 := hid ho5; clear ho5; have Hk5 := hid hk5; clear hk5; have hz5 := hb5.size))
        go_roundg (L.length - (k + 1) + 1)
        case measure => omega
        case rel =>
          refine ⟨k + 1, a5, c5, L5, rfl, by omega, by go_num, rfl, by rw [Hl5.out, List.length_append, HML.out]; rfl, hid ?_, Ho5, hid ?_, hid (HBz.out.trans (Below.trans ((Below.refl _ _).alloc (by omega) _) hb5))⟩
          · rw [Hl5.out, inss_app, HM.out, HTe.out]; rfl
          · rw [Hl5.out, List.map_append, HMi2.out, HKt.out]; rfl
    · obtain rfl : k = L.length := by omega
      have b1 : decide ((L.length : Int) < (L.length : Int)) = false := by simp
      go_wp2_with fail
      go_ret
      exact ⟨aL, cL, M, rfl, by rw [HM.out, List.take_of_length_le (by rw [inss_len]; exact Nat.le_refl _)], HO.out, by rw [HMi.out, List.take_length], HB.out⟩
end Go.Proofs.YtefgjicegbhcaaaGreat
namespace Go.Proofs.YtefgjicegbhcaaaGreat
open Go.RowKit ReM

theorem InC.put {w : World} {b : Nat} {o x y : Int} {n : Bool} {s : Value} (h : InC w b o x y n s) (o' x' y' : Int) (n' : Bool) (s' : Value) :
    InC (((((w.setCell ⟨b, 0, none⟩ (.int .i64 o')).setCell ⟨b, 1, none⟩ (.int .i64 x')).setCell ⟨b, 2, none⟩ (.int .i64 y')).setCell ⟨b, 3, none⟩ (.bool n')).setCell ⟨b, 4, none⟩ s') b o' x' y' n' s' := by
  have h0 : InC (w.setCell ⟨b, 0, none⟩ (.int .i64 o')) b o' x y n s := ⟨by rw [World.cell?_setCell_same (h := h.c0)], cell_set1 h.c1 (by decide), cell_set1 h.c2 (by decide), cell_set1 h.c3 (by decide), cell_set1 h.c4 (by decide), fun i => by rw [World.frozen?_setCell]; exact h.fz i⟩
  have h2 := (h0.set1 x').set2 y'
  refine ⟨cell_set1 (cell_set1 h2.c0 (by decide)) (by decide), cell_set1 (cell_set1 h2.c1 (by decide)) (by decide), cell_set1 (cell_set1 h2.c2 (by decide)) (by decide), cell_set1 (by rw [World.cell?_setCell_same (h := h2.c3)]) (by decide), ?_, fun i => by simp only [World.frozen?_setCell]; exact h.fz i⟩
  have h4 := cell_set1 (o := 3) (v := .bool n') h2.c4 (by decide)
  rw [World.cell?_setCell_same (h := h4)]
theorem ret_in {fn : Func} {post : Ending → World → Prop} {at_ : Act} {w : World} {R : Nat} {o x y : Int} {n : Bool} {s : Value} (hr : fn.results = #[ResultVar.cell 6 121]) (ht : at_.tmps[6]?.getD undef = .pointer (some ⟨R, 0, none⟩)) (hd : at_.defers = [])
    (h : InC w R o x y n s) (hp : post (.returned (.agg #[.int .i64 o, .int .i64 x, .int .i64 y, .bool n, s])) w) : bodyPost Tryz.prog fn post Exit.ret at_ w :=
  bodyPost_ret (v := .agg #[.int .i64 o, .int .i64 x, .int .i64 y, .bool n, s]) (by simp [results, hr, go_sem, ht, h.c0, h.c1, h.c2, h.c3, h.c4]) hd hp
set_option maxRecDepth 20000 in
set_option maxHeartbeats 4000000 in
theorem split_d (m : Rm) (x y : Int) (w : World) : Calls Tryz.prog 131 #[rmV m, .int .i64 x, .int .i64 y] w fun e' w' =>
    e' = .returned (.agg #[.int .i64 4, .int .i64 (spl m.lazy x y).x, .int .i64 (spl m.lazy x y).y, .bool false, .slice none 0 0]) ∧ Below w.heap.size w w' := by
  unfold rmV
  obtain ⟨mk, md, ml, mh, mz, mn, ma, ms, mc⟩ := m
  dsimp only
  obtain ⟨V, hV⟩ : ∃ V, V = (w.alloc (.cells #[.int .i64 mk, .int .i64 md, .int .i64 ml, .int .i64 mh, .bool mz, .bool mn, .slice ma ms.length mc] 128)).alloc (.cells #[.int .i64 0, .int .i64 0, .int .i64 0, .bool false, .slice none 0 0] 121) := ⟨_, rfl⟩
  have nn : NdC V w.heap.size mk md ml mh mz mn (.slice ma ms.length mc) := by subst hV; exact (NdC.new _ _ _ _ _ _ _ _ _ _ rfl).alloc _
  have ii : InC V (w.heap.size + 1) 0 0 0 false (.slice none 0 0) := by subst hV; exact InC.new _ _ _ _ _ _ _ _ (by simp)
  have bV : Hid (Below w.heap.size w V) := by subst hV; exact ((Below.refl _ _).alloc (Nat.le_refl _) _).alloc (by simp) _
  have II := hid ii
  obtain ⟨i0, i1, i2, i3, i4, if_⟩ := ii
  have f0 := if_ 0
  have f1 := if_ 1
  have f2 := if_ 2
  have f3 := if_ 3
  have f4 := if_ 4
  have hsp : (spl mz x y).x = (if mz = true then y else x) ∧ (spl mz x y).y = (if mz = true then x else y) := by
    unfold spl; cases mz <;> exact ⟨rfl, rfl⟩
  rw [hsp.1, hsp.2]
  (have g0 := nn.c0; have g1 := nn.c1; have g2 := nn.c2; have g3 := nn.c3; have g4 := nn.c4; have g5 := nn.c5; have g6 := nn.c6; have gf0 := nn.fz 0; have gf1 := nn.fz 1; have gf2 := nn.fz 2; have gf3 := nn.fz 3; have gf4 := nn.fz 4; have gf5 := nn.fz 5; have gf6 := nn.fz 6; have gz := nn.lt; clear nn)
  clear if_ hsp
  cases mz with
  | true =>
    go_enter Tryz.func131, Tryz.ntmps131
    go_upto_region 1 with fail
    rw [← hV]; clear hV
    go_wp2_with fail
    refine ret_in Tryz.results131 rfl rfl (II.out.put 4 y x false (.slice none 0 0)) ?_
    exact ⟨rfl, ((((bV.out.setCell (by show _ ≤ w.heap.size + 1; omega) _).setCell (by show _ ≤ w.heap.size + 1; omega) _).setCell (by show _ ≤ w.heap.size + 1; omega) _).setCell (by show _ ≤ w.heap.size + 1; omega) _).setCell (by show _ ≤ w.heap.size + 1; omega) _⟩
  | false =>
    go_enter Tryz.func131, Tryz.ntmps131
    go_upto_region 1 with fail
    rw [← hV]; clear hV
    go_wp2_with fail
    refine ret_in Tryz.results131 rfl rfl (II.out.put 4 x y false (.slice none 0 0)) ?_
    exact ⟨rfl, ((((bV.out.setCell (by show _ ≤ w.heap.size + 1; omega) _).setCell (by show _ ≤ w.heap.size + 1; omega) _).setCell (by show _ ≤ w.heap.size + 1; omega) _).setCell (by show _ ≤ w.heap.size + 1; omega) _).setCell (by show _ ≤ w.heap.size + 1; omega) _⟩
def repB (m : Rm) (b : List Ins) : List Ins := catB (List.replicate m.lo.toNat b ++ [if m.hi = -1 then loopB b m.lazy else optB b m.lazy (m.hi - m.lo).toNat])
/-- a program whose sets are another one's -/
def RptP (w : World) (L : List Im) (res : List Ins) (e' : Ending) (w' : World) : Prop :=
  ∃ a' c' L', e' = .returned (.slice a' L'.length c') ∧ inss L' = res ∧ RIn w' w.heap.size a' c' L' ∧ (∀ v, Ims v L → Ims v L') ∧ Below w.heap.size w w'
theorem cat_rep (k : Nat) (b : List Ins) : catB (List.replicate (k + 1) b) = catB (List.replicate k b) ++ shI (k * b.length) b := by
  rw [List.replicate_succ', catB_app, catB_one]
  congr 2
  rw [catB_len]; simp [sumB]
theorem Ims.one0 (v : World) (o x y : Int) (n : Bool) : Ims v [⟨o, x, y, n, none, [], 0⟩] := fun m hm => by
  rw [List.mem_singleton.1 hm]; exact Sl.nil _ _
theorem inss_one (o x y : Int) (n : Bool) (a : Option Addr) (s : List Int) (c : Nat) : inss [⟨o, x, y, n, a, s, c⟩] = [⟨o, x, y, n, s⟩] := rfl
theorem len_step (q l5 l6 l z : Nat) (h1 : q ≤ 90000 + z) (h2 : l5 = q + 1) (h3 : l6 = l) (hl : l ≤ 10000) : l5 + l6 ≤ 90000 + (z + 10001) := by omega
theorem spl_eta (z : Bool) (x y : Int) : spl z x y = ⟨4, (spl z x y).x, (spl z x y).y, false, []⟩ := by unfold spl iSplit; cases z <;> rfl
theorem loop_sh (n : Nat) (b : List Ins) (z : Bool) : shI n (loopB b z) = spl z ((n : Int) + 1) ((n : Int) + b.length + 2) :: (shI (n + 1) b ++ [iJump n]) := by
  unfold loopB
  rw [shI_cons, spl_sh, shI_app, shI_two]
  congr 1
  · congr 1 <;> omega
  · congr 1
    simp [shI, shI1, iJump]
theorem rep_loop (k : Nat) (b : List Ins) (z : Bool) : catB (List.replicate k b ++ [loopB b z]) = catB (List.replicate k b) ++ spl z (((k * b.length : Nat) : Int) + 1) (((k * b.length : Nat) : Int) + b.length + 2) :: (shI (k * b.length + 1) b ++ [iJump ((k * b.length : Nat) : Int)]) := by
  rw [catB_app, catB_one, show (catB (List.replicate k b)).length = k * b.length by rw [catB_len]; simp [sumB], loop_sh]
theorem rep_opt (k : Nat) (b : List Ins) (z : Bool) (D : Nat) : catB (List.replicate k b ++ [optB b z D]) = catB (List.replicate k b) ++ optC (fun i => spl z (i + 1) (((D * (b.length + 1) : Nat) : Int) + (k * b.length : Nat))) b (k * b.length) D := by
  rw [catB_app, catB_one, show (catB (List.replicate k b)).length = k * b.length by rw [catB_len]; simp [sumB]]
  unfold optB
  rw [optC_sh]
  rfl
set_option maxRecDepth 20000 in
set_option maxHeartbeats 16000000 in
theorem repeated_dd (m : Rm) (a : Option Addr) (c : Nat) (L : List Im) (w : World) (h : RSl encIn w a L) (hx : InB (inss L)) (hl : L.length ≤ 10000) (hlo : 0 ≤ m.lo ∧ m.lo ≤ 9) (hhi : -1 ≤ m.hi ∧ m.hi ≤ 9) (hlh : 0 ≤ m.hi → m.lo ≤ m.hi) :
    Calls Tryz.prog 111 #[rmV m, .slice a L.length c] w (RptP w L (repB m (inss L))) := by
  obtain ⟨mk, md, ml, mh, mz, mn, ma, ms, mc⟩ := m
  dsimp only at hlo hhi hlh
  obtain ⟨lo, rfl⟩ := Int.eq_ofNat_of_zero_le hlo.1
  obtain ⟨b, hb⟩ : ∃ b, b = inss L := ⟨_, rfl⟩
  have hbl : b.length = L.length := by rw [hb, inss_len]
  rw [← hb] at hx ⊢
  unfold rmV
  dsimp only
  obtain ⟨X, hX⟩ : ∃ X, X = repB ⟨mk, md, lo, mh, mz, mn, ma, ms, mc⟩ b := ⟨_, rfl⟩
  rw [← hX]
  have HX := hid hX
  have hlo9 : lo ≤ 9 := by omega
  have SD := fun x y w' => split_d ⟨mk, md, lo, mh, mz, mn, ma, ms, mc⟩ x y w'
  unfold rmV at SD
  dsimp only at SD
  have SD := hid SD
  obtain ⟨V, hV⟩ : ∃ V, V = w.alloc (.cells #[.int .i64 mk, .int .i64 md, .int .i64 (lo : Int), .int .i64 mh, .bool mz, .bool mn, .slice ma ms.length mc] 128) := ⟨_, rfl⟩
  have nn : NdC V w.heap.size mk md lo mh mz mn (.slice ma ms.length mc) := by subst hV; exact NdC.new _ _ _ _ _ _ _ _ _ _ rfl
  have bV : Hid (Below w.heap.size w V) := by subst hV; exact (Below.refl _ _).alloc (Nat.le_refl _) _
  have zV : V.heap.size = w.heap.size + 1 := by subst hV; simp
  have HS := hid (h.bel bV.out)
  have Hb := hid hb
  have Hx := hid hx
  have Hbl := hid hbl
  have NN := hid nn
  have SH := hid (fun (j : Nat) (hj : j ≤ 1000000) (w' : World) (hw : Below V.heap.size V w') => (show Calls Tryz.prog 81 #[.slice a L.length c, .int .i64 j] w' (ShP w' L j) from shifted_d a c L j w' (HS.out.bel hw) hj (by rw [← Hb.out]; exact Hx.out) (by omega)))
  clear h hx hb hbl nn hX
  go_enter Tryz.func111, Tryz.ntmps111
  go_upto_region 1 with fail
  rw [← hV]; clear hV
  go_wp2_with fail
  go_loopg [5, 6] (lo + 1) (fun gk ov kv wr => ∃ (k : Nat) (aO : Option Addr) (cO : Nat) (O : List Im), gk = lo - k + 1 ∧ k ≤ lo ∧ kv = .int .i64 k ∧ ov = .slice aO O.length cO ∧ Hid (inss O = catB (List.replicate k b)) ∧ Hid (RIn wr V.heap.size aO cO O) ∧ Hid (∀ v, Ims v L → Ims v O) ∧ Hid (Below V.heap.size V wr))
  case atStart => exact ⟨0, none, 0, [], rfl, by omega, rfl, rfl, hid rfl, hid (ROwn.nil _ _), hid (fun v _ m hm => by cases hm), hid (Below.refl _ _)⟩
  case round =>
    obtain ⟨k, aO, cO, O, rfl, hk, rfl, rfl, HO, HR, HI, HB⟩ := hrel
    have hz := HB.out.size
    have nq : NdC _ w.heap.size mk md lo mh mz mn (.slice ma ms.length mc) := NN.out.same (HB.out.block w.heap.size (by omega))
    have hOl : O.length = k * b.length := by rw [← inss_len, HO.out, catB_len]; simp [sumB]
    have hOb : k * b.length ≤ 9 * 10000 := Nat.mul_le_mul (by omega) (by have := Hbl.out; omega)
    by_cases hlt : k < lo
    · have b1 : decide ((k : Int) < (lo : Int)) = true := decide_eq_true (by omega)
      have W1 : IntKind.i64.wrap ((k : Int) + 1) = ((k + 1 : Nat) : Int) := by rw [IntKind.wrap_i64]; omega
      have HOl := hid hOl
      have hOs : O.length ≤ 90000 := by omega
      have S1 := hid (SH.out O.length (by omega) wr HB.out)
      clear hOl
      (have g0 := nq.c0; have g1 := nq.c1; have g2 := nq.c2; have g3 := nq.c3; have g4 := nq.c4; have g5 := nq.c5; have g6 := nq.c6; have gf0 := nq.fz 0; have gf1 := nq.fz 1; have gf2 := nq.fz 2; have gf3 := nq.fz 3; have gf4 := nq.fz 4; have gf5 := nq.fz 5; have gf6 := nq.fz 6; have gz := nq.lt; clear nq)
      go_wp2_with fail
      refine S1.out.mono ?_
      rintro _ w3 ⟨a3, c3, L3, rfl, hL3, o3, k3, b3⟩
      have HL3 := hid hL3
      have O3 := hid o3.sl
      have K3 := hid k3
      have hL3l : L3.length = L.length := by have := congrArg List.length k3; simpa using this
      have R3 := hid (HR.out.grow b3)
      have B3 := hid (HB.out.trans (b3.mono hz))
      have z3 := b3.size
      have HL3l := hid hL3l
      have hsum : O.length + L3.length ≤ 2199023255552 := by omega
      clear hL3 o3 k3 b3 hL3l S1 HR HB
      go_wp2_with ((at_builtin; (refine wpL_rapp Tryz.tyIn rfl (.tmp 16) (.tmp 20) rfl V.heap.size aO a3 O.length L3.length cO c3 O L3 rfl (by first | rfl | simp | omega) R3.out rfl (by first | rfl | simp | omega) O3.out hsum (by omega) ?_); intro a5 c5 w5 L5 Hl5 ho5 hb5 hk5 hA5; have HA5 := hid hA5; clear hA5; have Ho5 := hid ho5; clear ho5; have Hk5 := hid hk5; clear hk5; have hz5 := hb5.size))
      go_roundg (lo - (k + 1) + 1)
      case measure => omega
      case rel =>
        refine ⟨k + 1, a5, c5, L5, rfl, by omega, by go_num, rfl, hid ?_, Ho5, hid ?_, hid (B3.out.trans hb5)⟩
        · rw [Hl5.out, inss_app, HO.out, HL3.out, cat_rep, ← HOl.out, ← Hb.out]
        · intro v hv
          rw [Hl5.out]
          exact (HI.out v hv).app (hv.key K3.out)
    · obtain rfl : k = lo := by omega
      have b1 : decide ((k : Int) < (k : Int)) = false := decide_eq_false (by omega)
      have HOl := hid hOl
      have hOs : O.length ≤ 90000 := by omega
      have hnl : L.length ≤ 10000 := hl
      clear hOl hlt
      by_cases hh : mh = -1
      · have b2 : decide (mh < (0 : Int)) = true := decide_eq_true (by omega)
        have HX2 := hid (HX.out.trans (by unfold repB; dsimp only; rw [if_pos hh]; rfl : _ = catB (List.replicate k b ++ [loopB b mz])))
        have Hh := hid hh
        clear hh
        have W1 : IntKind.i64.wrap ((O.length : Int) + 1) = ((O.length + 1 : Nat) : Int) := by rw [IntKind.wrap_i64]; omega
        have W2 : IntKind.i64.wrap ((O.length : Int) + (L.length : Int)) = (O.length : Int) + L.length := by rw [IntKind.wrap_i64]; omega
        have W3 : IntKind.i64.wrap ((O.length : Int) + (L.length : Int) + 2) = (O.length : Int) + L.length + 2 := by rw [IntKind.wrap_i64]; omega
        obtain ⟨sx, hsx⟩ : ∃ sx, sx = (spl mz ((O.length : Int) + 1) ((O.length : Int) + L.length + 2)).x := ⟨_, rfl⟩
        obtain ⟨sy, hsy⟩ : ∃ sy, sy = (spl mz ((O.length : Int) + 1) ((O.length : Int) + L.length + 2)).y := ⟨_, rfl⟩
        have HSX := hid hsx
        have HSY := hid hsy
        have S1 := hid (SD.out ((O.length : Int) + 1) ((O.length : Int) + L.length + 2) wr)
        rw [← hsx, ← hsy] at S1
        clear hsx hsy
        (have g0 := nq.c0; have g1 := nq.c1; have g2 := nq.c2; have g3 := nq.c3; have g4 := nq.c4; have g5 := nq.c5; have g6 := nq.c6; have gf0 := nq.fz 0; have gf1 := nq.fz 1; have gf2 := nq.fz 2; have gf3 := nq.fz 3; have gf4 := nq.fz 4; have gf5 := nq.fz 5; have gf6 := nq.fz 6; have gz := nq.lt; clear nq)
        go_wp2_with fail
        refine S1.out.mono ?_
        rintro _ w3 ⟨rfl, b3⟩
        have R3 := hid (HR.out.grow b3)
        have B3 := hid (HB.out.trans (b3.mono hz))
        have z3 := B3.out.size
        clear b3 S1 HR HB
        clear g0 g1 g2 g3 g4 g5 g6 gf0 gf1 gf2 gf3 gf4 gf5 gf6 gz
        go_upto_region 9 with ((at_builtin; (refine wpL_rapp Tryz.tyIn rfl (.tmp 27) (.tmp 37) rfl V.heap.size aO (some ⟨w3.heap.size, 0, none⟩) O.length 1 cO 1 O [⟨4, sx, sy, false, none, [], 0⟩] rfl (by first | rfl | simp | omega) (R3.out.grow (by (repeat' (first | exact Below.refl _ _ | assumption | refine bdrewN ?_ _ | refine Below.drew ?_ | refine bal ?_ _ | refine bthen ?_ (by assumption))))) rfl (by first | rfl | simp | omega) (RSl.lit (E := encIn) w3 ⟨4, sx, sy, false, none, [], 0⟩ 121 w3.heap.size rfl #[.int .i64 4, .int .i64 sx, .int .i64 sy, .bool false, .slice none 0 0] rfl (by decide)) (by simp; show O.length + 1 ≤ 2199023255552; omega) (by simp; omega) ?_); intro a5 c5 w5 L5 Hl5 ho5 hb5 hk5 hA5; have HA5 := hid hA5; clear hA5; have Ho5 := hid ho5; clear ho5; have Hk5 := hid hk5; clear hk5; have hz5 := hb5.size))
        have B5 := hid (B3.out.trans (Below.trans ((Below.refl _ _).alloc z3 _) hb5))
        have z5 := B5.out.size
        have HL5l := hid (show L5.length = O.length + 1 by rw [Hl5.out]; simp)
        have hL5l : L5.length ≤ 90001 := by rw [HL5l.out]; omega
        have S2 := hid (SH.out (O.length + 1) (by omega) w5 B5.out)
        clear hb5 hz5 Hk5 HA5 R3 B3
        go_wp2_with fail
        refine S2.out.mono ?_
        rintro _ w6 ⟨a6, c6, L6, rfl, hL6, o6, k6, b6⟩
        have HL6 := hid hL6
        have K6 := hid k6
        have hL6l : L6.length = L.length := by have := congrArg List.length k6; simpa using this
        have O6 := hid o6.sl
        have R6 := hid (Ho5.out.grow b6)
        have B6 := hid (B5.out.trans (b6.mono z5))
        have z6 := B6.out.size
        have hsum : L5.length + L6.length ≤ 2199023255552 := by omega
        have hsum2 : L5.length + L6.length ≤ 100001 := by omega
        clear hL6 o6 k6 b6 hL6l S2 Ho5 B5
        go_upto_region 10 with ((at_builtin; (refine wpL_rapp Tryz.tyIn rfl (.tmp 39) (.tmp 43) rfl V.heap.size a5 a6 L5.length L6.length c5 c6 L5 L6 rfl (by first | rfl | simp | omega) R6.out rfl (by first | rfl | simp | omega) O6.out hsum (by omega) ?_); intro a7 c7 w7 L7 Hl7 ho7 hb7 hk7 hA7; have HA7 := hid hA7; clear hA7; have Ho7 := hid ho7; clear ho7; have Hk7 := hid hk7; clear hk7; have hz7 := hb7.size))
        have B7 := hid (B6.out.trans hb7)
        have z7 := B7.out.size
        have hL7 : L7.length ≤ 100001 := by rw [Hl7.out, List.length_append]; exact hsum2
        clear hb7 hz7 Hk7 HA7 R6 B6 O6 hsum hsum2
        go_wp2_with ((at_builtin; (refine wpL_rapp Tryz.tyIn rfl (.tmp 45) (.tmp 48) rfl V.heap.size a7 (some ⟨w7.heap.size, 0, none⟩) L7.length 1 c7 1 L7 [⟨5, (O.length : Int), 0, false, none, [], 0⟩] rfl (by first | rfl | simp | omega) (Ho7.out.grow (by (repeat' (first | exact Below.refl _ _ | assumption | refine bdrewN ?_ _ | refine Below.drew ?_ | refine bal ?_ _ | refine bthen ?_ (by assumption))))) rfl (by first | rfl | simp | omega) (RSl.lit (E := encIn) w7 ⟨5, (O.length : Int), 0, false, none, [], 0⟩ 121 w7.heap.size rfl #[.int .i64 5, .int .i64 (O.length : Int), .int .i64 0, .bool false, .slice none 0 0] rfl (by decide)) (by simp; show L7.length + 1 ≤ 2199023255552; omega) (by simp; omega) ?_); intro a9 c9 w9 L9 Hl9 ho9 hb9 hk9 hA9; have HA9 := hid hA9; clear hA9; have Ho9 := hid ho9; clear ho9; have Hk9 := hid hk9; clear hk9; have hz9 := hb9.size))
        go_ret
        have hO := HOl.out
        refine ⟨a9, c9, L9, rfl, ?_, Ho9.out.base_le (by omega), fun v hv => ?_, (bV.out.trans ((B7.out.trans (Below.trans ((Below.refl _ _).alloc z7 _) hb9)).mono (by omega)))⟩
        · rw [HX2.out, rep_loop, ← hO, Hl9.out, Hl7.out, Hl5.out, inss_app, inss_app, inss_app, HO.out, HL6.out, ← Hb.out, inss_one, inss_one, HSX.out, HSY.out, Hbl.out, ← spl_eta, List.append_assoc, List.append_assoc]
          rfl
        · rw [Hl9.out, Hl7.out, Hl5.out]
          exact (((HI.out v hv).app (Ims.one0 _ _ _ _ _)).app (hv.key K6.out)).app (Ims.one0 _ _ _ _ _)
      · have hge : 0 ≤ mh := by omega
        have hle := hlh hge
        obtain ⟨D, rfl⟩ : ∃ D : Nat, mh = (k : Int) + D := ⟨(mh - k).toNat, by omega⟩
        have hD9 : D ≤ 9 := by omega
        have b2 : decide ((k : Int) + (D : Int) < 0) = false := decide_eq_false (by omega)
        have HX2 := hid (HX.out.trans (by
          unfold repB
          dsimp only
          rw [if_neg (by omega), show ((k : Int) + (D : Int) - (k : Int)).toNat = D by omega, Int.toNat_natCast, rep_opt] : _ = catB (List.replicate k b) ++ optC (fun i => spl mz (i + 1) (((D * (b.length + 1) : Nat) : Int) + (k * b.length : Nat))) b (k * b.length) D))
        have hp1 : (D : Int) * ((L.length : Int) + 1) ≤ 9 * 10001 := Int.mul_le_mul (by omega) (by omega) (by omega) (by omega)
        have hp0 : 0 ≤ (D : Int) * ((L.length : Int) + 1) := Int.mul_nonneg (by omega) (by omega)
        have Wa : IntKind.i64.wrap ((k : Int) + (D : Int) - (k : Int)) = (D : Int) := by rw [IntKind.wrap_i64]; omega
        have Wa' : IntKind.i64.wrap ((D : Int)) = (D : Int) := by rw [IntKind.wrap_i64]; omega
        have Wb : IntKind.i64.wrap ((L.length : Int) + 1) = (L.length : Int) + 1 := by rw [IntKind.wrap_i64]; omega
        have Wc : IntKind.i64.wrap ((D : Int) * ((L.length : Int) + 1)) = (D : Int) * ((L.length : Int) + 1) := by rw [IntKind.wrap_i64]; omega
        have Wd : IntKind.i64.wrap ((O.length : Int) + (D : Int) * ((L.length : Int) + 1)) = (O.length : Int) + (D : Int) * ((L.length : Int) + 1) := by rw [IntKind.wrap_i64]; omega
        obtain ⟨A, hA⟩ : ∃ A : Int, A = (O.length : Int) + (D : Int) * ((L.length : Int) + 1) := ⟨_, rfl⟩
        have HA := hid (show A = (((D * (b.length + 1) : Nat) : Int) + (k * b.length : Nat)) by rw [hA, HOl.out, Hbl.out]; push_cast; omega)
        have hA1 : 0 ≤ A ∧ A ≤ 1000000 := by omega
        have NH := hid (show NdC V w.heap.size mk md k ((k : Int) + D) mz mn (.slice ma ms.length mc) from NN.out)
        (have g0 := nq.c0; have g1 := nq.c1; have g2 := nq.c2; have g3 := nq.c3; have g4 := nq.c4; have g5 := nq.c5; have g6 := nq.c6; have gf0 := nq.fz 0; have gf1 := nq.fz 1; have gf2 := nq.fz 2; have gf3 := nq.fz 3; have gf4 := nq.fz 4; have gf5 := nq.fz 5; have gf6 := nq.fz 6; have gz := nq.lt; clear nq)
        go_wp2_with fail
        rw [← hA]
        clear hA Wa Wa' Wb Wc Wd hp0 hp1 b2
        clear g0 g1 g2 g3 g4 g5 g6 gf0 gf1 gf2 gf3 gf4 gf5 gf6 gz
        go_loopg [5, 9] (D + 1) (fun gk ov kv wr => ∃ (j : Nat) (aP : Option Addr) (cP : Nat) (Q : List Im), gk = D - j + 1 ∧ j ≤ D ∧ kv = .int .i64 ((k + j : Nat) : Int) ∧ ov = .slice aP Q.length cP ∧ Q.length ≤ 90000 + j * 10001 ∧ Hid (inss Q = catB (List.replicate k b) ++ optC (fun i => spl mz (i + 1) A) b (k * b.length) j) ∧ Hid (RIn wr V.heap.size aP cP Q) ∧ Hid (∀ v, Ims v L → Ims v Q) ∧ Hid (Below V.heap.size V wr))
        case atStart => exact ⟨0, aO, cO, O, rfl, by omega, rfl, rfl, by omega, hid (by rw [HO.out]; simp [optC]), HR, HI, HB⟩
        case round =>
          clear HR HI HB hz
          obtain ⟨j, aP, cP, Q, rfl, hj, rfl, rfl, hQ, HQ, HR, HI, HB⟩ := hrel
          have hz := HB.out.size
          have hjb : j * 10001 ≤ 9 * 10001 := Nat.mul_le_mul (by omega) (Nat.le_refl _)
          have hQl : Q.length ≤ 200000 := by omega
          have nq : NdC _ w.heap.size mk md k ((k : Int) + D) mz mn (.slice ma ms.length mc) := NH.out.same (HB.out.block w.heap.size (by omega))
          by_cases hlt : j < D
          · have b1 : decide (((k + j : Nat) : Int) < (k : Int) + (D : Int)) = true := decide_eq_true (by omega)
            have W1 : IntKind.i64.wrap (((k + j : Nat) : Int) + 1) = ((k + (j + 1) : Nat) : Int) := by rw [IntKind.wrap_i64]; omega
            have W2 : IntKind.i64.wrap ((Q.length : Int) + 1) = ((Q.length + 1 : Nat) : Int) := by rw [IntKind.wrap_i64]; omega
            obtain ⟨kj, hkj⟩ : ∃ kj, kj = k + j := ⟨_, rfl⟩
            have HKJ := hid hkj
            rw [← hkj] at b1 W1 ⊢
            obtain ⟨sx, hsx⟩ : ∃ sx, sx = (spl mz ((Q.length : Int) + 1) A).x := ⟨_, rfl⟩
            obtain ⟨sy, hsy⟩ : ∃ sy, sy = (spl mz ((Q.length : Int) + 1) A).y := ⟨_, rfl⟩
            have HSX := hid hsx
            have HSY := hid hsy
            have S1 := hid (SD.out ((Q.length : Int) + 1) A wr)
            have HQl := hid hQ
            clear hsx hsy hkj hQ hjb
            (have g0 := nq.c0; have g1 := nq.c1; have g2 := nq.c2; have g3 := nq.c3; have g4 := nq.c4; have g5 := nq.c5; have g6 := nq.c6; have gf0 := nq.fz 0; have gf1 := nq.fz 1; have gf2 := nq.fz 2; have gf3 := nq.fz 3; have gf4 := nq.fz 4; have gf5 := nq.fz 5; have gf6 := nq.fz 6; have gz := nq.lt; clear nq)
            go_wp2_with fail
            rename_i wz
            refine S1.out.mono ?_
            rw [← HSX.out, ← HSY.out]
            rintro _ w3 ⟨rfl, b3⟩
            have R3 := hid (HR.out.grow b3)
            have B3 := hid (HB.out.trans (b3.mono hz))
            have z3 := B3.out.size
            clear b3 S1 HR HB
            clear g0 g1 g2 g3 g4 g5 g6 gf0 gf1 gf2 gf3 gf4 gf5 gf6 gz
            go_upto_region 16 with ((at_builtin; (refine wpL_rapp Tryz.tyIn rfl (.tmp 70) (.tmp 77) rfl V.heap.size aP (some ⟨w3.heap.size, 0, none⟩) Q.length 1 cP 1 Q [⟨4, sx, sy, false, none, [], 0⟩] rfl (by first | rfl | simp | omega) (R3.out.grow (by (repeat' (first | exact Below.refl _ _ | assumption | refine bdrewN ?_ _ | refine Below.drew ?_ | refine bal ?_ _ | refine bthen ?_ (by assumption))))) rfl (by first | rfl | simp | omega) (RSl.lit (E := encIn) w3 ⟨4, sx, sy, false, none, [], 0⟩ 121 w3.heap.size rfl #[.int .i64 4, .int .i64 sx, .int .i64 sy, .bool false, .slice none 0 0] rfl (by decide)) (by simp; show Q.length + 1 ≤ 2199023255552; omega) (by simp; omega) ?_); intro a5 c5 w5 L5 Hl5 ho5 hb5 hk5 hA5; have HA5 := hid hA5; clear hA5; have Ho5 := hid ho5; clear ho5; have Hk5 := hid hk5; clear hk5; have hz5 := hb5.size))
            have B5 := hid (B3.out.trans (Below.trans ((Below.refl _ _).alloc z3 _) hb5))
            have z5 := B5.out.size
            have HL5l := hid (show L5.length = Q.length + 1 by rw [Hl5.out]; simp)
            have hL5l : L5.length ≤ 200001 := by rw [HL5l.out]; omega
            have S2 := hid (SH.out L5.length (by omega) w5 B5.out)
            clear hb5 hz5 Hk5 HA5 R3 B3
            go_wp2_with fail
            refine S2.out.mono ?_
            rintro _ w6 ⟨a6, c6, L6, rfl, hL6, o6, k6, b6⟩
            have HL6 := hid hL6
            have K6 := hid k6
            have hL6l : L6.length = L.length := by have := congrArg List.length k6; simpa using this
            have HL6l := hid hL6l
            have O6 := hid o6.sl
            have R6 := hid (Ho5.out.grow b6)
            have B6 := hid (B5.out.trans (b6.mono z5))
            have z6 := B6.out.size
            have hsum : L5.length + L6.length ≤ 2199023255552 := by omega
            clear hL6 o6 k6 b6 hL6l S2 Ho5 B5
            go_wp2_with ((at_builtin; (refine wpL_rapp Tryz.tyIn rfl (.tmp 79) (.tmp 83) rfl V.heap.size a5 a6 L5.length L6.length c5 c6 L5 L6 rfl (by first | rfl | simp | omega) R6.out rfl (by first | rfl | simp | omega) O6.out hsum (by omega) ?_); intro a7 c7 w7 L7 Hl7 ho7 hb7 hk7 hA7; have HA7 := hid hA7; clear hA7; have Ho7 := hid ho7; clear ho7; have Hk7 := hid hk7; clear hk7; have hz7 := hb7.size))
            go_roundg (D - (j + 1) + 1)
            case measure => omega
            case rel =>
              have hQe : Q.length = k * b.length + j * (b.length + 1) := by rw [← inss_len, HQ.out, List.length_append, optC_len, catB_len]; simp [sumB]
              refine ⟨j + 1, a7, c7, L7, rfl, by omega, by rw [HKJ.out] at W1; first | rfl | go_num, rfl, ?_, hid ?_, Ho7, hid ?_, hid (B6.out.trans hb7)⟩
              · have h1 := HQl.out
                have h2 := HL5l.out
                have h3 := HL6l.out
                rw [Hl7.out, List.length_append]
                rw [Nat.succ_mul]
                exact len_step _ _ _ _ _ h1 h2 h3 hnl
              · rw [optC_snoc, ← hQe, ← List.append_assoc, ← HQ.out, Hl7.out, Hl5.out, inss_app, inss_app, inss_one, HSX.out, HSY.out, ← spl_eta, HL6.out, ← Hb.out, HL5l.out, List.append_assoc]
                rfl
              · intro v hv
                rw [Hl7.out, Hl5.out]
                exact ((HI.out v hv).app (Ims.one0 _ _ _ _ _)).app (hv.key K6.out)
          · obtain rfl : j = D := by omega
            have b1 : decide (((k + j : Nat) : Int) < (k : Int) + (j : Int)) = false := decide_eq_false (by omega)
            (have g0 := nq.c0; have g1 := nq.c1; have g2 := nq.c2; have g3 := nq.c3; have g4 := nq.c4; have g5 := nq.c5; have g6 := nq.c6; have gf0 := nq.fz 0; have gf1 := nq.fz 1; have gf2 := nq.fz 2; have gf3 := nq.fz 3; have gf4 := nq.fz 4; have gf5 := nq.fz 5; have gf6 := nq.fz 6; have gz := nq.lt; clear nq)
            go_wp2_with fail
            go_ret
            exact ⟨aP, cP, Q, rfl, by rw [HQ.out, HX2.out, ← HA.out], HR.out.base_le (by omega), HI.out, bV.out.trans (HB.out.mono (by omega))⟩
end Go.Proofs.YtefgjicegbhcaaaGreat
namespace Go.Proofs.YtefgjicegbhcaaaGreat
open Go.RowKit ReM
namespace ReM
def altN : List Nat → Nat
  | [] => 0
  | [b] => b
  | b :: c :: bs => b + 2 + altN (c :: bs)
theorem altN_eq (bs : List (List Ins)) : altN (bs.map List.length) = altLen bs := by
  induction bs with
  | nil => rfl
  | cons b bs ih =>
    cases bs with
    | nil => rfl
    | cons c bs =>
      rw [List.map_cons] at ih
      rw [List.map_cons, List.map_cons, altN, altLen, ih]
def szN : Nat → List Rn → Nat
  | 0, _ => 0
  | k + 1, t => match t with
    | [] => 0
    | x :: cs =>
      if x.kind = 0 then ((partsL cs).map (szN k)).sum
      else if x.kind = 1 then altN ((partsL cs).map (szN k))
      else if x.kind = 2 then 1
      else if x.kind = 3 then 1
      else if x.kind = 4 then 1
      else if x.kind = 5 then (if x.lo = 0 then szN k cs else szN k cs + 2)
      else if x.kind = 6 then x.lo.toNat * szN k cs + (if x.hi = -1 then szN k cs + 2 else (x.hi - x.lo).toNat * (szN k cs + 1))
      else 0
theorem sz_blk (k : Nat) : ∀ t, szN k t = (blk k t).length := by
  induction k with
  | zero => intro t; rfl
  | succ k ih =>
    intro t
    cases t with
    | nil => rfl
    | cons x cs =>
      have hm : (partsL cs).map (szN k) = ((partsL cs).map (blk k)).map List.length := by rw [List.map_map]; congr 1; funext t; exact ih t
      rw [szN, blk]
      split
      · rw [hm, catB_len]; rfl
      · split
        · rw [hm, altN_eq, altC_len]
        · split
          · rfl
          · split
            · rfl
            · split
              · rfl
              · split
                · unfold groupB
                  split
                  · exact ih cs
                  · simp [shI_len, ih cs]
                · split
                  · rw [rep_len, ih cs]
                    congr 1
                    split
                    · rw [loopB_len]
                    · rw [optB_len]
                  · rfl
def okB : Nat → List Rn → Bool
  | 0, _ => true
  | k + 1, t => decide (szN (k + 1) t ≤ 300) && (match t with | [] => true | _ :: cs => (partsL cs).all (okB k))
theorem okB_len {k : Nat} {t : List Rn} (h : okB k t = true) : (blk k t).length ≤ 300 := by
  cases k with
  | zero => simp [blk]
  | succ k => unfold okB at h; rw [Bool.and_eq_true] at h; rw [← sz_blk]; exact of_decide_eq_true h.1
theorem okB_kid {k : Nat} {x : Rn} {cs : List (List Rn)} (h : okB (k + 1) (x :: cs.flatten) = true) (hp : partsL cs.flatten = cs) {c : List Rn} (hc : c ∈ cs) : okB k c = true := by
  rw [okB, Bool.and_eq_true] at h
  have h2 := h.2
  rw [hp, List.all_eq_true] at h2
  exact h2 c hc
theorem altR_snoc (J : Ins) (n : Nat) (bs : List (List Ins)) (b : List Ins) : altR J n (bs ++ [b]) = altR J n bs ++ iSplit ((n + altS bs : Nat) + 1) (((n + altS bs : Nat) : Int) + b.length + 2) :: (shI (n + altS bs + 1) b ++ [J]) := by
  induction bs generalizing n with
  | nil => simp [altR, altS]
  | cons x bs ih =>
    rw [List.cons_append, altR, ih, altR, altS]
    have e : n + x.length + 2 + altS bs = n + (x.length + 2 + altS bs) := by omega
    rw [e]
    simp
theorem altS_snoc (bs : List (List Ins)) (b : List Ins) : altS (bs ++ [b]) = altS bs + b.length + 2 := by
  induction bs with
  | nil => simp [altS]
  | cons x bs ih => rw [List.cons_append, altS, ih, altS]; omega
theorem tg_at {G : Int} {lo hi : Nat} {l : List Ins} : ∀ {n : Nat}, TgL G lo hi n l → ∀ q, q ∈ l → ∃ i, TgI G lo hi i q := by
  induction l with
  | nil => intro n _ q hq; cases hq
  | cons a l ih =>
    intro n h q hq
    rcases List.mem_cons.1 hq with rfl | hq
    · exact ⟨n, h.1⟩
    · exact ih h.2 q hq
end ReM
theorem tg_inb {G : Int} {b : List Ins} (h : TgB G b) (hl : b.length ≤ 1000) : InB b := fun q hq => by
  obtain ⟨i, h4, h5, _⟩ := tg_at h q hq
  refine ⟨fun ho => ?_, fun ho => ?_⟩
  · rcases ho with ho | ho
    · obtain ⟨h1, h2, _⟩ := h4 ho; omega
    · obtain ⟨h1, h2⟩ := h5 ho; omega
  · obtain ⟨_, _, h1, h2, _⟩ := h4 ho; omega
theorem blk_inb {k : Nat} {d : Int} {t : List Rn} (hk : t.length ≤ k) (hn : NodAt d t) (hno : NumOk t) (ho : okB k t = true) : InB (blk k t) :=
  tg_inb (blk_tg 9 k d t hk hn (fun x hx _ => ⟨(hno x hx).1.1, (hno x hx).1.2.1⟩)) (by have := okB_len ho; omega)
/-- what stands in front of the kids' codes -/
def CodeC (k : Nat) : Prop := ∀ (a : Option Addr) (c : Nat) (T : List Rm) (w : World) (i : Nat) (d : Int) (t : List Rn), TrM w a T → SubT (rns T) i d t → t.length ≤ k → NumOk t → okB k t = true →
    Calls Tryz.prog 82 #[.slice a T.length c, .int .i64 i] w (InsP w T (blk k t))
def ChoC (k : Nat) : Prop := ∀ (a : Option Addr) (c : Nat) (T : List Rm) (w : World) (i : Nat) (d : Int) (x : Rn) (cs : List (List Rn)), TrM w a T → SubT (rns T) i d (x :: cs.flatten) → (∀ e, e ∈ cs → NodAt (d + 1) e) → cs.flatten.length ≤ k → NumOk (x :: cs.flatten) → x.kind = 1 → okB (k + 1) (x :: cs.flatten) = true → partsL cs.flatten = cs → cs ≠ [] →
    Calls Tryz.prog 110 #[.slice a T.length c, .int .i64 i] w (InsP w T (altC (altLen (cs.map (blk k))) 0 (cs.map (blk k))))
/-- facts on one of the kids -/
theorem kid_facts {T : List Rm} {i k : Nat} {d : Int} {x : Rn} {as' bs : List (List Rn)} {e : List Rn} (hS : SubT (rns T) i d (x :: (as' ++ e :: bs).flatten)) (hc : ∀ c, c ∈ as' ++ e :: bs → NodAt (d + 1) c) (hno : NumOk (x :: (as' ++ e :: bs).flatten))
    (hp : partsL (as' ++ e :: bs).flatten = as' ++ e :: bs) (hk : (as' ++ e :: bs).flatten.length ≤ k) (ho : okB (k + 1) (x :: (as' ++ e :: bs).flatten) = true) :
    SubT (rns T) (i + 1 + as'.flatten.length) (d + 1) e ∧ e.length ≤ k ∧ NumOk e ∧ okB k e = true ∧ InB (blk k e) ∧ 0 < e.length ∧ i + 1 + as'.flatten.length + e.length + bs.flatten.length = i + (x :: (as' ++ e :: bs).flatten).length ∧ (blk k e).length ≤ 300 := by
  have hfl : (as' ++ e :: bs).flatten.length = as'.flatten.length + e.length + bs.flatten.length := by rw [List.flatten_append, List.length_append, List.flatten_cons, List.length_append]; omega
  have hmem : e ∈ as' ++ e :: bs := by simp
  have h1 : e.length ≤ k := by omega
  have h2 : NumOk e := fun y hy => hno y (List.mem_cons_of_mem _ (List.mem_flatten.2 ⟨e, hmem, hy⟩))
  have h3 := okB_kid ho hp hmem
  exact ⟨hS.kid hc, h1, h2, h3, blk_inb h1 (hc e hmem) h2 h3, (hc e hmem).pos, by rw [List.length_cons, hfl]; omega, okB_len h3⟩
end Go.Proofs.YtefgjicegbhcaaaGreat
namespace Go.Proofs.YtefgjicegbhcaaaGreat
open Go.RowKit ReM

theorem altLen_app (a : List (List Ins)) (b : List Ins) (c : List (List Ins)) : altLen (a ++ b :: c) = altS a + altLen (b :: c) := by
  induction a with
  | nil => simp [altS]
  | cons x a ih =>
    have e : altLen (x :: a ++ b :: c) = x.length + 2 + altLen (a ++ b :: c) := by cases a <;> rfl
    rw [e, ih, altS]; omega
set_option maxRecDepth 20000 in
set_option maxHeartbeats 16000000 in
theorem cho_step (k : Nat) (IH : CodeC k) : ChoC k := by
  intro a c T w i d x cs h hS hc hk hno hk1 hok hp hne
  have hl := h.len
  obtain ⟨hl1, hl0⟩ := hS.len
  rw [rns_len] at hl1
  have HT := hid h
  have HS := hid hS
  have EC := hid (fun w' h' => end_d a c T w' i d _ h' hS)
  have SZ := hid (size_all (k + 1) a c T w i d _ h hS (by rw [List.length_cons]; omega) hno)
  have hblen := okB_len hok
  have hbe : (blk (k + 1) (x :: cs.flatten)).length = altLen (cs.map (blk k)) := by
    rw [blk_kids hp, hk1, if_neg (by decide), if_pos rfl, altC_len]
  rw [hbe] at hblen SZ
  obtain ⟨E, hE⟩ : ∃ E, E = altLen (cs.map (blk k)) := ⟨_, rfl⟩
  rw [← hE] at hblen SZ ⊢
  obtain ⟨N, hN⟩ : ∃ N, N = i + (x :: cs.flatten).length := ⟨_, rfl⟩
  rw [← hN] at EC
  have HNi := hid hN
  have hNT : N ≤ T.length := by omega
  have HE := hid hE
  have Hno := hid hno
  have Hok := hid hok
  have Hp := hid hp
  have HI := hid IH
  have Hc := hid hc
  have Hk := hid hk
  have W0 : IntKind.i64.wrap ((i : Int) + 1) = ((i + 1 : Nat) : Int) := by rw [IntKind.wrap_i64]; omega
  have P0 : Hid (i + 1 ≤ N) := by rw [Hid, hN, List.length_cons]; omega
  clear h hS hE hN hno hok hp IH hc hk hbe hl0 hk1
  go_enter Tryz.func110, Tryz.ntmps110
  go_wp2_with fail
  refine SZ.out.mono ?_
  rintro _ w0 ⟨s, rfl, hrs, -, b0⟩
  have hsE : s = E := hrs.1 hblen
  subst hsE
  have HB0 := hid b0
  clear hrs b0 SZ
  go_wp2_with fail
  go_loopg [6, 7] (T.length - (i + 1) + 1) (fun gk ov kv wr => ∃ (as' bs : List (List Rn)) (q : Nat) (aO : Option Addr) (cO : Nat) (O : List Im), gk = T.length - q + 1 ∧ cs = as' ++ bs ∧ Hid (q = i + 1 + as'.flatten.length) ∧ q ≤ N ∧ ov = .slice aO O.length cO ∧ kv = .int .i64 q ∧ Hid (inss O = if bs = [] then altC E 0 (cs.map (blk k)) else altR (iJump E) 0 (as'.map (blk k))) ∧ Hid (RIn wr w.heap.size aO cO O) ∧ Hid (∀ v, Rms v (fun _ => False) T → Ims v O) ∧ Hid (Below w.heap.size w wr))
  case atStart => exact ⟨[], cs, i + 1, none, 0, [], rfl, rfl, hid (by simp), P0.out, rfl, rfl, hid (by rw [if_neg hne]; rfl), hid (ROwn.nil _ _), hid (fun v _ m hm => by cases hm), HB0⟩
  case round =>
    clear HB0
    obtain ⟨as', bs, q, aO, cO, O, rfl, hcs, hq, hqN, rfl, rfl, HO, HR, HM, HB⟩ := hrel
    have hz := HB.out.size
    have E1 := hid (EC.out wr (HT.out.bel HB.out))
    cases bs with
    | cons e bs =>
      have hSk := HS.out
      have hck := Hc.out
      have hnk := Hno.out
      have hpk := Hp.out
      have hkk := Hk.out
      have hokk := Hok.out
      rw [hcs] at hSk hck hnk hpk hkk hokk
      obtain ⟨hkid, he1, he2, he3, he4, he5, he6, he7⟩ := kid_facts hSk hck hnk hpk hkk hokk
      rw [← hq.out] at hkid
      have hqe : q + e.length + bs.flatten.length = N := by
        rw [HNi.out, hcs, ← he6, hq.out]
      have hOE : altS (as'.map (blk k)) + altLen ((e :: bs).map (blk k)) = E := by rw [HE.out, hcs, List.map_append, List.map_cons, altLen_app]
      have hOl : O.length = altS (as'.map (blk k)) := by rw [← inss_len, HO.out, if_neg (by simp), altR_len]
      have b1 : decide ((q : Int) < (N : Int)) = true := decide_eq_true (by omega)
      have CD := hid (fun w' h' => HI.out a c T w' q (d + 1) e h' hkid he1 he2 he3)
      have E2 := hid (fun w' h' => end_d a c T w' q (d + 1) e h' hkid)
      have hO3 : O.length ≤ 300 := by omega
      have HOl := hid hOl
      have HEi := hid he4
      have HEl := hid he7
      have Hcs := hid (show cs = (as' ++ [e]) ++ bs by rw [hcs]; simp)
      have Hq2 : Hid (q + e.length = i + 1 + (as' ++ [e]).flatten.length) := by rw [Hid, hq.out, List.flatten_append]; simp; omega
      have HO' := hid (HO.out.trans (if_neg (by simp)))
      have HOE := hid hOE
      clear hSk hck hnk hpk hkk hokk hkid he1 he2 he3 he4 he6 he7 hOl hcs hq HO hOE
      go_wp2_with fail
      refine E1.out.mono ?_
      rintro _ w1 ⟨rfl, b1'⟩
      have HB1 := hid (HB.out.trans (b1'.mono hz))
      have HR1 := hid (HR.out.grow b1')
      have z1 := HB1.out.size
      clear b1' E1 HB HR hz
      go_wp2_with fail
      refine (E2.out w1 (HT.out.bel HB1.out)).mono ?_
      rintro _ w2 ⟨rfl, b2'⟩
      have HB2 := hid (HB1.out.trans (b2'.mono z1))
      have HR2 := hid (HR1.out.grow b2')
      have z2 := HB2.out.size
      clear b2' HB1 HR1 z1
      go_wp2_with fail
      refine (EC.out w2 (HT.out.bel HB2.out)).mono ?_
      rintro _ w3 ⟨rfl, b3'⟩
      have HB3 := hid (HB2.out.trans (b3'.mono z2))
      have HR3 := hid (HR2.out.grow b3')
      have HRl := hid (fun k (hk : Blk aO k) => (HR3.out.lt hk).2)
      have z3 := HB3.out.size
      clear b3' HB2 HR2 z2
      go_wp2_with fail
      refine (CD.out w3 (HT.out.bel HB3.out)).mono ?_
      rintro _ w4 ⟨a4, c4, C, rfl, hC, o4, i4, b4'⟩
      have HC := hid hC
      have HB4 := hid (HB3.out.trans (b4'.mono z3))
      have HR4 := hid (HR3.out.grow b4')
      have HC4 := hid (o4.sl)
      have HCl := hid (fun k (hk : Blk a4 k) => o4.lt hk)
      have HCi := hid i4
      have z4 := HB4.out.size
      have hCl : C.length ≤ 300 := by rw [← inss_len, hC]; exact HEl.out
      clear b4' HB3 HR3 hC o4 i4 CD
      cases bs with
      | nil =>
        have hNq : N = q + e.length := by simp at hqe; omega
        have b5 : decide ((N : Int) ≤ (q : Int) + (e.length : Int)) = true := decide_eq_true (by omega)
        have SH := hid (shifted_d a4 c4 C O.length w4 HC4.out (by omega) (by rw [HC.out]; exact HEi.out) (by omega))
        have hNq' := hid hNq
        clear hNq hqe HC4
        go_wp2_with fail
        refine SH.out.mono ?_
        rintro _ w5 ⟨a5, c5, D, rfl, hD, o5, k5, b5'⟩
        have HD := hid hD
        have HKy := hid k5
        have hDl : D.length = C.length := by have := congrArg List.length k5; simpa using this
        have HR5 := hid (HR4.out.grow b5')
        have HD5 := hid o5.sl
        have HB5 := hid (HB4.out.trans (b5'.mono z4))
        have z5 := HB5.out.size
        have hsum : O.length + D.length ≤ 2199023255552 := by omega
        clear hD o5 k5 b5' HR4 HB4 z4 SH hDl
        go_wp2_with ((at_builtin; (refine wpL_rapp Tryz.tyIn rfl (.tmp 48) (.tmp 52) rfl w.heap.size aO a5 O.length D.length cO c5 O D rfl (by first | rfl | simp | omega) HR5.out rfl (by first | rfl | simp | omega) HD5.out hsum z5 ?_); intro a7 c7 w7 L7 Hl7 ho7 hb7 hk7 hA7; have HA7 := hid hA7; clear hA7; have Ho7 := hid ho7; clear ho7; have Hk7 := hid hk7; clear hk7; have hz7 := hb7.size))
        have HB7 := hid (HB5.out.trans hb7)
        have z7 := HB7.out.size
        clear hb7 Hk7 HA7 HR5 HD5 HB5 z5 hz7
        refine (E2.out w7 (HT.out.bel HB7.out)).mono ?_
        rintro _ w8 ⟨rfl, b8'⟩
        have HB8 := hid (HB7.out.trans (b8'.mono z7))
        have HR8 := hid (Ho7.out.grow b8')
        clear b8' HB7 Ho7 z7
        go_wp2_with fail
        go_roundg (T.length - (q + e.length) + 1)
        case measure => omega
        case rel =>
          refine ⟨as' ++ [e], [], q + e.length, a7, c7, L7, rfl, Hcs.out, Hq2, by have := hNq'.out; omega, rfl, rfl, hid ?_, HR8, hid ?_, HB8⟩
          · rw [if_pos rfl, Hcs.out, List.append_nil, List.map_append, List.map_cons, List.map_nil, altC_snoc, Hl7.out, inss_app, HO'.out, HD.out, HC.out, HOl.out, Nat.zero_add]
          · intro v hv; rw [Hl7.out]; exact (HM.out v hv).app ((HCi.out v hv).key HKy.out)
      | cons e2 bs2 =>
        have he2 : 0 < e2.length := (Hc.out e2 (by rw [Hcs.out]; simp)).pos
        have hlt : q + e.length < N := by rw [← hqe, List.flatten_cons, List.length_append]; omega
        have b5 : decide ((N : Int) ≤ (q : Int) + (e.length : Int)) = false := decide_eq_false (by omega)
        have hlt' := hid hlt
        have W1 : IntKind.i64.wrap ((O.length : Int) + 1) = (O.length : Int) + 1 := by rw [IntKind.wrap_i64]; omega
        have W2 : IntKind.i64.wrap ((O.length : Int) + (C.length : Int)) = (O.length : Int) + C.length := by rw [IntKind.wrap_i64]; omega
        have W3 : IntKind.i64.wrap ((O.length : Int) + (C.length : Int) + 2) = (O.length : Int) + C.length + 2 := by rw [IntKind.wrap_i64]; omega
        clear hlt hqe
        go_upto_region 10 with ((at_builtin; (refine wpL_rapp Tryz.tyIn rfl (.tmp 35) (.tmp 46) rfl w.heap.size aO (some ⟨w4.heap.size, 0, none⟩) O.length 1 cO 1 O [⟨4, (O.length : Int) + 1, (O.length : Int) + C.length + 2, false, none, [], 0⟩] rfl (by first | rfl | simp | omega) (HR4.out.grow (by (repeat' (first | exact Below.refl _ _ | assumption | refine bdrewN ?_ _ | refine Below.drew ?_ | refine bal ?_ _ | refine bthen ?_ (by assumption))))) rfl (by first | rfl | simp | omega) (RSl.lit (E := encIn) w4 ⟨4, (O.length : Int) + 1, (O.length : Int) + C.length + 2, false, none, [], 0⟩ 121 w4.heap.size rfl #[.int .i64 4, .int .i64 ((O.length : Int) + 1), .int .i64 ((O.length : Int) + C.length + 2), .bool false, .slice none 0 0] rfl (by decide)) (by simp; show O.length + 1 ≤ 2199023255552; omega) (by simp; omega) ?_); intro a5 c5 w5 L5 Hl5 ho5 hb5 hk5 hA5; have HA5 := hid hA5; clear hA5; have Ho5 := hid ho5; clear ho5; have Hk5 := hid hk5; clear hk5; have hz5 := hb5.size))
        have HC5 := hid ((HC4.out.bel ((Below.refl _ _).alloc (Nat.le_refl _) (.cells #[.int .i64 4, .int .i64 ((O.length : Int) + 1), .int .i64 ((O.length : Int) + C.length + 2), .bool false, .slice none 0 0] 121))).kpt (fun ad had hb => by
          have h1 := (HCl.out _ ⟨ad, had, rfl⟩).1
          have h2 := HRl.out _ hb
          omega) Hk5.out)
        have HB5 := hid (HB4.out.trans (Below.trans ((Below.refl _ _).alloc z4 _) hb5))
        have z5 := HB5.out.size
        have hL5l : L5.length = O.length + 1 := by rw [Hl5.out]; simp
        have SH := hid (shifted_d a4 c4 C L5.length w5 HC5.out (by omega) (by rw [HC.out]; exact HEi.out) (by omega))
        have HL5l := hid hL5l
        have hL5b : L5.length ≤ 301 := by omega
        clear hb5 hz5 Hk5 HA5 HR4 HB4 z4 HC4 hL5l
        go_wp2_with fail
        refine SH.out.mono ?_
        rintro _ w6 ⟨a6, c6, D, rfl, hD, o6, k6, b6'⟩
        have HD := hid hD
        have HKy := hid k6
        have hDl : D.length = C.length := by have := congrArg List.length k6; simpa using this
        have HR6 := hid (Ho5.out.grow b6')
        have HD6 := hid o6.sl
        have HB6 := hid (HB5.out.trans (b6'.mono z5))
        have z6 := HB6.out.size
        have hsum : L5.length + D.length ≤ 2199023255552 := by omega
        have hsum2 : L5.length + D.length ≤ 601 := by omega
        have hDl' := hid hDl
        clear hD o6 k6 b6' Ho5 HB5 z5 SH hDl
        go_upto_region 12 with ((at_builtin; (refine wpL_rapp Tryz.tyIn rfl (.tmp 48) (.tmp 52) rfl w.heap.size a5 a6 L5.length D.length c5 c6 L5 D rfl (by first | rfl | simp | omega) HR6.out rfl (by first | rfl | simp | omega) HD6.out hsum z6 ?_); intro a7 c7 w7 L7 Hl7 ho7 hb7 hk7 hA7; have HA7 := hid hA7; clear hA7; have Ho7 := hid ho7; clear ho7; have Hk7 := hid hk7; clear hk7; have hz7 := hb7.size))
        have HB7 := hid (HB6.out.trans hb7)
        have z7 := HB7.out.size
        have hL7l : L7.length ≤ 601 := by rw [Hl7.out, List.length_append]; exact hsum2
        clear hb7 hz7 Hk7 HA7 HR6 HD6 HB6 z6 hsum hsum2
        go_wp2_with ((at_builtin; (refine wpL_rapp Tryz.tyIn rfl (.tmp 56) (.tmp 59) rfl w.heap.size a7 (some ⟨w7.heap.size, 0, none⟩) L7.length 1 c7 1 L7 [⟨5, (E : Int), 0, false, none, [], 0⟩] rfl (by first | rfl | simp | omega) (Ho7.out.grow (by (repeat' (first | exact Below.refl _ _ | assumption | refine bdrewN ?_ _ | refine Below.drew ?_ | refine bal ?_ _ | refine bthen ?_ (by assumption))))) rfl (by first | rfl | simp | omega) (RSl.lit (E := encIn) w7 ⟨5, (E : Int), 0, false, none, [], 0⟩ 121 w7.heap.size rfl #[.int .i64 5, .int .i64 (E : Int), .int .i64 0, .bool false, .slice none 0 0] rfl (by decide)) (by simp; show L7.length + 1 ≤ 2199023255552; omega) (by simp; omega) ?_); intro a9 c9 w9 L9 Hl9 ho9 hb9 hk9 hA9; have HA9 := hid hA9; clear hA9; have Ho9 := hid ho9; clear ho9; have Hk9 := hid hk9; clear hk9; have hz9 := hb9.size))
        have HB9 := hid (HB7.out.trans (Below.trans ((Below.refl _ _).alloc z7 _) hb9))
        have z9 := HB9.out.size
        clear hb9 hz9 Hk9 HA9 Ho7 HB7 z7
        refine (E2.out w9 (HT.out.bel HB9.out)).mono ?_
        rintro _ w10 ⟨rfl, b10⟩
        have HB10 := hid (HB9.out.trans (b10.mono z9))
        have HR10 := hid (Ho9.out.grow b10)
        clear b10 HB9 Ho9 z9
        go_wp2_with fail
        go_roundg (T.length - (q + e.length) + 1)
        case measure => omega
        case rel =>
          refine ⟨as' ++ [e], e2 :: bs2, q + e.length, a9, c9, L9, rfl, Hcs.out, Hq2, by have := hlt'.out; omega, rfl, by first | rfl | go_num, hid ?_, HR10, hid ?_, HB10⟩
          · have hCe : C.length = (blk k e).length := by rw [← inss_len, HC.out]
            rw [if_neg (by simp), List.map_append, List.map_cons, List.map_nil, altR_snoc, Hl9.out, Hl7.out, Hl5.out, inss_app, inss_app, inss_app, HO'.out, HD.out, HC.out, HL5l.out, inss_one, inss_one, Nat.zero_add, ← HOl.out, ← hCe]
            simp [iSplit, iJump]
          · intro v hv
            rw [Hl9.out, Hl7.out, Hl5.out]
            exact (((HM.out v hv).app (Ims.one0 _ _ _ _ _)).app ((HCi.out v hv).key HKy.out)).app (Ims.one0 _ _ _ _ _)
    | nil =>
      have hqN2 : q = N := by
        have h1 := hq.out
        have h2 := HNi.out
        rw [List.length_cons, hcs, List.append_nil] at h2
        omega
      have b1 : decide ((q : Int) < (N : Int)) = false := decide_eq_false (by omega)
      have HOe := hid (HO.out.trans (if_pos rfl))
      clear HO hcs hq
      go_wp2_with fail
      refine E1.out.mono ?_
      rintro _ w1 ⟨rfl, b1'⟩
      have HB1 := hid (HB.out.trans (b1'.mono hz))
      have HR1 := hid (HR.out.grow b1')
      clear b1' E1 HB HR hz
      go_wp2_with fail
      go_ret
      exact ⟨aO, cO, O, rfl, HOe.out, HR1.out, HM.out, HB1.out⟩
end Go.Proofs.YtefgjicegbhcaaaGreat
namespace Go.Proofs.YtefgjicegbhcaaaGreat
open Go.RowKit ReM

theorem RIn.one {w : World} (m : Im) (b base : Nat) (hb : b = w.heap.size) (hB : base ≤ w.heap.size) (cs : Array Value) (hcs : cs = (encIn.v m).toArray) : RIn (w.alloc (.cells cs 121)) base (some ⟨b, 0, none⟩) 1 [m] := by
  subst hb; subst hcs
  refine ⟨?_, by show 1 ≤ 2199023255552; decide⟩
  have := World.ownsRow_lit (base := base) (e := 121) (size := encIn.k) w (encIn.v m).toArray 1 hB (by decide) (by simp [encIn])
  rw [show rflat encIn [m] = encIn.v m by simp [rflat]]
  simpa using this
theorem sumB_app (a b : List (List Ins)) : sumB (a ++ b) = sumB a + sumB b := by simp [sumB]
theorem InsP.first {w w1 : World} {T : List Rm} {r : List Ins} {e' : Ending} {w' : World} (hb : Below w.heap.size w w1) (h : InsP w1 T r e' w') : InsP w T r e' w' := by
  obtain ⟨a, c, L, h1, h2, h3, h4, h5⟩ := h
  exact ⟨a, c, L, h1, h2, h3.base_le hb.size, h4, hb.trans (h5.mono hb.size)⟩
set_option maxRecDepth 20000 in
set_option maxHeartbeats 32000000 in
theorem code_step (k : Nat) (IH : CodeC k) : CodeC (k + 1) := by
  intro a c T w i d t h hS hk hno hok
  have hl := h.len
  obtain ⟨hl1, hl0⟩ := hS.len
  rw [rns_len] at hl1
  obtain ⟨x, cs, rfl, hx, hc, hloc, hp⟩ := hS.kids
  have hiT : i < T.length := by omega
  have HT := hid h
  have hxi : (rgt T i).rn = x := by rw [← lgt_rns hiT]; exact hS.head.1
  have HS := hid hS
  have hcl : cs.flatten.length ≤ k := by rw [List.length_cons] at hk; omega
  have hblk := blk_kids (k := k) (x := x) hp
  obtain ⟨⟨hlo0, hlo9, hhi0, hhi9⟩, hk0, hk6⟩ := hno x (by simp)
  have hlen := okB_len hok
  have HChoC := hid (cho_step k IH)
  have HI := hid IH
  have Hno := hid hno
  have Hok := hid hok
  have Hc := hid hc
  have Hp := hid hp
  have Hloc := hid hloc
  have Hcl := hid hcl
  have hset : ∀ v, Rms v (fun _ => False) T → Sl v (rgt T i).sa (rgt T i).set := fun v hv => (hv _ (rgt_mem hiT)).set
  have Hset := hid hset
  obtain ⟨b, o, hab, r1⟩ := h.sl.rc1 hiT
  obtain ⟨x0, x1, x2, x3, x4, x5, x6⟩ := rec_re r1
  have zi : (i : Int) < (T.length : Int) := by omega
  have W0 : IntKind.i64.wrap ((i : Int) + 1) = ((i + 1 : Nat) : Int) := by rw [IntKind.wrap_i64]; omega
  clear r1 h hS hno hok IH hc hp hloc hcl hset hk
  generalize rgt T i = m at *
  obtain ⟨mk, md, ml, mh, mz, mn, ma, ms, mc⟩ := m
  dsimp only [Rm.rn] at *
  subst hxi
  dsimp only at hx
  subst hx
  have HBlk := hid hblk
  clear hblk
  obtain ⟨V, hV⟩ : ∃ V, V = w.alloc (.cells #[.int .i64 mk, .int .i64 md, .int .i64 ml, .int .i64 mh, .bool mz, .bool mn, .slice ma ms.length mc] 128) := ⟨_, rfl⟩
  have nn : NdC V w.heap.size mk md ml mh mz mn (.slice ma ms.length mc) := by subst hV; exact NdC.new _ _ _ _ _ _ _ _ _ _ rfl
  have HBV : Hid (Below w.heap.size w V) := by subst hV; exact (Below.refl _ _).alloc (Nat.le_refl _) _
  have zV : V.heap.size = w.heap.size + 1 := by subst hV; simp
  have Hab := hid hab
  obtain ⟨X, hX⟩ : ∃ X, X = blk (k + 1) (⟨mk, md, ml, mh, mz, mn, ms⟩ :: cs.flatten) := ⟨_, rfl⟩
  rw [← hX]
  have HX := hid (hX.trans HBlk.out)
  rw [← hX] at hlen
  clear hX HBlk
  dsimp only at hlo0 hlo9 hhi0 hhi9 hk0 hk6
  go_enter Tryz.func82, Tryz.ntmps82
  rw [hab]
  go_upto_region 2 with fail
  rw [← hV, ← Hab.out]
  clear hV x0 x1 x2 x3 x4 x5 x6 hab zi
  have NN := hid nn
  rcases (show mk = 2 ∨ mk = 3 ∨ mk = 4 ∨ mk = 1 ∨ mk = 6 ∨ (mk = 5 ∨ mk = 0) by omega) with rfl | rfl | rfl | rfl | rfl | h05
  · (have g0 := nn.c0; have g1 := nn.c1; have g2 := nn.c2; have g3 := nn.c3; have g4 := nn.c4; have g5 := nn.c5; have g6 := nn.c6; have gf0 := nn.fz 0; have gf1 := nn.fz 1; have gf2 := nn.fz 2; have gf3 := nn.fz 3; have gf4 := nn.fz 4; have gf5 := nn.fz 5; have gf6 := nn.fz 6; have gz := nn.lt; clear nn)
    go_wp2_with fail
    go_ret
    refine ⟨_, _, [⟨0, 0, 0, mn, ma, ms, mc⟩], rfl, HX.out.symm, RIn.one _ _ _ (by omega) (by omega) _ rfl, fun v hv q hq => ?_, HBV.out.alloc (by omega) _⟩
    rw [List.mem_singleton.1 hq]; exact Hset.out v hv
  · (have g0 := nn.c0; have g1 := nn.c1; have g2 := nn.c2; have g3 := nn.c3; have g4 := nn.c4; have g5 := nn.c5; have g6 := nn.c6; have gf0 := nn.fz 0; have gf1 := nn.fz 1; have gf2 := nn.fz 2; have gf3 := nn.fz 3; have gf4 := nn.fz 4; have gf5 := nn.fz 5; have gf6 := nn.fz 6; have gz := nn.lt; clear nn)
    go_wp2_with fail
    go_ret
    exact ⟨_, _, [⟨1, 0, 0, false, none, [], 0⟩], rfl, HX.out.symm, RIn.one _ _ _ (by omega) (by omega) _ rfl, fun v hv => Ims.one0 _ _ _ _ _, HBV.out.alloc (by omega) _⟩
  · (have g0 := nn.c0; have g1 := nn.c1; have g2 := nn.c2; have g3 := nn.c3; have g4 := nn.c4; have g5 := nn.c5; have g6 := nn.c6; have gf0 := nn.fz 0; have gf1 := nn.fz 1; have gf2 := nn.fz 2; have gf3 := nn.fz 3; have gf4 := nn.fz 4; have gf5 := nn.fz 5; have gf6 := nn.fz 6; have gz := nn.lt; clear nn)
    go_wp2_with fail
    go_ret
    exact ⟨_, _, [⟨2, 0, 0, false, none, [], 0⟩], rfl, HX.out.symm, RIn.one _ _ _ (by omega) (by omega) _ rfl, fun v hv => Ims.one0 _ _ _ _ _, HBV.out.alloc (by omega) _⟩
  · have hne : cs ≠ [] := fun h => by have := (Hloc.out.2.2.1 rfl); rw [h] at this; simp at this
    have CH := hid (HChoC.out a c T V i md _ cs (HT.out.bel HBV.out) HS.out Hc.out Hcl.out Hno.out rfl Hok.out Hp.out hne)
    (have g0 := nn.c0; have g1 := nn.c1; have g2 := nn.c2; have g3 := nn.c3; have g4 := nn.c4; have g5 := nn.c5; have g6 := nn.c6; have gf0 := nn.fz 0; have gf1 := nn.fz 1; have gf2 := nn.fz 2; have gf3 := nn.fz 3; have gf4 := nn.fz 4; have gf5 := nn.fz 5; have gf6 := nn.fz 6; have gz := nn.lt; clear nn)
    go_wp2_with fail
    refine CH.out.mono ?_
    rintro e2 w2 hx
    obtain ⟨a2, c2, L2, rfl, h2⟩ := hx
    have H2 := hid h2
    clear h2 CH
    go_wp2_with fail
    go_ret
    refine InsP.first HBV.out ⟨a2, c2, L2, rfl, ?_, H2.out.2⟩
    rw [HX.out]; exact H2.out.1
  · have hone : cs.length = 1 := (Hloc.out.2.1 rfl).1
    have hlh := (Hloc.out.2.1 rfl).2
    dsimp only at hlh
    obtain ⟨e, rfl⟩ : ∃ e, cs = [e] := by
      match cs, hone with
      | [e], _ => exact ⟨e, rfl⟩
    obtain ⟨hkid, he1, he2, he3, he4, he5, he6, he7⟩ := kid_facts (as' := []) (bs := []) HS.out Hc.out Hno.out Hp.out Hcl.out Hok.out
    rw [show i + 1 + ([] : List (List Rn)).flatten.length = i + 1 by simp] at hkid
    have CD := hid (HI.out a c T V.drew (i + 1) (md + 1) e ((HT.out.bel HBV.out).bel (Below.refl _ _).drew) hkid he1 he2 he3)
    have RD := hid (fun (C : List Im) (a3 : Option Addr) (c3 : Nat) (w3 : World) (h3 : RSl encIn w3 a3 C) (hC : inss C = blk k e) => repeated_dd ⟨6, md, ml, mh, mz, mn, ma, ms, mc⟩ a3 c3 C w3 h3 (by rw [hC]; exact he4) (by rw [← inss_len, hC]; omega) ⟨hlo0, hlo9⟩ ⟨hhi0, hhi9⟩ hlh)
    unfold rmV at RD
    dsimp only at RD
    (have g0 := nn.c0; have g1 := nn.c1; have g2 := nn.c2; have g3 := nn.c3; have g4 := nn.c4; have g5 := nn.c5; have g6 := nn.c6; have gf0 := nn.fz 0; have gf1 := nn.fz 1; have gf2 := nn.fz 2; have gf3 := nn.fz 3; have gf4 := nn.fz 4; have gf5 := nn.fz 5; have gf6 := nn.fz 6; have gz := nn.lt; clear nn)
    go_upto_region 12 with fail
    go_region_with (first | ((go_at_call 82); refine CD.out.mono ?_; rintro _ w3 ⟨a3, c3, C, rfl, hC, o3, i3, b3⟩; have HC := hid hC; have OC := hid o3.sl; have IC := hid i3; have B3 := hid (HBV.out.trans (Below.mono (w := V) (show Below V.heap.size V w3 from Below.trans (Below.refl _ _).drew b3) (by omega))); obtain ⟨m0, m1, m2, m3, m4, m5, m6, -⟩ := (show NdC w3 w.heap.size 6 md ml mh mz mn (.slice ma ms.length mc) from NN.out.same (b3.block w.heap.size (by simp; omega))); clear hC o3 i3 b3) | ((go_at_call 111); refine (RD.out C a3 c3 w3 OC.out HC.out).mono ?_; rintro _ w4 ⟨a4, c4, L4, rfl, h4, o4, i4, b4⟩; have H4 := hid h4; have O4 := hid o4; have I4 := hid i4; have B4 := hid (B3.out.trans (b4.mono B3.out.size)); clear h4 o4 i4 b4))
    all_goals
      go_wp2_with fail
      go_ret
      refine ⟨a4, c4, L4, rfl, ?_, O4.out.base_le B3.out.size, fun v hv => I4.out v (IC.out v hv), B4.out⟩
      rw [H4.out, HC.out, HX.out]
      show repB _ _ = catB (List.replicate ml.toNat (blk k [e].flatten) ++ [if mh = -1 then loopB (blk k [e].flatten) mz else optB (blk k [e].flatten) mz (mh - ml).toNat])
      rw [show ([e] : List (List Rn)).flatten = e by simp]
      rfl
  · have hsum : sumB (cs.map (blk k)) ≤ 300 := by
      have hx := HX.out
      rcases h05 with rfl | rfl
      · have hone : cs.length = 1 := Hloc.out.1 rfl
        obtain ⟨e, rfl⟩ : ∃ e, cs = [e] := by
          match cs, hone with
          | [e], _ => exact ⟨e, rfl⟩
        have h1 : X = groupB (blk k [e].flatten) ml := hx
        rw [h1, show ([e] : List (List Rn)).flatten = e by simp] at hlen
        simp only [sumB, List.map_cons, List.map_nil, List.sum_cons, List.sum_nil]
        unfold groupB at hlen
        split at hlen
        · omega
        · simp [shI_len] at hlen; omega
      · have h1 : X = catB (cs.map (blk k)) := hx
        rw [h1, catB_len] at hlen; exact hlen
    obtain ⟨pre, hpre⟩ : ∃ pre : List Ins, pre = if mk = 5 ∧ 0 < ml then [iSave (2 * ml)] else [] := ⟨_, rfl⟩
    have hpl : pre.length ≤ 1 := by rw [hpre]; split <;> simp
    have HXF := hid (show X = pre ++ shI pre.length (catB (cs.map (blk k))) ++ (if mk = 5 ∧ 0 < ml then [iSave (2 * ml + 1)] else []) by
      have hx := HX.out
      rcases h05 with rfl | rfl
      · have hone : cs.length = 1 := Hloc.out.1 rfl
        obtain ⟨e, rfl⟩ : ∃ e, cs = [e] := by
          match cs, hone with
          | [e], _ => exact ⟨e, rfl⟩
        have h1 : X = groupB (blk k [e].flatten) ml := hx
        rw [show ([e] : List (List Rn)).flatten = e by simp] at h1
        rw [h1, hpre, List.map_cons, List.map_nil, catB_one]
        by_cases hm : 0 < ml
        · rw [if_pos ⟨rfl, hm⟩, if_pos ⟨rfl, hm⟩]
          unfold groupB
          rw [if_neg (by omega)]
          rfl
        · rw [if_neg (fun h => hm h.2), if_neg (fun h => hm h.2)]
          unfold groupB
          rw [if_pos (by omega)]
          simp [shI_zero]
      · have h1 : X = catB (cs.map (blk k)) := hx
        rw [h1, hpre, if_neg (fun h => absurd h.1 (by decide)), if_neg (fun h => absurd h.1 (by decide))]
        simp [shI_zero])
    have Hpre := hid hpre
    have w2l : IntKind.i64.wrap (2 * ml) = 2 * ml := by rw [IntKind.wrap_i64]; omega
    have w2m : IntKind.i64.wrap (2 * ml + 1) = 2 * ml + 1 := by rw [IntKind.wrap_i64]; omega
    have HL2 := hid hlen
    clear hpre HX hlen
    rcases h05 with rfl | rfl
    all_goals
      (have g0 := nn.c0; have g1 := nn.c1; have g2 := nn.c2; have g3 := nn.c3; have g4 := nn.c4; have g5 := nn.c5; have g6 := nn.c6; have gf0 := nn.fz 0; have gf1 := nn.fz 1; have gf2 := nn.fz 2; have gf3 := nn.fz 3; have gf4 := nn.fz 4; have gf5 := nn.fz 5; have gf6 := nn.fz 6; have gz := nn.lt; clear nn)
      go_upto_if 50 with fail
      go_cut [6] (fun ov wx => ∃ (aO : Option Addr) (cO : Nat) (O : List Im), ov = .slice aO O.length cO ∧ Hid (inss O = pre) ∧ Hid (RIn wx V.heap.size aO cO O) ∧ Hid (∀ v, Rms v (fun _ => False) T → Ims v O) ∧ Hid (Below V.heap.size V wx))
      case first =>
        by_cases hml : 0 < ml
        · have b2 : decide (0 < ml) = true := decide_eq_true hml
          have Hml := hid hml
          clear hml
          go_wp2_with ((at_builtin; (refine wpL_rapp Tryz.tyIn rfl (.tmp 51) (.tmp 56) rfl V.heap.size none (some ⟨w.heap.size + 1, 0, none⟩) 0 1 0 1 [] [⟨3, 2 * ml, 0, false, none, [], 0⟩] rfl (by first | rfl | simp | omega) (ROwn.nil _ _) rfl (by first | rfl | simp | omega) (RSl.lit (E := encIn) V ⟨3, 2 * ml, 0, false, none, [], 0⟩ 121 (w.heap.size + 1) zV.symm #[.int .i64 3, .int .i64 (2 * ml), .int .i64 0, .bool false, .slice none 0 0] rfl (by decide)) (by show (0 : Nat) + 1 ≤ 2199023255552; decide) (by simp <;> omega) ?_); intro a5 c5 w5 L5 Hl5 ho5 hb5 hk5 hA5; have HA5 := hid hA5; clear hA5; have Ho5 := hid ho5; clear ho5; have Hk5 := hid hk5; clear hk5; have hz5 := hb5.size))
          any_goals (first | (exfalso; have hz9 := Hml.out; omega) | skip)
          go_meet
          first
            | exact ⟨a5, c5, L5, rfl, hid (by rw [Hl5.out, Hpre.out, if_pos (by first | exact ⟨rfl, Hml.out⟩ | exact ⟨trivial, Hml.out⟩)]; rfl), Ho5, hid (fun v hv => by rw [Hl5.out]; exact Ims.one0 _ _ _ _ _), hid (Below.trans ((Below.refl _ _).alloc (Nat.le_refl _) _) hb5)⟩
            | exact ⟨none, 0, [], rfl, hid (by rw [Hpre.out, if_neg (fun h => by have h1 := h.1; revert h1; decide)]; rfl), hid (ROwn.nil _ _), hid (fun v _ m hm => by cases hm), hid (Below.refl _ _)⟩
        · have b2 : decide (0 < ml) = false := decide_eq_false hml
          have Hml := hid hml
          clear hml
          go_wp2_with fail
          any_goals (first | (exfalso; have hz9 := Hml.out; omega) | skip)
          go_meet
          exact ⟨none, 0, [], rfl, hid (by rw [Hpre.out, if_neg (fun h => by have h1 := Hml.out; have h2 := h.2; omega)]; rfl), hid (ROwn.nil _ _), hid (fun v _ m hm => by cases hm), hid (Below.refl _ _)⟩
      case rest =>
        rename World => w5
        obtain ⟨aO0, cO0, O0, rfl, HO0, HR0, HM0, HB0⟩ := hcut
        have EC := hid (fun w' h' => end_d a c T w' i md _ h' HS.out)
        obtain ⟨N, hN⟩ : ∃ N, N = i + (⟨_, md, ml, mh, mz, mn, ms⟩ :: cs.flatten : List Rn).length := ⟨_, rfl⟩
        rw [← hN] at EC
        have HNi := hid (show N = i + 1 + cs.flatten.length by rw [hN, List.length_cons]; omega)
        have hNT : N ≤ T.length := by omega
        clear hN hl1 hl0
        go_wp2_with fail
        go_loopg [6, 7] (T.length - (i + 1) + 1) (fun gk ov kv wr => ∃ (as' bs : List (List Rn)) (q : Nat) (aO : Option Addr) (cO : Nat) (O : List Im), gk = T.length - q + 1 ∧ cs = as' ++ bs ∧ Hid (q = i + 1 + as'.flatten.length) ∧ q ≤ N ∧ ov = .slice aO O.length cO ∧ kv = .int .i64 q ∧ Hid (inss O = pre ++ shI pre.length (catB (as'.map (blk k)))) ∧ Hid (RIn wr V.heap.size aO cO O) ∧ Hid (∀ v, Rms v (fun _ => False) T → Ims v O) ∧ Hid (Below V.heap.size V wr))
        case atStart => exact ⟨[], cs, i + 1, aO0, cO0, O0, rfl, rfl, hid (by simp), by have := HNi.out; omega, rfl, rfl, hid (by rw [HO0.out]; simp [catB, shI]), HR0, HM0, HB0⟩
        case round =>
          clear HO0 HR0 HM0 HB0
          obtain ⟨as', bs, q, aO, cO, O, rfl, hcs, hq, hqN, rfl, rfl, HO, HR, HM, HB⟩ := hrel
          have hz := HB.out.size
          have HBw := hid (HBV.out.trans (HB.out.mono (show w.heap.size ≤ V.heap.size by omega)))
          have E1 := hid (EC.out wr (HT.out.bel HBw.out))
          have hOl : O.length = pre.length + sumB (as'.map (blk k)) := by rw [← inss_len, HO.out, List.length_append, shI_len, catB_len]
          have hsp : sumB (as'.map (blk k)) + sumB (bs.map (blk k)) ≤ 300 := by rw [← sumB_app, ← List.map_append, ← hcs]; exact hsum
          have hO3 : O.length ≤ 301 := by omega
          have HOl := hid hOl
          clear hOl hsp
          cases bs with
          | cons e bs =>
            have hSk := HS.out
            have hck := Hc.out
            have hnk := Hno.out
            have hpk := Hp.out
            have hkk := Hcl.out
            have hokk := Hok.out
            rw [hcs] at hSk hck hnk hpk hkk hokk
            obtain ⟨hkid, he1, he2, he3, he4, he5, he6, he7⟩ := kid_facts hSk hck hnk hpk hkk hokk
            rw [← hq.out] at hkid
            have hqe : q + e.length ≤ N := by
              rw [List.length_cons] at he6
              have h1 := HNi.out
              rw [hcs] at h1
              rw [← hq.out] at he6
              omega
            have b1 : decide ((q : Int) < (N : Int)) = true := decide_eq_true (by omega)
            have CD := hid (fun w' h' => HI.out a c T w' q (md + 1) e h' hkid he1 he2 he3)
            have E2 := hid (fun w' h' => end_d a c T w' q (md + 1) e h' hkid)
            have HEi := hid he4
            have HEl := hid he7
            have Hcs := hid (show cs = (as' ++ [e]) ++ bs by rw [hcs]; simp)
            have Hq2 : Hid (q + e.length = i + 1 + (as' ++ [e]).flatten.length) := by rw [Hid, hq.out, List.flatten_append]; simp; omega
            clear hSk hck hnk hpk hkk hokk hkid he1 he2 he3 he4 he6 he7 hcs hq
            go_wp2_with fail
            refine E1.out.mono ?_
            rintro _ w1 ⟨rfl, b1'⟩
            have HB1 := hid (HB.out.trans (b1'.mono hz))
            have HBw1 := hid (HBw.out.trans (b1'.mono (HBw.out.size)))
            have HR1 := hid (HR.out.grow b1')
            have HRl := hid (fun k (hk : Blk aO k) => (HR1.out.lt hk).2)
            have z1 := HB1.out.size
            clear b1' E1 HB HR hz HBw
            go_wp2_with fail
            refine (CD.out w1 (HT.out.bel HBw1.out)).mono ?_
            rintro _ w4 ⟨a4, c4, C, rfl, hC, o4, i4, b4'⟩
            have HC := hid hC
            have HB4 := hid (HB1.out.trans (b4'.mono z1))
            have HR4 := hid (HR1.out.grow b4')
            have HC4 := hid (o4.sl)
            have HCi := hid i4
            have z4 := HB4.out.size
            have hCl : C.length ≤ 300 := by rw [← inss_len, hC]; exact HEl.out
            have SH := hid (shifted_d a4 c4 C O.length w4 HC4.out (by omega) (by rw [HC.out]; exact HEi.out) (by omega))
            clear b4' HB1 HR1 hC o4 i4 CD HC4 HBw1
            go_wp2_with fail
            refine SH.out.mono ?_
            rintro _ w6 ⟨a6, c6, D, rfl, hD, o6, k6, b6'⟩
            have HD := hid hD
            have HKy := hid k6
            have hDl : D.length = C.length := by have := congrArg List.length k6; simpa using this
            have HR6 := hid (HR4.out.grow b6')
            have HD6 := hid o6.sl
            have HB6 := hid (HB4.out.trans (b6'.mono z4))
            have z6 := HB6.out.size
            have hsum2 : O.length + D.length ≤ 2199023255552 := by omega
            clear hD o6 k6 b6' HR4 HB4 z4 SH hDl
            go_wp2_with ((at_builtin; (refine wpL_rapp Tryz.tyIn rfl (.tmp 68) (.tmp 74) rfl V.heap.size aO a6 O.length D.length cO c6 O D rfl (by first | rfl | simp | omega) HR6.out rfl (by first | rfl | simp | omega) HD6.out hsum2 z6 ?_); intro a7 c7 w7 L7 Hl7 ho7 hb7 hk7 hA7; have HA7 := hid hA7; clear hA7; have Ho7 := hid ho7; clear ho7; have Hk7 := hid hk7; clear hk7; have hz7 := hb7.size))
            have HB7 := hid (HB6.out.trans hb7)
            have HBw7 := hid (HBV.out.trans (HB7.out.mono (show w.heap.size ≤ V.heap.size by omega)))
            have z7 := HB7.out.size
            clear hb7 Hk7 HA7 HR6 HD6 HB6 z6 hz7
            refine (E2.out w7 (HT.out.bel HBw7.out)).mono ?_
            rintro _ w8 ⟨rfl, b8'⟩
            have HB8 := hid (HB7.out.trans (b8'.mono z7))
            have HR8 := hid (Ho7.out.grow b8')
            clear b8' HB7 Ho7 z7 HBw7
            go_wp2_with fail
            go_roundg (T.length - (q + e.length) + 1)
            case measure => omega
            case rel =>
              refine ⟨as' ++ [e], bs, q + e.length, a7, c7, L7, rfl, Hcs.out, Hq2, hqe, rfl, by first | rfl | go_num, hid ?_, HR8, hid ?_, HB8⟩
              · rw [List.map_append, List.map_cons, List.map_nil, catB_app, catB_one, shI_app, shI_two, catB_len, Hl7.out, inss_app, HO.out, HD.out, HC.out, HOl.out, List.append_assoc]
              · intro v hv; rw [Hl7.out]; exact (HM.out v hv).app ((HCi.out v hv).key HKy.out)
          | nil =>
            have hqN2 : q = N := by
              have h1 := hq.out
              have h2 := HNi.out
              rw [hcs, List.append_nil] at h2
              omega
            have b1 : decide ((q : Int) < (N : Int)) = false := decide_eq_false (by omega)
            have hcs2 : cs = as' := by rw [hcs, List.append_nil]
            have HOe := hid (show inss O = pre ++ shI pre.length (catB (cs.map (blk k))) by rw [hcs2]; exact HO.out)
            clear HO hcs hq hcs2
            go_wp2_with fail
            refine E1.out.mono ?_
            rintro _ w1 ⟨rfl, b1'⟩
            have HB1 := hid (HB.out.trans (b1'.mono hz))
            have HR1 := hid (HR.out.grow b1')
            have z1 := HB1.out.size
            have nq := NN.out.same (HB1.out.block w.heap.size (by omega))
            clear b1' E1 HB HR hz HBw
            (have u0 := nq.c0; have u1 := nq.c1; have u2 := nq.c2; have u3 := nq.c3; have u4 := nq.c4; have u5 := nq.c5; have u6 := nq.c6; have uf0 := nq.fz 0; have uf1 := nq.fz 1; have uf2 := nq.fz 2; have uf3 := nq.fz 3; have uf4 := nq.fz 4; have uf5 := nq.fz 5; have uf6 := nq.fz 6; have uz := nq.lt; clear nq)
            by_cases hml : 0 < ml
            · have b2 : decide (0 < ml) = true := decide_eq_true hml
              have Hml := hid hml
              clear hml
              go_wp2_with ((at_builtin; (refine wpL_rapp Tryz.tyIn rfl (.tmp 84) (.tmp 90) rfl V.heap.size aO (some ⟨w1.heap.size, 0, none⟩) O.length 1 cO 1 O [⟨3, 2 * ml + 1, 0, false, none, [], 0⟩] rfl (by first | rfl | simp | omega) (HR1.out.grow (by (repeat' (first | exact Below.refl _ _ | assumption | refine bdrewN ?_ _ | refine Below.drew ?_ | refine bal ?_ _ | refine bthen ?_ (by assumption))))) rfl (by first | rfl | simp | omega) (RSl.lit (E := encIn) w1 ⟨3, 2 * ml + 1, 0, false, none, [], 0⟩ 121 w1.heap.size rfl #[.int .i64 3, .int .i64 (2 * ml + 1), .int .i64 0, .bool false, .slice none 0 0] rfl (by decide)) (by simp; show O.length + 1 ≤ 2199023255552; omega) (by simp; omega) ?_); intro a9 c9 w9 L9 Hl9 ho9 hb9 hk9 hA9; have HA9 := hid hA9; clear hA9; have Ho9 := hid ho9; clear ho9; have Hk9 := hid hk9; clear hk9; have hz9 := hb9.size))
              go_ret
              first
                | exact ⟨a9, c9, L9, rfl, by rw [HXF.out, if_pos (by first | exact ⟨rfl, Hml.out⟩ | exact ⟨trivial, Hml.out⟩), Hl9.out, inss_app, HOe.out]; rfl, Ho9.out.base_le (by omega), fun v hv => by rw [Hl9.out]; exact (HM.out v hv).app (Ims.one0 _ _ _ _ _), HBV.out.trans ((HB1.out.trans (Below.trans ((Below.refl _ _).alloc z1 _) hb9)).mono (by omega))⟩
                | exact ⟨aO, cO, O, rfl, by rw [HXF.out, if_neg (fun h => by have h1 := h.1; revert h1; decide), List.append_nil]; exact HOe.out, HR1.out.base_le (by omega), HM.out, HBV.out.trans (HB1.out.mono (by omega))⟩
            · have b2 : decide (0 < ml) = false := decide_eq_false hml
              have Hml := hid hml
              clear hml
              go_wp2_with fail
              go_ret
              exact ⟨aO, cO, O, rfl, by rw [HXF.out, if_neg (fun h => by have h1 := Hml.out; have h2 := h.2; omega), List.append_nil]; exact HOe.out, HR1.out.base_le (by omega), HM.out, HBV.out.trans (HB1.out.mono (by omega))⟩
theorem code_all (k : Nat) : CodeC k := by
  induction k with
  | zero => intro a c T w i d t h hS hk; have := hS.len.2; omega
  | succ k ih => exact code_step k ih
end Go.Proofs.YtefgjicegbhcaaaGreat
