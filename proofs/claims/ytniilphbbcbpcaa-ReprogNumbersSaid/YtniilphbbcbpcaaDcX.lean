/- Trees in a list by places (SubT), how long the code of a node is by that of its kids, for the document's compiler. The document's end and size of a node. The document's SameInst: programs that read alike are told to be the same (sameinst_c). The document's shifted. -/
import Derived.Test.YtniilphbbcbpcaaCpA
import Derived.Test.YtniilphbbcbpcaaPgA
import Derived.Test.YtniilphbbcbpcaaRga
import Derived.Test.YtniilphbbcbpcaaSignsL
import Derived.Test.YtniilphbbcbpcaaSme
import Derived.Deep.RegionHeld3
namespace Go.Proofs.Ytniilphbbcbpcaa
namespace ReM
/-- the tree t of depth d stands at place i of a list -/
def SubT (l : List Rn) (i : Nat) (d : Int) (t : List Rn) : Prop := ∃ pre post, l = pre ++ (t ++ post) ∧ pre.length = i ∧ NodAt d t ∧ Ends d post
def lgt (l : List Rn) (i : Nat) : Rn := l.getD i ⟨0, 0, 0, 0, false, false, []⟩
theorem lgt_mid (pre : List Rn) (x : Rn) (post : List Rn) {n : Nat} (h : pre.length = n) : lgt (pre ++ x :: post) n = x := by
  subst h; simp [lgt]
theorem SubT.whole {l : List Rn} (h : NodAt 0 l) : SubT l 0 0 l := ⟨[], [], by simp, rfl, h, Ends.nil _⟩
theorem NodAt.pos {d : Int} {t : List Rn} (h : NodAt d t) : 0 < t.length := by
  obtain ⟨x, t', rfl, _⟩ := h.head; exact Nat.succ_pos _
theorem SubT.len {l : List Rn} {i : Nat} {d : Int} {t : List Rn} (h : SubT l i d t) : i + t.length ≤ l.length ∧ 0 < t.length := by
  obtain ⟨pre, post, rfl, rfl, h1, _⟩ := h
  exact ⟨by simp only [List.length_append]; omega, h1.pos⟩
theorem SubT.head {l : List Rn} {i : Nat} {d : Int} {x : Rn} {t : List Rn} (h : SubT l i d (x :: t)) : lgt l i = x ∧ x.deep = d := by
  obtain ⟨pre, post, rfl, rfl, h1, _⟩ := h
  obtain ⟨y, t', e, h2, _⟩ := h1.head
  injection e with e1 e2
  exact ⟨lgt_mid pre x _ rfl, by rw [e1]; exact h2⟩
/-- where the node ends -/
theorem SubT.in {l : List Rn} {i : Nat} {d : Int} {t : List Rn} (h : SubT l i d t) {k : Nat} (h1 : i < k) (h2 : k < i + t.length) : (lgt l i).deep < (lgt l k).deep := by
  obtain ⟨pre, post, rfl, rfl, hn, _⟩ := h
  obtain ⟨x, t', rfl, h3, h4⟩ := hn.head
  rw [List.cons_append, lgt_mid pre x _ rfl, h3]
  obtain ⟨j, rfl⟩ : ∃ j, k = pre.length + (j + 1) := ⟨k - pre.length - 1, by omega⟩
  have hj : j < t'.length := by rw [List.length_cons] at h2; omega
  refine h4 _ ?_
  unfold lgt
  rw [List.getD_eq_getElem?_getD, List.getElem?_append_right (by omega), show pre.length + (j + 1) - pre.length = j + 1 by omega, List.getElem?_cons_succ, List.getElem?_append_left hj, List.getElem?_eq_getElem hj]
  exact List.getElem_mem hj
theorem SubT.out {l : List Rn} {i : Nat} {d : Int} {t : List Rn} (h : SubT l i d t) (h1 : i + t.length < l.length) : ¬ (lgt l i).deep < (lgt l (i + t.length)).deep := by
  obtain ⟨pre, post, rfl, rfl, hn, he⟩ := h
  obtain ⟨x, t', rfl, h3, h4⟩ := hn.head
  cases post with
  | nil => simp at h1
  | cons y post =>
    have h5 := he y post rfl
    have e1 : lgt (pre ++ (x :: t' ++ y :: post)) pre.length = x := lgt_mid pre x _ rfl
    have e2 : lgt (pre ++ (x :: t' ++ y :: post)) (pre.length + (x :: t').length) = y := by
      rw [← List.append_assoc]
      exact lgt_mid (pre ++ x :: t') y post (by rw [List.length_append])
    rw [e1, e2, h3]
    omega
theorem SubT.kid {l : List Rn} {i : Nat} {d : Int} {x : Rn} {as' bs : List (List Rn)} {c : List Rn} (h : SubT l i d (x :: (as' ++ c :: bs).flatten)) (hc : ∀ e, e ∈ as' ++ c :: bs → NodAt (d + 1) e) : SubT l (i + 1 + as'.flatten.length) (d + 1) c := by
  obtain ⟨pre, post, rfl, rfl, hn, he⟩ := h
  refine ⟨pre ++ x :: as'.flatten, bs.flatten ++ post, by simp, by simp; omega, hc c (by simp), ?_⟩
  exact ends_flat (fun e h => hc e (by simp [h])) (fun y t hy => by have := he y t hy; omega)
theorem SubT.kids {l : List Rn} {i : Nat} {d : Int} {t : List Rn} (h : SubT l i d t) : ∃ x cs, t = x :: cs.flatten ∧ x.deep = d ∧ (∀ c, c ∈ cs → NodAt (d + 1) c) ∧ Loc x cs.length ∧ partsL cs.flatten = cs := by
  obtain ⟨pre, post, rfl, rfl, hn, he⟩ := h
  cases hn with
  | mk _ x cs hx hc hl => exact ⟨x, cs, rfl, hx, hc, hl, parts_flat cs hc⟩
/-- a size as the document counts it, and how many there are -/
def RelS (s : Int) (n : Nat) : Prop := (n ≤ 300 → s = n) ∧ (300 < n → 300 < s) ∧ 0 ≤ s
theorem RelS.add {s s' : Int} {n n' : Nat} (h : RelS s n) (h' : RelS s' n') : RelS (min (s + s') 100000) (n + n') := by
  obtain ⟨h1, h2, h3⟩ := h
  obtain ⟨h4, h5, h6⟩ := h'
  refine ⟨fun hn => ?_, fun hn => ?_, by omega⟩
  · rw [h1 (by omega), h4 (by omega)]; omega
  · rcases Nat.lt_or_ge 300 n with h | h
    · have := h2 h; omega
    · have e1 := h1 h
      rcases Nat.lt_or_ge 300 n' with h' | h'
      · have := h5 h'; omega
      · have e2 := h4 h'; omega
theorem RelS.plus {s : Int} {n : Nat} (h : RelS s n) (k : Nat) : RelS (s + k) (n + k) := by
  obtain ⟨h1, h2, h3⟩ := h
  refine ⟨fun hn => ?_, fun hn => ?_, by omega⟩
  · rw [h1 (by omega)]; omega
  · rcases Nat.lt_or_ge 300 n with h | h
    · have := h2 h; omega
    · have e1 := h1 h; omega
theorem RelS.times {s : Int} {n : Nat} (h : RelS s n) (k : Nat) : RelS ((k : Int) * s) (k * n) := by
  obtain ⟨h1, h2, h3⟩ := h
  rcases Nat.lt_or_ge 300 n with h | h
  · have h4 := h2 h
    cases k with
    | zero => simp [RelS]
    | succ k =>
      have e1 : (300 : Nat) < (k + 1) * n := by rw [Nat.succ_mul]; omega
      have e2 : s ≤ ((k + 1 : Nat) : Int) * s := by
        rw [show ((k + 1 : Nat) : Int) = (k : Int) + 1 from rfl, Int.add_mul, Int.one_mul]
        have := Int.mul_nonneg (show (0 : Int) ≤ k by omega) h3
        omega
      exact ⟨fun h => by omega, fun _ => by omega, by omega⟩
  · rw [h1 h]
    have e : (k : Int) * (n : Int) = ((k * n : Nat) : Int) := by simp
    rw [e]
    exact ⟨fun _ => rfl, fun h => by omega, by omega⟩
theorem RelS.sat {s : Int} {n : Nat} (h : RelS s n) : RelS (min s 100000) n := by
  obtain ⟨h1, h2, h3⟩ := h
  exact ⟨fun hn => by rw [h1 hn]; omega, fun hn => by have := h2 hn; omega, by omega⟩
theorem RelS.both {s s' : Int} {n n' : Nat} (h : RelS s n) (h' : RelS s' n') : RelS (s + s') (n + n') := by
  obtain ⟨h1, h2, h3⟩ := h
  obtain ⟨h4, h5, h6⟩ := h'
  refine ⟨fun hn => ?_, fun hn => ?_, by omega⟩
  · rw [h1 (by omega), h4 (by omega)]; omega
  · rcases Nat.lt_or_ge 300 n with h | h
    · have := h2 h; omega
    · have e1 := h1 h
      rcases Nat.lt_or_ge 300 n' with h' | h'
      · have := h5 h'; omega
      · have e2 := h4 h'; omega
/-- how long the kids' codes are -/
def sumB (bs : List (List Ins)) : Nat := (bs.map List.length).sum
theorem catB_len (bs : List (List Ins)) : (catB bs).length = sumB bs := by
  induction bs with
  | nil => rfl
  | cons b bs ih => simp only [catB, List.length_append, shI_len, ih, sumB, List.map_cons, List.sum_cons]
theorem altLen_eq (bs : List (List Ins)) (h : bs ≠ []) : altLen bs = sumB bs + 2 * (bs.length - 1) := by
  induction bs with
  | nil => exact absurd rfl h
  | cons b bs ih =>
    cases bs with
    | nil => simp [altLen, sumB]
    | cons c bs =>
      rw [altLen, ih (by simp)]
      simp only [sumB, List.map_cons, List.sum_cons, List.length_cons]
      omega
theorem sumB_snoc (bs : List (List Ins)) (b : List Ins) : sumB (bs ++ [b]) = sumB bs + b.length := by simp [sumB]
/-- the code of a node by its kids' -/
theorem blk_kids {k : Nat} {x : Rn} {cs : List (List Rn)} (h : partsL cs.flatten = cs) : blk (k + 1) (x :: cs.flatten) = (
      if x.kind = 0 then catB (cs.map (blk k))
      else if x.kind = 1 then altC (altLen (cs.map (blk k))) 0 (cs.map (blk k))
      else if x.kind = 2 then [iSet x.not x.set]
      else if x.kind = 3 then [iStart]
      else if x.kind = 4 then [iEnd]
      else if x.kind = 5 then groupB (blk k cs.flatten) x.lo
      else if x.kind = 6 then
        catB (List.replicate x.lo.toNat (blk k cs.flatten) ++ [if x.hi = -1 then loopB (blk k cs.flatten) x.lazy else optB (blk k cs.flatten) x.lazy (x.hi - x.lo).toNat])
      else []) := by
  rw [blk, h]
theorem loopB_len (b : List Ins) (z : Bool) : (loopB b z).length = b.length + 2 := by simp [loopB, shI_len]
theorem rep_len (n : Nat) (b c : List Ins) : (catB (List.replicate n b ++ [c])).length = n * b.length + c.length := by
  rw [catB_len, sumB_snoc]; simp [sumB]
end ReM
end Go.Proofs.Ytniilphbbcbpcaa
namespace Go.Proofs.Ytniilphbbcbpcaa
open Go.RowKit ReM

/-- a tree in memory that can be read -/
structure TrM (w : World) (a : Option Addr) (T : List Rm) : Prop where
  sl : RSl encRe w a T
  ok : Rms w (fun _ => False) T
  len : T.length ≤ 5000
theorem TrM.bel {w w' : World} {a : Option Addr} {T : List Rm} (h : TrM w a T) (hb : Below w.heap.size w w') : TrM w' a T := ⟨h.sl.bel hb, h.ok.bel hb, h.len⟩
theorem lgt_rns {T : List Rm} {k : Nat} (h : k < T.length) : lgt (rns T) k = (rgt T k).rn := by
  unfold lgt
  rw [List.getD_eq_getElem?_getD, List.getElem?_eq_getElem (by rw [rns_len]; exact h), rns_get T h]
  rfl
set_option maxHeartbeats 8000000 in
theorem end_d (a : Option Addr) (c : Nat) (T : List Rm) (w : World) (i : Nat) (d : Int) (t : List Rn) (h : TrM w a T) (hS : SubT (rns T) i d t) :
    Calls Try.prog 57 #[.slice a T.length c, .int .i64 i] w fun e' w' => e' = .returned (.int .i64 ((i + t.length : Nat) : Int)) ∧ Below w.heap.size w w' := by
  have hl := h.len
  obtain ⟨hl1, hl0⟩ := hS.len
  rw [rns_len] at hl1
  have W0 : IntKind.i64.wrap ((i : Int) + 1) = ((i + 1 : Nat) : Int) := by rw [IntKind.wrap_i64]; omega
  obtain ⟨m, hm⟩ : ∃ m, m = i + t.length := ⟨_, rfl⟩
  have HM := hid hm
  rw [← hm] at hl1 ⊢
  have him : i + 1 ≤ m := by omega
  have Hin := hid (fun k (h1 : i < k) (h2 : k < m) => hS.in h1 (by rw [← HM.out]; exact h2))
  have Hout := hid (fun (h1 : m < T.length) => (show ¬ (lgt (rns T) i).deep < (lgt (rns T) m).deep by rw [HM.out]; exact hS.out (by rw [rns_len, ← HM.out]; exact h1)))
  have HT := hid h
  obtain ⟨n, hn⟩ : ∃ n, n = T.length := ⟨_, rfl⟩
  rw [← hn] at hl hl1 ⊢
  have HN := hid hn
  clear h hS hm hn hl0
  go_enter Try.func57, Try.ntmps57
  go_wp2_with fail
  go_loopw [5] (fun kv wr => ∃ k : Nat, i < k ∧ k ≤ m ∧ kv = .int .i64 k ∧ Below w.heap.size w wr) (fun kv _ => n - (intOf kv).toNat)
  case atStart => exact ⟨i + 1, by omega, by omega, rfl, by (repeat' (first | exact Below.refl _ _ | assumption | refine bdrewN ?_ _ | refine Below.drew ?_ | refine Below.setCell ?_ (Nat.le_refl _) _ | refine bal ?_ _ | refine bthen ?_ (by assumption)))⟩
  case round =>
    obtain ⟨k, hk1, hk2, rfl, hb⟩ := hrel
    have W1 : IntKind.i64.wrap ((k : Int) + 1) = ((k + 1 : Nat) : Int) := by rw [IntKind.wrap_i64]; omega
    by_cases hkn : k < n
    · have hkT : k < T.length := by rw [← HN.out]; exact hkn
      have hiT : i < T.length := by omega
      obtain ⟨b, o, rfl, r1⟩ := (HT.out.sl.bel hb).rc1 hkT
      obtain ⟨b', o', he, r2⟩ := (HT.out.sl.bel hb).rc1 hiT
      simp only [Option.some.injEq, Addr.mk.injEq, and_true] at he
      obtain ⟨rfl, rfl⟩ := he
      have x1 := (rec_re r1).2.1
      have x2 := (rec_re r2).2.1
      have b1 : decide ((k : Int) < (n : Int)) = true := decide_eq_true (by omega)
      have zk : (k : Int) < (n : Int) := by omega
      have zi : (i : Int) < (n : Int) := by omega
      have e1 : (lgt (rns T) k).deep = (rgt T k).deep := by rw [lgt_rns hkT]; rfl
      have e2 : (lgt (rns T) i).deep = (rgt T i).deep := by rw [lgt_rns hiT]; rfl
      by_cases hkm : k < m
      · have hd := Hin.out k hk1 hkm
        rw [e1, e2] at hd
        have b2 : decide ((rgt T i).deep < (rgt T k).deep) = true := decide_eq_true hd
        clear r1 r2 e1 e2 hd
        generalize (rgt T k).deep = dk at *
        generalize (rgt T i).deep = di at *
        go_wp2_with fail
        go_quiet (fail)
        go_wp2_with fail
        go_roundw
        case rel => exact ⟨k + 1, by omega, by omega, by go_num, by (repeat' (first | exact Below.refl _ _ | assumption | refine bdrewN ?_ _ | refine Below.drew ?_ | refine Below.setCell ?_ (Nat.le_refl _) _ | refine bal ?_ _ | refine bthen ?_ (by assumption)))⟩
        case measure => simp [intOf]; omega
      · obtain rfl : k = m := by omega
        have hd := Hout.out hkT
        rw [e1, e2] at hd
        have b2 : decide ((rgt T i).deep < (rgt T k).deep) = false := decide_eq_false (by omega)
        clear r1 r2 e1 e2 hd
        generalize (rgt T k).deep = dk at *
        generalize (rgt T i).deep = di at *
        go_wp2_with fail
        go_quiet (fail)
        go_wp2_with fail
        go_ret
        exact ⟨rfl, by (repeat' (first | exact Below.refl _ _ | assumption | refine bdrewN ?_ _ | refine Below.drew ?_ | refine Below.setCell ?_ (Nat.le_refl _) _ | refine bal ?_ _ | refine bthen ?_ (by assumption)))⟩
    · obtain rfl : k = m := by omega
      have b1 : decide ((k : Int) < (n : Int)) = false := decide_eq_false (by omega)
      go_wp2_with fail
      go_quiet (fail)
      go_wp2_with fail
      go_ret
      exact ⟨rfl, by (repeat' (first | exact Below.refl _ _ | assumption | refine bdrewN ?_ _ | refine Below.drew ?_ | refine Below.setCell ?_ (Nat.le_refl _) _ | refine bal ?_ _ | refine bthen ?_ (by assumption)))⟩
/-- numbers and kinds as the reader leaves them -/
def NumOk (t : List Rn) : Prop := ∀ x, x ∈ t → LoOk x ∧ 0 ≤ x.kind ∧ x.kind ≤ 6
def SizeC (k : Nat) : Prop := ∀ (a : Option Addr) (c : Nat) (T : List Rm) (w : World) (i : Nat) (d : Int) (t : List Rn), TrM w a T → SubT (rns T) i d t → t.length ≤ k → NumOk t →
    Calls Try.prog 40 #[.slice a T.length c, .int .i64 i] w fun e' w' => ∃ s, e' = .returned (.int .i64 s) ∧ RelS s (blk k t).length ∧ s ≤ 120000 ∧ Below w.heap.size w w'
set_option maxRecDepth 20000 in
set_option maxHeartbeats 16000000 in
theorem size_step (k : Nat) (IH : SizeC k) : SizeC (k + 1) := by
  intro a c T w i d t h hS hk hno
  have hl := h.len
  obtain ⟨hl1, hl0⟩ := hS.len
  rw [rns_len] at hl1
  obtain ⟨x, cs, rfl, hx, hc, hloc, hp⟩ := hS.kids
  have hiT : i < T.length := by omega
  have HT := hid h
  have hxi : (rgt T i).rn = x := by rw [← lgt_rns hiT]; exact hS.head.1
  have HS := hid hS
  have EC := hid (fun w' h' => end_d a c T w' i d _ h' hS)
  obtain ⟨N, hN⟩ : ∃ N, N = i + (x :: cs.flatten).length := ⟨_, rfl⟩
  rw [← hN] at EC
  have hNT : N ≤ T.length := by omega
  have hNi : N = i + 1 + cs.flatten.length := by rw [hN, List.length_cons]; omega
  have W0 : IntKind.i64.wrap ((i : Int) + 1) = ((i + 1 : Nat) : Int) := by rw [IntKind.wrap_i64]; omega
  have hno' := hno x (by simp)
  have Hno := hid hno
  have HI := hid IH
  have Hp := hid hp
  have Hloc := hid hloc
  have Hxi := hid hxi
  have hcl : cs.flatten.length ≤ k := by rw [List.length_cons] at hk; omega
  have HNi := hid hNi
  clear h hS hN hno hk hl0 hl1 hNi IH hp hloc hxi hx
  go_enter Try.func40, Try.ntmps40
  go_wp2_with fail
  go_loopg [5, 6, 7] (T.length - (i + 1) + 1) (fun gk sv mv kv wr => ∃ (as' bs : List (List Rn)) (s : Int) (q : Nat), gk = T.length - q + 1 ∧ cs = as' ++ bs ∧ q = i + 1 + as'.flatten.length ∧ q ≤ N ∧ sv = .int .i64 s ∧ mv = .int .i64 (as'.length : Int) ∧ kv = .int .i64 q ∧ Hid (RelS s (sumB (as'.map (blk k)))) ∧ s ≤ 100000 ∧ Hid (Below w.heap.size w wr))
  case atStart => exact ⟨[], cs, 0, i + 1, rfl, rfl, by simp, by have := HNi.out; omega, rfl, rfl, rfl, hid ⟨fun _ => rfl, fun h => by simp [sumB] at h, by omega⟩, by omega, hid (by (repeat' (first | exact Below.refl _ _ | assumption | refine bdrewN ?_ _ | refine Below.drew ?_ | refine Below.setCell ?_ (Nat.le_refl _) _ | refine bal ?_ _ | refine bthen ?_ (by assumption))))⟩
  case round =>
    obtain ⟨as', bs, s, q, rfl, hcs, hq, hqN, rfl, rfl, rfl, HR, hs, HB⟩ := hrel
    have hs0 := HR.out.2.2
    have Wq : ∀ m : Nat, m ≤ 5000 → IntKind.i64.wrap ((m : Int) + 1) = ((m + 1 : Nat) : Int) := fun m hm => by rw [IntKind.wrap_i64]; omega
    have hasl : as'.length ≤ 5000 := by
      have h1 : as'.length ≤ cs.flatten.length := by
        rw [hcs]
        have : ∀ e, e ∈ as' → 0 < e.length := fun e he => (hc e (by rw [hcs]; exact List.mem_append_left _ he)).pos
        rw [List.flatten_append, List.length_append]
        refine Nat.le_trans ?_ (Nat.le_add_right _ _)
        clear hcs hq HR
        induction as' with
        | nil => simp
        | cons e es ih => rw [List.flatten_cons, List.length_append, List.length_cons]; have h1 := this e (by simp); have h2 := ih (fun e he => this e (List.mem_cons_of_mem _ he)); omega
      have := HNi.out; omega
    have Wk := Wq as'.length hasl
    clear Wq
    have E1 := hid (EC.out wr (HT.out.bel HB.out))
    have hz := HB.out.size
    cases bs with
    | cons e bs =>
      have hkid := HS.out
      rw [hcs] at hkid
      have hkid := hkid.kid (fun e' he' => hc e' (by rw [hcs]; exact he'))
      rw [← hq] at hkid
      have hel : 0 < e.length := (hc e (by rw [hcs]; simp)).pos
      have hfl : cs.flatten.length = as'.flatten.length + e.length + bs.flatten.length := by rw [hcs, List.flatten_append, List.length_append, List.flatten_cons, List.length_append]; omega
      have hqe : q + e.length ≤ N := by have := HNi.out; omega
      have b1 : decide ((q : Int) < (N : Int)) = true := decide_eq_true (by omega)
      have hsub : NumOk e := fun y hy => Hno.out y (List.mem_cons_of_mem _ (List.mem_flatten.2 ⟨e, by rw [hcs]; simp, hy⟩))
      have SC := hid (fun w' h' => HI.out a c T w' q (d + 1) e h' hkid (by omega) hsub)
      have E2 := hid (fun w' h' => end_d a c T w' q (d + 1) e h' hkid)
      have Hcs := hid (show cs = (as' ++ [e]) ++ bs by rw [hcs]; simp)
      have hq2 : q + e.length = i + 1 + (as' ++ [e]).flatten.length := by rw [hq, List.flatten_append]; simp; omega
      have Hq2 := hid hq2
      clear hcs hq hkid hsub hfl hq2
      go_wp2_with fail
      refine E1.out.mono ?_
      rintro _ w1 ⟨rfl, b1'⟩
      have HB1 := hid (HB.out.trans (b1'.mono hz))
      have z1 := HB1.out.size
      clear b1' E1 HB
      go_wp2_with fail
      refine (SC.out w1 (HT.out.bel HB1.out)).mono ?_
      rintro _ w2 ⟨s2, rfl, hr2, hs2, b2⟩
      have HB2 := hid (HB1.out.trans (b2.mono z1))
      have z2 := HB2.out.size
      have hs20 := hr2.2.2
      have hr3 : RelS (min (s + s2) 100000) (sumB ((as' ++ [e]).map (blk k))) := by rw [List.map_append, List.map_cons, List.map_nil, sumB_snoc]; exact HR.out.add hr2
      have HR1 := hid (fun (h : s + s2 ≤ 100000) => (show RelS (s + s2) (sumB ((as' ++ [e]).map (blk k))) by rw [Int.min_eq_left h] at hr3; exact hr3))
      have HR2 := hid (fun (h : 100000 ≤ s + s2) => (show RelS 100000 (sumB ((as' ++ [e]).map (blk k))) by rw [Int.min_eq_right h] at hr3; exact hr3))
      have Ws : IntKind.i64.wrap (s + s2) = s + s2 := by rw [IntKind.wrap_i64]; omega
      clear b2 hr2 hr3 HR SC HB1
      go_wp2_with fail
      all_goals
        refine (E2.out w2 (HT.out.bel HB2.out)).mono ?_
        rintro _ w3 ⟨rfl, b3⟩
        have HB3 := hid (HB2.out.trans (b3.mono z2))
        clear b3 E2 HB2
        go_wp2_with fail
        go_roundg (T.length - (q + e.length) + 1)
        case measure => omega
        case rel =>
          first
            | exact ⟨as' ++ [e], bs, s + s2, q + e.length, rfl, Hcs.out, Hq2.out, hqe, rfl, by simp, by simp, hid (HR1.out (by omega)), by omega, HB3⟩
            | exact ⟨as' ++ [e], bs, 100000, q + e.length, rfl, Hcs.out, Hq2.out, hqe, rfl, by simp, by simp, hid (HR2.out (by omega)), by omega, HB3⟩
    | nil =>
      have hqN2 : q = N := by rw [HNi.out, hcs]; simp at hq ⊢; exact hq
      have hcs2 : as' = cs := by rw [hcs]; simp
      subst hqN2
      rw [hcs2] at HR
      have hcn := hid (show (as'.length : Int) = cs.length by rw [hcs2])
      have b1 : decide ((q : Int) < (q : Int)) = false := decide_eq_false (by omega)
      clear hcs hq hcs2 Wk
      go_wp2_with fail
      refine E1.out.mono ?_
      rintro _ w1 ⟨rfl, b1'⟩
      have HB1 := hid (HB.out.trans (b1'.mono hz))
      obtain ⟨bb, oo, rfl, r1⟩ := (HT.out.sl.bel HB1.out).rc1 (show i < T.length by omega)
      obtain ⟨x0, x1, x2, x3, x4, x5, x6⟩ := rec_re r1
      have hx' := Hxi.out
      have zi : (i : Int) < (T.length : Int) := by omega
      generalize rgt T i = m at *
      obtain ⟨mk, md, ml, mh, mz, mn, ma, ms, mc⟩ := m
      dsimp only [Rm.rn] at *
      subst hx'
      clear r1 b1' E1 HB
      have hblk := blk_kids (k := k) (x := ⟨mk, md, ml, mh, mz, mn, ms⟩) Hp.out
      dsimp only at hblk
      obtain ⟨⟨hlo0, hlo9, hhi0, hhi9⟩, hk0, hk6⟩ := hno'
      dsimp only at hlo0 hlo9 hhi0 hhi9 hk0 hk6
      have hloc := Hloc.out
      unfold ReM.Loc at hloc
      dsimp only at hloc
      have hone : cs.length = 1 → sumB (cs.map (blk k)) = (blk k cs.flatten).length := fun h => by
        match cs, h with
        | [c], _ => simp [sumB]
      have HOne := hid hone
      have HBlk := hid hblk
      have HLoc := hid hloc
      clear hblk hloc hone
      go_upto_region 8 with fail
      obtain ⟨V, hV⟩ : ∃ V, V = w1.alloc (.cells #[.int .i64 mk, .int .i64 md, .int .i64 ml, .int .i64 mh, .bool mz, .bool mn, .slice ma ms.length mc] 50) := ⟨_, rfl⟩
      have nn : NdC V w1.heap.size mk md ml mh mz mn (.slice ma ms.length mc) := by subst hV; exact NdC.new _ _ _ _ _ _ _ _ _ _ rfl
      have HBV : Hid (Below w.heap.size w V) := by subst hV; exact HB1.out.alloc (by have := HB1.out.size; omega) _
      rw [← hV]
      clear hV HB1 x0 x1 x2 x3 x4 x5 x6
      (have g0 := nn.c0; have g1 := nn.c1; have g2 := nn.c2; have g3 := nn.c3; have g4 := nn.c4; have g5 := nn.c5; have g6 := nn.c6; have gf0 := nn.fz 0; have gf1 := nn.fz 1; have gf2 := nn.fz 2; have gf3 := nn.fz 3; have gf4 := nn.fz 4; have gf5 := nn.fz 5; have gf6 := nn.fz 6; have gz := nn.lt; clear nn)
      rcases (show mk = 2 ∨ mk = 3 ∨ mk = 4 ∨ mk = 1 ∨ mk = 5 ∨ mk = 6 ∨ mk = 0 by omega) with rfl | rfl | rfl | rfl | rfl | rfl | rfl
      · go_wp2_with fail
        go_ret
        exact ⟨1, rfl, by rw [HBlk.out]; show RelS 1 1; exact ⟨fun _ => rfl, fun h => by omega, by omega⟩, by decide, HBV.out⟩
      · go_wp2_with fail
        go_ret
        exact ⟨1, rfl, by rw [HBlk.out]; show RelS 1 1; exact ⟨fun _ => rfl, fun h => by omega, by omega⟩, by decide, HBV.out⟩
      · go_wp2_with fail
        go_ret
        exact ⟨1, rfl, by rw [HBlk.out]; show RelS 1 1; exact ⟨fun _ => rfl, fun h => by omega, by omega⟩, by decide, HBV.out⟩
      · have h2 := HLoc.out.2.2.1 rfl
        have hcn' := hcn.out
        have wa : IntKind.i64.wrap ((as'.length : Int) - 1) = (as'.length : Int) - 1 := by rw [IntKind.wrap_i64]; omega
        have wb : IntKind.i64.wrap (2 * ((as'.length : Int) - 1)) = 2 * ((as'.length : Int) - 1) := by rw [IntKind.wrap_i64]; omega
        have wc : IntKind.i64.wrap (s + 2 * ((as'.length : Int) - 1)) = s + 2 * ((as'.length : Int) - 1) := by rw [IntKind.wrap_i64]; omega
        clear hcn'
        go_wp2_with fail
        go_ret
        refine ⟨_, rfl, ?_, by omega, HBV.out⟩
        have hcn' := hcn.out
        rw [HBlk.out]
        show RelS _ (altC (altLen (cs.map (blk k))) 0 (cs.map (blk k))).length
        rw [altC_len, altLen_eq _ (by intro h; have := congrArg List.length h; simp at this; rw [this] at h2; simp at h2), List.length_map]
        have hq2 := HR.out.plus (2 * (cs.length - 1))
        rw [show ((2 * (cs.length - 1) : Nat) : Int) = 2 * ((as'.length : Int) - 1) by omega] at hq2
        exact hq2
      · have h1 := HOne.out (HLoc.out.1 rfl)
        have wa : IntKind.i64.wrap (s + 2) = s + 2 := by rw [IntKind.wrap_i64]; omega
        have hr := HR.out
        rw [h1] at hr
        by_cases hl0 : ml = 0
        · subst hl0
          go_wp2_with fail
          go_ret
          exact ⟨s, rfl, by rw [HBlk.out]; exact hr, by omega, HBV.out⟩
        · have b2 : decide ((0 : Int) < ml) = true := decide_eq_true (by omega)
          have hg : (groupB (blk k cs.flatten) ml).length = (blk k cs.flatten).length + 2 := by unfold groupB; rw [if_neg hl0]; simp [shI_len]
          have Hg := hid hg
          have Hr := hid hr
          clear hg h1 hr
          go_wp2_with fail
          go_ret
          exact ⟨s + 2, rfl, by rw [HBlk.out]; show RelS _ (groupB (blk k cs.flatten) ml).length; rw [Hg.out]; exact Hr.out.plus 2, by omega, HBV.out⟩
      · have hL6 := HLoc.out.2.1 rfl
        have h1 := HOne.out hL6.1
        have hr := HR.out
        rw [h1] at hr
        obtain ⟨lo, rfl⟩ := Int.eq_ofNat_of_zero_le hlo0
        have hp0 : 0 ≤ (lo : Int) * s := Int.mul_nonneg (by omega) hs0
        have hp1 : (lo : Int) * s ≤ 9 * 100000 := Int.mul_le_mul (by omega) hs hs0 (by omega)
        have wa : IntKind.i64.wrap ((lo : Int) * s) = (lo : Int) * s := by rw [IntKind.wrap_i64]; omega
        have hcat := rep_len lo (blk k cs.flatten)
        have Hcat := hid hcat
        clear hcat h1
        by_cases hh : mh = -1
        · subst hh
          have wb : IntKind.i64.wrap ((lo : Int) * s + s) = (lo : Int) * s + s := by rw [IntKind.wrap_i64]; omega
          have wc : IntKind.i64.wrap ((lo : Int) * s + s + 2) = (lo : Int) * s + s + 2 := by rw [IntKind.wrap_i64]; omega
          have hz2 := ((hr.times lo).both hr).plus 2
          have Hz1 := hid (hz2)
          have Hz2 := hid (hz2.sat)
          clear hz2 hr
          go_wp2_with fail
          all_goals
            go_ret
            refine ⟨_, rfl, ?_, by omega, HBV.out⟩
            rw [HBlk.out]
            show RelS _ (catB (List.replicate (lo : Int).toNat (blk k cs.flatten) ++ [loopB (blk k cs.flatten) mz])).length
            rw [Int.toNat_natCast, Hcat.out, loopB_len, ← Nat.add_assoc]
            have e1 := Hz1.out
            have e2 := Hz2.out
            rw [show (((2 : Nat)) : Int) = 2 from rfl] at e1 e2
            first
              | exact e1
              | (rw [Int.min_eq_right (by omega)] at e2; exact e2)
        · have hhi : 0 ≤ mh := by omega
          have hlh := hL6.2 hhi
          obtain ⟨D, hD⟩ : ∃ D : Nat, mh - (lo : Int) = D := ⟨(mh - lo).toNat, by omega⟩
          have b2 : decide (mh < (0 : Int)) = false := decide_eq_false (by omega)
          have hq0 : 0 ≤ (D : Int) * (s + 1) := Int.mul_nonneg (by omega) (by omega)
          have hq1 : (D : Int) * (s + 1) ≤ 9 * 100001 := Int.mul_le_mul (by omega) (by omega) (by omega) (by omega)
          have wb : IntKind.i64.wrap (mh - (lo : Int)) = (D : Int) := by rw [IntKind.wrap_i64]; omega
          have wc : IntKind.i64.wrap (s + 1) = s + 1 := by rw [IntKind.wrap_i64]; omega
          have wd : IntKind.i64.wrap ((D : Int) * (s + 1)) = (D : Int) * (s + 1) := by rw [IntKind.wrap_i64]; omega
          have we : IntKind.i64.wrap ((lo : Int) * s + (D : Int) * (s + 1)) = (lo : Int) * s + (D : Int) * (s + 1) := by rw [IntKind.wrap_i64]; omega
          have hz2 := (hr.times lo).both ((hr.plus 1).times D)
          rw [show (((1 : Nat)) : Int) = 1 from rfl] at hz2
          have Hz1 := hid (hz2)
          have Hz2 := hid (hz2.sat)
          have hDn : (mh - (lo : Int)).toNat = D := by omega
          have HDn := hid hDn
          clear hz2 hr hDn hD
          go_wp2_with fail
          all_goals
            go_ret
            refine ⟨_, rfl, ?_, by omega, HBV.out⟩
            rw [HBlk.out]
            show RelS _ (catB (List.replicate (lo : Int).toNat (blk k cs.flatten) ++ [if mh = -1 then loopB (blk k cs.flatten) mz else optB (blk k cs.flatten) mz (mh - (lo : Int)).toNat])).length
            rw [Int.toNat_natCast, if_neg hh, Hcat.out, optB_len, HDn.out]
            have e1 := Hz1.out
            have e2 := Hz2.out
            first
              | exact e1
              | (rw [Int.min_eq_right (by omega)] at e2; exact e2)
      · have hr := HR.out
        rw [← catB_len] at hr
        have Hr := hid hr
        clear hr
        go_wp2_with fail
        go_ret
        exact ⟨s, rfl, by rw [HBlk.out]; exact Hr.out, by omega, HBV.out⟩
theorem size_all (k : Nat) : SizeC k := by
  induction k with
  | zero => intro a c T w i d t h hS hk; have := hS.len.2; omega
  | succ k ih => exact size_step k ih
end Go.Proofs.Ytniilphbbcbpcaa
namespace Go.Proofs.Ytniilphbbcbpcaa
open Go.RowKit ReM

structure IdC (w : World) (b : Nat) (o x y : Int) (n : Bool) (s : Value) : Prop where
  c0 : w.cell? ⟨b, 0, none⟩ = some (.int .i64 o)
  c1 : w.cell? ⟨b, 1, none⟩ = some (.int .i64 x)
  c2 : w.cell? ⟨b, 2, none⟩ = some (.int .i64 y)
  c3 : w.cell? ⟨b, 3, none⟩ = some (.bool n)
  c4 : w.cell? ⟨b, 4, none⟩ = some s
theorem IdC.new (w : World) (o x y : Int) (n : Bool) (s : Value) (T : TypeId) (b : Nat) (hb : b = w.heap.size) : IdC (w.alloc (.cells #[.int .i64 o, .int .i64 x, .int .i64 y, .bool n, s] T)) b o x y n s := by
  subst hb
  exact ⟨by rw [cell_alloc_new]; rfl, by rw [cell_alloc_new]; rfl, by rw [cell_alloc_new]; rfl, by rw [cell_alloc_new]; rfl, by rw [cell_alloc_new]; rfl⟩
theorem IdC.alloc {w : World} {b : Nat} {o x y : Int} {n : Bool} {s : Value} (h : IdC w b o x y n s) (ob : Obj) : IdC (w.alloc ob) b o x y n s := by
  have hl := World.block_lt_of_cell? w _ h.c0
  have e : (w.alloc ob).heap[b]? = w.heap[b]? := ((Below.refl w.heap.size w).alloc (Nat.le_refl _) ob).block b hl
  have c : ∀ i, (w.alloc ob).cell? ⟨b, i, none⟩ = w.cell? ⟨b, i, none⟩ := fun i => World.cell?_of_block (a := ⟨b, i, none⟩) e
  exact ⟨by rw [c]; exact h.c0, by rw [c]; exact h.c1, by rw [c]; exact h.c2, by rw [c]; exact h.c3, by rw [c]; exact h.c4⟩
def Ims (w : World) (l : List Im) : Prop := ∀ m, m ∈ l → Sl w m.sa m.set
theorem Ims.bel {w w' : World} {l : List Im} (h : Ims w l) (hb : Below w.heap.size w w') : Ims w' l := fun m hm => (h m hm).bel hb
set_option maxRecDepth 20000 in
set_option maxHeartbeats 16000000 in
theorem sameinst_c (a1 a2 : Option Addr) (c1 c2 : Nat) (M N : List Im) (w : World) (h1 : RSl encIn w a1 M) (h2 : RSl encIn w a2 N) (o1 : Ims w M) (o2 : Ims w N) (h : inss M = inss N) :
    Calls Try.prog 26 #[.slice a1 M.length c1, .slice a2 N.length c2] w fun e w' => e = .returned (.bool true) ∧ Below w.heap.size w w' := by
  have hl : M.length ≤ 2199023255552 := h1.len
  have e : M.length = N.length := by rw [← inss_len, h, inss_len]
  have HM := hid h1
  have HN := hid h2
  have Ht := hid (fun i (hi : i < M.length) => show (rgt M i).ins = (rgt N i).ins by rw [← igt_inss hi, ← igt_inss (show i < N.length by omega), h])
  clear h h1 h2
  have b0 : ((M.length : Int) != N.length) = false := by rw [e]; simp
  have he := hid e
  go_enter Try.func26, Try.ntmps26
  go_wp2_with fail
  go_loopw [5] (fun iv wr => ∃ k : Nat, k ≤ M.length ∧ iv = .int .i64 k ∧ Below w.heap.size w wr) (fun iv _ => M.length - (intOf iv).toNat)
  case atStart => exact ⟨0, by omega, rfl, by (repeat' (first | exact Below.refl _ _ | assumption | refine bdrewN ?_ _ | refine Below.drew ?_ | refine Below.setCell ?_ (Nat.le_refl _) _ | refine bal ?_ _ | refine bthen ?_ (by assumption)))⟩
  case round =>
    obtain ⟨k, hk, rfl, hb⟩ := hrel
    by_cases hlt : k < M.length
    · obtain ⟨p1, q1, rfl, r1⟩ := (HM.out.bel hb).at hlt
      obtain ⟨p2, q2, rfl, r2⟩ := (HN.out.bel hb).at (show k < N.length by omega)
      obtain ⟨x0, x1, x2, x3, x4⟩ := rec_in (r1 k hlt)
      obtain ⟨y0, y1, y2, y3, y4⟩ := rec_in (r2 k (by omega))
      change wr.cell? ⟨p1, q1 + k * 5, none⟩ = _ at x0
      change wr.cell? ⟨p1, q1 + k * 5 + 1, none⟩ = _ at x1
      change wr.cell? ⟨p1, q1 + k * 5 + 2, none⟩ = _ at x2
      change wr.cell? ⟨p1, q1 + k * 5 + 3, none⟩ = _ at x3
      change wr.cell? ⟨p1, q1 + k * 5 + 4, none⟩ = _ at x4
      change wr.cell? ⟨p2, q2 + k * 5, none⟩ = _ at y0
      change wr.cell? ⟨p2, q2 + k * 5 + 1, none⟩ = _ at y1
      change wr.cell? ⟨p2, q2 + k * 5 + 2, none⟩ = _ at y2
      change wr.cell? ⟨p2, q2 + k * 5 + 3, none⟩ = _ at y3
      change wr.cell? ⟨p2, q2 + k * 5 + 4, none⟩ = _ at y4
      have S1 := hid ((o1 _ (rgt_mem hlt)).bel hb)
      have S2 := hid ((o2 _ (rgt_mem (show k < N.length by omega))).bel hb)
      have et := Ht.out k hlt
      have hB1 : p1 < wr.heap.size := World.block_lt_of_cell? wr _ x0
      have hB2 : p2 < wr.heap.size := World.block_lt_of_cell? wr _ y0
      have z2 : (k : Int) < (N.length : Int) := by omega
      have z1 : (k : Int) < (M.length : Int) := by omega
      have w1' : IntKind.i64.wrap ((k : Int) + 1) = ((k + 1 : Nat) : Int) := by rw [IntKind.wrap_i64]; omega
      clear r1 r2
      generalize rgt M k = m at *
      generalize rgt N k = n at *
      obtain ⟨mo, mx, my, mn, ma, ms, mc⟩ := m
      obtain ⟨no, nx', ny, nn, na, ns, nc⟩ := n
      simp only [Im.ins, Ins.mk.injEq] at et
      obtain ⟨rfl, rfl, rfl, rfl, rfl⟩ := et
      dsimp only at *
      have KX := hid (fun w' (hw : Below wr.heap.size wr w') => show w'.cell? ⟨p1, q1 + k * 5, none⟩ = some (.int .i64 mo) ∧ w'.cell? ⟨p1, q1 + k * 5 + 1, none⟩ = some (.int .i64 mx) ∧ w'.cell? ⟨p1, q1 + k * 5 + 2, none⟩ = some (.int .i64 my) ∧ w'.cell? ⟨p1, q1 + k * 5 + 3, none⟩ = some (.bool mn) ∧ w'.cell? ⟨p1, q1 + k * 5 + 4, none⟩ = some (.slice ma ms.length mc) ∧ w'.cell? ⟨p2, q2 + k * 5, none⟩ = some (.int .i64 mo) ∧ w'.cell? ⟨p2, q2 + k * 5 + 1, none⟩ = some (.int .i64 mx) ∧ w'.cell? ⟨p2, q2 + k * 5 + 2, none⟩ = some (.int .i64 my) ∧ w'.cell? ⟨p2, q2 + k * 5 + 3, none⟩ = some (.bool mn) ∧ w'.cell? ⟨p2, q2 + k * 5 + 4, none⟩ = some (.slice na ms.length nc) from by
        refine ⟨?_, ?_, ?_, ?_, ?_, ?_, ?_, ?_, ?_, ?_⟩
        all_goals first | (rw [hw.cell (by exact hB1)]; assumption) | (rw [hw.cell (by exact hB2)]; assumption))
      clear e he
      go_wp2_with fail
      go_region_held3 (fun w' => w'.cell? ⟨p1, q1 + k * 5, none⟩ = some (.int .i64 mo) ∧ w'.cell? ⟨p1, q1 + k * 5 + 1, none⟩ = some (.int .i64 mx) ∧ w'.cell? ⟨p1, q1 + k * 5 + 2, none⟩ = some (.int .i64 my) ∧ w'.cell? ⟨p1, q1 + k * 5 + 3, none⟩ = some (.bool mn) ∧ w'.cell? ⟨p1, q1 + k * 5 + 4, none⟩ = some (.slice ma ms.length mc) ∧ w'.cell? ⟨p2, q2 + k * 5, none⟩ = some (.int .i64 mo) ∧ w'.cell? ⟨p2, q2 + k * 5 + 1, none⟩ = some (.int .i64 mx) ∧ w'.cell? ⟨p2, q2 + k * 5 + 2, none⟩ = some (.int .i64 my) ∧ w'.cell? ⟨p2, q2 + k * 5 + 3, none⟩ = some (.bool mn) ∧ w'.cell? ⟨p2, q2 + k * 5 + 4, none⟩ = some (.slice na ms.length nc)) (first | assumption | exact ⟨by assumption, by assumption, by assumption, by assumption, by assumption, by assumption, by assumption, by assumption, by assumption, by assumption⟩ | (exact KX.out _ (by (repeat' (first | exact Below.refl _ _ | assumption | refine bdrewN ?_ _ | refine Below.drew ?_ | refine Below.setCell ?_ (Nat.le_refl _) _ | refine bal ?_ _ | refine bthen ?_ (by assumption))))) | go_keep) (fail)
      all_goals clear x0 x1 x2 x3 x4 y0 y1 y2 y3 y4
      · obtain ⟨V, hV⟩ : ∃ V, V = (wr.alloc (.cells #[.int .i64 mo, .int .i64 mx, .int .i64 my, .bool mn, .slice ma ms.length mc] 56)).alloc (.cells #[.int .i64 mo, .int .i64 mx, .int .i64 my, .bool mn, .slice na ms.length nc] 56) := ⟨_, rfl⟩
        have hn1 : IdC V (wr.heap.size) mo mx my mn (.slice ma ms.length mc) := by subst hV; exact (IdC.new _ _ _ _ _ _ _ _ rfl).alloc _
        have hn2 : IdC V (wr.heap.size + 1) mo mx my mn (.slice na ms.length nc) := by subst hV; exact IdC.new _ _ _ _ _ _ _ _ (by simp)
        have bV : Below wr.heap.size wr V := by subst hV; (repeat' (first | exact Below.refl _ _ | assumption | refine bdrewN ?_ _ | refine Below.drew ?_ | refine bal ?_ _ | refine bthen ?_ (by assumption)))
        have T1 := hid (S1.out.bel bV)
        have T2 := hid (S2.out.bel bV)
        have hbV := hid (hb.trans (bV.mono hb.size))
        rw [← hV]
        obtain ⟨g0, g1, g2, g3, g4⟩ := hn1
        obtain ⟨h0, h1, h2, h3, h4⟩ := hn2
        clear hV S1 S2 bV
        as_aux_lemma =>
        go_wp2_with (go_at_call 35; refine (rsame_c _ _ _ _ _ _ _ T1.out.drew T2.out.drew).mono ?_; rintro _ w5 ⟨rfl, n5, rfl⟩; rw [eqM_refl])
        exact ⟨⟨k + 1, by omega, by go_num, bdrewN hbV.out _⟩, by simp [intOf]; omega⟩
      · obtain ⟨V, hV⟩ : ∃ V, V = (wr.alloc (.cells #[.int .i64 mo, .int .i64 mx, .int .i64 my, .bool mn, .slice na ms.length nc] 56)).alloc (.cells #[.int .i64 mo, .int .i64 mx, .int .i64 my, .bool mn, .slice ma ms.length mc] 56) := ⟨_, rfl⟩
        have hn1 : IdC V (wr.heap.size + 1) mo mx my mn (.slice ma ms.length mc) := by subst hV; exact IdC.new _ _ _ _ _ _ _ _ (by simp)
        have hn2 : IdC V (wr.heap.size) mo mx my mn (.slice na ms.length nc) := by subst hV; exact (IdC.new _ _ _ _ _ _ _ _ rfl).alloc _
        have bV : Below wr.heap.size wr V := by subst hV; (repeat' (first | exact Below.refl _ _ | assumption | refine bdrewN ?_ _ | refine Below.drew ?_ | refine bal ?_ _ | refine bthen ?_ (by assumption)))
        have T1 := hid (S1.out.bel bV)
        have T2 := hid (S2.out.bel bV)
        have hbV := hid (hb.trans (bV.mono hb.size))
        rw [← hV]
        obtain ⟨g0, g1, g2, g3, g4⟩ := hn1
        obtain ⟨h0, h1, h2, h3, h4⟩ := hn2
        clear hV S1 S2 bV
        as_aux_lemma =>
        go_wp2_with (go_at_call 35; refine (rsame_c _ _ _ _ _ _ _ T1.out.drew T2.out.drew).mono ?_; rintro _ w5 ⟨rfl, n5, rfl⟩; rw [eqM_refl])
        exact ⟨⟨k + 1, by omega, by go_num, bdrewN hbV.out _⟩, by simp [intOf]; omega⟩
    · obtain rfl : k = M.length := by omega
      go_wp2_with fail
      go_ret
      exact ⟨rfl, hb⟩
end Go.Proofs.Ytniilphbbcbpcaa
namespace Go.Proofs.Ytniilphbbcbpcaa
open Go.RowKit ReM

/-- an instruction in a variable of its own -/
structure InC (w : World) (b : Nat) (o x y : Int) (n : Bool) (s : Value) : Prop where
  c0 : w.cell? ⟨b, 0, none⟩ = some (.int .i64 o)
  c1 : w.cell? ⟨b, 1, none⟩ = some (.int .i64 x)
  c2 : w.cell? ⟨b, 2, none⟩ = some (.int .i64 y)
  c3 : w.cell? ⟨b, 3, none⟩ = some (.bool n)
  c4 : w.cell? ⟨b, 4, none⟩ = some s
  fz : ∀ i, w.frozen? ⟨b, i, none⟩ = false
theorem InC.new (w : World) (o x y : Int) (n : Bool) (s : Value) (T : TypeId) (b : Nat) (hb : b = w.heap.size) : InC (w.alloc (.cells #[.int .i64 o, .int .i64 x, .int .i64 y, .bool n, s] T)) b o x y n s := by
  subst hb
  exact ⟨by rw [cell_alloc_new]; rfl, by rw [cell_alloc_new]; rfl, by rw [cell_alloc_new]; rfl, by rw [cell_alloc_new]; rfl, by rw [cell_alloc_new]; rfl, fun i => by simp⟩
theorem InC.set1 {w : World} {b : Nat} {o x y : Int} {n : Bool} {s : Value} (h : InC w b o x y n s) (v : Int) : InC (w.setCell ⟨b, 1, none⟩ (.int .i64 v)) b o v y n s :=
  ⟨cell_set1 h.c0 (by decide), by rw [World.cell?_setCell_same (h := h.c1)], cell_set1 h.c2 (by decide), cell_set1 h.c3 (by decide), cell_set1 h.c4 (by decide), fun i => by rw [World.frozen?_setCell]; exact h.fz i⟩
theorem InC.set2 {w : World} {b : Nat} {o x y : Int} {n : Bool} {s : Value} (h : InC w b o x y n s) (v : Int) : InC (w.setCell ⟨b, 2, none⟩ (.int .i64 v)) b o x v n s :=
  ⟨cell_set1 h.c0 (by decide), cell_set1 h.c1 (by decide), by rw [World.cell?_setCell_same (h := h.c2)], cell_set1 h.c3 (by decide), cell_set1 h.c4 (by decide), fun i => by rw [World.frozen?_setCell]; exact h.fz i⟩
abbrev RIn (w : World) (base : Nat) (a : Option Addr) (c : Nat) (l : List Im) : Prop := ROwn encIn 56 w base a c l
/-- a new program -/
def InsP (w : World) (T : List Rm) (res : List Ins) (e' : Ending) (w' : World) : Prop :=
  ∃ a' c' L', e' = .returned (.slice a' L'.length c') ∧ inss L' = res ∧ RIn w' w.heap.size a' c' L' ∧ (∀ v, Rms v (fun _ => False) T → Ims v L') ∧ Below w.heap.size w w'
/-- a shifted program: its sets are those of the other one -/
def ShP (w : World) (L : List Im) (j : Nat) (e' : Ending) (w' : World) : Prop :=
  ∃ a' c' L', e' = .returned (.slice a' L'.length c') ∧ inss L' = shI j (inss L) ∧ RIn w' w.heap.size a' c' L' ∧ L'.map Im.key = L.map Im.key ∧ Below w.heap.size w w'
theorem Ims.key {w : World} {L M : List Im} (h : Ims w L) (hk : M.map Im.key = L.map Im.key) : Ims w M := fun m hm => by
  have h1 : m.key ∈ L.map Im.key := by rw [← hk]; exact List.mem_map.2 ⟨m, hm, rfl⟩
  obtain ⟨q, hq, he⟩ := List.mem_map.1 h1
  have h2 := h q hq
  simp only [Im.key, Prod.mk.injEq] at he
  rw [← he.1, ← he.2.1]
  exact h2
def InB (l : List Ins) : Prop := ∀ q, q ∈ l → (q.op = 4 ∨ q.op = 5 → 0 ≤ q.x ∧ q.x ≤ 1000000) ∧ (q.op = 4 → 0 ≤ q.y ∧ q.y ≤ 1000000)
theorem inss_take (L : List Im) (k : Nat) : inss (L.take k) = (inss L).take k := by simp [inss]
theorem shI_take {l : List Ins} {k j : Nat} (h : k < l.length) : shI j (l.take (k + 1)) = shI j (l.take k) ++ [shI1 j (igt l k)] := by
  rw [List.take_add_one, shI_app]
  congr 1
  rw [List.getElem?_eq_getElem h]
  simp only [Option.toList, shI, List.map_cons, List.map_nil, igt, List.getD_eq_getElem?_getD, List.getElem?_eq_getElem h, Option.getD_some]
theorem Ims.app {w : World} {l r : List Im} (h : Ims w l) (hr : Ims w r) : Ims w (l ++ r) := fun m hm => by
  rcases List.mem_append.1 hm with hm | hm
  · exact h m hm
  · exact hr m hm
set_option maxRecDepth 20000 in
set_option maxHeartbeats 16000000 in
theorem shifted_d (a : Option Addr) (c : Nat) (L : List Im) (j : Nat) (w : World) (h : RSl encIn w a L) (hj : j ≤ 1000000) (hx : InB (inss L)) (hl : L.length ≤ 1000000) :
    Calls Try.prog 41 #[.slice a L.length c, .int .i64 j] w (ShP w L j) := by
  have HS := hid h
  have HX := hid hx
  clear h hx
  go_enter Try.func41, Try.ntmps41
  go_wp2_with fail
  go_loopg [5, 6] (L.length + 1) (fun gk lv kv wr => ∃ (k : Nat) (aL : Option Addr) (cL : Nat) (M : List Im), gk = L.length - k + 1 ∧ k ≤ L.length ∧ kv = .int .i64 k ∧ lv = .slice aL M.length cL ∧ M.length = k ∧ Hid (inss M = shI j ((inss L).take k)) ∧ Hid (RIn wr w.heap.size aL cL M) ∧ Hid (M.map Im.key = (L.take k).map Im.key) ∧ Hid (Below w.heap.size w wr))
  case atStart => exact ⟨0, none, 0, [], rfl, by omega, rfl, rfl, rfl, hid (by simp [inss, shI]), hid (ROwn.nil _ _), hid (by simp), hid (by (repeat' (first | exact Below.refl _ _ | assumption | refine bdrewN ?_ _ | refine Below.drew ?_ | refine Below.setCell ?_ (Nat.le_refl _) _ | refine bal ?_ _ | refine bthen ?_ (by assumption))))⟩
  case round =>
    obtain ⟨k, aL, cL, M, rfl, hk, rfl, rfl, hMl, HM, HO, HMi, HB⟩ := hrel
    have hz := HB.out.size
    by_cases hlt : k < L.length
    · obtain ⟨b, o, rfl, r1⟩ := (HS.out.bel HB.out).at hlt
      have r1 := r1 k hlt
      obtain ⟨x0, x1, x2, x3, x4⟩ := rec_in r1
      have hins : igt (inss L) k = (rgt L k).ins := igt_inss hlt
      have hmem : (rgt L k).ins ∈ inss L := List.mem_map.2 ⟨_, rgt_mem hlt, rfl⟩
      obtain ⟨hq1, hq2⟩ := HX.out _ hmem
      have HKt := hid (show (L.take (k + 1)).map Im.key = (L.take k).map Im.key ++ [(rgt L k).key] by rw [rgt_take hlt]; simp)
      have HT := hid (shI_take (l := inss L) (k := k) (j := j) (by rw [inss_len]; exact hlt))
      rw [hins] at HT
      have b1 : decide ((k : Int) < (L.length : Int)) = true := decide_eq_true (by omega)
      have zk : (k : Int) < (L.length : Int) := by omega
      have W1 : IntKind.i64.wrap ((k : Int) + 1) = ((k + 1 : Nat) : Int) := by rw [IntKind.wrap_i64]; omega
      have HML := hid hMl
      change wr.cell? ⟨b, o + k * 5, none⟩ = _ at x0
      change wr.cell? ⟨b, o + k * 5 + 1, none⟩ = _ at x1
      change wr.cell? ⟨b, o + k * 5 + 2, none⟩ = _ at x2
      change wr.cell? ⟨b, o + k * 5 + 3, none⟩ = _ at x3
      change wr.cell? ⟨b, o + k * 5 + 4, none⟩ = _ at x4
      clear r1 hins hmem hMl
      generalize rgt L k = m at *
      obtain ⟨mo, mx, my, mn, ma, ms, mc⟩ := m
      dsimp only [Im.ins] at *
      obtain ⟨V, hV⟩ : ∃ V, V = wr.alloc (.cells #[.int .i64 mo, .int .i64 mx, .int .i64 my, .bool mn, .slice ma ms.length mc] 56) := ⟨_, rfl⟩
      have nn : InC V wr.heap.size mo mx my mn (.slice ma ms.length mc) := by subst hV; exact InC.new _ _ _ _ _ _ _ _ rfl
      have bV : Below wr.heap.size wr V := by subst hV; (repeat' (first | exact Below.refl _ _ | assumption | refine bdrewN ?_ _ | refine Below.drew ?_ | refine bal ?_ _ | refine bthen ?_ (by assumption)))
      have zV : V.heap.size = wr.heap.size + 1 := by subst hV; simp
      go_upto_region 6 with fail
      rw [← hV]; clear hV x0 x1 x2 x3 x4
      have n0 := nn.c0
      have n1 := nn.c1
      have n2 := nn.c2
      have n3 := nn.c3
      have n4 := nn.c4
      have f1 := nn.fz 1
      have f2 := nn.fz 2
      rcases (show mo = 4 ∨ mo = 5 ∨ (mo ≠ 4 ∧ mo ≠ 5) by omega) with rfl | rfl | ⟨h4, h5⟩
      · obtain ⟨hx0, hx1⟩ := hq1 (.inl rfl)
        obtain ⟨hy0, hy1⟩ := hq2 rfl
        have wx : IntKind.i64.wrap (mx + (j : Int)) = mx + j := by rw [IntKind.wrap_i64]; omega
        have wy : IntKind.i64.wrap (my + (j : Int)) = my + j := by rw [IntKind.wrap_i64]; omega
        have nn2 := (nn.set1 (mx + j)).set2 (my + j)
        have bV2 := (bV.setCell (p := ⟨wr.heap.size, 1, none⟩) (Nat.le_refl _) (.int .i64 (mx + j))).setCell (p := ⟨wr.heap.size, 2, none⟩) (Nat.le_refl _) (.int .i64 (my + j))
        go_upto_region 10 with fail
        obtain ⟨V2, hV2⟩ : ∃ V2, V2 = (V.setCell ⟨wr.heap.size, 1, none⟩ (.int .i64 (mx + j))).setCell ⟨wr.heap.size, 2, none⟩ (.int .i64 (my + j)) := ⟨_, rfl⟩
        rw [← hV2] at nn2 bV2 ⊢
        have zV2 : V2.heap.size = wr.heap.size + 1 := by rw [hV2]; simpa using zV
        have hsh : shI1 j ⟨4, mx, my, mn, ms⟩ = ⟨4, mx + j, my + j, mn, ms⟩ := by simp [shI1]
        clear hV2
        obtain ⟨m0, m1, m2, m3, m4, -⟩ := nn2
        have hz2 := bV2.size
        have HBz := hid (HB.out.trans (bV2.mono hz))
        have HO2 := hid (HO.out.grow bV2)
        have HMi2 := hid HMi.out
        have HTe := hid (HT.out.trans (by rw [hsh] : _ = shI j ((inss L).take k) ++ [⟨4, mx + (j : Int), my + (j : Int), mn, ms⟩]))
        have hMb : M.length + 1 ≤ 2199023255552 := by have := HML.out; omega
        clear nn bV n0 n1 n2 n3 n4 f1 f2 hsh HT HO HMi HB bV2
        go_wp2_with ((at_builtin; (refine wpL_rapp Try.tyIn rfl (.tmp 39) (.tmp 41) rfl w.heap.size aL (some ⟨wr.heap.size + 1, 0, none⟩) M.length 1 cL 1 M [⟨4, mx + (j : Int), my + (j : Int), mn, ma, ms, mc⟩] rfl (by first | rfl | simp | omega) (HO2.out.grow (by (repeat' (first | exact Below.refl _ _ | assumption | refine bdrewN ?_ _ | refine Below.drew ?_ | refine bal ?_ _ | refine bthen ?_ (by assumption))))) rfl (by first | rfl | simp | omega) (RSl.lit (E := encIn) V2 ⟨4, mx + (j : Int), my + (j : Int), mn, ma, ms, mc⟩ 56 (wr.heap.size + 1) zV2.symm #[.int .i64 4, .int .i64 (mx + (j : Int)), .int .i64 (my + (j : Int)), .bool mn, .slice ma ms.length mc] rfl (by decide)) hMb (by simp; omega) ?_); intro a5 c5 w5 L5 Hl5 ho5 hb5 hk5 hA5; have HA5 := hid hA5; clear hA5; have Ho5 := hid ho5; clear ho5; have Hk5 := hid hk5; clear hk5; have hz5 := hb5.size))
        go_roundg (L.length - (k + 1) + 1)
        case measure => omega
        case rel =>
          refine ⟨k + 1, a5, c5, L5, rfl, by omega, by go_num, rfl, by rw [Hl5.out, List.length_append, HML.out]; rfl, hid ?_, Ho5, hid ?_, hid (HBz.out.trans (Below.trans ((Below.refl _ _).alloc (by omega) _) hb5))⟩
          · rw [Hl5.out, inss_app, HM.out, HTe.out]; rfl
          · rw [Hl5.out, List.map_append, HMi2.out, HKt.out]; rfl
      · obtain ⟨hx0, hx1⟩ := hq1 (.inr rfl)
        have wx : IntKind.i64.wrap (mx + (j : Int)) = mx + j := by rw [IntKind.wrap_i64]; omega
        have nn2 := nn.set1 (mx + j)
        have bV2 := bV.setCell (p := ⟨wr.heap.size, 1, none⟩) (Nat.le_refl _) (.int .i64 (mx + j))
        go_upto_region 10 with fail
        obtain ⟨V2, hV2⟩ : ∃ V2, V2 = V.setCell ⟨wr.heap.size, 1, none⟩ (.int .i64 (mx + j)) := ⟨_, rfl⟩
        rw [← hV2] at nn2 bV2 ⊢
        have zV2 : V2.heap.size = wr.heap.size + 1 := by rw [hV2]; simpa using zV
        have hsh : shI1 j ⟨5, mx, my, mn, ms⟩ = ⟨5, mx + j, my, mn, ms⟩ := by simp [shI1]
        clear hV2
        obtain ⟨m0, m1, m2, m3, m4, -⟩ := nn2
        have hz2 := bV2.size
        have HBz := hid (HB.out.trans (bV2.mono hz))
        have HO2 := hid (HO.out.grow bV2)
        have HMi2 := hid HMi.out
        have HTe := hid (HT.out.trans (by rw [hsh] : _ = shI j ((inss L).take k) ++ [⟨5, mx + (j : Int), my, mn, ms⟩]))
        have hMb : M.length + 1 ≤ 2199023255552 := by have := HML.out; omega
        clear nn bV n0 n1 n2 n3 n4 f1 f2 hsh HT HO HMi HB bV2
        go_wp2_with ((at_builtin; (refine wpL_rapp Try.tyIn rfl (.tmp 39) (.tmp 41) rfl w.heap.size aL (some ⟨wr.heap.size + 1, 0, none⟩) M.length 1 cL 1 M [⟨5, mx + (j : Int), my, mn, ma, ms, mc⟩] rfl (by first | rfl | simp | omega) (HO2.out.grow (by (repeat' (first | exact Below.refl _ _ | assumption | refine bdrewN ?_ _ | refine Below.drew ?_ | refine bal ?_ _ | refine bthen ?_ (by assumption))))) rfl (by first | rfl | simp | omega) (RSl.lit (E := encIn) V2 ⟨5, mx + (j : Int), my, mn, ma, ms, mc⟩ 56 (wr.heap.size + 1) zV2.symm #[.int .i64 5, .int .i64 (mx + (j : Int)), .int .i64 (my), .bool mn, .slice ma ms.length mc] rfl (by decide)) hMb (by simp; omega) ?_); intro a5 c5 w5 L5 Hl5 ho5 hb5 hk5 hA5; have HA5 := hid hA5; clear hA5; have Ho5 := hid ho5; clear ho5; have Hk5 := hid hk5; clear hk5; have hz5 := hb5.size))
        go_roundg (L.length - (k + 1) + 1)
        case measure => omega
        case rel =>
          refine ⟨k + 1, a5, c5, L5, rfl, by omega, by go_num, rfl, by rw [Hl5.out, List.length_append, HML.out]; rfl, hid ?_, Ho5, hid ?_, hid (HBz.out.trans (Below.trans ((Below.refl _ _).alloc (by omega) _) hb5))⟩
          · rw [Hl5.out, inss_app, HM.out, HTe.out]; rfl
          · rw [Hl5.out, List.map_append, HMi2.out, HKt.out]; rfl
      · have b4 : (mo == 4) = false := by simpa using h4
        have b5 : (mo == 5) = false := by simpa using h5
        go_upto_region 10 with fail
        obtain ⟨V2, hV2⟩ : ∃ V2, V2 = V := ⟨_, rfl⟩
        have hsh : shI1 j ⟨mo, mx, my, mn, ms⟩ = ⟨mo, mx, my, mn, ms⟩ := by simp [shI1, h4, h5]
        have nn2 := nn
        have bV2 := bV
        have zV2 := zV
        rw [← hV2] at nn2 bV2 zV2 ⊢
        clear hV2
        obtain ⟨m0, m1, m2, m3, m4, -⟩ := nn2
        have hz2 := bV2.size
        have HBz := hid (HB.out.trans (bV2.mono hz))
        have HO2 := hid (HO.out.grow bV2)
        have HMi2 := hid HMi.out
        have HTe := hid (HT.out.trans (by rw [hsh] : _ = shI j ((inss L).take k) ++ [⟨mo, mx, my, mn, ms⟩]))
        have hMb : M.length + 1 ≤ 2199023255552 := by have := HML.out; omega
        clear nn bV n0 n1 n2 n3 n4 f1 f2 hsh HT HO HMi HB bV2
        go_wp2_with ((at_builtin; (refine wpL_rapp Try.tyIn rfl (.tmp 39) (.tmp 41) rfl w.heap.size aL (some ⟨wr.heap.size + 1, 0, none⟩) M.length 1 cL 1 M [⟨mo, mx, my, mn, ma, ms, mc⟩] rfl (by first | rfl | simp | omega) (HO2.out.grow (by (repeat' (first | exact Below.refl _ _ | assumption | refine bdrewN ?_ _ | refine Below.drew ?_ | refine bal ?_ _ | refine bthen ?_ (by assumption))))) rfl (by first | rfl | simp | omega) (RSl.lit (E := encIn) V2 ⟨mo, mx, my, mn, ma, ms, mc⟩ 56 (wr.heap.size + 1) zV2.symm #[.int .i64 mo, .int .i64 (mx), .int .i64 (my), .bool mn, .slice ma ms.length mc] rfl (by decide)) hMb (by simp; omega) ?_); intro a5 c5 w5 L5 Hl5 ho5 hb5 hk5 hA5; have HA5 := hid hA5; clear hA5; have Ho5 := hid ho5; clear ho5; have Hk5 := hid hk5; clear hk5; have hz5 := hb5.size))
        go_roundg (L.length - (k + 1) + 1)
        case measure => omega
        case rel =>
          refine ⟨k + 1, a5, c5, L5, rfl, by omega, by go_num, rfl, by rw [Hl5.out, List.length_append, HML.out]; rfl, hid ?_, Ho5, hid ?_, hid (HBz.out.trans (Below.trans ((Below.refl _ _).alloc (by omega) _) hb5))⟩
          · rw [Hl5.out, inss_app, HM.out, HTe.out]; rfl
          · rw [Hl5.out, List.map_append, HMi2.out, HKt.out]; rfl
    · obtain rfl : k = L.length := by omega
      have b1 : decide ((L.length : Int) < (L.length : Int)) = false := by simp
      go_wp2_with fail
      go_ret
      exact ⟨aL, cL, M, rfl, by rw [HM.out, List.take_of_length_le (by rw [inss_len]; exact Nat.le_refl _)], HO.out, by rw [HMi.out, List.take_length], HB.out⟩
end Go.Proofs.Ytniilphbbcbpcaa
