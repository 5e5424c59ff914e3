/- A mark, a list of marks, a list of deeds (stage 7) as arguments. -/
import Derived.Test.YtaondjklclpdkaaMks
import Derived.Test.YtaondjklclpdkaaRec
import Derived.Lib.SmallJoins
namespace Go.Proofs.Ytaondjklclpdkaa
open Go.RowKit Go.ChangeShapes Go.WideShapes Go.ChangeAt Go.Deep Go.Joins

theorem Try.cellsMk : Try.prog.cellsOf 33 = 4 := by kernel_rfl
theorem Try.bytesMk : Try.prog.bytesOf 33 = 32 := by kernel_rfl
theorem Try.cellsIn : Try.prog.cellsOf 3 = 1 := by kernel_rfl

section
variable {H : Type} {enc : TypeId × Value → H}
def MkIr (m : Mk) : Prop := ir m.id ∧ ir m.fr ∧ ir m.to ∧ ir m.pr
/-- a mark opened -/
theorem mark_cells {W : World} (fuel : Nat) (cs : List Value) (x : DataW H × List MemPlace) (h : DataW.trod enc Try.prog W 0 (fun _ => true) true fuel 33 cs = some x) : ∃ m : Mk, cs = mkv m ∧ MkIr m := by
  obtain ⟨xs, n, _, hx, hcl, hlen, hg⟩ := DataW.trod_struct Try.underlying33 h
  rw [Try.cellsMk] at hcl
  match xs, hlen with
  | [y0, y1, y2, y3], _ =>
    obtain ⟨e0, e1, e2, e3, rfl⟩ : ∃ e0 e1 e2 e3, cs = [e0, e1, e2, e3] := by
      match cs, hcl with
      | [e0, e1, e2, e3], _ => exact ⟨e0, e1, e2, e3, rfl⟩
    have g0 : DataW.trod enc Try.prog W 0 (fun _ => true) true n 3 (List.take (Try.prog.cellsOf 3) [e0, e1, e2, e3]) = some y0 := hg 0 _ rfl
    have g1 : DataW.trod enc Try.prog W 0 (fun _ => true) true n 3 (List.take (Try.prog.cellsOf 3) [e1, e2, e3]) = some y1 := hg 1 _ rfl
    have g2 : DataW.trod enc Try.prog W 0 (fun _ => true) true n 3 (List.take (Try.prog.cellsOf 3) [e2, e3]) = some y2 := hg 2 _ rfl
    have g3 : DataW.trod enc Try.prog W 0 (fun _ => true) true n 3 (List.take (Try.prog.cellsOf 3) [e3]) = some y3 := hg 3 _ rfl
    rw [Try.cellsIn] at g0 g1 g2 g3
    simp only [List.take_succ_cons, List.take_zero] at g0 g1 g2 g3
    obtain ⟨z0, h0, r0, w0⟩ := DataW.trod_int Try.underlying3 g0
    obtain ⟨z1, h1, r1, w1⟩ := DataW.trod_int Try.underlying3 g1
    obtain ⟨z2, h2, r2, w2⟩ := DataW.trod_int Try.underlying3 g2
    obtain ⟨z3, h3, r3, w3⟩ := DataW.trod_int Try.underlying3 g3
    simp only [List.cons.injEq, and_true] at h0 h1 h2 h3
    subst h0 h1 h2 h3
    exact ⟨⟨z0, z1, z2, z3⟩, rfl, wf_i64 w0, wf_i64 w1, wf_i64 w2, wf_i64 w3⟩
/-- the list opened -/
theorem open_marks {W : World} {base : Nat} {v : Value} {d : DataW H} {p : List MemPlace} (hv : Value.okWide Try.prog W .any base 27 v)
    (h : DataW.Trod enc Try.prog W 0 (fun _ => true) true 27 v d p) :
    ∃ (a : Option Addr) (l : List Mk) (c : Nat), v = .slice a l.length c ∧ l.length ≤ c ∧ (d = .nil ∧ c = 0 ∨ ∃ es sp, d = .slice es sp ∧ es.length + sp.length = c) ∧ (∀ m, m ∈ l → MkIr m) ∧ (l.length ≤ 4398046511104 → MSl W a l) := by
  obtain ⟨a, l, c, h1, h2, h3, h4, h5⟩ := open_recs (T := 27) (E := 33) (k := 4) (cv := mkv) (OK := MkIr) Try.underlying27 Try.cellsMk (by omega) (fun fuel cs x => mark_cells fuel cs x) hv h
  refine ⟨a, l, c, h1, h2, h3, h4, fun hl => ⟨hl, ?_⟩⟩
  rcases h5 with h5 | ⟨b, off, ha, hc⟩
  · exact .inl h5
  · refine .inr ⟨b, off, ha, fun i hi => ?_⟩
    rw [mgt_get hi]
    exact ⟨hc i hi 0 _ rfl, hc i hi 1 _ rfl, hc i hi 2 _ rfl, hc i hi 3 _ rfl⟩
theorem marks_sized {ts : List TypeId} {ds : List (DataW H)} {d : DataW H} {c : Nat} (hsz : (DataW.weightsEach Try.prog ts ds).all (· ≤ reachBytes) = true) (j : Nat) (ht : ts[j]? = some 27) (hd : ds[j]? = some d)
    (h : d = .nil ∧ c = 0 ∨ ∃ es sp, d = .slice es sp ∧ es.length + sp.length = c) : c ≤ 4398046510976 := by
  have := recs_sized (T := 27) (E := 33) (n := 32) Try.underlying27 Try.bytesMk hsz j ht hd h
  omega
/-- a deed: how, the mark -/
structure Td where
  how : Int
  m : Mk
instance : Inhabited Td := ⟨⟨0, default⟩⟩
def tdv (d : Td) : List Value := .int .i64 d.how :: mkv d.m
def TdIr (d : Td) : Prop := ir d.how ∧ MkIr d.m
theorem Try.cellsTd : Try.prog.cellsOf 35 = 5 := by kernel_rfl
theorem Try.bytesTd : Try.prog.bytesOf 35 = 40 := by kernel_rfl
theorem td_cells {W : World} (fuel : Nat) (cs : List Value) (x : DataW H × List MemPlace) (h : DataW.trod enc Try.prog W 0 (fun _ => true) true fuel 35 cs = some x) : ∃ d : Td, cs = tdv d ∧ TdIr d := by
  obtain ⟨xs, n, _, hx, hcl, hlen, hg⟩ := DataW.trod_struct Try.underlying35 h
  rw [Try.cellsTd] at hcl
  match xs, hlen with
  | [y0, y1], _ =>
    obtain ⟨e0, e1, e2, e3, e4, rfl⟩ : ∃ e0 e1 e2 e3 e4, cs = [e0, e1, e2, e3, e4] := by
      match cs, hcl with
      | [e0, e1, e2, e3, e4], _ => exact ⟨e0, e1, e2, e3, e4, rfl⟩
    have g0 : DataW.trod enc Try.prog W 0 (fun _ => true) true n 3 (List.take (Try.prog.cellsOf 3) [e0, e1, e2, e3, e4]) = some y0 := hg 0 _ rfl
    have g1 : DataW.trod enc Try.prog W 0 (fun _ => true) true n 33 (List.take (Try.prog.cellsOf 33) [e1, e2, e3, e4]) = some y1 := hg 1 _ rfl
    rw [Try.cellsIn] at g0
    rw [Try.cellsMk] at g1
    simp only [List.take_succ_cons, List.take_zero] at g0 g1
    obtain ⟨z0, h0, r0, w0⟩ := DataW.trod_int Try.underlying3 g0
    obtain ⟨m, h1, hm⟩ := mark_cells _ _ _ g1
    simp only [List.cons.injEq, and_true] at h0
    subst h0
    exact ⟨⟨z0, m⟩, by rw [h1]; rfl, wf_i64 w0, hm⟩
/-- a slice of deeds that reads as a list -/
structure TSl (w : World) (a : Option Addr) (l : List Td) : Prop where
  cells : l = [] ∨ ∃ b off, a = some ⟨b, off, none⟩ ∧ ∀ (i : Nat) (hi : i < l.length), w.cell? ⟨b, off + i * 5, none⟩ = some (.int .i64 l[i].how) ∧ M4 w b (off + i * 5 + 1) l[i].m
  ok : ∀ d, d ∈ l → TdIr d
theorem TSl.at {w : World} {a : Option Addr} {l : List Td} (h : TSl w a l) {i : Nat} (hi : i < l.length) :
    ∃ b off, a = some ⟨b, off, none⟩ ∧ ∀ (i : Nat) (hi : i < l.length), w.cell? ⟨b, off + i * 5, none⟩ = some (.int .i64 l[i].how) ∧ M4 w b (off + i * 5 + 1) l[i].m := by
  rcases h.cells with rfl | h
  · simp at hi
  · exact h
theorem TSl.bel {w w' : World} {a : Option Addr} {l : List Td} (h : TSl w a l) (hb : Below w.heap.size w w') : TSl w' a l := by
  refine ⟨?_, h.ok⟩
  rcases h.cells with h0 | ⟨b, off, ha, hc⟩
  · exact .inl h0
  · refine .inr ⟨b, off, ha, fun i hi => ?_⟩
    obtain ⟨c0, c1, c2, c3, c4⟩ := hc i hi
    have hlt := World.block_lt_of_cell? w _ c0
    refine ⟨?_, ?_, ?_, ?_, ?_⟩
    · rw [hb.cell (by exact hlt)]; exact c0
    · rw [hb.cell (by exact hlt)]; exact c1
    · rw [hb.cell (by exact hlt)]; exact c2
    · rw [hb.cell (by exact hlt)]; exact c3
    · rw [hb.cell (by exact hlt)]; exact c4
theorem open_tds {W : World} {base : Nat} {v : Value} {d : DataW H} {p : List MemPlace} (hv : Value.okWide Try.prog W .any base 22 v)
    (h : DataW.Trod enc Try.prog W 0 (fun _ => true) true 22 v d p) :
    ∃ (a : Option Addr) (l : List Td) (c : Nat), v = .slice a l.length c ∧ l.length ≤ c ∧ (d = .nil ∧ c = 0 ∨ ∃ es sp, d = .slice es sp ∧ es.length + sp.length = c) ∧ TSl W a l := by
  obtain ⟨a, l, c, h1, h2, h3, h4, h5⟩ := open_recs (T := 22) (E := 35) (k := 5) (cv := tdv) (OK := TdIr) Try.underlying22 Try.cellsTd (by omega) (fun fuel cs x => td_cells fuel cs x) hv h
  refine ⟨a, l, c, h1, h2, h3, ?_, h4⟩
  rcases h5 with h5 | ⟨b, off, ha, hc⟩
  · exact .inl h5
  · refine .inr ⟨b, off, ha, fun i hi => ⟨hc i hi 0 _ rfl, hc i hi 1 _ rfl, ?_, ?_, ?_⟩⟩
    · simpa [Nat.add_assoc] using hc i hi 2 _ rfl
    · simpa [Nat.add_assoc] using hc i hi 3 _ rfl
    · simpa [Nat.add_assoc] using hc i hi 4 _ rfl
theorem tds_sized {ts : List TypeId} {ds : List (DataW H)} {d : DataW H} {c : Nat} (hsz : (DataW.weightsEach Try.prog ts ds).all (· ≤ reachBytes) = true) (j : Nat) (ht : ts[j]? = some 22) (hd : ds[j]? = some d)
    (h : d = .nil ∧ c = 0 ∨ ∃ es sp, d = .slice es sp ∧ es.length + sp.length = c) : c ≤ 3518437208780 := by
  have := recs_sized (T := 22) (E := 35) (n := 40) Try.underlying22 Try.bytesTd hsz j ht hd h
  omega
end
end Go.Proofs.Ytaondjklclpdkaa
