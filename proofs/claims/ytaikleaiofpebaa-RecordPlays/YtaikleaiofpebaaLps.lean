/- What stands between two acts of the law. -/
import Derived.Test.YtaikleaiofpebaaOnd
namespace Go.Proofs.Ytaikleaiofpebaa
open Go.RowKit Go.Maps Go.ChangeMaps
set_option linter.unusedVariables false
set_option linter.unusedSimpArgs false
def rcl (R : Rn) : Array Value := #[.int .i64 R.run, .int .u16 R.sp, .string R.nm, .int .i64 R.gen, .bool R.rf]
/-- What stands between two acts: the record, the document's in its box, the run's box. -/
structure Ls (w : World) (R : Rn) (M b N : Nat) (F : List Nat) (S : St) (u : Value) (wx : World) : Prop where
  rq : Rq wx b F R S N
  hm : wx.heap[M]? = some (.cells (dc u S) 39 (0, 0))
  rd : Rd wx u S.who
  ap : Ap S.who u F
  fl : ∀ d, d ∈ F → w.heap.size < d ∧ d ≠ M
  ml : w.heap.size < M
  hb : wx.heap[w.heap.size]? = some (.cells (rcl R) 26 (0, 0))
  t : Touch [] w wx
def LsX (w : World) (R : Rn) (M b N : Nat) (wx : World) : Prop := ∃ F S a n c, Ls w R M b N F S (.slice a n c) wx
section
variable {w wx w' : World} {R : Rn} {M b N b4 : Nat} {F : List Nat} {S T : St} {u u4 : Value}
theorem Ls.keep (h : Ls w R M b N F S u wx) (X : Touch [] wx w') : Ls w R M b N F S u w' :=
  ⟨h.rq.keep0 X, X.keep h.hm (by simp), h.rd.keep0 X, h.ap, h.fl, h.ml, X.keep h.hb (by simp), h.t.trans' X⟩
def st8 (w : World) (M : Nat) (u : Value) (T : St) : World := ((((((((w.setCell ⟨M, 0, none⟩ (u)).setCell ⟨M, 1, none⟩ (.bool T.kept)).setCell ⟨M, 2, none⟩ (.bool T.canc)).setCell ⟨M, 3, none⟩ (.bool T.ended)).setCell ⟨M, 4, none⟩ (.int .i64 T.out.1)).setCell ⟨M, 5, none⟩ (.int .i64 T.out.2.1)).setCell ⟨M, 6, none⟩ (.int .i64 T.out.2.2.1)).setCell ⟨M, 7, none⟩ (.int .i64 T.out.2.2.2))
set_option maxRecDepth 100000 in
theorem bset8 {w : World} {M : Nat} {u u4 : Value} {S T : St} (hm : w.heap[M]? = some (.cells (dc u S) 39 (0, 0))) : (st8 w M u4 T).heap[M]? = some (.cells (dc u4 T) 39 (0, 0)) := by
  unfold st8
  simp [World.setCell, Array.getElem?_modify, hm, dc]
theorem Ls.box (h : Ls w R M b N F S u wx) (q : OnQ wx w' F R T N b4 u4) : w'.heap[M]? = some (.cells (dc u S) 39 (0, 0)) := by
  obtain ⟨F', q1, q2, q3, q4, q5⟩ := q
  exact q4.keep h.hm (fun e => (h.fl M e).2 rfl)
set_option maxHeartbeats 4000000 in
set_option maxRecDepth 100000 in
theorem Ls.step (h : Ls w R M b N F S u wx) (q : OnQ wx w' F R T N b4 u4) : ∃ F', Ls w R M b4 (N + 1) F' T u4 (st8 w' M u4 T) := by
  have hm := h.box q
  obtain ⟨F', q1, q2, q3, q4, q5⟩ := q
  have tm : Touch [M] w' (st8 w' M u4 T) := by
    unfold st8
    exact (((((((((Touch.refl _ _).setCell (Or.inl (by simp)) _).setCell (Or.inl (by simp)) _).setCell (Or.inl (by simp)) _).setCell (Or.inl (by simp)) _).setCell (Or.inl (by simp)) _).setCell (Or.inl (by simp)) _).setCell (Or.inl (by simp)) _).setCell (Or.inl (by simp)) _)
  have hMl := block_lt h.hm
  have hz := h.t.size
  have hfl : ∀ d, d ∈ F' → w.heap.size < d ∧ d ≠ M := fun d hd => by
    rcases q5 d hd with e | e
    · exact h.fl d e
    · exact ⟨by have := h.ml; omega, by omega⟩
  have hw' := q4.keep h.hb (fun e => by have := (h.fl _ e).1; omega)
  refine ⟨F', q1.keep tm (fun d hd e => ?_), ?_, q2.box tm hm (by decide), q3, hfl, h.ml, tm.keep hw' (by have := h.ml; simp; omega), ?_⟩
  · simp only [List.mem_singleton] at e
    exact (hfl d hd).2 e
  · exact bset8 hm
  · have x1 : Touch [] w w' := h.t.trans q4 (fun i hi => Or.inr (by have := (h.fl i hi).1; omega))
    exact x1.trans tm (fun i hi => Or.inr (by have := h.ml; simp at hi; omega))
end
/-- How the law begins: the record is New's, the document's has the same. -/
theorem ls_start {w W1 w1 w2 wx : World} {R : Rn} {x : Int} {b M : Nat} {F : List Nat} {u : Value} (t0 : Touch [] w W1) (z0 : w.heap.size < W1.heap.size) (hb : W1.heap[w.heap.size]? = some (.cells (rcl R) 26 (0, 0)))
    (q1 : Rq w1 b F R (S0 R x) 1) (q2 : Touch [] W1 w1) (q3 : ∀ d, d ∈ F → W1.heap.size ≤ d) (t2 : Touch [] w1 w2) (t3 : Touch [] w2 wx) (hM : w2.heap.size ≤ M) (hm : wx.heap[M]? = some (.cells (dc u (S0 R x)) 39 (0, 0))) (hu : Rd wx u (S0 R x).who) (hu2 : ∀ q, u.ownBlock = some q → w2.heap.size ≤ q) : Ls w R M b 1 F (S0 R x) u wx := by
  have y1 := q2.size
  have y2 := t2.size
  have hl := q1.lt
  refine ⟨q1.keep0 (t2.trans' t3), hm, hu, fun hx q hq e => ?_, fun d hd => ?_, by omega, ((q2.trans' t2).trans' t3).keep hb (by simp), ((t0.trans' q2).trans' t2).trans' t3⟩
  · have := hu2 q hq; have := hl q e; omega
  · have := q3 d hd; have := hl d hd; exact ⟨by omega, by omega⟩
end Go.Proofs.Ytaikleaiofpebaa
