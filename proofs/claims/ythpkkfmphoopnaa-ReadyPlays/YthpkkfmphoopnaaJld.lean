/- Ready ones beside a row of numbers that a law keeps: what stays when either goes on; no conditions. -/
import Derived.Test.YthpkkfmphoopnaaJnl
namespace Go.Proofs.Ythpkkfmphoopnaa.Re
open Go.RowKit Go.Maps Go.ChangeMaps
set_option linter.unusedVariables false
set_option linter.unusedSimpArgs false
def Ld (w w1 : World) (b : Nat) (S : Rz) (N : Nat) (v : Value) (I : List Int) : Prop := ∃ F, Rq w1 b F S N ∧ Touch [] w w1 ∧ (∀ q, q ∈ F → w.heap.size ≤ q) ∧ Ow w1 w.heap.size v I ∧ ∀ q, v.ownBlock = some q → ¬ q ∈ F
section
variable {w w1 w2 : World} {b N M : Nat} {S T : Rz} {v : Value} {I : List Int}
theorem Ld.t (h : Ld w w1 b S N v I) : Touch [] w w1 := by
  obtain ⟨F, h1, h2, h3, h4, h5⟩ := h
  exact h2
theorem Ld.ow (h : Ld w w1 b S N v I) : Ow w1 w.heap.size v I := by
  obtain ⟨F, h1, h2, h3, h4, h5⟩ := h
  exact h4
theorem Ld.rf (h : Ld w w1 b S N v I) : Rf w w1 b S N := by
  obtain ⟨F, h1, h2, h3, h4, h5⟩ := h
  exact ⟨F, h1, h2, h3⟩
theorem Ld.keep0 (h : Ld w w1 b S N v I) (X : Touch [] w1 w2) : Ld w w2 b S N v I := by
  obtain ⟨F, h1, h2, h3, h4, h5⟩ := h
  exact ⟨F, h1.keep0 X, h2.trans' X, h3, h4.keep0 X, h5⟩
theorem Ld.mk (h : Rf w w1 b S N) {ob : Obj} {v : Value} {I : List Int} (T : Touch [] w1 w2) (hv : Ow w2 w.heap.size v I) (hn : ∀ q, v.ownBlock = some q → w1.heap.size ≤ q) : Ld w w2 b S N v I := by
  obtain ⟨F, h1, h2, h3⟩ := h
  exact ⟨F, h1.keep0 T, h2.trans' T, h3, hv, fun q hq e => by have := hn q hq; have := h1.lt q e; omega⟩
theorem Ld.stepE {F : List Nat} (h1 : Rq w1 b F S N) (h2 : Touch [] w w1) (h3 : ∀ q, q ∈ F → w.heap.size ≤ q) (h4 : Ow w1 w.heap.size v I) (h5 : ∀ q, v.ownBlock = some q → ¬ q ∈ F) (hE : RqE w1 w2 b F T M) : Ld w w2 b T M v I := by
  obtain ⟨F', q1, q2, q3⟩ := hE
  refine ⟨F', q1, h2.trans q2 (fun q hq => Or.inr (h3 q hq)), fun q hq => ?_, h4.keep q2 h5, fun q hq e => ?_⟩
  · have := h2.size
    rcases q3 q hq with e | e
    · exact h3 q e
    · omega
  · rcases q3 q e with r | r
    · exact h5 q hq r
    · have := (h4.lt hq).2; omega
theorem Ld.wake (h : Ld w w1 b S N v I) (x : Int) (hx : W64 x) : Calls Try.prog 18 #[PT b, .int .i64 x] w1 fun e w2 => e = .returned (.int .i64 (wakeE S x)) ∧ Ld w w2 b (wakeS S x) N v I := by
  obtain ⟨F, h1, h2, h3, h4, h5⟩ := h
  refine (wake_ h1 x hx).mono ?_
  rintro e w2 ⟨rfl, q⟩
  exact ⟨rfl, Ld.stepE h1 h2 h3 h4 h5 q⟩
theorem Ld.pick (h : Ld w w1 b S N v I) (hN : N ≤ 8796093022208) : Calls Try.prog 11 #[PT b] w1 fun e w2 => e = .returned (.tuple #[.int .i64 (pickV S), .bool (someB S)]) ∧ Ld w w2 b (pickS S) (N + 1) v I := by
  obtain ⟨F, h1, h2, h3, h4, h5⟩ := h
  refine (pick_ h1 hN).mono ?_
  rintro e w2 ⟨rfl, q⟩
  exact ⟨rfl, Ld.stepE h1 h2 h3 h4 h5 q⟩
theorem Ld.rest (h : Ld w w1 b S N v I) (x : Int) (hx : W64 x) : Calls Try.prog 14 #[PT b, .int .i64 x] w1 fun e w2 => e = .returned (.bool (decide (x ∈ S.ln))) ∧ Ld w w2 b (restS S x) N v I := by
  obtain ⟨F, h1, h2, h3, h4, h5⟩ := h
  refine (rest_ h1 x hx).mono ?_
  rintro e w2 ⟨rfl, q⟩
  exact ⟨rfl, Ld.stepE h1 h2 h3 h4 h5 q⟩
/-- One more in the law's row. -/
theorem Ld.app (h : Ld w w1 b S N v I) {ob : Obj} {v5 : Value} {J : List Int} (h5 : Ow w2 w.heap.size v5 J) (T5 : Touch v.ownBlock.toList (w1.alloc ob) w2) (e5 : v5.ownBlock = v.ownBlock ∨ v5.ownBlock = some (w1.alloc ob).heap.size) : Ld w w2 b S N v5 J := by
  obtain ⟨F, a1, a2, a3, a4, a5⟩ := h
  have hsz : (w1.alloc ob).heap.size = w1.heap.size + 1 := by simp
  refine ⟨F, (a1.keep0 ((Touch.refl [] _).alloc ob)).keep T5 (fun q hq e => a5 q (by simpa using e) hq), (a2.alloc ob).trans T5 (fun q hq => Or.inr (a4.lt (by simpa using hq)).1), a3, h5, fun q hq e => ?_⟩
  rcases e5 with r | r
  · exact a5 q (by rw [← r]; exact hq) e
  · rw [r, hsz] at hq
    cases hq
    have := a1.lt _ e
    omega
end
end Go.Proofs.Ythpkkfmphoopnaa.Re
