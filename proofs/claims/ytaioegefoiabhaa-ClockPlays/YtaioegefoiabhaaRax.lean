/- The document's list with a timer more, laid into its box. -/
import Derived.Test.YtaioegefoiabhaaRar
namespace Go.Proofs.Ytaioegefoiabhaa
open Go.RowKit Go.Maps Go.ChangeMaps
set_option linter.unusedVariables false
theorem cell_12 (w : World) (b : Nat) (v : Value) : (w.setCell ⟨b, 1, none⟩ v).cell? ⟨b, 2, none⟩ = w.cell? ⟨b, 2, none⟩ := World.cell?_setCell_other _ _ _ _ (by simp)
/-- The document's list with a timer more, laid into its box. -/
def RaX (w wx : World) (B : Nat) (s : Cs) (t : Int) (l : List Tm) : Prop := ∃ a n c, BM wx w.heap.size s.now (.slice a n c) (s.last + 1) ∧ BM wx (w.heap.size + 1) 0 (.slice none 0 0) 0 ∧ RR 93 wx B (.slice a n c) l ∧ Touch [] w wx
theorem RaX.of {w V w4 : World} {v : Value} {s s1 : Cs} {B n : Nat} {t : Int} {l : List Tm} {a : Option Addr} {c : Nat} (h : AvS w w4 v s1 B) (e1 : s1.now = s.now) (e2 : s1.last = s.last + 1) (hV : w.heap.size + 2 ≤ V.heap.size) (hB : B ≤ w.heap.size) (hr : w4.ownsRow V.heap.size 93 2 (.slice a n c) n (flatT l)) (hn : n = l.length) : RaX w (w4.setCell ⟨w.heap.size, 1, none⟩ (.slice a n c)) B s t l := by
  have T1 : Touch [w.heap.size] w4 (w4.setCell ⟨w.heap.size, 1, none⟩ (.slice a n c)) := (Touch.refl _ _).setCell (p := ⟨w.heap.size, 1, none⟩) (Or.inl (by simp)) _
  have hb := h.b0
  rw [e1, e2] at hb
  refine ⟨a, n, c, Joins.block_setCell hb _, h.b1.keep T1 (by simp), ?_, h.tc.trans T1 (fun i hi => Or.inr (by simp at hi; omega))⟩
  subst hn
  exact own_base (own_touch hr T1 (fun b hb e => by have := (hr.lt b hb).1; simp at e; omega)) (by omega)
theorem rax_touch {w wc : World} (t : Touch [] w wc) (x y z : Value) : Touch [w.heap.size + 1] wc (((wc.drew.setCell ⟨w.heap.size + 1, 0, none⟩ x).setCell ⟨w.heap.size + 1, 1, none⟩ y).setCell ⟨w.heap.size + 1, 2, none⟩ z) ∧ Touch [] w (((wc.drew.setCell ⟨w.heap.size + 1, 0, none⟩ x).setCell ⟨w.heap.size + 1, 1, none⟩ y).setCell ⟨w.heap.size + 1, 2, none⟩ z) := by
  have T : Touch [w.heap.size + 1] wc (((wc.drew.setCell ⟨w.heap.size + 1, 0, none⟩ x).setCell ⟨w.heap.size + 1, 1, none⟩ y).setCell ⟨w.heap.size + 1, 2, none⟩ z) := (((Touch.refl _ _).drew.setCell (p := ⟨w.heap.size + 1, 0, none⟩) (Or.inl (by simp)) _).setCell (p := ⟨w.heap.size + 1, 1, none⟩) (Or.inl (by simp)) _).setCell (p := ⟨w.heap.size + 1, 2, none⟩) (Or.inl (by simp)) _
  exact ⟨T, t.trans T (fun i hi => Or.inr (by simp at hi; omega))⟩
theorem rax_row {w wc : World} {B n c : Nat} {a : Option Addr} {nn ll : Int} {v : Value} {l : List Tm} (h0 : BM wc w.heap.size nn v ll) (h1 : BM wc (w.heap.size + 1) 0 (.slice none 0 0) 0) (h : RR 93 wc B (.slice a n c) l) : ∀ b, (Value.slice a n c).ownBlock = some b → ¬ b ∈ [w.heap.size + 1] := fun b hb e => by
  simp at e
  subst e
  exact own_ne h h1 (by decide) _ hb rfl
end Go.Proofs.Ytaioegefoiabhaa
