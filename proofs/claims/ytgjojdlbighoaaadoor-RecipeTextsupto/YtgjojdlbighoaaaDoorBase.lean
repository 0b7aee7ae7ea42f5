/- What it means that a call lays new blocks alone; no conditions. -/
import Derived.Test.YtgjojdlbighoaaaDoorProg
import Derived.WalkKit
import Derived.ProofKit
import Derived.Shelf.RegionOpenPlain
import Derived.Lib.QuietBelow
import Derived.BigQuiet
namespace Go.Proofs.YtgjojdlbighoaaaDoor
open Go.RowKit Go.Sort
set_option linter.unusedVariables false

def Gr (w w' : World) : Prop := Below w.heap.size w w'
theorem Gr.below {w w' : World} (h : Gr w w') : Below w.heap.size w w' := h
theorem Gr.refl (w : World) : Gr w w := Below.refl _ _
theorem Gr.size {w w' : World} (hg : Gr w w') : w.heap.size ≤ w'.heap.size := hg.below.size
theorem Gr.alloc {w w' : World} (h : Gr w w') (o : Obj) : Gr w (w'.alloc o) := Below.alloc h h.size o
theorem Gr.trans {a b c : World} (h : Gr a b) (k : Gr b c) : Gr a c := Below.trans h (k.below.mono h.size)
theorem gr_re (w : World) (d : Nat) (os : Array Obj) : Gr w (grow (redrawn w d) os) := below_regrown w d os
theorem Gr.re {w w' : World} (h : Gr w w') (d : Nat) (os : Array Obj) : Gr w (Sort.grow (redrawn w' d) os) := h.trans (gr_re w' d os)
theorem Gr.drew {w w' : World} (h : Gr w w') : Gr w w'.drew := Below.drew h
theorem Gr.drewN {w w' : World} (h : Gr w w') (n : Nat) : Gr w (w'.drewN n) := ⟨h.os, h.tape, h.output, h.size, h.block⟩
theorem Gr.setCell {w w' : World} (h : Gr w w') {a : Addr} (ha : w.heap.size ≤ a.block) (v : Value) : Gr w (w'.setCell a v) := Below.setCell h ha v
theorem Gr.cell {w w' : World} (hg : Gr w w') {a : Addr} {v : Value} (h : w.cell? a = some v) (hb : a.block < w.heap.size) : w'.cell? a = some v := by
  rw [hg.below.cell hb]; exact h
theorem cell_lt {w : World} {a : Addr} {v : Value} (h : w.cell? a = some v) : a.block < w.heap.size := by
  rcases Nat.lt_or_ge a.block w.heap.size with h' | h'
  · exact h'
  · simp [World.cell?, Array.getElem?_eq_none h'] at h
theorem Gr.cell' {w w' : World} (hg : Gr w w') {a : Addr} {v : Value} (h : w.cell? a = some v) : w'.cell? a = some v := hg.cell h (cell_lt h)
theorem Gr.fz {w w' : World} (hg : Gr w w') {a : Addr} (h : w.frozen? a = false) (hb : a.block < w.heap.size) : w'.frozen? a = false := by
  rw [World.frozen?_of_block (hg.below.block _ hb)]; exact h
theorem mixed : Tryd.prog.follows .mixedOrders = true := by kernel_rfl
end Go.Proofs.YtgjojdlbighoaaaDoor
