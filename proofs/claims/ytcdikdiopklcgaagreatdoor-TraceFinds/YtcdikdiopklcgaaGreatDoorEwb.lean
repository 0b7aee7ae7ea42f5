/- A trace's events as a slice of their own, gone over by a function that is handed in; the conditions are that each states. -/
import Derived.Test.YtcdikdiopklcgaaGreatDoorEwa
namespace Go.Proofs.YtcdikdiopklcgaaGreatDoor.Tr
open Go.RowKit Go.Sort Go.Shelf Go.Maps Go.ChangeMaps
set_option linter.unusedVariables false
set_option linter.unusedSimpArgs false
theorem neE (e : Ez) (w : World) : (binOp .neq 40 e.val e.val).run Tryz.prog w = .ok (.bool false) w := by
  unfold Ez.val
  go_simp
theorem eqE (e : Ez) (w : World) : (binOp .eql 40 e.val e.val).run Tryz.prog w = .ok (.bool true) w := by
  unfold Ez.val
  go_simp
/-- what a function that is handed in does at one event, from a state to the next: it goes on, or ends -/
def EachR (J E : World → Prop) (r : Ending) (w : World) : Prop := (r = .returned (.bool true) ∧ J w) ∨ (r = .returned (.bool false) ∧ E w)
end Go.Proofs.YtcdikdiopklcgaaGreatDoor.Tr
