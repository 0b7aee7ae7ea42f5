/- The plain contracts of this program's and the document's small functions on failures: which may be, which are one and the same, and their order; no conditions. -/
import Derived.Test.YtifhfdndbnmhlaaDoorBase
namespace Go.Proofs.YtifhfdndbnmhlaaDoor
open Go.RowKit Go.Sort
set_option linter.unusedVariables false

abbrev fl (k c r : Int) : Value := .agg #[.int .i64 k, .int .i64 c, .int .i64 r]
def none3 (k c r : Int) : Bool := decide (k = 0 ∧ c = 0 ∧ r = 0)
def may (k c r : Int) : Bool :=
  if k = 0 then decide (c = 0 ∧ r = 0) else if k = 1 ∨ k = 2 then decide (1 ≤ r) else if k = 3 ∨ k = 4 then decide (c = 0 ∧ r = 0) else if k = 5 then decide (c = 0 ∧ 1 ≤ r) else false
def same (k c r k' c' r' : Int) : Bool := decide (k = k' ∧ c = c' ∧ r = r')

theorem ref8 (k c r : Int) (w : World) : Calls Tryd.prog 8 #[fl k c r] w fun e w' => e = .returned (fl k c r) ∧ Gr w w' := by
  go_enter Tryd.func8, Tryd.ntmps8
  go_wp2
  exact bodyPost_ret (v := fl k c r) (by simp [results, Tryd.results8, go_sem, fl]) rfl ⟨rfl, by
    repeat (first | exact Gr.refl _ | apply Gr.alloc | apply Gr.drew)⟩
theorem same13 (k c r k' c' r' : Int) (w : World) : Calls Tryd.prog 13 #[fl k c r, fl k' c' r'] w fun e w' => e = .returned (.bool (same k c r k' c' r')) ∧ Gr w w' := by
  by_cases h1 : k = k'
  · subst h1
    by_cases h2 : c = c'
    · subst h2
      by_cases h3 : r = r'
      · subst h3
        go_enter Tryd.func13, Tryd.ntmps13
        go_wp2
        go_ret
        exact ⟨by simp [same], by repeat (first | exact Gr.refl _ | apply Gr.alloc | apply Gr.drew)⟩
      · go_enter Tryd.func13, Tryd.ntmps13
        go_wp2
        go_ret
        exact ⟨by simp [same, h3], by repeat (first | exact Gr.refl _ | apply Gr.alloc | apply Gr.drew)⟩
    · go_enter Tryd.func13, Tryd.ntmps13
      go_wp2
      go_ret
      exact ⟨by simp [same, h2], by repeat (first | exact Gr.refl _ | apply Gr.alloc | apply Gr.drew)⟩
  · go_enter Tryd.func13, Tryd.ntmps13
    go_wp2
    go_ret
    exact ⟨by simp [same, h1], by repeat (first | exact Gr.refl _ | apply Gr.alloc | apply Gr.drew)⟩
theorem none28 (k c r : Int) (w : World) : Calls Tryd.prog 28 #[fl k c r] w fun e w' => e = .returned (.bool (none3 k c r)) ∧ Gr w w' := by
  go_enter Tryd.func28, Tryd.ntmps28
  go_wp2_with (go_at_call 13; refine (same13 k c r 0 0 0 _).mono ?_; rintro e w1 ⟨rfl, hg⟩)
  go_ret
  exact ⟨rfl, ((Gr.refl w).alloc _).trans hg⟩
end Go.Proofs.YtifhfdndbnmhlaaDoor
