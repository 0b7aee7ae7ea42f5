/- The contracts of the program's and the document's questions whether a failure and an outcome may be; no conditions. -/
import Derived.Test.YtifhfdndbnmhlaaDoorSml
namespace Go.Proofs.YtifhfdndbnmhlaaDoor
open Go.RowKit Go.Sort
set_option linter.unusedVariables false

theorem may27 (k c r : Int) (w : World) : Calls Tryd.prog 27 #[fl k c r] w fun e w' => e = .returned (.bool (may k c r)) ∧ Gr w w' := by
  by_cases h0 : k = 0
  · subst h0
    go_enter Tryd.func27, Tryd.ntmps27
    go_wp2_with (go_at_call 28; refine (none28 0 c r _).mono ?_; rintro e w1 ⟨rfl, hg⟩)
    go_ret
    exact ⟨by simp [may, none3], ((Gr.refl w).alloc _).trans hg⟩
  · by_cases h1 : k = 1
    · subst h1
      by_cases h2 : 1 ≤ r
      · go_enter Tryd.func27, Tryd.ntmps27
        go_wp2
        go_ret
        exact ⟨by simp [may, h2], by repeat (first | exact Gr.refl _ | apply Gr.alloc | apply Gr.drew)⟩
      · go_enter Tryd.func27, Tryd.ntmps27
        go_wp2
        go_ret
        exact ⟨by simp [may, h2], by repeat (first | exact Gr.refl _ | apply Gr.alloc | apply Gr.drew)⟩
    · by_cases h2 : k = 2
      · subst h2
        by_cases h3 : 1 ≤ r
        · go_enter Tryd.func27, Tryd.ntmps27
          go_wp2
          go_ret
          exact ⟨by simp [may, h3], by repeat (first | exact Gr.refl _ | apply Gr.alloc | apply Gr.drew)⟩
        · go_enter Tryd.func27, Tryd.ntmps27
          go_wp2
          go_ret
          exact ⟨by simp [may, h3], by repeat (first | exact Gr.refl _ | apply Gr.alloc | apply Gr.drew)⟩
      · by_cases h3 : k = 3
        · subst h3
          by_cases hc : c = 0
          · subst hc
            by_cases hr : r = 0
            · subst hr
              go_enter Tryd.func27, Tryd.ntmps27
              go_wp2
              go_ret
              exact ⟨by simp [may], by repeat (first | exact Gr.refl _ | apply Gr.alloc | apply Gr.drew)⟩
            · go_enter Tryd.func27, Tryd.ntmps27
              go_wp2
              go_ret
              exact ⟨by simp [may, hr], by repeat (first | exact Gr.refl _ | apply Gr.alloc | apply Gr.drew)⟩
          · go_enter Tryd.func27, Tryd.ntmps27
            go_wp2
            go_ret
            exact ⟨by simp [may, hc], by repeat (first | exact Gr.refl _ | apply Gr.alloc | apply Gr.drew)⟩
        · by_cases h4 : k = 4
          · subst h4
            by_cases hc : c = 0
            · subst hc
              by_cases hr : r = 0
              · subst hr
                go_enter Tryd.func27, Tryd.ntmps27
                go_wp2
                go_ret
                exact ⟨by simp [may], by repeat (first | exact Gr.refl _ | apply Gr.alloc | apply Gr.drew)⟩
              · go_enter Tryd.func27, Tryd.ntmps27
                go_wp2
                go_ret
                exact ⟨by simp [may, hr], by repeat (first | exact Gr.refl _ | apply Gr.alloc | apply Gr.drew)⟩
            · go_enter Tryd.func27, Tryd.ntmps27
              go_wp2
              go_ret
              exact ⟨by simp [may, hc], by repeat (first | exact Gr.refl _ | apply Gr.alloc | apply Gr.drew)⟩
          · by_cases h5 : k = 5
            · subst h5
              by_cases hc : c = 0
              · subst hc
                by_cases hr : 1 ≤ r
                · go_enter Tryd.func27, Tryd.ntmps27
                  go_wp2
                  go_ret
                  exact ⟨by simp [may, hr], by repeat (first | exact Gr.refl _ | apply Gr.alloc | apply Gr.drew)⟩
                · go_enter Tryd.func27, Tryd.ntmps27
                  go_wp2
                  go_ret
                  exact ⟨by simp [may, hr], by repeat (first | exact Gr.refl _ | apply Gr.alloc | apply Gr.drew)⟩
              · go_enter Tryd.func27, Tryd.ntmps27
                go_wp2
                go_ret
                exact ⟨by simp [may, hc], by repeat (first | exact Gr.refl _ | apply Gr.alloc | apply Gr.drew)⟩
            · go_enter Tryd.func27, Tryd.ntmps27
              go_wp2
              go_ret
              exact ⟨by simp [may, h0, h1, h2, h3, h4, h5], by repeat (first | exact Gr.refl _ | apply Gr.alloc | apply Gr.drew)⟩
theorem rmay7 (k c r : Int) (w : World) : Calls Tryd.prog 7 #[fl k c r] w fun e w' => e = .returned (.bool (may k c r)) ∧ Gr w w' := by
  by_cases h0 : k = 0
  · subst h0
    by_cases h1 : c = 0
    · subst h1
      by_cases h2 : r = 0
      · subst h2
        go_enter Tryd.func7, Tryd.ntmps7
        go_wp2
        go_ret
        exact ⟨by simp [may], by repeat (first | exact Gr.refl _ | apply Gr.alloc | apply Gr.drew)⟩
      · go_enter Tryd.func7, Tryd.ntmps7
        go_wp2
        go_ret
        exact ⟨by simp [may, h2], by repeat (first | exact Gr.refl _ | apply Gr.alloc | apply Gr.drew)⟩
    · go_enter Tryd.func7, Tryd.ntmps7
      go_wp2
      go_ret
      exact ⟨by simp [may, h1], by repeat (first | exact Gr.refl _ | apply Gr.alloc | apply Gr.drew)⟩
  · by_cases h1 : k = 1
    · subst h1
      by_cases h2 : 1 ≤ r
      · go_enter Tryd.func7, Tryd.ntmps7
        go_wp2
        go_ret
        exact ⟨by simp [may, h2], by repeat (first | exact Gr.refl _ | apply Gr.alloc | apply Gr.drew)⟩
      · go_enter Tryd.func7, Tryd.ntmps7
        go_wp2
        go_ret
        exact ⟨by simp [may, h2], by repeat (first | exact Gr.refl _ | apply Gr.alloc | apply Gr.drew)⟩
    · by_cases h2 : k = 2
      · subst h2
        by_cases h3 : 1 ≤ r
        · go_enter Tryd.func7, Tryd.ntmps7
          go_wp2
          go_ret
          exact ⟨by simp [may, h3], by repeat (first | exact Gr.refl _ | apply Gr.alloc | apply Gr.drew)⟩
        · go_enter Tryd.func7, Tryd.ntmps7
          go_wp2
          go_ret
          exact ⟨by simp [may, h3], by repeat (first | exact Gr.refl _ | apply Gr.alloc | apply Gr.drew)⟩
      · by_cases h3 : k = 3
        · subst h3
          by_cases hc : c = 0
          · subst hc
            by_cases hr : r = 0
            · subst hr
              go_enter Tryd.func7, Tryd.ntmps7
              go_wp2
              go_ret
              exact ⟨by simp [may], by repeat (first | exact Gr.refl _ | apply Gr.alloc | apply Gr.drew)⟩
            · go_enter Tryd.func7, Tryd.ntmps7
              go_wp2
              go_ret
              exact ⟨by simp [may, hr], by repeat (first | exact Gr.refl _ | apply Gr.alloc | apply Gr.drew)⟩
          · go_enter Tryd.func7, Tryd.ntmps7
            go_wp2
            go_ret
            exact ⟨by simp [may, hc], by repeat (first | exact Gr.refl _ | apply Gr.alloc | apply Gr.drew)⟩
        · by_cases h4 : k = 4
          · subst h4
            by_cases hc : c = 0
            · subst hc
              by_cases hr : r = 0
              · subst hr
                go_enter Tryd.func7, Tryd.ntmps7
                go_wp2
                go_ret
                exact ⟨by simp [may], by repeat (first | exact Gr.refl _ | apply Gr.alloc | apply Gr.drew)⟩
              · go_enter Tryd.func7, Tryd.ntmps7
                go_wp2
                go_ret
                exact ⟨by simp [may, hr], by repeat (first | exact Gr.refl _ | apply Gr.alloc | apply Gr.drew)⟩
            · go_enter Tryd.func7, Tryd.ntmps7
              go_wp2
              go_ret
              exact ⟨by simp [may, hc], by repeat (first | exact Gr.refl _ | apply Gr.alloc | apply Gr.drew)⟩
          · by_cases h5 : k = 5
            · subst h5
              by_cases hc : c = 0
              · subst hc
                by_cases hr : 1 ≤ r
                · go_enter Tryd.func7, Tryd.ntmps7
                  go_wp2
                  go_ret
                  exact ⟨by simp [may, hr], by repeat (first | exact Gr.refl _ | apply Gr.alloc | apply Gr.drew)⟩
                · go_enter Tryd.func7, Tryd.ntmps7
                  go_wp2
                  go_ret
                  exact ⟨by simp [may, hr], by repeat (first | exact Gr.refl _ | apply Gr.alloc | apply Gr.drew)⟩
              · go_enter Tryd.func7, Tryd.ntmps7
                go_wp2
                go_ret
                exact ⟨by simp [may, hc], by repeat (first | exact Gr.refl _ | apply Gr.alloc | apply Gr.drew)⟩
            · go_enter Tryd.func7, Tryd.ntmps7
              go_wp2
              go_ret
              exact ⟨by simp [may, h0, h1, h2, h3, h4, h5], by repeat (first | exact Gr.refl _ | apply Gr.alloc | apply Gr.drew)⟩
theorem check10 (k c r : Int) (w : World) : Calls Tryd.prog 10 #[fl k c r] w fun e w' => e = .returned (.int .i64 (if may k c r then 0 else 30)) ∧ Gr w w' := by
  cases h : may k c r with
  | true =>
    go_enter Tryd.func10, Tryd.ntmps10
    go_wp2_with (go_at_call 27; refine (may27 k c r _).mono ?_; rw [h]; rintro e w1 ⟨rfl, hg⟩)
    go_ret
    exact ⟨rfl, ((Gr.refl w).alloc _).trans hg⟩
  | false =>
    go_enter Tryd.func10, Tryd.ntmps10
    go_wp2_with (go_at_call 27; refine (may27 k c r _).mono ?_; rw [h]; rintro e w1 ⟨rfl, hg⟩)
    go_ret
    exact ⟨rfl, ((Gr.refl w).alloc _).trans hg⟩
def right (v k c r : Int) : Bool := may k c r && (none3 k c r || decide (v = 0))
end Go.Proofs.YtifhfdndbnmhlaaDoor
