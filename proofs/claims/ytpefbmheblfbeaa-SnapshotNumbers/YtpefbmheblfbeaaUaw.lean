/- The statements' own look that the program is awake: it is; no conditions. -/
import Derived.Test.YtpefbmheblfbeaaUtk
namespace Go.Proofs.Ytpefbmheblfbeaa.Sn
open Go.RowKit Go.Sort
set_option linter.unusedVariables false
theorem n300 : numL 300 = [172, 2] := by
  rw [numL_go (by omega), numL_end (by omega)]; decide
theorem take300 : takeAt ⟨#[172, 2]⟩ 0 = some (300, 2) := by decide
theorem awake_ (w : World) : Calls Try.prog 6 #[] w fun e w' => e = .returned (.bool true) ∧ Touch [] w w' := by
  have H1 := hid (take_ w ⟨#[172, 2]⟩ 0 (by decide) (by omega) (by omega))
  rw [take300] at H1
  unfold takeV at H1
  have H2 := hid (number_ w 300 (by omega))
  rw [n300] at H2
  have H3 : Hid (∀ w, Calls Try.prog 9 #[.int .i64 (-1)] w fun e w' => e = .returned (.int .u64 1) ∧ w' = w) := hid (fun w => sign_ w (-1) (by omega) (by omega))
  go_enter Try.func6, Try.ntmps6
  go_wp2_with (first
    | (go_at_call 4; refine H1.out.mono ?_; rintro e w1 ⟨rfl, rfl⟩)
    | (go_at_call 7; refine H2.out.mono ?_; rintro e w2 ⟨rfl, T2⟩)
    | (go_at_call 9; refine (H3.out _).mono ?_; rintro e w3 ⟨rfl, rfl⟩))
  go_ret
  exact ⟨rfl, T2⟩
end Go.Proofs.Ytpefbmheblfbeaa.Sn
