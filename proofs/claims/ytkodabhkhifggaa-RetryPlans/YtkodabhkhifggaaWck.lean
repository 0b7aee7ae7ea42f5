/- The contracts of Check, of the document's May, and of the law's plan; no conditions. -/
import Derived.Test.YtkodabhkhifggaaWsm
import Derived.Test.YtkodabhkhifggaaWop
namespace Go.Proofs.Ytkodabhkhifggaa
open Go.RowKit Go.Maps Go.ChangeMaps Go.ChangeShapes Go.WideShapes Go.ChangeAt
set_option linter.unusedVariables false
set_option linter.unusedSimpArgs false
def may (r : Rt) : Bool := decide (0 ≤ r.ba ∧ 0 ≤ r.mo ∧ 1 ≤ r.tr ∧ r.tr ≤ 64 ∧ 0 ≤ r.sp ∧ r.sp ≤ 256)
def chk (r : Rt) : Int := if may r then 0 else 170
theorem may_iff (r : Rt) : may r = true ↔ 0 ≤ r.ba ∧ 0 ≤ r.mo ∧ 1 ≤ r.tr ∧ r.tr ≤ 64 ∧ 0 ≤ r.sp ∧ r.sp ≤ 256 := by simp [may]
theorem check_ (r : Rt) (w : World) : Calls Try.prog 12 #[.agg r.cs] w fun e w' => e = .returned (.int .i64 (chk r)) ∧ Touch [] w w' := by
  unfold chk
  by_cases h0 : 0 ≤ r.ba
  · skip
    by_cases h1 : 0 ≤ r.mo
    · skip
      by_cases h2 : 1 ≤ r.tr
      · skip
        by_cases h3 : r.tr ≤ 64
        · skip
          by_cases h4 : 0 ≤ r.sp
          · skip
            by_cases h5 : r.sp ≤ 256
            · skip
              rw [show may r = true by unfold may; simp; omega]
              unfold Rt.cs
              go_enter Try.func12, Try.ntmps12
              go_wp2
              go_ret
              exact ⟨rfl, (Touch.refl _ _).alloc _⟩
            · rw [show may r = false by unfold may; simp; omega]
              unfold Rt.cs
              go_enter Try.func12, Try.ntmps12
              go_wp2
              go_ret
              exact ⟨rfl, (Touch.refl _ _).alloc _⟩
          · rw [show may r = false by unfold may; simp; omega]
            unfold Rt.cs
            go_enter Try.func12, Try.ntmps12
            go_wp2
            go_ret
            exact ⟨rfl, (Touch.refl _ _).alloc _⟩
        · rw [show may r = false by unfold may; simp; omega]
          unfold Rt.cs
          go_enter Try.func12, Try.ntmps12
          go_wp2
          go_ret
          exact ⟨rfl, (Touch.refl _ _).alloc _⟩
      · rw [show may r = false by unfold may; simp; omega]
        unfold Rt.cs
        go_enter Try.func12, Try.ntmps12
        go_wp2
        go_ret
        exact ⟨rfl, (Touch.refl _ _).alloc _⟩
    · rw [show may r = false by unfold may; simp; omega]
      unfold Rt.cs
      go_enter Try.func12, Try.ntmps12
      go_wp2
      go_ret
      exact ⟨rfl, (Touch.refl _ _).alloc _⟩
  · rw [show may r = false by unfold may; simp; omega]
    unfold Rt.cs
    go_enter Try.func12, Try.ntmps12
    go_wp2
    go_ret
    exact ⟨rfl, (Touch.refl _ _).alloc _⟩
theorem may_ (r : Rt) (w : World) : Calls Try.prog 10 #[.agg r.cs] w fun e w' => e = .returned (.bool (may r)) ∧ Touch [] w w' := by
  by_cases h0 : 0 ≤ r.ba
  · skip
    by_cases h1 : 0 ≤ r.mo
    · skip
      by_cases h2 : 1 ≤ r.tr
      · skip
        by_cases h3 : r.tr ≤ 64
        · skip
          by_cases h4 : 0 ≤ r.sp
          · skip
            by_cases h5 : r.sp ≤ 256
            · skip
              rw [show may r = true by unfold may; simp; omega]
              unfold Rt.cs
              go_enter Try.func10, Try.ntmps10
              go_wp2
              go_ret
              exact ⟨rfl, (Touch.refl _ _).alloc _⟩
            · rw [show may r = false by unfold may; simp; omega]
              unfold Rt.cs
              go_enter Try.func10, Try.ntmps10
              go_wp2
              go_ret
              exact ⟨rfl, (Touch.refl _ _).alloc _⟩
          · rw [show may r = false by unfold may; simp; omega]
            unfold Rt.cs
            go_enter Try.func10, Try.ntmps10
            go_wp2
            go_ret
            exact ⟨rfl, (Touch.refl _ _).alloc _⟩
        · rw [show may r = false by unfold may; simp; omega]
          unfold Rt.cs
          go_enter Try.func10, Try.ntmps10
          go_wp2
          go_ret
          exact ⟨rfl, (Touch.refl _ _).alloc _⟩
      · rw [show may r = false by unfold may; simp; omega]
        unfold Rt.cs
        go_enter Try.func10, Try.ntmps10
        go_wp2
        go_ret
        exact ⟨rfl, (Touch.refl _ _).alloc _⟩
    · rw [show may r = false by unfold may; simp; omega]
      unfold Rt.cs
      go_enter Try.func10, Try.ntmps10
      go_wp2
      go_ret
      exact ⟨rfl, (Touch.refl _ _).alloc _⟩
  · rw [show may r = false by unfold may; simp; omega]
    unfold Rt.cs
    go_enter Try.func10, Try.ntmps10
    go_wp2
    go_ret
    exact ⟨rfl, (Touch.refl _ _).alloc _⟩
theorem plan_ (r : Rt) (w : World) : Calls Try.prog 9 #[.agg r.cs] w fun e w' => e = .returned (.agg r.cs) ∧ Touch [] w w' := by
  unfold Rt.cs
  go_enter Try.func9, Try.ntmps9
  go_wp2
  exact bodyPost_ret (v := .agg #[.int .i64 r.ba, .int .i64 r.mo, .int .i64 r.tr, .int .i64 r.sp]) (by simp [results, Try.results9, go_sem]) rfl ⟨rfl, ((Touch.refl _ _).alloc _).alloc _⟩
end Go.Proofs.Ytkodabhkhifggaa
