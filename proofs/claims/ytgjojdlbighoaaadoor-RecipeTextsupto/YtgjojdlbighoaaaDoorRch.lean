/- The document's look at a step and at a recipe; the condition is that the list lies in memory. -/
import Derived.Test.YtgjojdlbighoaaaDoorChk
namespace Go.Proofs.YtgjojdlbighoaaaDoor
open Go.RowKit Go.Sort
set_option linter.unusedVariables false
set_option linter.unusedSimpArgs false

set_option maxHeartbeats 1000000 in
theorem may29_1 (a b : Int) (w : World) : Calls Tryd.prog 29 #[.agg #[.int .i64 1, .int .i64 a, .int .i64 b]] w fun e w' => e = .returned (.bool (mayD 1 a b)) ∧ Gr w w' := by
  by_cases h0 : b = 0
  rotate_left
  · have HR : Hid (mayD 1 a b = false) := mayD_false (fun h => by unfold may3 at h; omega)
    generalize mayD 1 a b = R at *
    have g0 : (b == 0) = false := by simpa using h0
    go_enter Tryd.func29, Tryd.ntmps29
    go_wp2_with fail
    go_quiet (fail)
    go_wp2
    go_ret
    exact ⟨by rw [HR.out]; first | rfl | (show Ending.returned (.bool (decide (b ≤ 256))) = _; rw [decide_eq_false (by omega)]), ((Gr.refl w).alloc _).drewN _⟩
  have HR : Hid (mayD 1 a b = true) := mayD_true (by unfold may3; omega)
  generalize mayD 1 a b = R at *
  subst h0
  go_enter Tryd.func29, Tryd.ntmps29
  go_wp2_with fail
  go_quiet (fail)
  go_wp2
  go_ret
  exact ⟨by rw [HR.out]; first | rfl | (show Ending.returned (.bool (decide (b ≤ 256))) = _; rw [decide_eq_false (by omega)]), ((Gr.refl w).alloc _).drewN _⟩
set_option maxHeartbeats 1000000 in
theorem may29_2 (a b : Int) (w : World) : Calls Tryd.prog 29 #[.agg #[.int .i64 2, .int .i64 a, .int .i64 b]] w fun e w' => e = .returned (.bool (mayD 2 a b)) ∧ Gr w w' := by
  by_cases h0 : -63 ≤ a
  rotate_left
  · have HR : Hid (mayD 2 a b = false) := mayD_false (fun h => by unfold may3 at h; omega)
    generalize mayD 2 a b = R at *
    go_enter Tryd.func29, Tryd.ntmps29
    go_wp2_with fail
    go_quiet (fail)
    go_wp2
    go_ret
    exact ⟨by rw [HR.out]; first | rfl | (show Ending.returned (.bool (decide (b ≤ 256))) = _; rw [decide_eq_false (by omega)]), ((Gr.refl w).alloc _).drewN _⟩
  by_cases h1 : a ≤ 63
  rotate_left
  · have HR : Hid (mayD 2 a b = false) := mayD_false (fun h => by unfold may3 at h; omega)
    generalize mayD 2 a b = R at *
    go_enter Tryd.func29, Tryd.ntmps29
    go_wp2_with fail
    go_quiet (fail)
    go_wp2
    go_ret
    exact ⟨by rw [HR.out]; first | rfl | (show Ending.returned (.bool (decide (b ≤ 256))) = _; rw [decide_eq_false (by omega)]), ((Gr.refl w).alloc _).drewN _⟩
  by_cases h2 : b = 0
  rotate_left
  · have HR : Hid (mayD 2 a b = false) := mayD_false (fun h => by unfold may3 at h; omega)
    generalize mayD 2 a b = R at *
    have g2 : (b == 0) = false := by simpa using h2
    go_enter Tryd.func29, Tryd.ntmps29
    go_wp2_with fail
    go_quiet (fail)
    go_wp2
    go_ret
    exact ⟨by rw [HR.out]; first | rfl | (show Ending.returned (.bool (decide (b ≤ 256))) = _; rw [decide_eq_false (by omega)]), ((Gr.refl w).alloc _).drewN _⟩
  have HR : Hid (mayD 2 a b = true) := mayD_true (by unfold may3; omega)
  generalize mayD 2 a b = R at *
  subst h2
  go_enter Tryd.func29, Tryd.ntmps29
  go_wp2_with fail
  go_quiet (fail)
  go_wp2
  go_ret
  exact ⟨by rw [HR.out]; first | rfl | (show Ending.returned (.bool (decide (b ≤ 256))) = _; rw [decide_eq_false (by omega)]), ((Gr.refl w).alloc _).drewN _⟩
set_option maxHeartbeats 1000000 in
theorem may29_3 (a b : Int) (w : World) : Calls Tryd.prog 29 #[.agg #[.int .i64 3, .int .i64 a, .int .i64 b]] w fun e w' => e = .returned (.bool (mayD 3 a b)) ∧ Gr w w' := by
  by_cases h0 : a = 0
  rotate_left
  · have HR : Hid (mayD 3 a b = false) := mayD_false (fun h => by unfold may3 at h; omega)
    generalize mayD 3 a b = R at *
    have g0 : (a == 0) = false := by simpa using h0
    go_enter Tryd.func29, Tryd.ntmps29
    go_wp2_with fail
    go_quiet (fail)
    go_wp2
    go_ret
    exact ⟨by rw [HR.out]; first | rfl | (show Ending.returned (.bool (decide (b ≤ 256))) = _; rw [decide_eq_false (by omega)]), ((Gr.refl w).alloc _).drewN _⟩
  by_cases h1 : b = 0
  rotate_left
  · have HR : Hid (mayD 3 a b = false) := mayD_false (fun h => by unfold may3 at h; omega)
    generalize mayD 3 a b = R at *
    have g1 : (b == 0) = false := by simpa using h1
    go_enter Tryd.func29, Tryd.ntmps29
    go_wp2_with fail
    go_quiet (fail)
    go_wp2
    go_ret
    exact ⟨by rw [HR.out]; first | rfl | (show Ending.returned (.bool (decide (b ≤ 256))) = _; rw [decide_eq_false (by omega)]), ((Gr.refl w).alloc _).drewN _⟩
  have HR : Hid (mayD 3 a b = true) := mayD_true (by unfold may3; omega)
  generalize mayD 3 a b = R at *
  subst h0
  subst h1
  go_enter Tryd.func29, Tryd.ntmps29
  go_wp2_with fail
  go_quiet (fail)
  go_wp2
  go_ret
  exact ⟨by rw [HR.out]; first | rfl | (show Ending.returned (.bool (decide (b ≤ 256))) = _; rw [decide_eq_false (by omega)]), ((Gr.refl w).alloc _).drewN _⟩
set_option maxHeartbeats 1000000 in
theorem may29_4 (a b : Int) (w : World) : Calls Tryd.prog 29 #[.agg #[.int .i64 4, .int .i64 a, .int .i64 b]] w fun e w' => e = .returned (.bool (mayD 4 a b)) ∧ Gr w w' := by
  by_cases h0 : a = 0
  rotate_left
  · have HR : Hid (mayD 4 a b = false) := mayD_false (fun h => by unfold may3 at h; omega)
    generalize mayD 4 a b = R at *
    have g0 : (a == 0) = false := by simpa using h0
    go_enter Tryd.func29, Tryd.ntmps29
    go_wp2_with fail
    go_quiet (fail)
    go_wp2
    go_ret
    exact ⟨by rw [HR.out]; first | rfl | (show Ending.returned (.bool (decide (b ≤ 256))) = _; rw [decide_eq_false (by omega)]), ((Gr.refl w).alloc _).drewN _⟩
  by_cases h1 : b = 0
  rotate_left
  · have HR : Hid (mayD 4 a b = false) := mayD_false (fun h => by unfold may3 at h; omega)
    generalize mayD 4 a b = R at *
    have g1 : (b == 0) = false := by simpa using h1
    go_enter Tryd.func29, Tryd.ntmps29
    go_wp2_with fail
    go_quiet (fail)
    go_wp2
    go_ret
    exact ⟨by rw [HR.out]; first | rfl | (show Ending.returned (.bool (decide (b ≤ 256))) = _; rw [decide_eq_false (by omega)]), ((Gr.refl w).alloc _).drewN _⟩
  have HR : Hid (mayD 4 a b = true) := mayD_true (by unfold may3; omega)
  generalize mayD 4 a b = R at *
  subst h0
  subst h1
  go_enter Tryd.func29, Tryd.ntmps29
  go_wp2_with fail
  go_quiet (fail)
  go_wp2
  go_ret
  exact ⟨by rw [HR.out]; first | rfl | (show Ending.returned (.bool (decide (b ≤ 256))) = _; rw [decide_eq_false (by omega)]), ((Gr.refl w).alloc _).drewN _⟩
set_option maxHeartbeats 1000000 in
theorem may29_5 (a b : Int) (w : World) : Calls Tryd.prog 29 #[.agg #[.int .i64 5, .int .i64 a, .int .i64 b]] w fun e w' => e = .returned (.bool (mayD 5 a b)) ∧ Gr w w' := by
  by_cases h0 : 0 ≤ a
  rotate_left
  · have HR : Hid (mayD 5 a b = false) := mayD_false (fun h => by unfold may3 at h; omega)
    generalize mayD 5 a b = R at *
    go_enter Tryd.func29, Tryd.ntmps29
    go_wp2_with fail
    go_quiet (fail)
    go_wp2
    go_ret
    exact ⟨by rw [HR.out]; first | rfl | (show Ending.returned (.bool (decide (b ≤ 256))) = _; rw [decide_eq_false (by omega)]), ((Gr.refl w).alloc _).drewN _⟩
  by_cases h1 : a ≤ 63
  rotate_left
  · have HR : Hid (mayD 5 a b = false) := mayD_false (fun h => by unfold may3 at h; omega)
    generalize mayD 5 a b = R at *
    go_enter Tryd.func29, Tryd.ntmps29
    go_wp2_with fail
    go_quiet (fail)
    go_wp2
    go_ret
    exact ⟨by rw [HR.out]; first | rfl | (show Ending.returned (.bool (decide (b ≤ 256))) = _; rw [decide_eq_false (by omega)]), ((Gr.refl w).alloc _).drewN _⟩
  by_cases h2 : b = 0
  rotate_left
  · have HR : Hid (mayD 5 a b = false) := mayD_false (fun h => by unfold may3 at h; omega)
    generalize mayD 5 a b = R at *
    have g2 : (b == 0) = false := by simpa using h2
    go_enter Tryd.func29, Tryd.ntmps29
    go_wp2_with fail
    go_quiet (fail)
    go_wp2
    go_ret
    exact ⟨by rw [HR.out]; first | rfl | (show Ending.returned (.bool (decide (b ≤ 256))) = _; rw [decide_eq_false (by omega)]), ((Gr.refl w).alloc _).drewN _⟩
  have HR : Hid (mayD 5 a b = true) := mayD_true (by unfold may3; omega)
  generalize mayD 5 a b = R at *
  subst h2
  go_enter Tryd.func29, Tryd.ntmps29
  go_wp2_with fail
  go_quiet (fail)
  go_wp2
  go_ret
  exact ⟨by rw [HR.out]; first | rfl | (show Ending.returned (.bool (decide (b ≤ 256))) = _; rw [decide_eq_false (by omega)]), ((Gr.refl w).alloc _).drewN _⟩
set_option maxHeartbeats 1000000 in
theorem may29_6 (a b : Int) (w : World) : Calls Tryd.prog 29 #[.agg #[.int .i64 6, .int .i64 a, .int .i64 b]] w fun e w' => e = .returned (.bool (mayD 6 a b)) ∧ Gr w w' := by
  by_cases h0 : 0 ≤ a
  rotate_left
  · have HR : Hid (mayD 6 a b = false) := mayD_false (fun h => by unfold may3 at h; omega)
    generalize mayD 6 a b = R at *
    go_enter Tryd.func29, Tryd.ntmps29
    go_wp2_with fail
    go_quiet (fail)
    go_wp2
    go_ret
    exact ⟨by rw [HR.out]; first | rfl | (show Ending.returned (.bool (decide (b ≤ 256))) = _; rw [decide_eq_false (by omega)]), ((Gr.refl w).alloc _).drewN _⟩
  by_cases h1 : a ≤ 255
  rotate_left
  · have HR : Hid (mayD 6 a b = false) := mayD_false (fun h => by unfold may3 at h; omega)
    generalize mayD 6 a b = R at *
    go_enter Tryd.func29, Tryd.ntmps29
    go_wp2_with fail
    go_quiet (fail)
    go_wp2
    go_ret
    exact ⟨by rw [HR.out]; first | rfl | (show Ending.returned (.bool (decide (b ≤ 256))) = _; rw [decide_eq_false (by omega)]), ((Gr.refl w).alloc _).drewN _⟩
  by_cases h2 : b = 0
  rotate_left
  · have HR : Hid (mayD 6 a b = false) := mayD_false (fun h => by unfold may3 at h; omega)
    generalize mayD 6 a b = R at *
    have g2 : (b == 0) = false := by simpa using h2
    go_enter Tryd.func29, Tryd.ntmps29
    go_wp2_with fail
    go_quiet (fail)
    go_wp2
    go_ret
    exact ⟨by rw [HR.out]; first | rfl | (show Ending.returned (.bool (decide (b ≤ 256))) = _; rw [decide_eq_false (by omega)]), ((Gr.refl w).alloc _).drewN _⟩
  have HR : Hid (mayD 6 a b = true) := mayD_true (by unfold may3; omega)
  generalize mayD 6 a b = R at *
  subst h2
  go_enter Tryd.func29, Tryd.ntmps29
  go_wp2_with fail
  go_quiet (fail)
  go_wp2
  go_ret
  exact ⟨by rw [HR.out]; first | rfl | (show Ending.returned (.bool (decide (b ≤ 256))) = _; rw [decide_eq_false (by omega)]), ((Gr.refl w).alloc _).drewN _⟩
set_option maxHeartbeats 1000000 in
theorem may29_7 (a b : Int) (w : World) : Calls Tryd.prog 29 #[.agg #[.int .i64 7, .int .i64 a, .int .i64 b]] w fun e w' => e = .returned (.bool (mayD 7 a b)) ∧ Gr w w' := by
  by_cases h0 : 0 ≤ a
  rotate_left
  · have HR : Hid (mayD 7 a b = false) := mayD_false (fun h => by unfold may3 at h; omega)
    generalize mayD 7 a b = R at *
    go_enter Tryd.func29, Tryd.ntmps29
    go_wp2_with fail
    go_quiet (fail)
    go_wp2
    go_ret
    exact ⟨by rw [HR.out]; first | rfl | (show Ending.returned (.bool (decide (b ≤ 256))) = _; rw [decide_eq_false (by omega)]), ((Gr.refl w).alloc _).drewN _⟩
  by_cases h1 : a ≤ 4611686018427387904
  rotate_left
  · have HR : Hid (mayD 7 a b = false) := mayD_false (fun h => by unfold may3 at h; omega)
    generalize mayD 7 a b = R at *
    go_enter Tryd.func29, Tryd.ntmps29
    go_wp2_with fail
    go_quiet (fail)
    go_wp2
    go_ret
    exact ⟨by rw [HR.out]; first | rfl | (show Ending.returned (.bool (decide (b ≤ 256))) = _; rw [decide_eq_false (by omega)]), ((Gr.refl w).alloc _).drewN _⟩
  by_cases h2 : b = 0
  rotate_left
  · have HR : Hid (mayD 7 a b = false) := mayD_false (fun h => by unfold may3 at h; omega)
    generalize mayD 7 a b = R at *
    have g2 : (b == 0) = false := by simpa using h2
    go_enter Tryd.func29, Tryd.ntmps29
    go_wp2_with fail
    go_quiet (fail)
    go_wp2
    go_ret
    exact ⟨by rw [HR.out]; first | rfl | (show Ending.returned (.bool (decide (b ≤ 256))) = _; rw [decide_eq_false (by omega)]), ((Gr.refl w).alloc _).drewN _⟩
  have HR : Hid (mayD 7 a b = true) := mayD_true (by unfold may3; omega)
  generalize mayD 7 a b = R at *
  subst h2
  go_enter Tryd.func29, Tryd.ntmps29
  go_wp2_with fail
  go_quiet (fail)
  go_wp2
  go_ret
  exact ⟨by rw [HR.out]; first | rfl | (show Ending.returned (.bool (decide (b ≤ 256))) = _; rw [decide_eq_false (by omega)]), ((Gr.refl w).alloc _).drewN _⟩
set_option maxHeartbeats 1000000 in
theorem may29_8 (a b : Int) (w : World) : Calls Tryd.prog 29 #[.agg #[.int .i64 8, .int .i64 a, .int .i64 b]] w fun e w' => e = .returned (.bool (mayD 8 a b)) ∧ Gr w w' := by
  by_cases h0 : a = 0
  rotate_left
  · have HR : Hid (mayD 8 a b = false) := mayD_false (fun h => by unfold may3 at h; omega)
    generalize mayD 8 a b = R at *
    have g0 : (a == 0) = false := by simpa using h0
    go_enter Tryd.func29, Tryd.ntmps29
    go_wp2_with fail
    go_quiet (fail)
    go_wp2
    go_ret
    exact ⟨by rw [HR.out]; first | rfl | (show Ending.returned (.bool (decide (b ≤ 256))) = _; rw [decide_eq_false (by omega)]), ((Gr.refl w).alloc _).drewN _⟩
  by_cases h1 : b = 0
  rotate_left
  · have HR : Hid (mayD 8 a b = false) := mayD_false (fun h => by unfold may3 at h; omega)
    generalize mayD 8 a b = R at *
    have g1 : (b == 0) = false := by simpa using h1
    go_enter Tryd.func29, Tryd.ntmps29
    go_wp2_with fail
    go_quiet (fail)
    go_wp2
    go_ret
    exact ⟨by rw [HR.out]; first | rfl | (show Ending.returned (.bool (decide (b ≤ 256))) = _; rw [decide_eq_false (by omega)]), ((Gr.refl w).alloc _).drewN _⟩
  have HR : Hid (mayD 8 a b = true) := mayD_true (by unfold may3; omega)
  generalize mayD 8 a b = R at *
  subst h0
  subst h1
  go_enter Tryd.func29, Tryd.ntmps29
  go_wp2_with fail
  go_quiet (fail)
  go_wp2
  go_ret
  exact ⟨by rw [HR.out]; first | rfl | (show Ending.returned (.bool (decide (b ≤ 256))) = _; rw [decide_eq_false (by omega)]), ((Gr.refl w).alloc _).drewN _⟩
set_option maxHeartbeats 1000000 in
theorem may29_9 (a b : Int) (w : World) : Calls Tryd.prog 29 #[.agg #[.int .i64 9, .int .i64 a, .int .i64 b]] w fun e w' => e = .returned (.bool (mayD 9 a b)) ∧ Gr w w' := by
  by_cases h0 : 0 ≤ a
  rotate_left
  · have HR : Hid (mayD 9 a b = false) := mayD_false (fun h => by unfold may3 at h; omega)
    generalize mayD 9 a b = R at *
    go_enter Tryd.func29, Tryd.ntmps29
    go_wp2_with fail
    go_quiet (fail)
    go_wp2
    go_ret
    exact ⟨by rw [HR.out]; first | rfl | (show Ending.returned (.bool (decide (b ≤ 256))) = _; rw [decide_eq_false (by omega)]), ((Gr.refl w).alloc _).drewN _⟩
  by_cases h1 : a ≤ 3
  rotate_left
  · have HR : Hid (mayD 9 a b = false) := mayD_false (fun h => by unfold may3 at h; omega)
    generalize mayD 9 a b = R at *
    go_enter Tryd.func29, Tryd.ntmps29
    go_wp2_with fail
    go_quiet (fail)
    go_wp2
    go_ret
    exact ⟨by rw [HR.out]; first | rfl | (show Ending.returned (.bool (decide (b ≤ 256))) = _; rw [decide_eq_false (by omega)]), ((Gr.refl w).alloc _).drewN _⟩
  by_cases h2 : 1 ≤ b
  rotate_left
  · have HR : Hid (mayD 9 a b = false) := mayD_false (fun h => by unfold may3 at h; omega)
    generalize mayD 9 a b = R at *
    go_enter Tryd.func29, Tryd.ntmps29
    go_wp2_with fail
    go_quiet (fail)
    go_wp2
    go_ret
    exact ⟨by rw [HR.out]; first | rfl | (show Ending.returned (.bool (decide (b ≤ 256))) = _; rw [decide_eq_false (by omega)]), ((Gr.refl w).alloc _).drewN _⟩
  by_cases h3 : b ≤ 256
  rotate_left
  · have HR : Hid (mayD 9 a b = false) := mayD_false (fun h => by unfold may3 at h; omega)
    generalize mayD 9 a b = R at *
    go_enter Tryd.func29, Tryd.ntmps29
    go_wp2_with fail
    go_quiet (fail)
    go_wp2
    go_ret
    exact ⟨by rw [HR.out]; first | rfl | (show Ending.returned (.bool (decide (b ≤ 256))) = _; rw [decide_eq_false (by omega)]), ((Gr.refl w).alloc _).drewN _⟩
  have HR : Hid (mayD 9 a b = true) := mayD_true (by unfold may3; omega)
  generalize mayD 9 a b = R at *
  go_enter Tryd.func29, Tryd.ntmps29
  go_wp2_with fail
  go_quiet (fail)
  go_wp2
  go_ret
  exact ⟨by rw [HR.out]; first | rfl | (show Ending.returned (.bool (decide (b ≤ 256))) = _; rw [decide_eq_false (by omega)]), ((Gr.refl w).alloc _).drewN _⟩
set_option maxHeartbeats 1000000 in
theorem may29_10 (a b : Int) (w : World) : Calls Tryd.prog 29 #[.agg #[.int .i64 10, .int .i64 a, .int .i64 b]] w fun e w' => e = .returned (.bool (mayD 10 a b)) ∧ Gr w w' := by
  by_cases h0 : a = 0
  rotate_left
  · have HR : Hid (mayD 10 a b = false) := mayD_false (fun h => by unfold may3 at h; omega)
    generalize mayD 10 a b = R at *
    have g0 : (a == 0) = false := by simpa using h0
    go_enter Tryd.func29, Tryd.ntmps29
    go_wp2_with fail
    go_quiet (fail)
    go_wp2
    go_ret
    exact ⟨by rw [HR.out]; first | rfl | (show Ending.returned (.bool (decide (b ≤ 256))) = _; rw [decide_eq_false (by omega)]), ((Gr.refl w).alloc _).drewN _⟩
  by_cases h1 : b = 0
  rotate_left
  · have HR : Hid (mayD 10 a b = false) := mayD_false (fun h => by unfold may3 at h; omega)
    generalize mayD 10 a b = R at *
    have g1 : (b == 0) = false := by simpa using h1
    go_enter Tryd.func29, Tryd.ntmps29
    go_wp2_with fail
    go_quiet (fail)
    go_wp2
    go_ret
    exact ⟨by rw [HR.out]; first | rfl | (show Ending.returned (.bool (decide (b ≤ 256))) = _; rw [decide_eq_false (by omega)]), ((Gr.refl w).alloc _).drewN _⟩
  have HR : Hid (mayD 10 a b = true) := mayD_true (by unfold may3; omega)
  generalize mayD 10 a b = R at *
  subst h0
  subst h1
  go_enter Tryd.func29, Tryd.ntmps29
  go_wp2_with fail
  go_quiet (fail)
  go_wp2
  go_ret
  exact ⟨by rw [HR.out]; first | rfl | (show Ending.returned (.bool (decide (b ≤ 256))) = _; rw [decide_eq_false (by omega)]), ((Gr.refl w).alloc _).drewN _⟩
set_option maxHeartbeats 1000000 in
theorem may29_11 (a b : Int) (w : World) : Calls Tryd.prog 29 #[.agg #[.int .i64 11, .int .i64 a, .int .i64 b]] w fun e w' => e = .returned (.bool (mayD 11 a b)) ∧ Gr w w' := by
  by_cases h0 : b = 0
  rotate_left
  · have HR : Hid (mayD 11 a b = false) := mayD_false (fun h => by unfold may3 at h; omega)
    generalize mayD 11 a b = R at *
    have g0 : (b == 0) = false := by simpa using h0
    go_enter Tryd.func29, Tryd.ntmps29
    go_wp2_with fail
    go_quiet (fail)
    go_wp2
    go_ret
    exact ⟨by rw [HR.out]; first | rfl | (show Ending.returned (.bool (decide (b ≤ 256))) = _; rw [decide_eq_false (by omega)]), ((Gr.refl w).alloc _).drewN _⟩
  have HR : Hid (mayD 11 a b = true) := mayD_true (by unfold may3; omega)
  generalize mayD 11 a b = R at *
  subst h0
  go_enter Tryd.func29, Tryd.ntmps29
  go_wp2_with fail
  go_quiet (fail)
  go_wp2
  go_ret
  exact ⟨by rw [HR.out]; first | rfl | (show Ending.returned (.bool (decide (b ≤ 256))) = _; rw [decide_eq_false (by omega)]), ((Gr.refl w).alloc _).drewN _⟩
set_option maxHeartbeats 1000000 in
theorem may29_12 (a b : Int) (w : World) : Calls Tryd.prog 29 #[.agg #[.int .i64 12, .int .i64 a, .int .i64 b]] w fun e w' => e = .returned (.bool (mayD 12 a b)) ∧ Gr w w' := by
  by_cases h0 : b = 0
  rotate_left
  · have HR : Hid (mayD 12 a b = false) := mayD_false (fun h => by unfold may3 at h; omega)
    generalize mayD 12 a b = R at *
    have g0 : (b == 0) = false := by simpa using h0
    go_enter Tryd.func29, Tryd.ntmps29
    go_wp2_with fail
    go_quiet (fail)
    go_wp2
    go_ret
    exact ⟨by rw [HR.out]; first | rfl | (show Ending.returned (.bool (decide (b ≤ 256))) = _; rw [decide_eq_false (by omega)]), ((Gr.refl w).alloc _).drewN _⟩
  have HR : Hid (mayD 12 a b = true) := mayD_true (by unfold may3; omega)
  generalize mayD 12 a b = R at *
  subst h0
  go_enter Tryd.func29, Tryd.ntmps29
  go_wp2_with fail
  go_quiet (fail)
  go_wp2
  go_ret
  exact ⟨by rw [HR.out]; first | rfl | (show Ending.returned (.bool (decide (b ≤ 256))) = _; rw [decide_eq_false (by omega)]), ((Gr.refl w).alloc _).drewN _⟩
set_option maxHeartbeats 1000000 in
theorem may29_no (op a b : Int) (w : World) (h : op < 1 ∨ 12 < op) : Calls Tryd.prog 29 #[.agg #[.int .i64 op, .int .i64 a, .int .i64 b]] w fun e w' => e = .returned (.bool (mayD op a b)) ∧ Gr w w' := by
  have HR : Hid (mayD op a b = false) := mayD_false (fun h' => by have := may_op h'; omega)
  generalize mayD op a b = R at *
  have n1 : (op == 1) = false := by simpa using (by omega : ¬ op = 1)
  have n2 : (op == 2) = false := by simpa using (by omega : ¬ op = 2)
  have n3 : (op == 3) = false := by simpa using (by omega : ¬ op = 3)
  have n4 : (op == 4) = false := by simpa using (by omega : ¬ op = 4)
  have n5 : (op == 5) = false := by simpa using (by omega : ¬ op = 5)
  have n6 : (op == 6) = false := by simpa using (by omega : ¬ op = 6)
  have n7 : (op == 7) = false := by simpa using (by omega : ¬ op = 7)
  have n8 : (op == 8) = false := by simpa using (by omega : ¬ op = 8)
  have n9 : (op == 9) = false := by simpa using (by omega : ¬ op = 9)
  have n10 : (op == 10) = false := by simpa using (by omega : ¬ op = 10)
  have n11 : (op == 11) = false := by simpa using (by omega : ¬ op = 11)
  have n12 : (op == 12) = false := by simpa using (by omega : ¬ op = 12)
  clear h
  go_enter Tryd.func29, Tryd.ntmps29
  go_wp2_with fail
  go_quiet (fail)
  go_wp2
  go_ret
  exact ⟨by rw [HR.out]; first | rfl | (show Ending.returned (.bool (decide (b ≤ 256))) = _; rw [decide_eq_false (by omega)]), ((Gr.refl w).alloc _).drewN _⟩
theorem may29 (op a b : Int) (w : World) : Calls Tryd.prog 29 #[.agg #[.int .i64 op, .int .i64 a, .int .i64 b]] w fun e w' => e = .returned (.bool (mayD op a b)) ∧ Gr w w' := by
  by_cases h : op < 1 ∨ 12 < op
  · exact may29_no op a b w h
  · rcases (by omega : op = 1 ∨ op = 2 ∨ op = 3 ∨ op = 4 ∨ op = 5 ∨ op = 6 ∨ op = 7 ∨ op = 8 ∨ op = 9 ∨ op = 10 ∨ op = 11 ∨ op = 12) with rfl | rfl | rfl | rfl | rfl | rfl | rfl | rfl | rfl | rfl | rfl | rfl
    · exact may29_1 a b w
    · exact may29_2 a b w
    · exact may29_3 a b w
    · exact may29_4 a b w
    · exact may29_5 a b w
    · exact may29_6 a b w
    · exact may29_7 a b w
    · exact may29_8 a b w
    · exact may29_9 a b w
    · exact may29_10 a b w
    · exact may29_11 a b w
    · exact may29_12 a b w
set_option maxRecDepth 20000 in
set_option maxHeartbeats 1000000 in
theorem rcheck9 (L : List Sp) (a : Option Addr) (c : Nat) (w : World) (hs : Sl w a L) (hw : WfS L) (hl : L.length ≤ 1000000000000000) :
    Calls Tryd.prog 9 #[.slice a L.length c] w fun e w' => e = .returned (.tuple #[.int .i64 (chkS L).1, .int .i64 (chkS L).2]) ∧ Gr w w' := by
  by_cases hm : 256 < L.length
  · have hm' : (256 : Int) < (L.length : Int) := by omega
    rw [chk_many hm]
    clear hm
    go_enter Tryd.func9, Tryd.ntmps9
    go_wp2
    go_ret2
    exact ⟨rfl, Gr.refl _⟩
  · have HS : Hid (Sl w a L ∧ WfS L ∧ L.length ≤ 256) := ⟨hs, hw, by omega⟩
    have hm' : ¬ (256 : Int) < (L.length : Int) := by omega
    have hle : (L.length : Int) ≤ 256 := by omega
    clear hm hs hw hl
    go_enter Tryd.func9, Tryd.ntmps9
    go_wp2
    go_loopw [11] (fun i wr => ∃ j : Nat, i = .int .i64 j ∧ j ≤ L.length ∧ Hid (∀ k, (hk : k < L.length) → k < j → mayX L[k] = true) ∧ Hid (Gr w wr)) (fun i _ => L.length - (intOf i).toNat)
    case atStart => exact ⟨0, rfl, Nat.zero_le _, fun k _ h => absurd h (Nat.not_lt_zero _), Gr.refl _⟩
    case round =>
      obtain ⟨j, rfl, hj, HB, HG⟩ := hrel
      by_cases hlt : j < L.length
      · have hz : (j : Int) < (L.length : Int) := by omega
        obtain ⟨b, off, rfl, c0, c1, c2⟩ := (HS.out.1.gr HG.out) j hlt
        have HC : Hid _ := fun w' => may29 L[j].1 L[j].2.1 L[j].2.2 w'
        have HX : Hid (mayD L[j].1 L[j].2.1 L[j].2.2 = mayX L[j]) := rfl
        obtain ⟨x0, e0⟩ : ∃ x, L[j].1 = x := ⟨_, rfl⟩
        obtain ⟨x1, e1⟩ : ∃ x, L[j].2.1 = x := ⟨_, rfl⟩
        obtain ⟨x2, e2⟩ : ∃ x, L[j].2.2 = x := ⟨_, rfl⟩
        rw [e0, e1, e2] at HC HX
        rw [e0] at c0
        rw [e1] at c1
        rw [e2] at c2
        clear e0 e1 e2
        obtain ⟨vb, hvb⟩ : ∃ vb, mayD x0 x1 x2 = vb := ⟨_, rfl⟩
        rw [hvb] at HC HX
        clear hvb
        cases vb with
        | true =>
          go_wp2_with (go_at_call 29; refine (HC.out _).mono ?_; rintro e w1 ⟨rfl, hg⟩)
          go_roundw
          case rel => exact ⟨j + 1, by go_num, by omega, fun k hk h => by rcases (by omega : k < j ∨ k = j) with h' | rfl; exact HB.out k hk h'; exact HX.out.symm, (HG.out.alloc _).trans hg⟩
          case measure => simp [intOf]; omega
        | false =>
          have HE : Hid (chkS L = (j, 80)) := chk_at HS.out.2.2 j hlt (fun k hk h => HB.out k hk h) HX.out.symm
          go_wp2_with (go_at_call 29; refine (HC.out _).mono ?_; rintro e w1 ⟨rfl, hg⟩)
          go_ret2
          exact ⟨by rw [HE.out]; rfl, (HG.out.alloc _).trans hg⟩
      · have hz : ¬ (j : Int) < (L.length : Int) := by omega
        have HE : Hid (chkS L = (0, 0)) := chk_end HS.out.2.2 (fun k hk => HB.out k hk (by omega))
        go_wp2
        go_ret2
        exact ⟨by rw [HE.out]; rfl, HG.out⟩
end Go.Proofs.YtgjojdlbighoaaaDoor
