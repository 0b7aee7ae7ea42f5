/- Contracts of Check and the document's Check; no conditions. -/
import Derived.Test.YtopepalpmkeffaaCfg
namespace Go.Proofs.Ytopepalpmkeffaa
open Go.RowKit Go.Sort Go.Maps Go.ChangeMaps Go.WideMaps
set_option linter.unusedVariables false
set_option linter.unusedSimpArgs false
theorem rcheck10 (w : World) (c : Cf) : Calls Try.prog 10 #[cv c] w fun e w' => e = .returned (.bool (okC c)) ∧ Touch [] w w' := by
  obtain ⟨t, n, s, e, f, b, d⟩ := c
  unfold cv okC
  simp only
  by_cases h0 : 0 ≤ t
  rotate_left
  · rw [decide_eq_false (by omega)]
    go_enter Try.func10, Try.ntmps10
    go_wp2
    go_ret
    exact ⟨rfl, by repeat (first | exact Touch.refl _ _ | apply Touch.alloc)⟩
  by_cases h1 : 0 ≤ n
  rotate_left
  · rw [decide_eq_false (by omega)]
    go_enter Try.func10, Try.ntmps10
    go_wp2
    go_ret
    exact ⟨rfl, by repeat (first | exact Touch.refl _ _ | apply Touch.alloc)⟩
  by_cases h2 : 0 ≤ s
  rotate_left
  · rw [decide_eq_false (by omega)]
    go_enter Try.func10, Try.ntmps10
    go_wp2
    go_ret
    exact ⟨rfl, by repeat (first | exact Touch.refl _ _ | apply Touch.alloc)⟩
  by_cases h3 : 0 ≤ d
  rotate_left
  · rw [decide_eq_false (by omega)]
    go_enter Try.func10, Try.ntmps10
    go_wp2
    go_ret
    exact ⟨rfl, by repeat (first | exact Touch.refl _ _ | apply Touch.alloc)⟩
  by_cases h4 : 0 ≤ e
  rotate_left
  · rw [decide_eq_false (by omega)]
    go_enter Try.func10, Try.ntmps10
    go_wp2
    go_ret
    exact ⟨rfl, by repeat (first | exact Touch.refl _ _ | apply Touch.alloc)⟩
  by_cases h5 : e ≤ 65536
  rotate_left
  · rw [decide_eq_false (by omega)]
    go_enter Try.func10, Try.ntmps10
    go_wp2
    go_ret
    exact ⟨rfl, by repeat (first | exact Touch.refl _ _ | apply Touch.alloc)⟩
  by_cases h6 : 1 ≤ f
  rotate_left
  · rw [decide_eq_false (by omega)]
    go_enter Try.func10, Try.ntmps10
    go_wp2
    go_ret
    exact ⟨rfl, by repeat (first | exact Touch.refl _ _ | apply Touch.alloc)⟩
  by_cases h7 : f ≤ 4096
  rotate_left
  · rw [decide_eq_false (by omega)]
    go_enter Try.func10, Try.ntmps10
    go_wp2
    go_ret
    exact ⟨rfl, by repeat (first | exact Touch.refl _ _ | apply Touch.alloc)⟩
  by_cases h8 : 1 ≤ b
  rotate_left
  · rw [decide_eq_false (by omega)]
    go_enter Try.func10, Try.ntmps10
    go_wp2
    go_ret
    exact ⟨rfl, by repeat (first | exact Touch.refl _ _ | apply Touch.alloc)⟩
  by_cases h9 : b ≤ 1024
  rotate_left
  · rw [decide_eq_false (by omega)]
    go_enter Try.func10, Try.ntmps10
    go_wp2
    go_ret
    exact ⟨rfl, by repeat (first | exact Touch.refl _ _ | apply Touch.alloc)⟩
  rw [decide_eq_true (by omega)]
  go_enter Try.func10, Try.ntmps10
  go_wp2
  go_ret
  exact ⟨rfl, by repeat (first | exact Touch.refl _ _ | apply Touch.alloc)⟩
set_option maxHeartbeats 4000000 in
theorem check12 (w : World) (c : Cf) : Calls Try.prog 12 #[cv c] w fun e w' => e = .returned (.int .i64 (if okC c then 0 else 100)) ∧ Touch [] w w' := by
  obtain ⟨t, n, s, e, f, b, d⟩ := c
  unfold cv okC
  simp only
  have mn : ∀ (w : World) (ts : Array TypeId) (ty : TypeId), (Builtin.min_ ts ty #[.int .i64 t, .int .i64 n, .int .i64 s, .int .i64 d]).run Try.prog w = .ok (.int .i64 (if d < (if s < (if n < t then n else t) then s else (if n < t then n else t)) then d else (if s < (if n < t then n else t) then s else (if n < t then n else t)))) w := fun w ts ty => by simp [Builtin.min_, Builtin.min2]
  have HM : Hid (0 ≤ (if d < (if s < (if n < t then n else t) then s else (if n < t then n else t)) then d else (if s < (if n < t then n else t) then s else (if n < t then n else t))) ↔ 0 ≤ t ∧ 0 ≤ n ∧ 0 ≤ s ∧ 0 ≤ d) := by
    show _ ↔ _
    repeat' split
    all_goals omega
  generalize (if d < (if s < (if n < t then n else t) then s else (if n < t then n else t)) then d else (if s < (if n < t then n else t) then s else (if n < t then n else t))) = M at *
  by_cases h0 : 0 ≤ M
  rotate_left
  · rw [decide_eq_false (by have := HM.out; omega)]
    go_enter Try.func12, Try.ntmps12
    go_wp2
    go_ret
    exact ⟨rfl, by repeat (first | exact Touch.refl _ _ | apply Touch.alloc)⟩
  by_cases h1 : 0 ≤ e
  rotate_left
  · rw [decide_eq_false (by have := HM.out; omega)]
    go_enter Try.func12, Try.ntmps12
    go_wp2
    go_ret
    exact ⟨rfl, by repeat (first | exact Touch.refl _ _ | apply Touch.alloc)⟩
  by_cases h2 : e ≤ 65536
  rotate_left
  · rw [decide_eq_false (by have := HM.out; omega)]
    go_enter Try.func12, Try.ntmps12
    go_wp2
    go_ret
    exact ⟨rfl, by repeat (first | exact Touch.refl _ _ | apply Touch.alloc)⟩
  by_cases h3 : 1 ≤ f
  rotate_left
  · rw [decide_eq_false (by have := HM.out; omega)]
    go_enter Try.func12, Try.ntmps12
    go_wp2
    go_ret
    exact ⟨rfl, by repeat (first | exact Touch.refl _ _ | apply Touch.alloc)⟩
  by_cases h4 : f ≤ 4096
  rotate_left
  · rw [decide_eq_false (by have := HM.out; omega)]
    go_enter Try.func12, Try.ntmps12
    go_wp2
    go_ret
    exact ⟨rfl, by repeat (first | exact Touch.refl _ _ | apply Touch.alloc)⟩
  by_cases h5 : 1 ≤ b
  rotate_left
  · rw [decide_eq_false (by have := HM.out; omega)]
    go_enter Try.func12, Try.ntmps12
    go_wp2
    go_ret
    exact ⟨rfl, by repeat (first | exact Touch.refl _ _ | apply Touch.alloc)⟩
  by_cases h6 : b ≤ 1024
  rotate_left
  · rw [decide_eq_false (by have := HM.out; omega)]
    go_enter Try.func12, Try.ntmps12
    go_wp2
    go_ret
    exact ⟨rfl, by repeat (first | exact Touch.refl _ _ | apply Touch.alloc)⟩
  rw [decide_eq_true (by have := HM.out; omega)]
  go_enter Try.func12, Try.ntmps12
  go_wp2
  go_ret
  exact ⟨rfl, by repeat (first | exact Touch.refl _ _ | apply Touch.alloc)⟩
end Go.Proofs.Ytopepalpmkeffaa
