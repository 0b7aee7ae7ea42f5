/- The program's Edges, Bucket and the library's Len64, and the document's Edges and Bucket, each answer the same plain numbers, of every number; the world stays as it was. -/
import Derived.Test.YtglbkhomjfmlmaaPow
import Derived.Test.YtglbkhomjfmlmaaAge
namespace Go.Proofs.Ytglbkhomjfmlmaa
open Go.ChangeShapes Go.WideShapes Go.ChangeAt Go.RowKit

theorem edges22_at (n : Nat) (h : n ≤ 62) (w : World) :
    Calls Try.prog 22 #[.int .i64 ((n : Int) + 1)] w fun e w' => e = .returned (.tuple #[.int .i64 (edLoN (n + 1)), .int .i64 (edHiN (n + 1)), .int .i64 0]) ∧ w' = w := by
  have hp := wrap_p2 h
  have h1 := p2_le62 h
  have h2 := p2_pos n
  go_enter Try.func22, Try.ntmps22
  go_wp2
  go_ret3
  exact ⟨ret3 hp rfl rfl, rfl⟩
theorem edges22_zero (w : World) :
    Calls Try.prog 22 #[.int .i64 0] w fun e w' => e = .returned (.tuple #[.int .i64 0, .int .i64 0, .int .i64 0]) ∧ w' = w := by
  go_enter Try.func22, Try.ntmps22
  go_wp2
  go_ret3
  exact ⟨rfl, rfl⟩
theorem edges22_no (b : Int) (h : b < 0 ∨ 63 < b) (w : World) :
    Calls Try.prog 22 #[.int .i64 b] w fun e w' => e = .returned (.tuple #[.int .i64 0, .int .i64 0, .int .i64 1]) ∧ w' = w := by
  rcases h with h | h
  · go_enter Try.func22, Try.ntmps22
    go_wp2
    go_ret3
    exact ⟨rfl, rfl⟩
  · have h0 : ¬ b < 0 := by omega
    go_enter Try.func22, Try.ntmps22
    go_wp2
    go_ret3
    exact ⟨rfl, rfl⟩
theorem edges22_nat (k : Nat) (h : k ≤ 63) (w : World) :
    Calls Try.prog 22 #[.int .i64 (k : Int)] w fun e w' => e = .returned (.tuple #[.int .i64 (edLoN k), .int .i64 (edHiN k), .int .i64 0]) ∧ w' = w := by
  cases k with
  | zero => exact edges22_zero w
  | succ n => exact edges22_at n (by omega) w

theorem edges23_at (n : Nat) (h : n ≤ 62) (w : World) :
    Calls Try.prog 23 #[.int .i64 ((n : Int) + 1)] w fun e w' => e = .returned (.tuple #[.int .i64 (edLoN (n + 1)), .int .i64 (edHiN (n + 1)), .int .i64 0]) ∧ w' = w := by
  go_enter Try.func23, Try.ntmps23
  go_wp2
  go_loop [5, 6] (fun l i => ∃ j : Nat, j ≤ n ∧ i = .int .i64 ((j : Int) + 1) ∧ l = .int .i64 (p2 j)) (fun _ i => n + 1 - (intOf i).toNat)
  case atStart => exact ⟨0, Nat.zero_le _, rfl, rfl⟩
  case round =>
    obtain ⟨j, hj, rfl, rfl⟩ := hrel
    by_cases hlt : j < n
    · have h1 := p2_le61 (show j ≤ 61 by omega)
      have h2 := p2_pos j
      go_wp2
      go_round
      case rel => exact ⟨j + 1, by omega, by go_num, by rw [p2_succ]⟩
      case measure => simp [intOf]; omega
    · obtain rfl : j = n := by omega
      have h1 := p2_le62 h
      have h2 := p2_pos j
      go_wp2
      go_ret3
      exact ⟨rfl, rfl⟩
theorem edges23_zero (w : World) :
    Calls Try.prog 23 #[.int .i64 0] w fun e w' => e = .returned (.tuple #[.int .i64 0, .int .i64 0, .int .i64 0]) ∧ w' = w := by
  go_enter Try.func23, Try.ntmps23
  go_wp2
  go_ret3
  exact ⟨rfl, rfl⟩
theorem edges23_no (b : Int) (h : b < 0 ∨ 63 < b) (w : World) :
    Calls Try.prog 23 #[.int .i64 b] w fun e w' => e = .returned (.tuple #[.int .i64 0, .int .i64 0, .int .i64 1]) ∧ w' = w := by
  rcases h with h | h
  · go_enter Try.func23, Try.ntmps23
    go_wp2
    go_ret3
    exact ⟨rfl, rfl⟩
  · have h0 : ¬ b < 0 := by omega
    go_enter Try.func23, Try.ntmps23
    go_wp2
    go_ret3
    exact ⟨rfl, rfl⟩
theorem edges23_nat (k : Nat) (h : k ≤ 63) (w : World) :
    Calls Try.prog 23 #[.int .i64 (k : Int)] w fun e w' => e = .returned (.tuple #[.int .i64 (edLoN k), .int .i64 (edHiN k), .int .i64 0]) ∧ w' = w := by
  cases k with
  | zero => exact edges23_zero w
  | succ n => exact edges23_at n (by omega) w
end Go.Proofs.Ytglbkhomjfmlmaa
