/- The statements' own look that the program is awake answers true; the world has at most new blocks. -/
import Derived.Test.YtglbkhomjfmlmaaAge
import Derived.Test.YtglbkhomjfmlmaaMix
import Derived.RowKit3
namespace Go.Proofs.Ytglbkhomjfmlmaa
open Go.ChangeShapes Go.WideShapes Go.ChangeAt Go.RowKit

theorem row_two (w : World) : IsRow .i64 (w.alloc (.cells #[.int .i64 5, .int .i64 1] 2)) (some ⟨w.heap.size, 0, none⟩) 2 2 [5, 1] := by
  refine .inr ⟨_, rfl, by omega, by decide, rfl, ?_, ?_⟩
  · intro i hi
    have : i = 0 ∨ i = 1 := by simp at hi; omega
    rcases this with rfl | rfl <;> simp [go_sem, Addr.add]
  · intro n hn
    simp at hn
    rcases hn with rfl | rfl <;> rfl
theorem row_one (w : World) : IsRow .i64 (w.alloc (.cells #[.int .i64 5] 2)) (some ⟨w.heap.size, 0, none⟩) 1 1 [5] := by
  refine .inr ⟨_, rfl, by omega, by decide, rfl, ?_, ?_⟩
  · intro i hi
    obtain rfl : i = 0 := by simp at hi; omega
    simp [go_sem, Addr.add]
  · intro n hn
    simp at hn
    subst hn
    rfl
theorem two_yes : within 5 0 (List.take 2 [5, 1]) = true := by decide
theorem two_err : withinErr 5 0 (List.take 2 [5, 1]) = 0 := by decide
theorem one_no : within 5 0 (List.take 1 [5]) = false := by decide
theorem one_err : withinErr 5 0 (List.take 1 [5]) = 0 := by decide
theorem mix_one : (((mixN 1 : Nat) : Int) != 0) = true := by decide

theorem awake13 (w : World) : Calls Try.prog 13 #[] w fun e w' => e = .returned (.bool true) ∧ ∃ c1 c2 : Array Value, w' = (w.alloc (.cells c1 2)).alloc (.cells c2 2) := by
  have m1 := mix_one
  go_enter Try.func13, Try.ntmps13
  go_wp2_with fail
  refine (within11 5 0 _ 2 2 [5, 1] _ (row_two w)).mono ?_
  rw [two_yes, two_err]
  rintro e w' ⟨rfl, rfl⟩
  go_wp2_with fail
  refine (within11 5 0 _ 1 1 [5] _ ?_).mono ?_
  · have h := row_one (w.alloc (.cells #[.int .i64 5, .int .i64 1] 2))
    rw [World.size_alloc] at h
    exact h
  rw [one_no, one_err]
  rintro e w' ⟨rfl, rfl⟩
  go_wp2_with fail
  refine (mix30 1 (by decide) _).mono ?_
  rintro e w' ⟨rfl, rfl⟩
  go_wp2_with fail
  go_ret
  exact ⟨rfl, _, _, rfl⟩

theorem awake (w : World) : Calls Try.prog 13 #[] w fun e w' => e = .returned (.bool true) ∧ Grown w w' ∧ Below w.heap.size w w' := by
  refine (awake13 w).mono ?_
  rintro e w' ⟨rfl, c1, c2, rfl⟩
  exact ⟨rfl, ((Grown.refl w).alloc _ _).alloc _ _, ((Below.refl _ w).alloc (Nat.le_refl _) _).alloc (by simp) _⟩
end Go.Proofs.Ytglbkhomjfmlmaa
