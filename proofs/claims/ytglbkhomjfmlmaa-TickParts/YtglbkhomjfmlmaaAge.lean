/- The program's Is, Age, After and Within, and the document's, each answer the same plain numbers, of every number and slice of times; the world stays as it was. -/
import Derived.Test.YtglbkhomjfmlmaaSum
namespace Go.Proofs.Ytglbkhomjfmlmaa
open Go.ChangeShapes Go.WideShapes Go.ChangeAt Go.RowKit

def isT (t : Int) : Bool := decide (0 ≤ t ∧ t ≤ 4611686018427387904)
def ageOf (now at' : Int) : Int := if isT now && isT at' && decide (at' ≤ now) then now - at' else 0
def ageErr (now at' : Int) : Int := if isT now && isT at' then (if at' ≤ now then 0 else 1) else 10
theorem isT_yes {t : Int} (h : isT t = true) : 0 ≤ t ∧ t ≤ 4611686018427387904 := by simpa [isT] using h
theorem ret2 {k1 k2 : IntKind} {a b a' b' : Int} (h1 : a = a') (h2 : b = b') :
    Ending.returned (.tuple #[.int k1 a, .int k2 b]) = .returned (.tuple #[.int k1 a', .int k2 b']) := by rw [h1, h2]
theorem ret2b {k2 : IntKind} {a a' : Bool} {b b' : Int} (h1 : a = a') (h2 : b = b') :
    Ending.returned (.tuple #[.bool a, .int k2 b]) = .returned (.tuple #[.bool a', .int k2 b']) := by rw [h1, h2]
theorem ret2i {k : IntKind} {a a' : Bool} {b b' : Int} (h1 : b = b') (h2 : a = a') :
    Ending.returned (.tuple #[.int k b, .bool a]) = .returned (.tuple #[.int k b', .bool a']) := by rw [h1, h2]

theorem ageOf_bounds (now at' : Int) : 0 ≤ ageOf now at' ∧ ageOf now at' ≤ 4611686018427387904 := by
  unfold ageOf
  split
  · rename_i h
    simp only [Bool.and_eq_true, decide_eq_true_eq] at h
    have := isT_yes h.1.1
    have := isT_yes h.1.2
    omega
  · omega
def within (now at' : Int) (l : List Int) : Bool := decide (ageErr now at' = 0 ∧ sumErr l = 0 ∧ (0 < sumHi l ∨ ageOf now at' < sumLo l))
def withinErr (now at' : Int) (l : List Int) : Int := if ageErr now at' = 0 then sumErr l else ageErr now at'
def afterOf (t d : Int) : Int := if isT t && decide (0 ≤ d) then (if d ≤ 4611686018427387904 - t then t + d else 4611686018427387904) else 0
def afterOk (t d : Int) : Bool := isT t && decide (0 ≤ d) && decide (d ≤ 4611686018427387904 - t)

theorem is14 (t : Int) (w : World) : Calls Try.prog 14 #[.int .i64 t] w fun e w' => e = .returned (.bool (isT t)) ∧ w' = w := by
  by_cases h0 : 0 ≤ t
  · by_cases h1 : t ≤ 4611686018427387904
    · go_enter Try.func14, Try.ntmps14
      go_wp2
      go_ret
      exact ⟨by simp [isT, h0, h1], rfl⟩
    · go_enter Try.func14, Try.ntmps14
      go_wp2
      go_ret
      exact ⟨by simp [isT, h1], rfl⟩
  · have hn : isT t = false := by simp [isT]; omega
    rw [hn]
    go_enter Try.func14, Try.ntmps14
    go_wp2
    go_ret
    exact ⟨rfl, rfl⟩

theorem is15 (t : Int) (w : World) : Calls Try.prog 15 #[.int .i64 t] w fun e w' => e = .returned (.bool (isT t)) ∧ w' = w := by
  by_cases h0 : 0 ≤ t
  · by_cases h1 : t ≤ 4611686018427387904
    · go_enter Try.func15, Try.ntmps15
      go_wp2
      go_ret
      exact ⟨by simp [isT, h0, h1], rfl⟩
    · go_enter Try.func15, Try.ntmps15
      go_wp2
      go_ret
      exact ⟨by simp [isT, h1], rfl⟩
  · have hn : isT t = false := by simp [isT]; omega
    rw [hn]
    go_enter Try.func15, Try.ntmps15
    go_wp2
    go_ret
    exact ⟨rfl, rfl⟩

theorem age9 (now at' : Int) (w : World) : Calls Try.prog 9 #[.int .i64 now, .int .i64 at'] w fun e w' => e = .returned (.tuple #[.int .i64 (ageOf now at'), .int .i64 (ageErr now at')]) ∧ w' = w := by
  cases h1 : isT now with
  | false =>
    rw [show ageOf now at' = 0 from by simp [ageOf, h1], show ageErr now at' = 10 from by simp [ageErr, h1]]
    go_enter Try.func9, Try.ntmps9
    go_wp2_with (go_at_call 14; refine (is14 _ _).mono ?_; rintro e w' ⟨rfl, rfl⟩)
    go_ret2
    exact ⟨rfl, rfl⟩
  | true =>
    cases h2 : isT at' with
    | false =>
      rw [show ageOf now at' = 0 from by simp [ageOf, h2], show ageErr now at' = 10 from by simp [ageErr, h2]]
      go_enter Try.func9, Try.ntmps9
      go_wp2_with (go_at_call 14; refine (is14 _ _).mono ?_; rintro e w' ⟨rfl, rfl⟩)
      go_ret2
      exact ⟨rfl, rfl⟩
    | true =>
      obtain ⟨b1, b2⟩ := isT_yes h1
      obtain ⟨b3, b4⟩ := isT_yes h2
      by_cases h3 : at' ≤ now
      · rw [show ageOf now at' = now - at' from by simp [ageOf, h1, h2, h3], show ageErr now at' = 0 from by simp [ageErr, h1, h2, h3]]
        go_enter Try.func9, Try.ntmps9
        go_wp2_with (go_at_call 14; refine (is14 _ _).mono ?_; rintro e w' ⟨rfl, rfl⟩)
        go_ret2
        exact ⟨rfl, rfl⟩
      · rw [show ageOf now at' = 0 from by simp [ageOf, h3], show ageErr now at' = 1 from by simp [ageErr, h1, h2, h3]]
        go_enter Try.func9, Try.ntmps9
        go_wp2_with (go_at_call 14; refine (is14 _ _).mono ?_; rintro e w' ⟨rfl, rfl⟩)
        go_ret2
        exact ⟨rfl, rfl⟩

theorem age10 (now at' : Int) (w : World) : Calls Try.prog 10 #[.int .i64 now, .int .i64 at'] w fun e w' => e = .returned (.tuple #[.int .i64 (ageOf now at'), .int .i64 (ageErr now at')]) ∧ w' = w := by
  cases h1 : isT now with
  | false =>
    rw [show ageOf now at' = 0 from by simp [ageOf, h1], show ageErr now at' = 10 from by simp [ageErr, h1]]
    go_enter Try.func10, Try.ntmps10
    go_wp2_with (go_at_call 15; refine (is15 _ _).mono ?_; rintro e w' ⟨rfl, rfl⟩)
    go_ret2
    exact ⟨rfl, rfl⟩
  | true =>
    cases h2 : isT at' with
    | false =>
      rw [show ageOf now at' = 0 from by simp [ageOf, h2], show ageErr now at' = 10 from by simp [ageErr, h2]]
      go_enter Try.func10, Try.ntmps10
      go_wp2_with (go_at_call 15; refine (is15 _ _).mono ?_; rintro e w' ⟨rfl, rfl⟩)
      go_ret2
      exact ⟨rfl, rfl⟩
    | true =>
      obtain ⟨b1, b2⟩ := isT_yes h1
      obtain ⟨b3, b4⟩ := isT_yes h2
      by_cases h3 : at' ≤ now
      · rw [show ageOf now at' = now - at' from by simp [ageOf, h1, h2, h3], show ageErr now at' = 0 from by simp [ageErr, h1, h2, h3]]
        go_enter Try.func10, Try.ntmps10
        go_wp2_with (go_at_call 15; refine (is15 _ _).mono ?_; rintro e w' ⟨rfl, rfl⟩)
        go_ret2
        exact ⟨rfl, rfl⟩
      · rw [show ageOf now at' = 0 from by simp [ageOf, h3], show ageErr now at' = 1 from by simp [ageErr, h1, h2, h3]]
        go_enter Try.func10, Try.ntmps10
        go_wp2_with (go_at_call 15; refine (is15 _ _).mono ?_; rintro e w' ⟨rfl, rfl⟩)
        go_ret2
        exact ⟨rfl, rfl⟩

theorem after16 (t d : Int) (hd : d ≤ 9223372036854775807) (w : World) : Calls Try.prog 16 #[.int .i64 t, .int .i64 d] w fun e w' => e = .returned (.tuple #[.int .i64 (afterOf t d), .bool (afterOk t d)]) ∧ w' = w := by
  cases h1 : isT t with
  | false =>
    rw [show afterOf t d = 0 from by simp [afterOf, h1], show afterOk t d = false from by simp [afterOk, h1]]
    go_enter Try.func16, Try.ntmps16
    go_wp2_with (go_at_call 14; refine (is14 _ _).mono ?_; rintro e w' ⟨rfl, rfl⟩)
    go_ret2
    exact ⟨rfl, rfl⟩
  | true =>
    obtain ⟨b1, b2⟩ := isT_yes h1
    by_cases h2 : d < 0
    · rw [show afterOf t d = 0 from by simp [afterOf]; omega, show afterOk t d = false from by simp [afterOk]; omega]
      go_enter Try.func16, Try.ntmps16
      go_wp2_with (go_at_call 14; refine (is14 _ _).mono ?_; rintro e w' ⟨rfl, rfl⟩)
      go_ret2
      exact ⟨rfl, rfl⟩
    · have h2' : 0 ≤ d := by omega
      by_cases h3 : d ≤ 4611686018427387904 - t
      · rw [show afterOf t d = t + d from by simp [afterOf, h1, h2', h3], show afterOk t d = true from by simp [afterOk, h1, h2', h3]]
        go_enter Try.func16, Try.ntmps16
        go_wp2_with (go_at_call 14; refine (is14 _ _).mono ?_; rintro e w' ⟨rfl, rfl⟩)
        go_ret2
        exact ⟨rfl, rfl⟩
      · rw [show afterOf t d = 4611686018427387904 from by simp [afterOf, h1, h2', h3], show afterOk t d = false from by simp [afterOk, h3]]
        go_enter Try.func16, Try.ntmps16
        go_wp2_with (go_at_call 14; refine (is14 _ _).mono ?_; rintro e w' ⟨rfl, rfl⟩)
        go_ret2
        exact ⟨rfl, rfl⟩

theorem after17 (t d : Int) (hd : d ≤ 9223372036854775807) (w : World) : Calls Try.prog 17 #[.int .i64 t, .int .i64 d] w fun e w' => e = .returned (.tuple #[.int .i64 (afterOf t d), .bool (afterOk t d)]) ∧ w' = w := by
  cases h1 : isT t with
  | false =>
    rw [show afterOf t d = 0 from by simp [afterOf, h1], show afterOk t d = false from by simp [afterOk, h1]]
    go_enter Try.func17, Try.ntmps17
    go_wp2_with (go_at_call 15; refine (is15 _ _).mono ?_; rintro e w' ⟨rfl, rfl⟩)
    go_ret2
    exact ⟨rfl, rfl⟩
  | true =>
    obtain ⟨b1, b2⟩ := isT_yes h1
    by_cases h2 : d < 0
    · rw [show afterOf t d = 0 from by simp [afterOf]; omega, show afterOk t d = false from by simp [afterOk]; omega]
      go_enter Try.func17, Try.ntmps17
      go_wp2_with (go_at_call 15; refine (is15 _ _).mono ?_; rintro e w' ⟨rfl, rfl⟩)
      go_ret2
      exact ⟨rfl, rfl⟩
    · have h2' : 0 ≤ d := by omega
      by_cases h3 : d ≤ 4611686018427387904 - t
      · rw [show afterOf t d = t + d from by simp [afterOf, h1, h2', h3], show afterOk t d = true from by simp [afterOk, h1, h2', h3]]
        go_enter Try.func17, Try.ntmps17
        go_wp2_with (go_at_call 15; refine (is15 _ _).mono ?_; rintro e w' ⟨rfl, rfl⟩)
        go_ret2
        exact ⟨rfl, rfl⟩
      · rw [show afterOf t d = 4611686018427387904 from by simp [afterOf, h1, h2', h3], show afterOk t d = false from by simp [afterOk, h3]]
        go_enter Try.func17, Try.ntmps17
        go_wp2_with (go_at_call 15; refine (is15 _ _).mono ?_; rintro e w' ⟨rfl, rfl⟩)
        go_ret2
        exact ⟨rfl, rfl⟩

theorem within11 (now at' : Int) (a : Option Addr) (len cap : Nat) (zs : List Int) (w : World) (hr : IsRow .i64 w a len cap zs) :
    Calls Try.prog 11 #[.int .i64 now, .int .i64 at', .slice a len cap] w fun e w' => e = .returned (.tuple #[.bool (within now at' (zs.take len)), .int .i64 (withinErr now at' (zs.take len))]) ∧ w' = w := by
  obtain ⟨b1, b2⟩ := ageOf_bounds now at'
  by_cases h1 : ageErr now at' = 0
  · by_cases h2 : sumErr (zs.take len) = 0
    · by_cases h3 : 0 < sumHi (zs.take len)
      · rw [show within now at' (zs.take len) = true from by simp [within, h1, h2, h3], show withinErr now at' (zs.take len) = 0 from by simp [withinErr, h1, h2]]
        go_enter Try.func11, Try.ntmps11
        go_wp2_with (first | (go_at_call 9; refine (age9 _ _ _).mono ?_; rintro e w' ⟨rfl, rfl⟩) | (go_at_call 18; refine (sum18 _ _ _ zs _ hr).mono ?_; rintro e w' ⟨rfl, rfl⟩))
        go_ret2
        exact ⟨rfl, rfl⟩
      · by_cases h4 : ageOf now at' < sumLo (zs.take len)
        · rw [show within now at' (zs.take len) = true from by simp [within, h1, h2, h4], show withinErr now at' (zs.take len) = 0 from by simp [withinErr, h1, h2]]
          go_enter Try.func11, Try.ntmps11
          go_wp2_with (first | (go_at_call 9; refine (age9 _ _ _).mono ?_; rintro e w' ⟨rfl, rfl⟩) | (go_at_call 18; refine (sum18 _ _ _ zs _ hr).mono ?_; rintro e w' ⟨rfl, rfl⟩))
          go_ret2
          exact ⟨rfl, rfl⟩
        · rw [show within now at' (zs.take len) = false from by simp [within, h3, h4], show withinErr now at' (zs.take len) = 0 from by simp [withinErr, h1, h2]]
          go_enter Try.func11, Try.ntmps11
          go_wp2_with (first | (go_at_call 9; refine (age9 _ _ _).mono ?_; rintro e w' ⟨rfl, rfl⟩) | (go_at_call 18; refine (sum18 _ _ _ zs _ hr).mono ?_; rintro e w' ⟨rfl, rfl⟩))
          go_ret2
          exact ⟨ret2b (by simp only [Bool.or_eq_false_iff, decide_eq_false_iff_not]; constructor <;> omega) rfl, rfl⟩
    · rw [show within now at' (zs.take len) = false from by simp [within, h2], show withinErr now at' (zs.take len) = sumErr (zs.take len) from by simp [withinErr, h1]]
      go_enter Try.func11, Try.ntmps11
      go_wp2_with (first | (go_at_call 9; refine (age9 _ _ _).mono ?_; rintro e w' ⟨rfl, rfl⟩) | (go_at_call 18; refine (sum18 _ _ _ zs _ hr).mono ?_; rintro e w' ⟨rfl, rfl⟩))
      go_ret2
      exact ⟨rfl, rfl⟩
  · rw [show within now at' (zs.take len) = false from by simp [within, h1], show withinErr now at' (zs.take len) = ageErr now at' from by simp [withinErr, h1]]
    go_enter Try.func11, Try.ntmps11
    go_wp2_with (first | (go_at_call 9; refine (age9 _ _ _).mono ?_; rintro e w' ⟨rfl, rfl⟩) | (go_at_call 18; refine (sum18 _ _ _ zs _ hr).mono ?_; rintro e w' ⟨rfl, rfl⟩))
    go_ret2
    exact ⟨rfl, rfl⟩

theorem within12 (now at' : Int) (a : Option Addr) (len cap : Nat) (zs : List Int) (w : World) (hr : IsRow .i64 w a len cap zs) :
    Calls Try.prog 12 #[.int .i64 now, .int .i64 at', .slice a len cap] w fun e w' => e = .returned (.tuple #[.bool (within now at' (zs.take len)), .int .i64 (withinErr now at' (zs.take len))]) ∧ w' = w := by
  obtain ⟨b1, b2⟩ := ageOf_bounds now at'
  by_cases h1 : ageErr now at' = 0
  · by_cases h2 : sumErr (zs.take len) = 0
    · by_cases h3 : 0 < sumHi (zs.take len)
      · rw [show within now at' (zs.take len) = true from by simp [within, h1, h2, h3], show withinErr now at' (zs.take len) = 0 from by simp [withinErr, h1, h2]]
        go_enter Try.func12, Try.ntmps12
        go_wp2_with (first | (go_at_call 10; refine (age10 _ _ _).mono ?_; rintro e w' ⟨rfl, rfl⟩) | (go_at_call 19; refine (sum19 _ _ _ zs _ hr).mono ?_; rintro e w' ⟨rfl, rfl⟩))
        go_ret2
        exact ⟨rfl, rfl⟩
      · by_cases h4 : ageOf now at' < sumLo (zs.take len)
        · rw [show within now at' (zs.take len) = true from by simp [within, h1, h2, h4], show withinErr now at' (zs.take len) = 0 from by simp [withinErr, h1, h2]]
          go_enter Try.func12, Try.ntmps12
          go_wp2_with (first | (go_at_call 10; refine (age10 _ _ _).mono ?_; rintro e w' ⟨rfl, rfl⟩) | (go_at_call 19; refine (sum19 _ _ _ zs _ hr).mono ?_; rintro e w' ⟨rfl, rfl⟩))
          go_ret2
          exact ⟨rfl, rfl⟩
        · rw [show within now at' (zs.take len) = false from by simp [within, h3, h4], show withinErr now at' (zs.take len) = 0 from by simp [withinErr, h1, h2]]
          go_enter Try.func12, Try.ntmps12
          go_wp2_with (first | (go_at_call 10; refine (age10 _ _ _).mono ?_; rintro e w' ⟨rfl, rfl⟩) | (go_at_call 19; refine (sum19 _ _ _ zs _ hr).mono ?_; rintro e w' ⟨rfl, rfl⟩))
          go_ret2
          exact ⟨ret2b (by simp only [Bool.or_eq_false_iff, decide_eq_false_iff_not]; constructor <;> omega) rfl, rfl⟩
    · rw [show within now at' (zs.take len) = false from by simp [within, h2], show withinErr now at' (zs.take len) = sumErr (zs.take len) from by simp [withinErr, h1]]
      go_enter Try.func12, Try.ntmps12
      go_wp2_with (first | (go_at_call 10; refine (age10 _ _ _).mono ?_; rintro e w' ⟨rfl, rfl⟩) | (go_at_call 19; refine (sum19 _ _ _ zs _ hr).mono ?_; rintro e w' ⟨rfl, rfl⟩))
      go_ret2
      exact ⟨rfl, rfl⟩
  · rw [show within now at' (zs.take len) = false from by simp [within, h1], show withinErr now at' (zs.take len) = ageErr now at' from by simp [withinErr, h1]]
    go_enter Try.func12, Try.ntmps12
    go_wp2_with (first | (go_at_call 10; refine (age10 _ _ _).mono ?_; rintro e w' ⟨rfl, rfl⟩) | (go_at_call 19; refine (sum19 _ _ _ zs _ hr).mono ?_; rintro e w' ⟨rfl, rfl⟩))
    go_ret2
    exact ⟨rfl, rfl⟩

end Go.Proofs.Ytglbkhomjfmlmaa
