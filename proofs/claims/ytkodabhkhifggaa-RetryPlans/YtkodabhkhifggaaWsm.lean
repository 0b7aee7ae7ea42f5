/- The contracts of the small functions of ticks and of products that tries take: mixing, doubling, products over a power of two; no conditions but those that each states. -/
import Derived.Test.YtkodabhkhifggaaWth
import Derived.Test.YtkodabhkhifggaaOwq
namespace Go.Proofs.Ytkodabhkhifggaa
open Go.RowKit Go.Maps Go.ChangeMaps Go.ChangeShapes Go.WideShapes Go.ChangeAt
set_option linter.unusedVariables false
set_option linter.unusedSimpArgs false
theorem ret_int {k : IntKind} {a b : Int} (h : a = b) : Ending.returned (.int k a) = .returned (.int k b) := by rw [h]
theorem ret2 {k1 k2 : IntKind} {a b a' b' : Int} (h1 : a = a') (h2 : b = b') :
    Ending.returned (.tuple #[.int k1 a, .int k2 b]) = .returned (.tuple #[.int k1 a', .int k2 b']) := by rw [h1, h2]
theorem mix_ (x : Nat) (hx : x < 18446744073709551616) (w : World) :
    Calls Try.prog 37 #[.int .u64 x] w fun e w' => e = .returned (.int .u64 (mixN x : Nat)) ∧ w' = w := by
  have h1 : (x : Int) < 18446744073709551616 := by omega
  go_enter Try.func37, Try.ntmps37
  go_wp2
  go_ret
  exact ⟨ret_int (mix_form x hx), rfl⟩
theorem rmix_ (x : Nat) (hx : x < 18446744073709551616) (w : World) :
    Calls Try.prog 28 #[.int .u64 x] w fun e w' => e = .returned (.int .u64 (mixN x : Nat)) ∧ w' = w := by
  have h1 : (x : Int) < 18446744073709551616 := by omega
  go_enter Try.func28, Try.ntmps28
  go_wp2
  go_ret
  exact ⟨ret_int (mix_form' x hx), rfl⟩
theorem mul_ (x y : Int) (hx0 : 0 ≤ x) (hx : x < 18446744073709551616) (hy0 : 0 ≤ y) (hy : y < 18446744073709551616) (w : World) :
    Calls Try.prog 40 #[.int .u64 x, .int .u64 y] w fun e w' => e = .returned (.tuple #[.int .u64 (x * y / 18446744073709551616), .int .u64 (x * y % 18446744073709551616)]) ∧ w' = w := by
  have hf := mul_form x y hx0 hx hy0 hy
  have HF : Hid (_ = x * y / 18446744073709551616) := hf
  clear hf
  go_enter Try.func40, Try.ntmps40
  go_wp2
  go_ret2
  exact ⟨ret2 HF.out (IntKind.wrap_u64 _), rfl⟩
theorem scale8_ (x y : Nat) (hx : x < 9223372036854775808) (hy : y ≤ 256) (w : World) :
    Calls Try.prog 36 #[.int .u64 x, .int .u64 y, .int .i64 8] w fun e w' => e = .returned (.int .u64 (x * y / 256 : Nat)) ∧ Touch [] w w' := by
  have M := hid (mul_ x y (by omega) (by omega) (by omega) (by omega))
  have hm : x * y ≤ 9223372036854775807 * 256 := Nat.mul_le_mul (by omega) hy
  have HE := hid (scale8 x y)
  have e1 : ((x : Int) * y / 18446744073709551616) = ((x * y / 18446744073709551616 : Nat) : Int) := by simp
  have e2 : ((x : Int) * y % 18446744073709551616) = ((x * y % 18446744073709551616 : Nat) : Int) := by simp
  rw [e1, e2] at M
  clear e1 e2
  have hh : x * y / 18446744073709551616 < 256 := by omega
  have hl : x * y % 18446744073709551616 < 18446744073709551616 := by omega
  generalize x * y / 18446744073709551616 = h at *
  generalize x * y % 18446744073709551616 = l at *
  clear hm
  go_enter Try.func36, Try.ntmps36
  go_wp2_with (go_at_call 40; refine (M.out _).mono ?_; rintro e w' ⟨rfl, rfl⟩)
  go_quiet (fail)
  go_wp2
  go_ret
  refine ⟨ret_int ?_, (Touch.refl _ _).drewN _⟩
  have := bits_or_u64_nat (h * 72057594037927936) (l / 256) (by omega) (by omega)
  rw [HE.out] at this
  rw [← this]
  simp
theorem scale32_ (x y : Nat) (hx : x < 9223372036854775808) (hy : y ≤ 4294967295) (w : World) :
    Calls Try.prog 36 #[.int .u64 x, .int .u64 y, .int .i64 32] w fun e w' => e = .returned (.int .u64 (x * y / 4294967296 : Nat)) ∧ Touch [] w w' := by
  have M := hid (mul_ x y (by omega) (by omega) (by omega) (by omega))
  have hm : x * y ≤ 9223372036854775807 * 4294967295 := Nat.mul_le_mul (by omega) hy
  have HE := hid (scale32 x y)
  have e1 : ((x : Int) * y / 18446744073709551616) = ((x * y / 18446744073709551616 : Nat) : Int) := by simp
  have e2 : ((x : Int) * y % 18446744073709551616) = ((x * y % 18446744073709551616 : Nat) : Int) := by simp
  rw [e1, e2] at M
  clear e1 e2
  have hh : x * y / 18446744073709551616 < 4294967296 := by omega
  have hl : x * y % 18446744073709551616 < 18446744073709551616 := by omega
  generalize x * y / 18446744073709551616 = h at *
  generalize x * y % 18446744073709551616 = l at *
  clear hm
  go_enter Try.func36, Try.ntmps36
  go_wp2_with (go_at_call 40; refine (M.out _).mono ?_; rintro e w' ⟨rfl, rfl⟩)
  go_quiet (fail)
  go_wp2
  go_ret
  refine ⟨ret_int ?_, (Touch.refl _ _).drewN _⟩
  have := bits_or_u64_nat (h * 4294967296) (l / 4294967296) (by omega) (by omega)
  rw [HE.out] at this
  rw [← this]
  simp
theorem double_ (d most : Int) (n : Nat) (hd : 0 ≤ d) (hm : 0 ≤ most) (hm' : most < 9223372036854775808) (hn : n < 64) (w : World) :
    Calls Try.prog 35 #[.int .i64 d, .int .i64 (n : Int), .int .i64 most] w fun e w' => e = .returned (.tuple #[.int .i64 (dbl d n most), .int .i64 0]) ∧ w' = w := by
  by_cases hc : most / 2 ^ n < d
  · rw [dbl_most ((shr_iff d most n).1 hc)]
    go_enter Try.func35, Try.ntmps35
    go_wp2
    go_ret2
    exact ⟨rfl, rfl⟩
  · have hc' : ¬ most < d * p2 n := fun h => hc ((shr_iff d most n).2 h)
    have hw : wrap64 (d * 2 ^ n) = d * p2 n := by
      show wrap64 (d * p2 n) = d * p2 n
      exact wrap_small (Int.mul_nonneg hd (by have := p2_pos n; omega)) (by omega) hm'
    rw [dbl_times hc']
    clear hc'
    go_enter Try.func35, Try.ntmps35
    go_wp2
    go_ret2
    exact ⟨rfl, rfl⟩
theorem rdouble_ (d most : Int) (n : Nat) (hd : 0 ≤ d) (hd' : d < 9223372036854775808) (hm : 0 ≤ most) (hm' : most < 9223372036854775808) (hn : n < 64) (w : World) :
    Calls Try.prog 26 #[.int .i64 d, .int .i64 (n : Int), .int .i64 most] w fun e w' => e = .returned (.tuple #[.int .i64 (dbl d n most), .int .i64 0]) ∧ w' = w := by
  go_enter Try.func26, Try.ntmps26
  go_wp2
  go_loop [0, 8] (fun x i => ∃ (k : Nat) (X : Int), k ≤ n ∧ k ≤ 64 ∧ i = .int .i64 (k : Int) ∧ x = .int .i64 X ∧ 0 ≤ X ∧ X < 9223372036854775808 ∧ Hid (X = d * p2 k)) (fun _ i => n - (intOf i).toNat)
  case atStart => exact ⟨0, d, Nat.zero_le _, by omega, rfl, rfl, hd, hd', by show d = d * p2 0; rw [p2_zero]; omega⟩
  case round =>
    obtain ⟨k, X, hk, hk64, rfl, rfl, hX0, hX1, HX⟩ := hrel
    by_cases hlt : k < n
    · have hlt64 : k < 64 := by omega
      by_cases hc : most / 2 < X
      · have hpos : 0 < X := by omega
        have hres : Hid (dbl d n most = most) := dbl_most (half_lt (by rw [← HX.out]; exact hc) hlt hd)
        go_wp2
        go_ret2
        exact ⟨ret2 hres.out.symm rfl, rfl⟩
      · go_wp2
        go_round
        case rel =>
          refine ⟨k + 1, _, by omega, by omega, by go_num, rfl, by omega, by omega, ?_⟩
          show X * 2 = d * p2 (k + 1)
          rw [p2_succ, ← Int.mul_assoc, ← HX.out]
        case measure => simp [intOf]; omega
    · obtain rfl : k = n := by omega
      have hres : Hid (dbl d k most = if most < X then most else X) := by show _ = _; rw [HX.out]; rfl
      clear hlt
      by_cases hc : most < X
      · have hr : Hid (dbl d k most = most) := by show _ = _; rw [hres.out, if_pos hc]
        clear hres
        go_wp2
        go_ret2
        exact ⟨ret2 hr.out.symm rfl, rfl⟩
      · have hr : Hid (dbl d k most = X) := by show _ = _; rw [hres.out, if_neg hc]
        clear hres
        go_wp2
        go_ret2
        exact ⟨ret2 hr.out.symm rfl, rfl⟩
end Go.Proofs.Ytkodabhkhifggaa
