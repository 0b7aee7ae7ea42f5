/- The contracts of Sign and Unsign, the program's and the document's; the numbers are of 64 bits. -/
import Derived.Test.YtpefbmheblfbeaaUth
namespace Go.Proofs.Ytpefbmheblfbeaa.Sn
open Go.RowKit Go.Sort
set_option linter.unusedVariables false
theorem ofInt_max : BitVec.ofInt 64 18446744073709551615 = BitVec.allOnes 64 := by decide
theorem ofInt_one : BitVec.ofInt 64 (-1) = BitVec.allOnes 64 := by decide
theorem not_u64 (y : Int) (h0 : 0 ≤ y) (h1 : y < 18446744073709551616) : bits .xor .u64 IntKind.u64.max y = 18446744073709551615 - y := by
  show IntKind.u64.wrap ((BitVec.ofInt 64 18446744073709551615 ^^^ BitVec.ofInt 64 y).toNat : Int) = _
  rw [ofInt_max, BitVec.allOnes_xor, BitVec.toNat_not, BitVec.toNat_ofInt, IntKind.wrap_u64]
  omega
theorem not_i64 (y : Int) (h0 : 0 ≤ y) (h1 : y < 9223372036854775808) : bits .xor .i64 (-1) y = - y - 1 := by
  show IntKind.i64.wrap ((BitVec.ofInt 64 (-1) ^^^ BitVec.ofInt 64 y).toNat : Int) = _
  rw [ofInt_one, BitVec.allOnes_xor, BitVec.toNat_not, BitVec.toNat_ofInt, IntKind.wrap_i64]
  omega
theorem ret_int {k : IntKind} {a b : Int} (h : a = b) : Ending.returned (.int k a) = .returned (.int k b) := by rw [h]
theorem sign_ (w : World) (n : Int) (h0 : -9223372036854775808 ≤ n) (h1 : n ≤ 9223372036854775807) : Calls Try.prog 9 #[.int .i64 n] w fun e w' => e = .returned (.int .u64 (sgn n)) ∧ w' = w := by
  unfold sgn
  by_cases h : n < 0
  · go_enter Try.func9, Try.ntmps9
    go_wp2
    have e1 : IntKind.u64.wrap (IntKind.u64.wrap n * 2) = 18446744073709551616 + 2 * n := by rw [IntKind.wrap_u64, IntKind.wrap_u64]; omega
    rw [e1, not_u64 _ (by omega) (by omega)]
    go_ret
    exact ⟨ret_int (by omega), rfl⟩
  · go_enter Try.func9, Try.ntmps9
    go_wp2
    go_ret
    exact ⟨ret_int (by omega), rfl⟩
theorem unsign_ (w : World) (x : Int) (h0 : 0 ≤ x) (h1 : x < 18446744073709551616) : Calls Try.prog 11 #[.int .u64 x] w fun e w' => e = .returned (.int .i64 (uns x)) ∧ w' = w := by
  unfold uns
  by_cases h : x % 2 = 1
  · go_enter Try.func11, Try.ntmps11
    go_wp2
    rw [not_i64 _ (by omega) (by omega)]
    go_ret
    exact ⟨ret_int (by omega), rfl⟩
  · go_enter Try.func11, Try.ntmps11
    go_wp2
    go_ret
    exact ⟨ret_int (by omega), rfl⟩
theorem rsign_ (w : World) (n : Int) (h0 : -9223372036854775808 ≤ n) (h1 : n ≤ 9223372036854775807) : Calls Try.prog 10 #[.int .i64 n] w fun e w' => e = .returned (.int .u64 (sgn n)) ∧ w' = w := by
  unfold sgn
  by_cases h : n < 0
  · go_enter Try.func10, Try.ntmps10
    go_wp2
    go_ret
    exact ⟨ret_int (by omega), rfl⟩
  · go_enter Try.func10, Try.ntmps10
    go_wp2
    go_ret
    exact ⟨ret_int (by omega), rfl⟩
theorem runsign_ (w : World) (x : Int) (h0 : 0 ≤ x) (h1 : x < 18446744073709551616) : Calls Try.prog 12 #[.int .u64 x] w fun e w' => e = .returned (.int .i64 (uns x)) ∧ w' = w := by
  unfold uns
  by_cases h : x % 2 = 1
  · go_enter Try.func12, Try.ntmps12
    go_wp2
    go_ret
    exact ⟨ret_int (by omega), rfl⟩
  · go_enter Try.func12, Try.ntmps12
    go_wp2
    go_ret
    exact ⟨ret_int (by omega), rfl⟩
end Go.Proofs.Ytpefbmheblfbeaa.Sn
