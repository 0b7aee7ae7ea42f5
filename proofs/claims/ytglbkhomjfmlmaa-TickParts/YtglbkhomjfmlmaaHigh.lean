/- Plain arithmetic of the high half of a product, and of stretches of bits laid over one another, with no Go in sight. Its conditions: numbers below 2^64. -/
import Derived.Laws.MathBits
import Derived.Laws.Bits64b
namespace Go.Proofs.Ytglbkhomjfmlmaa

theorem tdiv_of_emod (x m : Int) : (x % 18446744073709551616).tdiv m = (x % 18446744073709551616) / m :=
  Int.tdiv_eq_ediv_of_nonneg (Int.emod_nonneg _ (by decide))
theorem wrap_range (z : Int) : 0 ≤ IntKind.u64.wrap z ∧ IntKind.u64.wrap z < 18446744073709551616 := by rw [IntKind.wrap_u64]; omega

/-- The high half, as the library reckons it. -/
theorem mul_form (x y : Int) (hx0 : 0 ≤ x) (hx : x < 18446744073709551616) (hy0 : 0 ≤ y) (hy : y < 18446744073709551616) :
    IntKind.u64.wrap (IntKind.u64.wrap (IntKind.u64.wrap (x / 4294967296 * (y / 4294967296)) +
        IntKind.u64.wrap (IntKind.u64.wrap (x / 4294967296 * bits .and .u64 y 4294967295) + IntKind.u64.wrap (bits .and .u64 x 4294967295 * bits .and .u64 y 4294967295) / 4294967296) / 4294967296) +
      IntKind.u64.wrap (bits .and .u64 (IntKind.u64.wrap (IntKind.u64.wrap (x / 4294967296 * bits .and .u64 y 4294967295) + IntKind.u64.wrap (bits .and .u64 x 4294967295 * bits .and .u64 y 4294967295) / 4294967296)) 4294967295 +
        IntKind.u64.wrap (bits .and .u64 x 4294967295 * (y / 4294967296))) / 4294967296) = x * y / 18446744073709551616 := by
  rw [and_low32 x hx0 hx, and_low32 y hy0 hy, and_low32 (IntKind.u64.wrap _) (wrap_range _).1 (wrap_range _).2]
  simp only [IntKind.wrap_u64]
  exact mul64_arith x y hx0 hx hy0 hy

/-- The high half, as the document reckons it. -/
theorem high_form (x y : Int) (hx0 : 0 ≤ x) (hx : x < 18446744073709551616) (hy0 : 0 ≤ y) (hy : y < 18446744073709551616) :
    IntKind.u64.wrap (IntKind.u64.wrap (IntKind.u64.wrap (x / 4294967296 * (y / 4294967296)) +
        IntKind.u64.wrap ((IntKind.u64.wrap (IntKind.u64.wrap (x / 4294967296 * (y % 4294967296)) + IntKind.u64.wrap ((IntKind.u64.wrap (x % 4294967296 * (y % 4294967296))).tdiv 4294967296))).tdiv 4294967296)) +
      IntKind.u64.wrap ((IntKind.u64.wrap (IntKind.u64.wrap (x % 4294967296 * (y / 4294967296)) +
        (IntKind.u64.wrap (IntKind.u64.wrap (x / 4294967296 * (y % 4294967296)) + IntKind.u64.wrap ((IntKind.u64.wrap (x % 4294967296 * (y % 4294967296))).tdiv 4294967296))).tmod 4294967296)).tdiv 4294967296)) = x * y / 18446744073709551616 := by
  rw [← mul64_arith x y hx0 hx hy0 hy]
  simp only [IntKind.wrap_u64, tmod_of_emod, tdiv_of_emod]
  generalize x / 4294967296 * (y / 4294967296) = A
  generalize x / 4294967296 * (y % 4294967296) = B
  generalize x % 4294967296 * (y % 4294967296) = C
  generalize x % 4294967296 * (y / 4294967296) = D
  omega

theorem part_lt (x y : Int) (hx0 : 0 ≤ x) (hx : x < 18446744073709551616) (hy : 1 ≤ y) : 0 ≤ x * y / 18446744073709551616 ∧ x * y / 18446744073709551616 < y := by
  have h0 : 0 ≤ x * y := Int.mul_nonneg hx0 (by omega)
  have h1 : x * y ≤ 18446744073709551615 * y := Int.mul_le_mul_of_nonneg_right (by omega) (by omega)
  omega

/-! ### Folding -/
def foldG (x n : Nat) : Nat → Nat
  | 0 => 0
  | k + 1 => foldG x n k ^^^ (if x.testBit k then 2 ^ (k % n) else 0)
theorem foldG_lt (x n k : Nat) (h1 : 1 ≤ n) (h2 : n ≤ 64) : foldG x n k < 2 ^ 64 := by
  induction k with
  | zero => simp [foldG]
  | succ k ih =>
    unfold foldG
    refine Nat.xor_lt_two_pow ih ?_
    split
    · exact Nat.pow_lt_pow_right (by decide) (Nat.lt_of_lt_of_le (Nat.mod_lt _ (by omega)) h2)
    · exact Nat.two_pow_pos 64
theorem mod_next (y r : Nat) : y % 2 ^ (r + 1) = y % 2 ^ r ^^^ (if y.testBit r then 2 ^ r else 0) := by
  apply Nat.eq_of_testBit_eq
  intro i
  rw [Nat.testBit_xor, Nat.testBit_mod_two_pow, Nat.testBit_mod_two_pow]
  by_cases h : i = r
  · subst h
    cases hb : y.testBit i <;> simp
  · have hd : decide (r = i) = false := by simpa using fun e => h e.symm
    have he : decide (i < r + 1) = decide (i < r) := by rw [decide_eq_decide]; omega
    rw [he]
    cases y.testBit r <;> simp [Nat.testBit_two_pow, hd]
theorem foldG_part (x n j r : Nat) (hr : r ≤ n) : foldG x n (j * n + r) = foldG x n (j * n) ^^^ (x / 2 ^ (j * n) % 2 ^ r) := by
  induction r with
  | zero => simp [Nat.mod_one]
  | succ r ih =>
    show foldG x n (j * n + r) ^^^ (if x.testBit (j * n + r) then 2 ^ ((j * n + r) % n) else 0) = _
    rw [ih (by omega), mod_next, Nat.xor_assoc, Nat.testBit_div_two_pow]
    have : (j * n + r) % n = r := by rw [Nat.add_comm, Nat.add_mul_mod_self_right]; exact Nat.mod_eq_of_lt (by omega)
    rw [this, Nat.add_comm r (j * n)]
theorem foldG_round (x n j : Nat) : foldG x n ((j + 1) * n) = foldG x n (j * n) ^^^ (x / 2 ^ (j * n) % 2 ^ n) := by
  rw [Nat.succ_mul]; exact foldG_part x n j n (Nat.le_refl _)
theorem foldG_end (x n k m : Nat) (hx : x < 2 ^ k) (h : k ≤ m) : foldG x n m = foldG x n k := by
  induction h with
  | refl => rfl
  | step h ih =>
    rename_i m
    show foldG x n m ^^^ _ = _
    rw [Nat.testBit_lt_two_pow (Nat.lt_of_lt_of_le hx (Nat.pow_le_pow_right (by decide) h)), ih]
    simp
theorem foldG_all (x n k : Nat) (hx : x < 2 ^ 64) (h : x / 2 ^ k = 0) : foldG x n k = foldG x n 64 := by
  have hk : x < 2 ^ k := by
    rcases Nat.div_eq_zero_iff.1 h with h | h
    · exact absurd h (Nat.ne_of_gt (Nat.two_pow_pos k))
    · exact h
  by_cases hc : k ≤ 64
  · exact (foldG_end x n k 64 hk hc).symm
  · exact foldG_end x n 64 k hx (by omega)

theorem two_pow_lt {n : Nat} (h : n < 64) : 2 ^ n < 18446744073709551616 := by
  have := Nat.pow_lt_pow_right (a := 2) (by decide) h
  exact this
theorem wrap_pow {n : Nat} (h : n < 64) : IntKind.u64.wrap (2 ^ n) = ((2 ^ n : Nat) : Int) := by
  have h1 := two_pow_lt h
  have e : ((2 : Int) ^ n) = ((2 ^ n : Nat) : Int) := by simp
  rw [e]
  generalize (2 : Nat) ^ n = P at *
  rw [IntKind.wrap_u64]
  omega
theorem stretch_lt {n : Nat} (h : n < 64) : IntKind.u64.wrap (IntKind.u64.wrap (2 ^ n) - 1) = ((2 ^ n - 1 : Nat) : Int) := by
  have h1 := two_pow_lt h
  have h2 := Nat.two_pow_pos n
  rw [wrap_pow h]
  generalize (2 : Nat) ^ n = P at *
  rw [IntKind.wrap_u64]
  omega
theorem stretch_64 : IntKind.u64.wrap (IntKind.u64.wrap 18446744073709551616 - 1) = ((2 ^ 64 - 1 : Nat) : Int) := by
  rw [IntKind.wrap_u64, IntKind.wrap_u64]
  decide
theorem pow_64 : (2 : Nat) ^ 64 = 18446744073709551616 := by decide
theorem two_pow_le {n : Nat} (h : n ≤ 64) : 2 ^ n ≤ 18446744073709551616 := by
  have := Nat.pow_le_pow_right (n := 2) (by decide) h
  exact this
theorem fold_step (X F n : Nat) (hn : n ≤ 64) (hX : X < 18446744073709551616) (hF : F < 18446744073709551616) :
    bits .xor .u64 (F : Int) (bits .and .u64 (X : Int) ((2 ^ n - 1 : Nat) : Int)) = ((F ^^^ X % 2 ^ n : Nat) : Int) := by
  have h1 := two_pow_le hn
  have h2 := Nat.two_pow_pos n
  rw [bits_and_u64_nat X (2 ^ n - 1) hX (by omega), Nat.and_two_pow_sub_one_eq_mod]
  exact bits_xor_u64_nat F (X % 2 ^ n) hF (by have := Nat.mod_lt X h2; omega)
theorem div_cast (X n : Nat) : (X : Int) / 2 ^ n = ((X / 2 ^ n : Nat) : Int) := by simp
theorem div_next (x n j : Nat) : x / 2 ^ (j * n) / 2 ^ n = x / 2 ^ ((j + 1) * n) := by
  rw [Nat.div_div_eq_div_mul, ← Nat.pow_add, Nat.succ_mul]
theorem bit_test (x k : Nat) : (((x : Int) / 2 ^ k).tmod 2 == 1) = x.testBit k := by
  rw [div_cast, Nat.testBit_eq_decide_div_mod_eq]
  generalize x / 2 ^ k = y
  rw [Int.tmod_eq_emod_of_nonneg (by omega)]
  by_cases h : y % 2 = 1
  · have h' : (y : Int) % 2 = 1 := by omega
    rw [h, h']; rfl
  · have h' : ¬ (y : Int) % 2 = 1 := by omega
    simp [h, h']
theorem ref_step (F k n : Nat) (h1 : 1 ≤ n) (h2 : n ≤ 64) (hF : F < 18446744073709551616) :
    bits .xor .u64 (F : Int) (IntKind.u64.wrap (2 ^ min (IntKind.u64.wrap ((k : Int) % (n : Int))).toNat 64)) = ((F ^^^ 2 ^ (k % n) : Nat) : Int) := by
  have hm : k % n < n := Nat.mod_lt _ (by omega)
  have e : min (IntKind.u64.wrap ((k : Int) % (n : Int))).toNat 64 = k % n := by
    rw [IntKind.wrap_u64, ← Int.natCast_emod]
    omega
  rw [e, wrap_pow (by omega)]
  exact bits_xor_u64_nat F (2 ^ (k % n)) hF (two_pow_lt (by omega))
end Go.Proofs.Ytglbkhomjfmlmaa
