/- Plain arithmetic of mixing and folding numbers, with no Go in sight. Its conditions: numbers below 2^64 where that is said. -/
import Derived.Laws.Bits64b
import Derived.RowKit
namespace Go.Proofs.YtlffleigahfdlaaGreatDoor.Sk
open Go.RowKit
set_option linter.unusedVariables false
def mixN (x : Nat) : Nat :=
  let a := (x ^^^ x / 1073741824) * 13787848793156543929 % 18446744073709551616
  let b := (a ^^^ a / 134217728) * 10723151780598845931 % 18446744073709551616
  b ^^^ b / 2147483648

theorem xor_div_lt (b s : Nat) (hb : b < 18446744073709551616) : b ^^^ b / s < 18446744073709551616 := by
  have h : b / s < 18446744073709551616 := Nat.lt_of_le_of_lt (Nat.div_le_self _ _) hb
  exact Nat.xor_lt_two_pow (n := 64) hb h

theorem mixN_lt (x : Nat) : mixN x < 18446744073709551616 := by
  unfold mixN
  exact xor_div_lt _ _ (Nat.mod_lt _ (by decide))

theorem step1 (x : Nat) (hx : x < 18446744073709551616) :
    IntKind.u64.wrap (bits .xor .u64 (x : Int) ((x : Int) / 1073741824) * 13787848793156543929) = (((x ^^^ x / 1073741824) * 13787848793156543929 % 18446744073709551616 : Nat) : Int) :=
  mixStep_u64 x 1073741824 13787848793156543929 hx
theorem step2 (x : Nat) (hx : x < 18446744073709551616) :
    IntKind.u64.wrap (bits .xor .u64 (x : Int) ((x : Int) / 134217728) * 10723151780598845931) = (((x ^^^ x / 134217728) * 10723151780598845931 % 18446744073709551616 : Nat) : Int) :=
  mixStep_u64 x 134217728 10723151780598845931 hx
theorem step3 (x : Nat) (hx : x < 18446744073709551616) :
    bits .xor .u64 (x : Int) ((x : Int) / 2147483648) = ((x ^^^ x / 2147483648 : Nat) : Int) :=
  xorShift_u64 x 2147483648 hx
theorem mod_lt (x : Nat) : x % 18446744073709551616 < 18446744073709551616 := Nat.mod_lt _ (by decide)

theorem quo27 (z : Nat) (hz : z < 18446744073709551616) : IntKind.u64.wrap ((z : Int).tdiv 134217728) = (z : Int) / 134217728 := by
  rw [Int.tdiv_eq_ediv_of_nonneg (by omega), IntKind.wrap_u64]; omega
theorem quo31 (z : Nat) (hz : z < 18446744073709551616) : IntKind.u64.wrap ((z : Int).tdiv 2147483648) = (z : Int) / 2147483648 := by
  rw [Int.tdiv_eq_ediv_of_nonneg (by omega), IntKind.wrap_u64]; omega

/-- The program's own form of a mixed number. -/
theorem mix_form (x : Nat) (hx : x < 18446744073709551616) :
    bits .xor .u64 (IntKind.u64.wrap (bits .xor .u64 (IntKind.u64.wrap (bits .xor .u64 (x : Int) ((x : Int) / 1073741824) * 13787848793156543929)) (IntKind.u64.wrap (bits .xor .u64 (x : Int) ((x : Int) / 1073741824) * 13787848793156543929) / 134217728) * 10723151780598845931))
      (IntKind.u64.wrap (bits .xor .u64 (IntKind.u64.wrap (bits .xor .u64 (x : Int) ((x : Int) / 1073741824) * 13787848793156543929)) (IntKind.u64.wrap (bits .xor .u64 (x : Int) ((x : Int) / 1073741824) * 13787848793156543929) / 134217728) * 10723151780598845931) / 2147483648) = ((mixN x : Nat) : Int) := by
  rw [step1 x hx, step2 _ (mod_lt _), step3 _ (mod_lt _)]; rfl

/-- The document's form of a mixed number. -/
theorem mix_form' (x : Nat) (hx : x < 18446744073709551616) :
    bits .xor .u64 (IntKind.u64.wrap (bits .xor .u64 (IntKind.u64.wrap (bits .xor .u64 (x : Int) ((x : Int) / 1073741824) * 13787848793156543929)) (IntKind.u64.wrap ((IntKind.u64.wrap (bits .xor .u64 (x : Int) ((x : Int) / 1073741824) * 13787848793156543929)).tdiv 134217728)) * 10723151780598845931))
      (IntKind.u64.wrap ((IntKind.u64.wrap (bits .xor .u64 (IntKind.u64.wrap (bits .xor .u64 (x : Int) ((x : Int) / 1073741824) * 13787848793156543929)) (IntKind.u64.wrap ((IntKind.u64.wrap (bits .xor .u64 (x : Int) ((x : Int) / 1073741824) * 13787848793156543929)).tdiv 134217728)) * 10723151780598845931)).tdiv 2147483648)) = ((mixN x : Nat) : Int) := by
  rw [step1 x hx, quo27 _ (mod_lt _), step2 _ (mod_lt _), quo31 _ (mod_lt _), step3 _ (mod_lt _)]; rfl

def foldG (x n : Nat) : Nat → Nat
  | 0 => 0
  | k + 1 => foldG x n k ^^^ (if x.testBit k then 2 ^ (k % n) else 0)
theorem foldG_lt (x n k : Nat) (h1 : 1 ≤ n) (h2 : n ≤ 64) : foldG x n k < 2 ^ 64 := by
  induction k with
  | zero => simp [foldG]
  | succ k ih =>
    unfold foldG
    refine Nat.xor_lt_two_pow ih ?_
    split
    · exact Nat.pow_lt_pow_right (by decide) (Nat.lt_of_lt_of_le (Nat.mod_lt _ (by omega)) h2)
    · exact Nat.two_pow_pos 64
theorem mod_next (y r : Nat) : y % 2 ^ (r + 1) = y % 2 ^ r ^^^ (if y.testBit r then 2 ^ r else 0) := by
  apply Nat.eq_of_testBit_eq
  intro i
  rw [Nat.testBit_xor, Nat.testBit_mod_two_pow, Nat.testBit_mod_two_pow]
  by_cases h : i = r
  · subst h
    cases hb : y.testBit i <;> simp
  · have hd : decide (r = i) = false := by simpa using fun e => h e.symm
    have he : decide (i < r + 1) = decide (i < r) := by rw [decide_eq_decide]; omega
    rw [he]
    cases y.testBit r <;> simp [Nat.testBit_two_pow, hd]
theorem foldG_part (x n j r : Nat) (hr : r ≤ n) : foldG x n (j * n + r) = foldG x n (j * n) ^^^ (x / 2 ^ (j * n) % 2 ^ r) := by
  induction r with
  | zero => simp [Nat.mod_one]
  | succ r ih =>
    show foldG x n (j * n + r) ^^^ (if x.testBit (j * n + r) then 2 ^ ((j * n + r) % n) else 0) = _
    rw [ih (by omega), mod_next, Nat.xor_assoc, Nat.testBit_div_two_pow]
    have : (j * n + r) % n = r := by rw [Nat.add_comm, Nat.add_mul_mod_self_right]; exact Nat.mod_eq_of_lt (by omega)
    rw [this, Nat.add_comm r (j * n)]
theorem foldG_round (x n j : Nat) : foldG x n ((j + 1) * n) = foldG x n (j * n) ^^^ (x / 2 ^ (j * n) % 2 ^ n) := by
  rw [Nat.succ_mul]; exact foldG_part x n j n (Nat.le_refl _)
theorem foldG_end (x n k m : Nat) (hx : x < 2 ^ k) (h : k ≤ m) : foldG x n m = foldG x n k := by
  induction h with
  | refl => rfl
  | step h ih =>
    rename_i m
    show foldG x n m ^^^ _ = _
    rw [Nat.testBit_lt_two_pow (Nat.lt_of_lt_of_le hx (Nat.pow_le_pow_right (by decide) h)), ih]
    simp
theorem foldG_all (x n k : Nat) (hx : x < 2 ^ 64) (h : x / 2 ^ k = 0) : foldG x n k = foldG x n 64 := by
  have hk : x < 2 ^ k := by
    rcases Nat.div_eq_zero_iff.1 h with h | h
    · exact absurd h (Nat.ne_of_gt (Nat.two_pow_pos k))
    · exact h
  by_cases hc : k ≤ 64
  · exact (foldG_end x n k 64 hk hc).symm
  · exact foldG_end x n 64 k hx (by omega)

theorem two_pow_lt {n : Nat} (h : n < 64) : 2 ^ n < 18446744073709551616 := by
  have := Nat.pow_lt_pow_right (a := 2) (by decide) h
  exact this
theorem wrap_pow {n : Nat} (h : n < 64) : IntKind.u64.wrap (2 ^ n) = ((2 ^ n : Nat) : Int) := by
  have h1 := two_pow_lt h
  have e : ((2 : Int) ^ n) = ((2 ^ n : Nat) : Int) := by simp
  rw [e]
  generalize (2 : Nat) ^ n = P at *
  rw [IntKind.wrap_u64]
  omega
theorem stretch_lt {n : Nat} (h : n < 64) : IntKind.u64.wrap (IntKind.u64.wrap (2 ^ n) - 1) = ((2 ^ n - 1 : Nat) : Int) := by
  have h1 := two_pow_lt h
  have h2 := Nat.two_pow_pos n
  rw [wrap_pow h]
  generalize (2 : Nat) ^ n = P at *
  rw [IntKind.wrap_u64]
  omega
theorem stretch_64 : IntKind.u64.wrap (IntKind.u64.wrap 18446744073709551616 - 1) = ((2 ^ 64 - 1 : Nat) : Int) := by
  rw [IntKind.wrap_u64, IntKind.wrap_u64]
  decide
theorem pow_64 : (2 : Nat) ^ 64 = 18446744073709551616 := by decide
theorem two_pow_le {n : Nat} (h : n ≤ 64) : 2 ^ n ≤ 18446744073709551616 := by
  have := Nat.pow_le_pow_right (n := 2) (by decide) h
  exact this
theorem fold_step (X F n : Nat) (hn : n ≤ 64) (hX : X < 18446744073709551616) (hF : F < 18446744073709551616) :
    bits .xor .u64 (F : Int) (bits .and .u64 (X : Int) ((2 ^ n - 1 : Nat) : Int)) = ((F ^^^ X % 2 ^ n : Nat) : Int) := by
  have h1 := two_pow_le hn
  have h2 := Nat.two_pow_pos n
  rw [bits_and_u64_nat X (2 ^ n - 1) hX (by omega), Nat.and_two_pow_sub_one_eq_mod]
  exact bits_xor_u64_nat F (X % 2 ^ n) hF (by have := Nat.mod_lt X h2; omega)
theorem div_cast (X n : Nat) : (X : Int) / 2 ^ n = ((X / 2 ^ n : Nat) : Int) := by simp
theorem div_next (x n j : Nat) : x / 2 ^ (j * n) / 2 ^ n = x / 2 ^ ((j + 1) * n) := by
  rw [Nat.div_div_eq_div_mul, ← Nat.pow_add, Nat.succ_mul]
theorem bit_test (x k : Nat) : (((x : Int) / 2 ^ k).tmod 2 == 1) = x.testBit k := by
  rw [div_cast, Nat.testBit_eq_decide_div_mod_eq]
  generalize x / 2 ^ k = y
  rw [Int.tmod_eq_emod_of_nonneg (by omega)]
  by_cases h : y % 2 = 1
  · have h' : (y : Int) % 2 = 1 := by omega
    rw [h, h']; rfl
  · have h' : ¬ (y : Int) % 2 = 1 := by omega
    simp [h, h']
theorem ref_step (F k n : Nat) (h1 : 1 ≤ n) (h2 : n ≤ 64) (hF : F < 18446744073709551616) :
    bits .xor .u64 (F : Int) (IntKind.u64.wrap (2 ^ min (IntKind.u64.wrap ((k : Int) % (n : Int))).toNat 64)) = ((F ^^^ 2 ^ (k % n) : Nat) : Int) := by
  have hm : k % n < n := Nat.mod_lt _ (by omega)
  have e : min (IntKind.u64.wrap ((k : Int) % (n : Int))).toNat 64 = k % n := by
    rw [IntKind.wrap_u64, ← Int.natCast_emod]
    omega
  rw [e, wrap_pow (by omega)]
  exact bits_xor_u64_nat F (2 ^ (k % n)) hF (two_pow_lt (by omega))
/-- What is folded to n bits has n bits. -/
theorem foldG_bits (x n k : Nat) (h1 : 1 ≤ n) : foldG x n k < 2 ^ n := by
  induction k with
  | zero => simp [foldG, Nat.two_pow_pos]
  | succ k ih =>
    unfold foldG
    refine Nat.xor_lt_two_pow ih ?_
    split
    · exact Nat.pow_lt_pow_right (by decide) (Nat.mod_lt _ (by omega))
    · exact Nat.two_pow_pos n
end Go.Proofs.YtlffleigahfdlaaGreatDoor.Sk
