/- Plain arithmetic for the layer of tries, with no Go in sight: mixing, doubling up to a bound, sums of times, products over a power of two by their halves and digit by digit. Its conditions: numbers below 2^64 where that is said. -/
import Derived.Laws.Bits64b
import Derived.Laws.MathBits
import Derived.Laws.BitsAll
import Derived.RowKit
import Derived.IntWalk
namespace Go.Proofs.Ytkodabhkhifggaa
open Go.RowKit

/-! ### Mixing -/
def mixN (x : Nat) : Nat :=
  let a := (x ^^^ x / 1073741824) * 13787848793156543929 % 18446744073709551616
  let b := (a ^^^ a / 134217728) * 10723151780598845931 % 18446744073709551616
  b ^^^ b / 2147483648
theorem xor_div_lt (b s : Nat) (hb : b < 18446744073709551616) : b ^^^ b / s < 18446744073709551616 := by
  have h : b / s < 18446744073709551616 := Nat.lt_of_le_of_lt (Nat.div_le_self _ _) hb
  exact Nat.xor_lt_two_pow (n := 64) hb h
theorem mixN_lt (x : Nat) : mixN x < 18446744073709551616 := by
  unfold mixN
  exact xor_div_lt _ _ (Nat.mod_lt _ (by decide))
theorem step1 (x : Nat) (hx : x < 18446744073709551616) :
    IntKind.u64.wrap (bits .xor .u64 (x : Int) ((x : Int) / 1073741824) * 13787848793156543929) = (((x ^^^ x / 1073741824) * 13787848793156543929 % 18446744073709551616 : Nat) : Int) :=
  mixStep_u64 x 1073741824 13787848793156543929 hx
theorem step2 (x : Nat) (hx : x < 18446744073709551616) :
    IntKind.u64.wrap (bits .xor .u64 (x : Int) ((x : Int) / 134217728) * 10723151780598845931) = (((x ^^^ x / 134217728) * 10723151780598845931 % 18446744073709551616 : Nat) : Int) :=
  mixStep_u64 x 134217728 10723151780598845931 hx
theorem step3 (x : Nat) (hx : x < 18446744073709551616) :
    bits .xor .u64 (x : Int) ((x : Int) / 2147483648) = ((x ^^^ x / 2147483648 : Nat) : Int) :=
  xorShift_u64 x 2147483648 hx
theorem mod_lt (x : Nat) : x % 18446744073709551616 < 18446744073709551616 := Nat.mod_lt _ (by decide)
theorem quo27 (z : Nat) (hz : z < 18446744073709551616) : IntKind.u64.wrap ((z : Int).tdiv 134217728) = (z : Int) / 134217728 := by
  rw [Int.tdiv_eq_ediv_of_nonneg (by omega), IntKind.wrap_u64]; omega
theorem quo31 (z : Nat) (hz : z < 18446744073709551616) : IntKind.u64.wrap ((z : Int).tdiv 2147483648) = (z : Int) / 2147483648 := by
  rw [Int.tdiv_eq_ediv_of_nonneg (by omega), IntKind.wrap_u64]; omega
/-- The program's own form of a mixed number. -/
theorem mix_form (x : Nat) (hx : x < 18446744073709551616) :
    bits .xor .u64 (IntKind.u64.wrap (bits .xor .u64 (IntKind.u64.wrap (bits .xor .u64 (x : Int) ((x : Int) / 1073741824) * 13787848793156543929)) (IntKind.u64.wrap (bits .xor .u64 (x : Int) ((x : Int) / 1073741824) * 13787848793156543929) / 134217728) * 10723151780598845931))
      (IntKind.u64.wrap (bits .xor .u64 (IntKind.u64.wrap (bits .xor .u64 (x : Int) ((x : Int) / 1073741824) * 13787848793156543929)) (IntKind.u64.wrap (bits .xor .u64 (x : Int) ((x : Int) / 1073741824) * 13787848793156543929) / 134217728) * 10723151780598845931) / 2147483648) = ((mixN x : Nat) : Int) := by
  rw [step1 x hx, step2 _ (mod_lt _), step3 _ (mod_lt _)]; rfl
/-- The document's form of a mixed number. -/
theorem mix_form' (x : Nat) (hx : x < 18446744073709551616) :
    bits .xor .u64 (IntKind.u64.wrap (bits .xor .u64 (IntKind.u64.wrap (bits .xor .u64 (x : Int) ((x : Int) / 1073741824) * 13787848793156543929)) (IntKind.u64.wrap ((IntKind.u64.wrap (bits .xor .u64 (x : Int) ((x : Int) / 1073741824) * 13787848793156543929)).tdiv 134217728)) * 10723151780598845931))
      (IntKind.u64.wrap ((IntKind.u64.wrap (bits .xor .u64 (IntKind.u64.wrap (bits .xor .u64 (x : Int) ((x : Int) / 1073741824) * 13787848793156543929)) (IntKind.u64.wrap ((IntKind.u64.wrap (bits .xor .u64 (x : Int) ((x : Int) / 1073741824) * 13787848793156543929)).tdiv 134217728)) * 10723151780598845931)).tdiv 2147483648)) = ((mixN x : Nat) : Int) := by
  rw [step1 x hx, quo27 _ (mod_lt _), step2 _ (mod_lt _), quo31 _ (mod_lt _), step3 _ (mod_lt _)]; rfl

/-! ### Sums of times -/
def sumI : List Int → Int
  | [] => 0
  | x :: l => x + sumI l
theorem sumI_snoc (l : List Int) (x : Int) : sumI (l ++ [x]) = sumI l + x := by
  induction l with
  | nil => simp [sumI]
  | cons a l ih => simp only [List.cons_append, sumI, ih]; omega
theorem sum_next {H L z T : Int} (h : T = H * 18446744073709551616 + L) : T + z = (H + (L + z) / 18446744073709551616) * 18446744073709551616 + (L + z) % 18446744073709551616 := by omega
theorem getD_at (zs : List Int) (k : Nat) (hz : k < zs.length) : zs.getD k 0 = zs[k] := by simp [List.getD, hz]
theorem take_next (zs : List Int) (k : Nat) (hz : k < zs.length) : zs.take (k + 1) = zs.take k ++ [zs.getD k 0] := by
  rw [List.take_succ_eq_append_getElem hz, getD_at zs k hz]
theorem i64_bounds {z : Int} (h : (Lit.int .i64 z).wf = true) : -9223372036854775808 ≤ z ∧ z < 9223372036854775808 := by
  have h := h
  simp [Lit.wf, IntKind.min, IntKind.max, IntKind.bits, IntKind.signed] at h
  omega
theorem u64_bounds {z : Int} (h : (Lit.int .u64 z).wf = true) : 0 ≤ z ∧ z < 18446744073709551616 := by
  have h := h
  simp [Lit.wf, IntKind.min, IntKind.max, IntKind.bits, IntKind.signed] at h
  omega

/-! ### Doubling up to a bound -/
def p2 (n : Nat) : Int := 2 ^ n
theorem p2_zero : p2 0 = 1 := rfl
theorem p2_succ (n : Nat) : p2 (n + 1) = p2 n * 2 := by unfold p2; exact Int.pow_succ 2 n
theorem p2_pos (n : Nat) : 1 ≤ p2 n := by
  induction n with
  | zero => simp [p2]
  | succ n ih => rw [p2_succ]; omega
theorem p2_mono {m n : Nat} (h : m ≤ n) : p2 m ≤ p2 n := by
  induction h with
  | refl => omega
  | step _ ih => rename_i k _; have := p2_succ k; have := p2_pos k; show p2 m ≤ p2 (k + 1); omega
def dbl (d : Int) (n : Nat) (most : Int) : Int := if most < d * p2 n then most else d * p2 n
theorem dbl_most {d most : Int} {n : Nat} (h : most < d * p2 n) : dbl d n most = most := by unfold dbl; rw [if_pos h]
theorem dbl_times {d most : Int} {n : Nat} (h : ¬ most < d * p2 n) : dbl d n most = d * p2 n := by unfold dbl; rw [if_neg h]
theorem shr_iff (d most : Int) (n : Nat) : most / 2 ^ n < d ↔ most < d * p2 n := by
  have := p2_pos n
  exact Int.ediv_lt_iff_lt_mul (show 0 < p2 n by omega)
theorem mul_mono {d : Int} (h : 0 ≤ d) {m n : Nat} (hm : m ≤ n) : d * p2 m ≤ d * p2 n := Int.mul_le_mul_of_nonneg_left (p2_mono hm) h
theorem wrap_small {z most : Int} (h0 : 0 ≤ z) (h : z ≤ most) (hm : most < 9223372036854775808) : wrap64 z = z := by unfold wrap64; omega
theorem dbl_bounds (d : Int) (n : Nat) (most : Int) (hd : 0 ≤ d) (hm : 0 ≤ most) : 0 ≤ dbl d n most ∧ dbl d n most ≤ most := by
  have h := Int.mul_nonneg hd (show 0 ≤ p2 n by have := p2_pos n; omega)
  unfold dbl
  split <;> omega
theorem half_lt {d most : Int} {k n : Nat} (h : most / 2 < d * p2 k) (hk : k < n) (hd : 0 ≤ d) : most < d * p2 n := by
  have h1 := mul_mono hd (show k + 1 ≤ n by omega)
  rw [p2_succ, ← Int.mul_assoc] at h1
  omega

/-! ### Products by their halves -/
theorem wrap_range (z : Int) : 0 ≤ IntKind.u64.wrap z ∧ IntKind.u64.wrap z < 18446744073709551616 := by rw [IntKind.wrap_u64]; omega
/-- The high half, as the library reckons it. -/
theorem mul_form (x y : Int) (hx0 : 0 ≤ x) (hx : x < 18446744073709551616) (hy0 : 0 ≤ y) (hy : y < 18446744073709551616) :
    IntKind.u64.wrap (IntKind.u64.wrap (IntKind.u64.wrap (x / 4294967296 * (y / 4294967296)) +
        IntKind.u64.wrap (IntKind.u64.wrap (x / 4294967296 * bits .and .u64 y 4294967295) + IntKind.u64.wrap (bits .and .u64 x 4294967295 * bits .and .u64 y 4294967295) / 4294967296) / 4294967296) +
      IntKind.u64.wrap (bits .and .u64 (IntKind.u64.wrap (IntKind.u64.wrap (x / 4294967296 * bits .and .u64 y 4294967295) + IntKind.u64.wrap (bits .and .u64 x 4294967295 * bits .and .u64 y 4294967295) / 4294967296)) 4294967295 +
        IntKind.u64.wrap (bits .and .u64 x 4294967295 * (y / 4294967296))) / 4294967296) = x * y / 18446744073709551616 := by
  rw [and_low32 x hx0 hx, and_low32 y hy0 hy, and_low32 (IntKind.u64.wrap _) (wrap_range _).1 (wrap_range _).2]
  simp only [IntKind.wrap_u64]
  exact mul64_arith x y hx0 hx hy0 hy
theorem or_add (a b k : Nat) (hb : b < 2 ^ k) : a * 2 ^ k ||| b = a * 2 ^ k + b := by
  rw [Nat.mul_comm, Nat.two_pow_add_eq_or_of_lt hb]
theorem scale8 (x y : Nat) :
    ((x * y / 18446744073709551616) * 72057594037927936) ||| (x * y % 18446744073709551616 / 256) = x * y / 256 := by
  have := or_add (x * y / 18446744073709551616) (x * y % 18446744073709551616 / 256) 56 (by have : (2 : Nat) ^ 56 = 72057594037927936 := by decide
                                                                                            omega)
  rw [show (2 : Nat) ^ 56 = 72057594037927936 from by decide] at this
  rw [this]
  omega
theorem scale32 (x y : Nat) :
    ((x * y / 18446744073709551616) * 4294967296) ||| (x * y % 18446744073709551616 / 4294967296) = x * y / 4294967296 := by
  have := or_add (x * y / 18446744073709551616) (x * y % 18446744073709551616 / 4294967296) 32 (by have : (2 : Nat) ^ 32 = 4294967296 := by decide
                                                                                                   omega)
  rw [show (2 : Nat) ^ 32 = 4294967296 from by decide] at this
  rw [this]
  omega

/-! ### Digits to the base 2^16 -/
def dval : List Nat → Nat
  | [] => 0
  | d :: l => 65536 * dval l + d
def dok (l : List Nat) : Prop := ∀ d ∈ l, d < 65536
theorem dval_set (l : List Nat) (i x : Nat) (h : i < l.length) : dval (l.set i x) + l.getD i 0 * 65536 ^ i = dval l + x * 65536 ^ i := by
  induction l generalizing i with
  | nil => simp at h
  | cons d l ih =>
    cases i with
    | zero => simp only [List.set_cons_zero, dval, List.getD_cons_zero, Nat.pow_zero, Nat.mul_one]; omega
    | succ i =>
      have := ih i (by simpa using h)
      simp only [List.set_cons_succ, dval, List.getD_cons_succ, Nat.pow_succ]
      have e1 : l.getD i 0 * (65536 ^ i * 65536) = 65536 * (l.getD i 0 * 65536 ^ i) := by rw [← Nat.mul_assoc, Nat.mul_comm]
      have e2 : x * (65536 ^ i * 65536) = 65536 * (x * 65536 ^ i) := by rw [← Nat.mul_assoc, Nat.mul_comm]
      rw [e1, e2]
      omega
theorem dok_set {l : List Nat} (h : dok l) (i x : Nat) (hx : x < 65536) : dok (l.set i x) := by
  intro d hd
  rcases List.mem_or_eq_of_mem_set hd with h' | rfl
  · exact h d h'
  · exact hx
theorem dok_at {l : List Nat} (h : dok l) (i : Nat) : l.getD i 0 < 65536 := by
  by_cases hi : i < l.length
  · rw [show l.getD i 0 = l[i] from by simp [List.getD, hi]]
    exact h _ (List.getElem_mem _)
  · simp [List.getD, hi]
theorem dval_bit (l : List Nat) (h : dok l) (f : Nat) : (dval l).testBit f = (l.getD (f / 16) 0).testBit (f % 16) := by
  induction l generalizing f with
  | nil => simp [dval]
  | cons d l ih =>
    have hd : d < 2 ^ 16 := h d List.mem_cons_self
    have e : dval (d :: l) = 2 ^ 16 * dval l + d := rfl
    rw [e, Nat.testBit_two_pow_mul_add _ hd]
    by_cases hf : f < 16
    · rw [if_pos hf, show f / 16 = 0 by omega, show f % 16 = f by omega]
      rfl
    · rw [if_neg hf, ih (fun x hx => h x (List.mem_cons_of_mem _ hx)), show f / 16 = (f - 16) / 16 + 1 by omega, show f % 16 = (f - 16) % 16 by omega]
      rfl
/-- What the pairs of digits that are done come to: all of the first i digits of w, and of the next one with the first k of t. -/
def acc (w t i k : Nat) : Nat := (w % 65536 ^ i) * t + (w / 65536 ^ i % 65536) * 65536 ^ i * (t % 65536 ^ k)
theorem acc_zero (w t : Nat) : acc w t 0 0 = 0 := by simp [acc, Nat.mod_one]
theorem acc_k (w t i k : Nat) : acc w t i (k + 1) = acc w t i k + (w / 65536 ^ i % 65536) * (t / 65536 ^ k % 65536) * 65536 ^ (i + k) := by
  unfold acc
  have e : t % 65536 ^ (k + 1) = t % 65536 ^ k + 65536 ^ k * (t / 65536 ^ k % 65536) := Nat.mod_pow_succ
  rw [e, Nat.mul_add, Nat.pow_add, ← Nat.add_assoc]
  congr 1
  generalize w / 65536 ^ i % 65536 = a
  generalize t / 65536 ^ k % 65536 = b
  generalize 65536 ^ i = p
  generalize 65536 ^ k = q
  rw [Nat.mul_assoc, Nat.mul_assoc]
  congr 1
  rw [Nat.mul_left_comm b, Nat.mul_comm b]
theorem acc_i (w t i : Nat) (ht : t < 65536 ^ 3) : acc w t i 3 = acc w t (i + 1) 0 := by
  unfold acc
  have e : w % 65536 ^ (i + 1) = w % 65536 ^ i + 65536 ^ i * (w / 65536 ^ i % 65536) := Nat.mod_pow_succ
  rw [e, Nat.mod_eq_of_lt ht, Nat.pow_zero, Nat.mod_one, Nat.mul_zero, Nat.add_zero, Nat.add_mul]
  congr 1
  rw [Nat.mul_comm (65536 ^ i)]
theorem acc_end (w t : Nat) (hw : w < 65536 ^ 4) : acc w t 4 0 = w * t := by
  unfold acc
  rw [Nat.mod_eq_of_lt hw, Nat.pow_zero, Nat.mod_one, Nat.mul_zero, Nat.add_zero]
theorem acc_le (w t i k : Nat) : acc w t i k ≤ w * t := by
  have h1 : (w / 65536 ^ i % 65536) * 65536 ^ i * (t % 65536 ^ k) ≤ (w / 65536 ^ i % 65536) * 65536 ^ i * t := Nat.mul_le_mul_left _ (Nat.mod_le _ _)
  have h2 : w % 65536 ^ (i + 1) = w % 65536 ^ i + 65536 ^ i * (w / 65536 ^ i % 65536) := Nat.mod_pow_succ
  have h3 : w % 65536 ^ (i + 1) ≤ w := Nat.mod_le _ _
  have h4 : (w % 65536 ^ i + 65536 ^ i * (w / 65536 ^ i % 65536)) * t ≤ w * t := Nat.mul_le_mul_right _ (by omega)
  rw [Nat.add_mul, Nat.mul_comm (65536 ^ i)] at h4
  unfold acc
  omega
theorem acc_lt (w t i k : Nat) (hw : w < 65536 ^ 4) (ht : t < 65536 ^ 3) : acc w t i k < 65536 ^ 8 := by
  have h := acc_le w t i k
  have h2 : w * t ≤ 65536 ^ 4 * 65536 ^ 3 := Nat.mul_le_mul (by omega) (by omega)
  have h3 : (65536 : Nat) ^ 4 * 65536 ^ 3 < 65536 ^ 8 := by decide
  omega
/-- One round of carrying keeps what digits and carry come to. -/
theorem carry_step (D : List Nat) (c m T : Nat) (hm : m < D.length) (hT : dval D + c * 65536 ^ m = T) :
    dval (D.set m ((c + D.getD m 0) % 65536)) + (c + D.getD m 0) / 65536 * 65536 ^ (m + 1) = T := by
  have h := dval_set D m ((c + D.getD m 0) % 65536) hm
  have e : (c + D.getD m 0) * 65536 ^ m = (c + D.getD m 0) % 65536 * 65536 ^ m + (c + D.getD m 0) / 65536 * 65536 ^ (m + 1) := by
    rw [Nat.pow_succ, Nat.mul_comm (65536 ^ m), ← Nat.mul_assoc, ← Nat.add_mul]
    congr 1
    omega
  rw [Nat.add_mul] at e
  generalize (c + D.getD m 0) % 65536 * 65536 ^ m = u at *
  generalize (c + D.getD m 0) / 65536 * 65536 ^ (m + 1) = v at *
  omega
theorem carry_end (D : List Nat) (c m T : Nat) (hT : dval D + c * 65536 ^ m = T) (h : c = 0 ∨ 8 ≤ m) (hlt : T < 65536 ^ 8) : dval D = T := by
  rcases h with rfl | h
  · omega
  · by_cases hc : c = 0
    · subst hc; omega
    · exfalso
      have h1 : (65536 : Nat) ^ 8 ≤ 65536 ^ m := Nat.pow_le_pow_right (by decide) h
      have h2 : 1 * 65536 ^ m ≤ c * 65536 ^ m := Nat.mul_le_mul_right _ (by omega)
      omega
/-- The bits from b on, n of them. -/
def bitsOf (v b n : Nat) : Nat := v / 2 ^ b % 2 ^ n
theorem bitsOf_zero (v b : Nat) : bitsOf v b 0 = 0 := by simp [bitsOf, Nat.mod_one]
theorem bitsOf_lt (v b n : Nat) : bitsOf v b n < 2 ^ n := Nat.mod_lt _ (Nat.two_pow_pos n)
theorem bitsOf_yes (v b n : Nat) (h : v.testBit (n + b) = true) : bitsOf v b n ||| 2 ^ n = bitsOf v b (n + 1) := by
  unfold bitsOf
  apply Nat.eq_of_testBit_eq
  intro i
  rw [Nat.testBit_or, Nat.testBit_mod_two_pow, Nat.testBit_mod_two_pow, Nat.testBit_div_two_pow, Nat.testBit_two_pow]
  by_cases hi : n = i
  · subst hi
    simp [h]
  · have : decide (i < n + 1) = decide (i < n) := by rw [decide_eq_decide]; omega
    simp [hi, this]
theorem bitsOf_no (v b n : Nat) (h : v.testBit (n + b) = false) : bitsOf v b n = bitsOf v b (n + 1) := by
  unfold bitsOf
  apply Nat.eq_of_testBit_eq
  intro i
  rw [Nat.testBit_mod_two_pow, Nat.testBit_mod_two_pow, Nat.testBit_div_two_pow]
  by_cases hi : n = i
  · subst hi
    simp [h]
  · have : decide (i < n + 1) = decide (i < n) := by rw [decide_eq_decide]; omega
    rw [this]
theorem bitsOf_64 (v b : Nat) (h : v / 2 ^ b < 18446744073709551616) : bitsOf v b 64 = v / 2 ^ b := Nat.mod_eq_of_lt h
end Go.Proofs.Ytkodabhkhifggaa
