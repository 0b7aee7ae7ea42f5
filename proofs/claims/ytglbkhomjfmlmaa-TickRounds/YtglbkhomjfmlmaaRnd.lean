/- Plain arithmetic of rounding to powers of two and of doubling up to a bound, with no Go in sight. -/
import Derived.Test.YtglbkhomjfmlmaaPow
import Derived.Laws.BitsAll
namespace Go.Proofs.Ytglbkhomjfmlmaa
open Go.RowKit

theorem andNot_nat (a n : Nat) (hn : n ≤ 62) (ha : a < 9223372036854775808) :
    bits .andNot .i64 (a : Int) (p2 n - 1) = (a : Int) - (a : Int) % p2 n := by
  have hpos : 0 < 2 ^ n := Nat.two_pow_pos n
  have hle : 2 ^ n ≤ 4611686018427387904 := by
    have := Nat.pow_le_pow_right (n := 2) (by decide) hn
    exact this
  have e1 : p2 n - 1 = ((2 ^ n - 1 : Nat) : Int) := by rw [p2_nat]; omega
  have key : (BitVec.ofInt 64 (a : Int) &&& ~~~ BitVec.ofInt 64 ((2 ^ n - 1 : Nat) : Int)).toNat = a / 2 ^ n * 2 ^ n := by
    apply Nat.eq_of_testBit_eq
    intro i
    rw [BitVec.testBit_toNat, BitVec.getLsbD_and, BitVec.getLsbD_not, BitVec.ofInt_natCast, BitVec.ofInt_natCast, BitVec.getLsbD_ofNat, BitVec.getLsbD_ofNat, Nat.testBit_two_pow_sub_one, Nat.mul_comm, Nat.testBit_two_pow_mul, Nat.testBit_div_two_pow]
    by_cases hi : i < 64
    · by_cases h : n ≤ i
      · have : i - n + n = i := by omega
        simp [hi, h, this]
      · simp [h]; omega
    · have hb : a.testBit i = false := by
        apply Nat.testBit_lt_two_pow
        have := Nat.pow_le_pow_right (n := 2) (by decide) (show 64 ≤ i by omega)
        omega
      by_cases h : n ≤ i
      · have : i - n + n = i := by omega
        simp [hi, this, hb]
      · simp [hi, h]
  rw [e1]
  show IntKind.i64.wrap ((BitVec.ofInt 64 (a : Int) &&& ~~~ BitVec.ofInt 64 ((2 ^ n - 1 : Nat) : Int)).toNat : Int) = _
  rw [key, p2_nat]
  have hd : a / 2 ^ n * 2 ^ n + a % 2 ^ n = a := Nat.div_add_mod' a (2 ^ n)
  have hm : ((a : Int) % ((2 ^ n : Nat) : Int)) = ((a % 2 ^ n : Nat) : Int) := (Int.natCast_emod a (2 ^ n)).symm
  rw [hm, IntKind.wrap_i64]
  generalize a / 2 ^ n * 2 ^ n = q at *
  generalize a % 2 ^ n = r at *
  omega

def dn (t : Int) (n : Nat) : Int := t - t % p2 n
def up (t : Int) (n : Nat) : Int := dn (t + (p2 n - 1)) n
theorem andNot_dn (t : Int) (n : Nat) (hn : n ≤ 62) (h0 : 0 ≤ t) (h1 : t < 9223372036854775808) : bits .andNot .i64 t (p2 n - 1) = dn t n := by
  obtain ⟨a, rfl⟩ := Int.eq_ofNat_of_zero_le h0
  exact andNot_nat a n hn (by omega)
theorem dn_bounds (t : Int) (n : Nat) (h0 : 0 ≤ t) : 0 ≤ dn t n ∧ dn t n ≤ t ∧ t < dn t n + p2 n ∧ (dn t n = t ↔ t % p2 n = 0) := by
  have hp := p2_pos n
  have h1 := Int.emod_nonneg t (show p2 n ≠ 0 by omega)
  have h2 := Int.emod_lt_of_pos t (show 0 < p2 n by omega)
  have h3 := Int.mul_ediv_add_emod t (p2 n)
  have h4 := Int.mul_nonneg (show 0 ≤ p2 n by omega) (Int.ediv_nonneg h0 (show 0 ≤ p2 n by omega))
  unfold dn
  omega
theorem up_same (t : Int) (n : Nat) (h : dn t n = t) : up t n = t := by
  have hp := p2_pos n
  have hr : t % p2 n = 0 := by unfold dn at h; omega
  have e : (t + (p2 n - 1)) % p2 n = p2 n - 1 := by
    rw [Int.add_emod, hr, Int.zero_add, Int.emod_emod_of_dvd _ (Int.dvd_refl _)]
    exact Int.emod_eq_of_lt (by omega) (by omega)
  unfold up dn
  rw [e]
  omega
theorem up_next (t : Int) (n : Nat) (h : dn t n ≠ t) : up t n = dn t n + p2 n := by
  have hp := p2_pos n
  have h1 := Int.emod_nonneg t (show p2 n ≠ 0 by omega)
  have h2 := Int.emod_lt_of_pos t (show 0 < p2 n by omega)
  have hr : t % p2 n ≠ 0 := by unfold dn at h; omega
  have hq := Int.mul_ediv_add_emod t (p2 n)
  have e : (t + (p2 n - 1)) % p2 n = t % p2 n - 1 := by
    have : t + (p2 n - 1) = (t % p2 n - 1) + p2 n * (t / p2 n + 1) := by rw [Int.mul_add]; omega
    rw [this, Int.add_mul_emod_self_left]
    exact Int.emod_eq_of_lt (by omega) (by omega)
  unfold up
  unfold dn
  rw [e]
  omega

def dbl (d : Int) (n : Nat) (most : Int) : Int := if most < d * p2 n then most else d * p2 n
theorem dbl_most {d most : Int} {n : Nat} (h : most < d * p2 n) : dbl d n most = most := by unfold dbl; rw [if_pos h]
theorem dbl_times {d most : Int} {n : Nat} (h : ¬ most < d * p2 n) : dbl d n most = d * p2 n := by unfold dbl; rw [if_neg h]
theorem dbl_zero (n : Nat) (most : Int) (h : 0 ≤ most) : dbl 0 n most = 0 := by unfold dbl; simp; omega
theorem shr_iff (d most : Int) (n : Nat) : most / 2 ^ n < d ↔ most < d * p2 n := by
  have := p2_pos n
  exact Int.ediv_lt_iff_lt_mul (show 0 < p2 n by omega)
theorem mul_mono {d : Int} (h : 0 ≤ d) {m n : Nat} (hm : m ≤ n) : d * p2 m ≤ d * p2 n := Int.mul_le_mul_of_nonneg_left (p2_mono hm) h
theorem p2_64 : p2 64 = 18446744073709551616 := by decide
theorem great {d most : Int} (h : 1 ≤ d) {n : Nat} (hn : 64 ≤ n) (hm : most < 9223372036854775808) : most < d * p2 n := by
  have h1 := mul_mono (show (0 : Int) ≤ d by omega) hn
  rw [p2_64] at h1
  omega
theorem wrap_small {z most : Int} (h0 : 0 ≤ z) (h : z ≤ most) (hm : most < 9223372036854775808) : wrap64 z = z := by unfold wrap64; omega
end Go.Proofs.Ytglbkhomjfmlmaa
