/- Plain arithmetic of powers of two and of the buckets that they bound, with no Go in sight. Its conditions: powers below 2^63, times below 2^63, where that is said. -/
import Derived.Lib.BitFns
import Derived.RowKit
import Derived.IntWalk
namespace Go.Proofs.Ytglbkhomjfmlmaa
open Go.RowKit

def p2 (n : Nat) : Int := 2 ^ n
theorem p2_zero : p2 0 = 1 := rfl
theorem p2_succ (n : Nat) : p2 (n + 1) = p2 n * 2 := by unfold p2; exact Int.pow_succ 2 n
theorem p2_pos (n : Nat) : 1 ≤ p2 n := by
  induction n with
  | zero => simp [p2]
  | succ n ih => rw [p2_succ]; omega
theorem p2_mono {m n : Nat} (h : m ≤ n) : p2 m ≤ p2 n := by
  induction h with
  | refl => omega
  | step _ ih => rename_i k _; have := p2_succ k; have := p2_pos k; show p2 m ≤ p2 (k + 1); omega
theorem p2_62 : p2 62 = 4611686018427387904 := by decide
theorem p2_61 : p2 61 = 2305843009213693952 := by decide
theorem p2_le62 {n : Nat} (h : n ≤ 62) : p2 n ≤ 4611686018427387904 := by rw [← p2_62]; exact p2_mono h
theorem p2_le61 {n : Nat} (h : n ≤ 61) : p2 n ≤ 2305843009213693952 := by rw [← p2_61]; exact p2_mono h
theorem wrap_p2 {n : Nat} (h : n ≤ 62) : wrap64 (2 ^ n) = p2 n := by
  have h1 := p2_le62 h
  have h2 := p2_pos n
  show wrap64 (p2 n) = p2 n
  unfold wrap64
  omega
theorem p2_nat (n : Nat) : p2 n = ((2 ^ n : Nat) : Int) := by unfold p2; simp

def edLoN : Nat → Int
  | 0 => 0
  | n + 1 => p2 n
def edHiN : Nat → Int
  | 0 => 0
  | n + 1 => p2 n + (p2 n - 1)

theorem bitLen_zero : Lib.bitLen 0 = 0 := by decide
theorem bitLen_range (x : Nat) : x ≠ 0 → x < 9223372036854775808 → ∃ m, Lib.bitLen x = m + 1 ∧ m ≤ 62 ∧ 2 ^ m ≤ x ∧ x < 2 ^ (m + 1) := by
  induction x using Nat.strongRecOn with
  | _ x ih =>
    intro h0 h1
    have hh := Lib.bitLen_half x h0 (by omega)
    by_cases hx : x = 1
    · subst hx
      exact ⟨0, by rw [hh]; decide, by omega, by omega, by omega⟩
    · obtain ⟨m, e, hm, l, r⟩ := ih (x / 2) (by omega) (by omega) (by omega)
      have hp1 : 2 ^ (m + 1) = 2 ^ m * 2 := Nat.pow_succ _ _
      have hp2 : 2 ^ (m + 1 + 1) = 2 ^ (m + 1) * 2 := Nat.pow_succ _ _
      refine ⟨m + 1, by rw [hh, e]; omega, ?_, by omega, by omega⟩
      by_cases hc : m + 1 ≤ 62
      · exact hc
      · obtain rfl : m = 62 := by omega
        have : (2 : Nat) ^ 62 = 4611686018427387904 := by decide
        omega

/-- The bucket of a time, that it is one of the 64, that the time lies in its edges, and behind those of all below it. -/
theorem bucket_facts (d : Int) (h0 : 0 ≤ d) (h1 : d < 9223372036854775808) :
    Lib.bitLen d.toNat ≤ 63 ∧ edLoN (Lib.bitLen d.toNat) ≤ d ∧ d ≤ edHiN (Lib.bitLen d.toNat) ∧ ∀ k, k < Lib.bitLen d.toNat → edHiN k < d := by
  by_cases hz : d = 0
  · subst hz
    rw [show (0 : Int).toNat = 0 from rfl, bitLen_zero]
    exact ⟨by omega, by simp [edLoN], by simp [edHiN], fun k hk => absurd hk (by omega)⟩
  · obtain ⟨m, e, hm, l, r⟩ := bitLen_range d.toNat (by omega) (by omega)
    rw [e]
    have l' : p2 m ≤ d := by rw [p2_nat]; omega
    have r' : d < p2 (m + 1) := by rw [p2_nat]; omega
    have hs := p2_succ m
    refine ⟨by omega, l', by simp only [edHiN]; omega, fun k hk => ?_⟩
    cases k with
    | zero => simp only [edHiN]; omega
    | succ j =>
      have h3 := p2_succ j
      have h4 := p2_mono (show j + 1 ≤ m by omega)
      simp only [edHiN]
      omega
theorem ed_bounds (k : Nat) (h : k ≤ 63) : 0 ≤ edLoN k ∧ edLoN k ≤ 4611686018427387904 ∧ 0 ≤ edHiN k ∧ edHiN k ≤ 9223372036854775807 := by
  cases k with
  | zero => simp [edLoN, edHiN]
  | succ n =>
    have h1 := p2_le62 (show n ≤ 62 by omega)
    have h2 := p2_pos n
    simp only [edLoN, edHiN]
    omega
end Go.Proofs.Ytglbkhomjfmlmaa
