/- The program's Part and Fold, the library's Mul64, and the document's Part, High and Fold, each answer the same plain numbers, of every number; the world stays as it was. -/
import Derived.Test.YtglbkhomjfmlmaaHigh
import Derived.Test.YtglbkhomjfmlmaaAge
import Derived.Test.YtglbkhomjfmlmaaMix
namespace Go.Proofs.Ytglbkhomjfmlmaa
open Go.ChangeShapes Go.WideShapes Go.ChangeAt Go.RowKit

theorem mul42 (x y : Int) (hx0 : 0 ≤ x) (hx : x < 18446744073709551616) (hy0 : 0 ≤ y) (hy : y < 18446744073709551616) (w : World) :
    Calls Try.prog 42 #[.int .u64 x, .int .u64 y] w fun e w' => (∃ lo, e = .returned (.tuple #[.int .u64 (x * y / 18446744073709551616), .int .u64 lo])) ∧ w' = w := by
  have hf := mul_form x y hx0 hx hy0 hy
  have HF : Hid (_ = x * y / 18446744073709551616) := hf
  clear hf
  go_enter Try.func42, Try.ntmps42
  go_wp2
  go_ret2
  exact ⟨⟨_, ret2 HF.out rfl⟩, rfl⟩
theorem high43 (x y : Int) (hx0 : 0 ≤ x) (hx : x < 18446744073709551616) (hy0 : 0 ≤ y) (hy : y < 18446744073709551616) (w : World) :
    Calls Try.prog 43 #[.int .u64 x, .int .u64 y] w fun e w' => e = .returned (.int .u64 (x * y / 18446744073709551616)) ∧ w' = w := by
  have hf := high_form x y hx0 hx hy0 hy
  have HF : Hid (_ = x * y / 18446744073709551616) := hf
  clear hf
  go_enter Try.func43, Try.ntmps43
  go_wp2
  go_ret
  exact ⟨ret_int HF.out, rfl⟩

def partOf (x p : Int) : Int := if 1 ≤ p then x * p / 18446744073709551616 else 0
def partErr (p : Int) : Int := if 1 ≤ p then 0 else 1
theorem part34 (x p : Int) (hx0 : 0 ≤ x) (hx : x < 18446744073709551616) (hp : p < 9223372036854775808) (w : World) :
    Calls Try.prog 34 #[.int .u64 x, .int .i64 p] w fun e w' => e = .returned (.tuple #[.int .i64 (partOf x p), .int .i64 (partErr p)]) ∧ w' = w := by
  by_cases h : p < 1
  · rw [show partOf x p = 0 from by unfold partOf; rw [if_neg (by omega)], show partErr p = 1 from by unfold partErr; rw [if_neg (by omega)]]
    go_enter Try.func34, Try.ntmps34
    go_wp2
    go_ret2
    exact ⟨rfl, rfl⟩
  · rw [show partOf x p = x * p / 18446744073709551616 from by unfold partOf; rw [if_pos (by omega)], show partErr p = 0 from by unfold partErr; rw [if_pos (by omega)]]
    obtain ⟨c1, c2⟩ := part_lt x p hx0 hx (by omega)
    have M := mul42 x p hx0 hx (by omega) (by omega) w
    generalize x * p / 18446744073709551616 = q at *
    have hp1 : 1 ≤ p := by omega
    clear h
    go_enter Try.func34, Try.ntmps34
    go_wp2_with (go_at_call 42; refine M.mono ?_; rintro e w' ⟨⟨lo, rfl⟩, rfl⟩)
    go_ret2
    exact ⟨rfl, rfl⟩
theorem part35 (x p : Int) (hx0 : 0 ≤ x) (hx : x < 18446744073709551616) (hp : p < 9223372036854775808) (w : World) :
    Calls Try.prog 35 #[.int .u64 x, .int .i64 p] w fun e w' => e = .returned (.tuple #[.int .i64 (partOf x p), .int .i64 (partErr p)]) ∧ w' = w := by
  by_cases h : p < 1
  · rw [show partOf x p = 0 from by unfold partOf; rw [if_neg (by omega)], show partErr p = 1 from by unfold partErr; rw [if_neg (by omega)]]
    go_enter Try.func35, Try.ntmps35
    go_wp2
    go_ret2
    exact ⟨rfl, rfl⟩
  · rw [show partOf x p = x * p / 18446744073709551616 from by unfold partOf; rw [if_pos (by omega)], show partErr p = 0 from by unfold partErr; rw [if_pos (by omega)]]
    obtain ⟨c1, c2⟩ := part_lt x p hx0 hx (by omega)
    have M := high43 x p hx0 hx (by omega) (by omega) w
    generalize x * p / 18446744073709551616 = q at *
    have hp1 : 1 ≤ p := by omega
    clear h
    go_enter Try.func35, Try.ntmps35
    go_wp2_with (go_at_call 43; refine M.mono ?_; rintro e w' ⟨rfl, rfl⟩)
    go_ret2
    exact ⟨rfl, rfl⟩

theorem fold36_lt (x n : Nat) (hx : x < 18446744073709551616) (h1 : 1 ≤ n) (h2 : n < 64) (w : World) :
    Calls Try.prog 36 #[.int .u64 x, .int .i64 (n : Int)] w fun e w' => e = .returned (.tuple #[.int .u64 (foldG x n 64 : Nat), .int .i64 0]) ∧ w' = w := by
  have hs := stretch_lt h2
  go_enter Try.func36, Try.ntmps36
  go_wp2
  go_loop [0, 7] (fun a f => ∃ j X F : Nat, a = .int .u64 X ∧ f = .int .u64 F ∧ X < 18446744073709551616 ∧ F < 18446744073709551616 ∧ Hid (X = x / 2 ^ (j * n)) ∧ Hid (F = foldG x n (j * n))) (fun a _ => (intOf a).toNat)
  case atStart => exact ⟨0, x, 0, rfl, rfl, hx, by omega, by show x = x / 2 ^ (0 * n); simp, by show 0 = foldG x n (0 * n); simp [foldG]⟩
  case round =>
    obtain ⟨j, X, F, rfl, rfl, hX, hF, HX, HF⟩ := hrel
    have g1 : (X : Int) < 18446744073709551616 := by omega
    by_cases h : X = 0
    · subst h
      have hr : Hid (F = foldG x n 64) := by show _ = _; rw [HF.out]; exact foldG_all x n (j * n) hx HX.out.symm
      go_wp2
      go_ret2
      exact ⟨ret2 (by rw [hr.out]) rfl, rfl⟩
    · have h' : ((X : Int) != 0) = true := by simp; omega
      have st : Hid (_ = ((F ^^^ X % 2 ^ n : Nat) : Int)) := fold_step X F n (by omega) hX hF
      go_wp2
      go_round
      case rel =>
        refine ⟨j + 1, X / 2 ^ n, F ^^^ X % 2 ^ n, by rw [div_cast], congrArg _ st.out, ?_, ?_, ?_, ?_⟩
        · have := Nat.div_le_self X (2 ^ n); omega
        · exact Nat.xor_lt_two_pow (n := 64) hF (by have := Nat.mod_lt X (Nat.two_pow_pos n); have := two_pow_le (show n ≤ 64 by omega); omega)
        · show X / 2 ^ n = _; rw [HX.out, div_next]
        · show F ^^^ X % 2 ^ n = _; rw [foldG_round, HF.out, HX.out]
      case measure =>
        have : X / 2 ^ n < X := Nat.div_lt_self (by omega) (Nat.one_lt_two_pow (by omega))
        rw [div_cast]
        simpa only [intOf, Int.toNat_natCast] using this
theorem fold36_64 (x : Nat) (hx : x < 18446744073709551616) (w : World) :
    Calls Try.prog 36 #[.int .u64 x, .int .i64 64] w fun e w' => e = .returned (.tuple #[.int .u64 (foldG x 64 64 : Nat), .int .i64 0]) ∧ w' = w := by
  have hs := stretch_64
  go_enter Try.func36, Try.ntmps36
  go_wp2
  go_loop [0, 7] (fun a f => ∃ j X F : Nat, a = .int .u64 X ∧ f = .int .u64 F ∧ X < 18446744073709551616 ∧ F < 18446744073709551616 ∧ Hid (X = x / 2 ^ (j * 64)) ∧ Hid (F = foldG x 64 (j * 64))) (fun a _ => (intOf a).toNat)
  case atStart => exact ⟨0, x, 0, rfl, rfl, hx, by omega, by show x = x / 2 ^ (0 * 64); simp, by show 0 = foldG x 64 (0 * 64); simp [foldG]⟩
  case round =>
    obtain ⟨j, X, F, rfl, rfl, hX, hF, HX, HF⟩ := hrel
    have g1 : (X : Int) < 18446744073709551616 := by omega
    by_cases h : X = 0
    · subst h
      have hr : Hid (F = foldG x 64 64) := by show _ = _; rw [HF.out]; exact foldG_all x 64 (j * 64) hx HX.out.symm
      go_wp2
      go_ret2
      exact ⟨ret2 (by rw [hr.out]) rfl, rfl⟩
    · have h' : ((X : Int) != 0) = true := by simp; omega
      have st : Hid (_ = ((F ^^^ X % 2 ^ 64 : Nat) : Int)) := fold_step X F 64 (by omega) hX hF
      go_wp2
      go_round
      case rel =>
        refine ⟨j + 1, X / 2 ^ 64, F ^^^ X % 2 ^ 64, ?_, congrArg _ st.out, ?_, ?_, ?_, ?_⟩
        · rw [pow_64]; rfl
        · have := Nat.div_le_self X (2 ^ 64); omega
        · exact Nat.xor_lt_two_pow (n := 64) hF (Nat.mod_lt X (Nat.two_pow_pos 64))
        · show X / 2 ^ 64 = _; rw [HX.out, div_next]
        · show F ^^^ X % 2 ^ 64 = _; rw [foldG_round, HF.out, HX.out]
      case measure => simp [intOf]; omega

theorem fold37_yes (x n : Nat) (h1 : 1 ≤ n) (h2 : n ≤ 64) (w : World) :
    Calls Try.prog 37 #[.int .u64 x, .int .i64 (n : Int)] w fun e w' => e = .returned (.tuple #[.int .u64 (foldG x n 64 : Nat), .int .i64 0]) ∧ w' = w := by
  have h3 : ¬ (n : Int) < 1 := by omega
  have h4 : ¬ 64 < (n : Int) := by omega
  go_enter Try.func37, Try.ntmps37
  go_wp2
  go_loop [6, 7] (fun f i => ∃ k F : Nat, k ≤ 64 ∧ i = .int .i64 (k : Int) ∧ f = .int .u64 F ∧ F < 18446744073709551616 ∧ Hid (F = foldG x n k)) (fun _ i => 64 - (intOf i).toNat)
  case atStart => exact ⟨0, 0, by omega, rfl, rfl, by omega, rfl⟩
  case round =>
    obtain ⟨k, F, hk, rfl, rfl, hF, HF⟩ := hrel
    by_cases h : k < 64
    · have hb := bit_test x k
      have st : Hid (_ = ((F ^^^ 2 ^ (k % n) : Nat) : Int)) := ref_step F k n h1 h2 hF
      cases hc : x.testBit k with
      | true =>
        rw [hc] at hb
        have nx : Hid (F ^^^ 2 ^ (k % n) = foldG x n (k + 1)) := by show _ = _; rw [HF.out]; simp [foldG, hc]
        clear hc
        go_wp2
        go_round
        case rel =>
          refine ⟨k + 1, F ^^^ 2 ^ (k % n), by omega, by go_num, congrArg _ st.out, ?_, nx.out⟩
          rw [nx.out]
          exact foldG_lt x n (k + 1) h1 h2
        case measure => simp [intOf]; omega
      | false =>
        rw [hc] at hb
        have nx : Hid (F = foldG x n (k + 1)) := by show _ = _; rw [HF.out]; simp [foldG, hc]
        clear hc
        go_wp2
        go_round
        case rel => exact ⟨k + 1, F, by omega, by go_num, rfl, hF, nx.out⟩
        case measure => simp [intOf]; omega
    · obtain rfl : k = 64 := by omega
      go_wp2
      go_ret2
      exact ⟨ret2 (by rw [HF.out]) rfl, rfl⟩

def foldIn (b : Int) : Bool := decide (1 ≤ b ∧ b ≤ 64)
def foldOf (x : Nat) (b : Int) : Int := if foldIn b then ((foldG x b.toNat 64 : Nat) : Int) else 0
def foldErr (b : Int) : Int := if foldIn b then 0 else 12
theorem fold_no {b : Int} (x : Nat) (h : b < 1 ∨ 64 < b) : foldOf x b = 0 ∧ foldErr b = 12 := by
  have e : foldIn b = false := by simp [foldIn]; omega
  simp [foldOf, foldErr, e]
theorem fold_yes {n : Nat} (x : Nat) (h1 : 1 ≤ n) (h2 : n ≤ 64) : foldOf x (n : Int) = ((foldG x n 64 : Nat) : Int) ∧ foldErr (n : Int) = 0 := by
  have e : foldIn (n : Int) = true := by simp [foldIn]; omega
  simp [foldOf, foldErr, e]
theorem fold36_no (x : Nat) (b : Int) (h : b < 1 ∨ 64 < b) (w : World) :
    Calls Try.prog 36 #[.int .u64 x, .int .i64 b] w fun e w' => e = .returned (.tuple #[.int .u64 0, .int .i64 12]) ∧ w' = w := by
  rcases h with h | h
  · go_enter Try.func36, Try.ntmps36
    go_wp2
    go_ret2
    exact ⟨rfl, rfl⟩
  · have h' : ¬ b < 1 := by omega
    go_enter Try.func36, Try.ntmps36
    go_wp2
    go_ret2
    exact ⟨rfl, rfl⟩
theorem fold37_no (x : Nat) (b : Int) (h : b < 1 ∨ 64 < b) (w : World) :
    Calls Try.prog 37 #[.int .u64 x, .int .i64 b] w fun e w' => e = .returned (.tuple #[.int .u64 0, .int .i64 12]) ∧ w' = w := by
  rcases h with h | h
  · go_enter Try.func37, Try.ntmps37
    go_wp2
    go_ret2
    exact ⟨rfl, rfl⟩
  · have h' : ¬ b < 1 := by omega
    go_enter Try.func37, Try.ntmps37
    go_wp2
    go_ret2
    exact ⟨rfl, rfl⟩
theorem fold36 (x : Nat) (b : Int) (hx : x < 18446744073709551616) (w : World) :
    Calls Try.prog 36 #[.int .u64 x, .int .i64 b] w fun e w' => e = .returned (.tuple #[.int .u64 (foldOf x b), .int .i64 (foldErr b)]) ∧ w' = w := by
  by_cases h : b < 1 ∨ 64 < b
  · obtain ⟨e1, e2⟩ := fold_no x h
    rw [e1, e2]
    exact fold36_no x b h w
  · obtain ⟨n, rfl⟩ := Int.eq_ofNat_of_zero_le (show 0 ≤ b by omega)
    obtain ⟨e1, e2⟩ := fold_yes (n := n) x (by omega) (by omega)
    rw [e1, e2]
    by_cases h64 : n < 64
    · exact fold36_lt x n hx (by omega) h64 w
    · obtain rfl : n = 64 := by omega
      exact fold36_64 x hx w
theorem fold37 (x : Nat) (b : Int) (w : World) :
    Calls Try.prog 37 #[.int .u64 x, .int .i64 b] w fun e w' => e = .returned (.tuple #[.int .u64 (foldOf x b), .int .i64 (foldErr b)]) ∧ w' = w := by
  by_cases h : b < 1 ∨ 64 < b
  · obtain ⟨e1, e2⟩ := fold_no x h
    rw [e1, e2]
    exact fold37_no x b h w
  · obtain ⟨n, rfl⟩ := Int.eq_ofNat_of_zero_le (show 0 ≤ b by omega)
    obtain ⟨e1, e2⟩ := fold_yes (n := n) x (by omega) (by omega)
    rw [e1, e2]
    exact fold37_yes x n (by omega) (by omega) w
theorem part_end (x p : Int) (hx0 : 0 ≤ x) (hx : x < 18446744073709551616) : (partErr p = 1) ∨ (partErr p = 0 ∧ 0 ≤ partOf x p ∧ partOf x p < p) := by
  unfold partErr partOf
  by_cases h : 1 ≤ p
  · obtain ⟨c1, c2⟩ := part_lt x p hx0 hx h
    rw [if_pos h, if_pos h]
    exact .inr ⟨rfl, c1, c2⟩
  · rw [if_neg h]
    exact .inl rfl
end Go.Proofs.Ytglbkhomjfmlmaa
