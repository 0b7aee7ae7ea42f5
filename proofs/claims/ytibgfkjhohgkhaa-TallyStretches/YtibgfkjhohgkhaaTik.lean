/- Ticks: edges, buckets, ages, rounding, and the library's bits.Len64 and bits.Mul64, as plain numbers; the world stays as it was. -/
import Derived.Test.YtibgfkjhohgkhaaBas
import Derived.Lib.BitFns
import Derived.IntWalk
import Derived.Laws.BitsAll
import Derived.Laws.MathBits
import Derived.Laws.Bits64b
namespace Go.Proofs.Ytibgfkjhohgkhaa.Ti
open Go.ChangeShapes Go.WideShapes Go.ChangeAt Go.RowKit
set_option linter.unusedVariables false
def p2 (n : Nat) : Int := 2 ^ n
theorem p2_zero : p2 0 = 1 := rfl
theorem p2_succ (n : Nat) : p2 (n + 1) = p2 n * 2 := by unfold p2; exact Int.pow_succ 2 n
theorem p2_pos (n : Nat) : 1 ≤ p2 n := by
  induction n with
  | zero => simp [p2]
  | succ n ih => rw [p2_succ]; omega
theorem p2_mono {m n : Nat} (h : m ≤ n) : p2 m ≤ p2 n := by
  induction h with
  | refl => omega
  | step _ ih => rename_i k _; have := p2_succ k; have := p2_pos k; show p2 m ≤ p2 (k + 1); omega
theorem p2_62 : p2 62 = 4611686018427387904 := by decide
theorem p2_61 : p2 61 = 2305843009213693952 := by decide
theorem p2_le62 {n : Nat} (h : n ≤ 62) : p2 n ≤ 4611686018427387904 := by rw [← p2_62]; exact p2_mono h
theorem p2_le61 {n : Nat} (h : n ≤ 61) : p2 n ≤ 2305843009213693952 := by rw [← p2_61]; exact p2_mono h
theorem wrap_p2 {n : Nat} (h : n ≤ 62) : wrap64 (2 ^ n) = p2 n := by
  have h1 := p2_le62 h
  have h2 := p2_pos n
  show wrap64 (p2 n) = p2 n
  unfold wrap64
  omega
theorem p2_nat (n : Nat) : p2 n = ((2 ^ n : Nat) : Int) := by unfold p2; simp
def edLoN : Nat → Int
  | 0 => 0
  | n + 1 => p2 n
def edHiN : Nat → Int
  | 0 => 0
  | n + 1 => p2 n + (p2 n - 1)
theorem bitLen_zero : Lib.bitLen 0 = 0 := by decide
theorem bitLen_range (x : Nat) : x ≠ 0 → x < 9223372036854775808 → ∃ m, Lib.bitLen x = m + 1 ∧ m ≤ 62 ∧ 2 ^ m ≤ x ∧ x < 2 ^ (m + 1) := by
  induction x using Nat.strongRecOn with
  | _ x ih =>
    intro h0 h1
    have hh := Lib.bitLen_half x h0 (by omega)
    by_cases hx : x = 1
    · subst hx
      exact ⟨0, by rw [hh]; decide, by omega, by omega, by omega⟩
    · obtain ⟨m, e, hm, l, r⟩ := ih (x / 2) (by omega) (by omega) (by omega)
      have hp1 : 2 ^ (m + 1) = 2 ^ m * 2 := Nat.pow_succ _ _
      have hp2 : 2 ^ (m + 1 + 1) = 2 ^ (m + 1) * 2 := Nat.pow_succ _ _
      refine ⟨m + 1, by rw [hh, e]; omega, ?_, by omega, by omega⟩
      by_cases hc : m + 1 ≤ 62
      · exact hc
      · obtain rfl : m = 62 := by omega
        have : (2 : Nat) ^ 62 = 4611686018427387904 := by decide
        omega
/-- The bucket of a time, that it is one of the 64, that the time lies in its edges, and behind those of all below it. -/
theorem bucket_facts (d : Int) (h0 : 0 ≤ d) (h1 : d < 9223372036854775808) :
    Lib.bitLen d.toNat ≤ 63 ∧ edLoN (Lib.bitLen d.toNat) ≤ d ∧ d ≤ edHiN (Lib.bitLen d.toNat) ∧ ∀ k, k < Lib.bitLen d.toNat → edHiN k < d := by
  by_cases hz : d = 0
  · subst hz
    rw [show (0 : Int).toNat = 0 from rfl, bitLen_zero]
    exact ⟨by omega, by simp [edLoN], by simp [edHiN], fun k hk => absurd hk (by omega)⟩
  · obtain ⟨m, e, hm, l, r⟩ := bitLen_range d.toNat (by omega) (by omega)
    rw [e]
    have l' : p2 m ≤ d := by rw [p2_nat]; omega
    have r' : d < p2 (m + 1) := by rw [p2_nat]; omega
    have hs := p2_succ m
    refine ⟨by omega, l', by simp only [edHiN]; omega, fun k hk => ?_⟩
    cases k with
    | zero => simp only [edHiN]; omega
    | succ j =>
      have h3 := p2_succ j
      have h4 := p2_mono (show j + 1 ≤ m by omega)
      simp only [edHiN]
      omega
theorem ed_bounds (k : Nat) (h : k ≤ 63) : 0 ≤ edLoN k ∧ edLoN k ≤ 4611686018427387904 ∧ 0 ≤ edHiN k ∧ edHiN k ≤ 9223372036854775807 := by
  cases k with
  | zero => simp [edLoN, edHiN]
  | succ n =>
    have h1 := p2_le62 (show n ≤ 62 by omega)
    have h2 := p2_pos n
    simp only [edLoN, edHiN]
    omega
def isT (t : Int) : Bool := decide (0 ≤ t ∧ t ≤ 4611686018427387904)
def ageOf (now at' : Int) : Int := if isT now && isT at' && decide (at' ≤ now) then now - at' else 0
def ageErr (now at' : Int) : Int := if isT now && isT at' then (if at' ≤ now then 0 else 1) else 10
theorem isT_yes {t : Int} (h : isT t = true) : 0 ≤ t ∧ t ≤ 4611686018427387904 := by simpa [isT] using h
theorem ret2 {k1 k2 : IntKind} {a b a' b' : Int} (h1 : a = a') (h2 : b = b') :
    Ending.returned (.tuple #[.int k1 a, .int k2 b]) = .returned (.tuple #[.int k1 a', .int k2 b']) := by rw [h1, h2]
theorem ret2b {k2 : IntKind} {a a' : Bool} {b b' : Int} (h1 : a = a') (h2 : b = b') :
    Ending.returned (.tuple #[.bool a, .int k2 b]) = .returned (.tuple #[.bool a', .int k2 b']) := by rw [h1, h2]
theorem ret2i {k : IntKind} {a a' : Bool} {b b' : Int} (h1 : b = b') (h2 : a = a') :
    Ending.returned (.tuple #[.int k b, .bool a]) = .returned (.tuple #[.int k b', .bool a']) := by rw [h1, h2]
theorem ageOf_bounds (now at' : Int) : 0 ≤ ageOf now at' ∧ ageOf now at' ≤ 4611686018427387904 := by
  unfold ageOf
  split
  · rename_i h
    simp only [Bool.and_eq_true, decide_eq_true_eq] at h
    have := isT_yes h.1.1
    have := isT_yes h.1.2
    omega
  · omega
theorem is14 (t : Int) (w : World) : Calls Try.prog 53 #[.int .i64 t] w fun e w' => e = .returned (.bool (isT t)) ∧ w' = w := by
  by_cases h0 : 0 ≤ t
  · by_cases h1 : t ≤ 4611686018427387904
    · go_enter Try.func53, Try.ntmps53
      go_wp2
      go_ret
      exact ⟨by simp [isT, h0, h1], rfl⟩
    · go_enter Try.func53, Try.ntmps53
      go_wp2
      go_ret
      exact ⟨by simp [isT, h1], rfl⟩
  · have hn : isT t = false := by simp [isT]; omega
    rw [hn]
    go_enter Try.func53, Try.ntmps53
    go_wp2
    go_ret
    exact ⟨rfl, rfl⟩
theorem age9 (now at' : Int) (w : World) : Calls Try.prog 51 #[.int .i64 now, .int .i64 at'] w fun e w' => e = .returned (.tuple #[.int .i64 (ageOf now at'), .int .i64 (ageErr now at')]) ∧ w' = w := by
  cases h1 : isT now with
  | false =>
    rw [show ageOf now at' = 0 from by simp [ageOf, h1], show ageErr now at' = 10 from by simp [ageErr, h1]]
    go_enter Try.func51, Try.ntmps51
    go_wp2_with (go_at_call 53; refine (is14 _ _).mono ?_; rintro e w' ⟨rfl, rfl⟩)
    go_ret2
    exact ⟨rfl, rfl⟩
  | true =>
    cases h2 : isT at' with
    | false =>
      rw [show ageOf now at' = 0 from by simp [ageOf, h2], show ageErr now at' = 10 from by simp [ageErr, h2]]
      go_enter Try.func51, Try.ntmps51
      go_wp2_with (go_at_call 53; refine (is14 _ _).mono ?_; rintro e w' ⟨rfl, rfl⟩)
      go_ret2
      exact ⟨rfl, rfl⟩
    | true =>
      obtain ⟨b1, b2⟩ := isT_yes h1
      obtain ⟨b3, b4⟩ := isT_yes h2
      by_cases h3 : at' ≤ now
      · rw [show ageOf now at' = now - at' from by simp [ageOf, h1, h2, h3], show ageErr now at' = 0 from by simp [ageErr, h1, h2, h3]]
        go_enter Try.func51, Try.ntmps51
        go_wp2_with (go_at_call 53; refine (is14 _ _).mono ?_; rintro e w' ⟨rfl, rfl⟩)
        go_ret2
        exact ⟨rfl, rfl⟩
      · rw [show ageOf now at' = 0 from by simp [ageOf, h3], show ageErr now at' = 1 from by simp [ageErr, h1, h2, h3]]
        go_enter Try.func51, Try.ntmps51
        go_wp2_with (go_at_call 53; refine (is14 _ _).mono ?_; rintro e w' ⟨rfl, rfl⟩)
        go_ret2
        exact ⟨rfl, rfl⟩
theorem ret3 {k1 k2 k3 : IntKind} {a b c a' b' c' : Int} (h1 : a = a') (h2 : b = b') (h3 : c = c') :
    Ending.returned (.tuple #[.int k1 a, .int k2 b, .int k3 c]) = .returned (.tuple #[.int k1 a', .int k2 b', .int k3 c']) := by rw [h1, h2, h3]
theorem tab_get (y : Int) (h0 : 0 ≤ y) (h1 : y ≤ 255) (h : y.toNat < Lib.len8tab.size) : ((Lib.len8tab[y.toNat]'h).toNat : Int) = (Lib.bitLen y.toNat : Int) := by
  rw [← Lib.len8_of y h0 h1]
  unfold Lib.len8
  rw [getElem?_pos Lib.len8tab y.toNat h]
  rfl
theorem len_way (k : Nat) (x y : Int) (hk : k ≤ 56) (y0 : 0 ≤ y) (y1 : y ≤ 255) (b : Lib.bitLen x.toNat = k + Lib.bitLen y.toNat) (h : y.toNat < Lib.len8tab.size) :
    wrap64 ((k : Int) + wrap64 ((Lib.len8tab[y.toNat]'h).toNat : Int)) = (Lib.bitLen x.toNat : Int) := by
  rw [tab_get y y0 y1 h]
  have l := Lib.bitLen_le8' y y0 y1
  rw [b]
  generalize Lib.bitLen y.toNat = m at *
  unfold wrap64
  omega
theorem len_way0 (y : Int) (y0 : 0 ≤ y) (y1 : y ≤ 255) (h : y.toNat < Lib.len8tab.size) :
    wrap64 (wrap64 ((Lib.len8tab[y.toNat]'h).toNat : Int)) = (Lib.bitLen y.toNat : Int) := by
  rw [tab_get y y0 y1 h]
  have l := Lib.bitLen_le8' y y0 y1
  generalize Lib.bitLen y.toNat = m at *
  unfold wrap64
  omega
theorem sh56 (x : Int) (h0 : 0 ≤ x) (h1 : x ≤ 18446744073709551615) (h : 256 ≤ x / 4294967296 / 65536) : Lib.bitLen x.toNat = 56 + Lib.bitLen (x / 4294967296 / 65536 / 256).toNat := by
  rw [show (x / 4294967296 / 65536 / 256).toNat = x.toNat / 72057594037927936 by omega]; exact Lib.bitLen_shift56 x.toNat (by omega) (by omega)
theorem sh48 (x : Int) (h0 : 0 ≤ x) (h1 : x ≤ 18446744073709551615) (h : 65536 ≤ x / 4294967296) : Lib.bitLen x.toNat = 48 + Lib.bitLen (x / 4294967296 / 65536).toNat := by
  rw [show (x / 4294967296 / 65536).toNat = x.toNat / 281474976710656 by omega]; exact Lib.bitLen_shift48 x.toNat (by omega) (by omega)
theorem sh40 (x : Int) (h0 : 0 ≤ x) (h1 : x ≤ 18446744073709551615) (h : 256 ≤ x / 4294967296) : Lib.bitLen x.toNat = 40 + Lib.bitLen (x / 4294967296 / 256).toNat := by
  rw [show (x / 4294967296 / 256).toNat = x.toNat / 1099511627776 by omega]; exact Lib.bitLen_shift40 x.toNat (by omega) (by omega)
theorem sh32 (x : Int) (h0 : 0 ≤ x) (h1 : x ≤ 18446744073709551615) (h : 4294967296 ≤ x) : Lib.bitLen x.toNat = 32 + Lib.bitLen (x / 4294967296).toNat := by
  rw [show (x / 4294967296).toNat = x.toNat / 4294967296 by omega]; exact Lib.bitLen_shift32 x.toNat (by omega) (by omega)
theorem sh24 (x : Int) (h0 : 0 ≤ x) (h1 : x ≤ 18446744073709551615) (h : 256 ≤ x / 65536) : Lib.bitLen x.toNat = 24 + Lib.bitLen (x / 65536 / 256).toNat := by
  rw [show (x / 65536 / 256).toNat = x.toNat / 16777216 by omega]; exact Lib.bitLen_shift24 x.toNat (by omega) (by omega)
theorem sh16 (x : Int) (h0 : 0 ≤ x) (h1 : x ≤ 18446744073709551615) (h : 65536 ≤ x) : Lib.bitLen x.toNat = 16 + Lib.bitLen (x / 65536).toNat := by
  rw [show (x / 65536).toNat = x.toNat / 65536 by omega]; exact Lib.bitLen_shift16 x.toNat (by omega) (by omega)
theorem sh8 (x : Int) (h0 : 0 ≤ x) (h1 : x ≤ 18446744073709551615) (h : 256 ≤ x) : Lib.bitLen x.toNat = 8 + Lib.bitLen (x / 256).toNat := by
  rw [show (x / 256).toNat = x.toNat / 256 by omega]; exact Lib.bitLen_shift8 x.toNat (by omega) (by omega)
set_option maxRecDepth 100000 in
theorem len39 (x : Int) (w : World) (h0 : 0 ≤ x) (h1 : x ≤ 18446744073709551615) :
    Calls Try.prog 63 #[.int .u64 x] w fun e w' => e = .returned (.int .i64 (Lib.bitLen x.toNat)) ∧ w' = w := by
  have hs : (Lib.len8tab.size : Int) = 256 := by rw [Lib.len8tab_size]; rfl
  go_enter Try.func63, Try.ntmps63
  go_wp2
  all_goals (go_ret; refine ⟨congrArg Ending.returned (congrArg (Value.int IntKind.i64) ?_), rfl⟩)
  · exact len_way 56 x _ (by omega) (by omega) (by omega) (sh56 x h0 h1 ‹_›) _
  · exact len_way 48 x _ (by omega) (by omega) (by omega) (sh48 x h0 h1 ‹_›) _
  · exact len_way 40 x _ (by omega) (by omega) (by omega) (sh40 x h0 h1 ‹_›) _
  · exact len_way 32 x _ (by omega) (by omega) (by omega) (sh32 x h0 h1 ‹_›) _
  · exact len_way 24 x _ (by omega) (by omega) (by omega) (sh24 x h0 h1 ‹_›) _
  · exact len_way 16 x _ (by omega) (by omega) (by omega) (sh16 x h0 h1 ‹_›) _
  · exact len_way 8 x _ (by omega) (by omega) (by omega) (sh8 x h0 h1 ‹_›) _
  · exact len_way0 x (by omega) (by omega) _
theorem edges22_at (n : Nat) (h : n ≤ 62) (w : World) :
    Calls Try.prog 40 #[.int .i64 ((n : Int) + 1)] w fun e w' => e = .returned (.tuple #[.int .i64 (edLoN (n + 1)), .int .i64 (edHiN (n + 1)), .int .i64 0]) ∧ w' = w := by
  have hp := wrap_p2 h
  have h1 := p2_le62 h
  have h2 := p2_pos n
  go_enter Try.func40, Try.ntmps40
  go_wp2
  go_ret3
  exact ⟨ret3 hp rfl rfl, rfl⟩
theorem edges22_zero (w : World) :
    Calls Try.prog 40 #[.int .i64 0] w fun e w' => e = .returned (.tuple #[.int .i64 0, .int .i64 0, .int .i64 0]) ∧ w' = w := by
  go_enter Try.func40, Try.ntmps40
  go_wp2
  go_ret3
  exact ⟨rfl, rfl⟩
theorem edges22_no (b : Int) (h : b < 0 ∨ 63 < b) (w : World) :
    Calls Try.prog 40 #[.int .i64 b] w fun e w' => e = .returned (.tuple #[.int .i64 0, .int .i64 0, .int .i64 1]) ∧ w' = w := by
  rcases h with h | h
  · go_enter Try.func40, Try.ntmps40
    go_wp2
    go_ret3
    exact ⟨rfl, rfl⟩
  · have h0 : ¬ b < 0 := by omega
    go_enter Try.func40, Try.ntmps40
    go_wp2
    go_ret3
    exact ⟨rfl, rfl⟩
theorem edges22_nat (k : Nat) (h : k ≤ 63) (w : World) :
    Calls Try.prog 40 #[.int .i64 (k : Int)] w fun e w' => e = .returned (.tuple #[.int .i64 (edLoN k), .int .i64 (edHiN k), .int .i64 0]) ∧ w' = w := by
  cases k with
  | zero => exact edges22_zero w
  | succ n => exact edges22_at n (by omega) w
def edIn (b : Int) : Bool := decide (0 ≤ b ∧ b ≤ 63)
def edLo (b : Int) : Int := if edIn b then edLoN b.toNat else 0
def edHi (b : Int) : Int := if edIn b then edHiN b.toNat else 0
def edErr (b : Int) : Int := if edIn b then 0 else 1
theorem ed_yes {k : Nat} (h : k ≤ 63) : edLo (k : Int) = edLoN k ∧ edHi (k : Int) = edHiN k ∧ edErr (k : Int) = 0 := by
  have e : edIn (k : Int) = true := by simp [edIn]; omega
  simp [edLo, edHi, edErr, e]
theorem ed_no {b : Int} (h : b < 0 ∨ 63 < b) : edLo b = 0 ∧ edHi b = 0 ∧ edErr b = 1 := by
  have e : edIn b = false := by simp [edIn]; omega
  simp [edLo, edHi, edErr, e]
theorem ed_or (b : Int) : (b < 0 ∨ 63 < b) ∨ ∃ k : Nat, k ≤ 63 ∧ b = (k : Int) := by
  by_cases h : b < 0 ∨ 63 < b
  · exact .inl h
  · exact .inr ⟨b.toNat, by omega, by omega⟩
theorem edges22 (b : Int) (w : World) :
    Calls Try.prog 40 #[.int .i64 b] w fun e w' => e = .returned (.tuple #[.int .i64 (edLo b), .int .i64 (edHi b), .int .i64 (edErr b)]) ∧ w' = w := by
  rcases ed_or b with h | ⟨k, hk, rfl⟩
  · obtain ⟨e1, e2, e3⟩ := ed_no h
    rw [e1, e2, e3]
    exact edges22_no b h w
  · obtain ⟨e1, e2, e3⟩ := ed_yes hk
    rw [e1, e2, e3]
    exact edges22_nat k hk w
theorem bucket20_no (d : Int) (h : d < 0) (w : World) :
    Calls Try.prog 52 #[.int .i64 d] w fun e w' => e = .returned (.tuple #[.int .i64 0, .int .i64 11]) ∧ w' = w := by
  go_enter Try.func52, Try.ntmps52
  go_wp2
  go_ret2
  exact ⟨rfl, rfl⟩
theorem bucket20_yes (d : Int) (h0 : 0 ≤ d) (h1 : d < 9223372036854775808) (w : World) :
    Calls Try.prog 52 #[.int .i64 d] w fun e w' => e = .returned (.tuple #[.int .i64 (Lib.bitLen d.toNat), .int .i64 0]) ∧ w' = w := by
  go_enter Try.func52, Try.ntmps52
  go_wp2_with (go_at_call 63; refine (len39 _ _ h0 (by omega)).mono ?_; rintro e w' ⟨rfl, rfl⟩)
  go_ret2
  exact ⟨rfl, rfl⟩
theorem andNot_nat (a n : Nat) (hn : n ≤ 62) (ha : a < 9223372036854775808) :
    bits .andNot .i64 (a : Int) (p2 n - 1) = (a : Int) - (a : Int) % p2 n := by
  have hpos : 0 < 2 ^ n := Nat.two_pow_pos n
  have hle : 2 ^ n ≤ 4611686018427387904 := by
    have := Nat.pow_le_pow_right (n := 2) (by decide) hn
    exact this
  have e1 : p2 n - 1 = ((2 ^ n - 1 : Nat) : Int) := by rw [p2_nat]; omega
  have key : (BitVec.ofInt 64 (a : Int) &&& ~~~ BitVec.ofInt 64 ((2 ^ n - 1 : Nat) : Int)).toNat = a / 2 ^ n * 2 ^ n := by
    apply Nat.eq_of_testBit_eq
    intro i
    rw [BitVec.testBit_toNat, BitVec.getLsbD_and, BitVec.getLsbD_not, BitVec.ofInt_natCast, BitVec.ofInt_natCast, BitVec.getLsbD_ofNat, BitVec.getLsbD_ofNat, Nat.testBit_two_pow_sub_one, Nat.mul_comm, Nat.testBit_two_pow_mul, Nat.testBit_div_two_pow]
    by_cases hi : i < 64
    · by_cases h : n ≤ i
      · have : i - n + n = i := by omega
        simp [hi, h, this]
      · simp [h]; omega
    · have hb : a.testBit i = false := by
        apply Nat.testBit_lt_two_pow
        have := Nat.pow_le_pow_right (n := 2) (by decide) (show 64 ≤ i by omega)
        omega
      by_cases h : n ≤ i
      · have : i - n + n = i := by omega
        simp [hi, this, hb]
      · simp [hi, h]
  rw [e1]
  show IntKind.i64.wrap ((BitVec.ofInt 64 (a : Int) &&& ~~~ BitVec.ofInt 64 ((2 ^ n - 1 : Nat) : Int)).toNat : Int) = _
  rw [key, p2_nat]
  have hd : a / 2 ^ n * 2 ^ n + a % 2 ^ n = a := Nat.div_add_mod' a (2 ^ n)
  have hm : ((a : Int) % ((2 ^ n : Nat) : Int)) = ((a % 2 ^ n : Nat) : Int) := (Int.natCast_emod a (2 ^ n)).symm
  rw [hm, IntKind.wrap_i64]
  generalize a / 2 ^ n * 2 ^ n = q at *
  generalize a % 2 ^ n = r at *
  omega
def dn (t : Int) (n : Nat) : Int := t - t % p2 n
theorem andNot_dn (t : Int) (n : Nat) (hn : n ≤ 62) (h0 : 0 ≤ t) (h1 : t < 9223372036854775808) : bits .andNot .i64 t (p2 n - 1) = dn t n := by
  obtain ⟨a, rfl⟩ := Int.eq_ofNat_of_zero_le h0
  exact andNot_nat a n hn (by omega)
theorem dn_bounds (t : Int) (n : Nat) (h0 : 0 ≤ t) : 0 ≤ dn t n ∧ dn t n ≤ t ∧ t < dn t n + p2 n ∧ (dn t n = t ↔ t % p2 n = 0) := by
  have hp := p2_pos n
  have h1 := Int.emod_nonneg t (show p2 n ≠ 0 by omega)
  have h2 := Int.emod_lt_of_pos t (show 0 < p2 n by omega)
  have h3 := Int.mul_ediv_add_emod t (p2 n)
  have h4 := Int.mul_nonneg (show 0 ≤ p2 n by omega) (Int.ediv_nonneg h0 (show 0 ≤ p2 n by omega))
  unfold dn
  omega
def rdIn (b : Int) : Bool := decide (0 ≤ b ∧ b ≤ 62)
def rdErr (t b : Int) : Int := if isT t then (if rdIn b then 0 else 12) else 10
def dnOf (t b : Int) : Int := if isT t && rdIn b then dn t b.toNat else 0
theorem rd_no (t b : Int) (h : isT t = false) : rdErr t b = 10 ∧ dnOf t b = 0 := by simp [rdErr, dnOf, h]
theorem rd_bits (t b : Int) (h : isT t = true) (hb : b < 0 ∨ 62 < b) : rdErr t b = 12 ∧ dnOf t b = 0 := by
  have e : rdIn b = false := by simp [rdIn]; omega
  simp [rdErr, dnOf, h, e]
theorem rd_yes (t : Int) (n : Nat) (h : isT t = true) (hn : n ≤ 62) : rdErr t (n : Int) = 0 ∧ dnOf t (n : Int) = dn t n := by
  have e : rdIn (n : Int) = true := by simp [rdIn]; omega
  simp [rdErr, dnOf, h, e]
theorem rd_or (b : Int) : b < 0 ∨ 62 < b ∨ ∃ n : Nat, n ≤ 62 ∧ b = (n : Int) := by
  by_cases h : b < 0
  · exact .inl h
  · by_cases h' : 62 < b
    · exact .inr (.inl h')
    · exact .inr (.inr ⟨b.toNat, by omega, by omega⟩)
theorem below41 (n : Nat) (h : n ≤ 62) (w : World) : Calls Try.prog 46 #[.int .i64 (n : Int)] w fun e w' => e = .returned (.int .i64 (p2 n - 1)) ∧ w' = w := by
  have hp := wrap_p2 h
  have h1 := p2_le62 h
  have h2 := p2_pos n
  go_enter Try.func46, Try.ntmps46
  go_wp2
  go_ret
  exact ⟨rfl, rfl⟩
theorem check40 (t b : Int) (w : World) : Calls Try.prog 45 #[.int .i64 t, .int .i64 b] w fun e w' => e = .returned (.int .i64 (rdErr t b)) ∧ w' = w := by
  cases h1 : isT t with
  | false =>
    rw [(rd_no t b h1).1]
    go_enter Try.func45, Try.ntmps45
    go_wp2_with (go_at_call 53; refine (is14 _ _).mono ?_; rintro e w' ⟨rfl, rfl⟩)
    go_ret
    exact ⟨rfl, rfl⟩
  | true =>
    rcases rd_or b with h | h | ⟨n, hn, rfl⟩
    · rw [(rd_bits t b h1 (.inl h)).1]
      go_enter Try.func45, Try.ntmps45
      go_wp2_with (go_at_call 53; refine (is14 _ _).mono ?_; rintro e w' ⟨rfl, rfl⟩)
      go_ret
      exact ⟨rfl, rfl⟩
    · rw [(rd_bits t b h1 (.inr h)).1]
      have h' : ¬ b < 0 := by omega
      go_enter Try.func45, Try.ntmps45
      go_wp2_with (go_at_call 53; refine (is14 _ _).mono ?_; rintro e w' ⟨rfl, rfl⟩)
      go_ret
      exact ⟨rfl, rfl⟩
    · rw [(rd_yes t n h1 hn).1]
      go_enter Try.func45, Try.ntmps45
      go_wp2_with (go_at_call 53; refine (is14 _ _).mono ?_; rintro e w' ⟨rfl, rfl⟩)
      go_ret
      exact ⟨rfl, rfl⟩
theorem down24 (t b : Int) (w : World) : Calls Try.prog 33 #[.int .i64 t, .int .i64 b] w fun e w' => e = .returned (.tuple #[.int .i64 (dnOf t b), .int .i64 (rdErr t b)]) ∧ w' = w := by
  by_cases h : isT t = true ∧ 0 ≤ b ∧ b ≤ 62
  · obtain ⟨h1, h2, h3⟩ := h
    obtain ⟨n, rfl⟩ := Int.eq_ofNat_of_zero_le h2
    have hn : n ≤ 62 := by omega
    obtain ⟨e1, e2⟩ := rd_yes t n h1 hn
    obtain ⟨b1, b2⟩ := isT_yes h1
    have ea := andNot_dn t n hn b1 (by omega)
    rw [e2]
    clear e2
    go_enter Try.func33, Try.ntmps33
    go_wp2_with (first | (go_at_call 45; refine (check40 _ _ _).mono ?_; rintro e w' ⟨rfl, rfl⟩) | (go_at_call 46; refine (below41 n hn _).mono ?_; rintro e w' ⟨rfl, rfl⟩))
    go_ret2
    exact ⟨ret2 rfl e1.symm, rfl⟩
  · have e : (rdErr t b = 10 ∨ rdErr t b = 12) ∧ dnOf t b = 0 := by
      cases h1 : isT t with
      | false => exact ⟨.inl (rd_no t b h1).1, (rd_no t b h1).2⟩
      | true => have := rd_bits t b h1 (by simp [h1] at h; omega); exact ⟨.inr this.1, this.2⟩
    have e' : (rdErr t b != 0) = true := by rcases e.1 with h | h <;> rw [h] <;> rfl
    rw [e.2]
    clear e h
    go_enter Try.func33, Try.ntmps33
    go_wp2_with (go_at_call 45; refine (check40 _ _ _).mono ?_; rintro e w' ⟨rfl, rfl⟩)
    go_ret2
    exact ⟨rfl, rfl⟩
theorem tdiv_of_emod (x m : Int) : (x % 18446744073709551616).tdiv m = (x % 18446744073709551616) / m :=
  Int.tdiv_eq_ediv_of_nonneg (Int.emod_nonneg _ (by decide))
theorem wrap_range (z : Int) : 0 ≤ IntKind.u64.wrap z ∧ IntKind.u64.wrap z < 18446744073709551616 := by rw [IntKind.wrap_u64]; omega
/-- The high half, as the library reckons it. -/
theorem mul_form (x y : Int) (hx0 : 0 ≤ x) (hx : x < 18446744073709551616) (hy0 : 0 ≤ y) (hy : y < 18446744073709551616) :
    IntKind.u64.wrap (IntKind.u64.wrap (IntKind.u64.wrap (x / 4294967296 * (y / 4294967296)) +
        IntKind.u64.wrap (IntKind.u64.wrap (x / 4294967296 * bits .and .u64 y 4294967295) + IntKind.u64.wrap (bits .and .u64 x 4294967295 * bits .and .u64 y 4294967295) / 4294967296) / 4294967296) +
      IntKind.u64.wrap (bits .and .u64 (IntKind.u64.wrap (IntKind.u64.wrap (x / 4294967296 * bits .and .u64 y 4294967295) + IntKind.u64.wrap (bits .and .u64 x 4294967295 * bits .and .u64 y 4294967295) / 4294967296)) 4294967295 +
        IntKind.u64.wrap (bits .and .u64 x 4294967295 * (y / 4294967296))) / 4294967296) = x * y / 18446744073709551616 := by
  rw [and_low32 x hx0 hx, and_low32 y hy0 hy, and_low32 (IntKind.u64.wrap _) (wrap_range _).1 (wrap_range _).2]
  simp only [IntKind.wrap_u64]
  exact mul64_arith x y hx0 hx hy0 hy
theorem mul42 (x y : Int) (hx0 : 0 ≤ x) (hx : x < 18446744073709551616) (hy0 : 0 ≤ y) (hy : y < 18446744073709551616) (w : World) :
    Calls Try.prog 50 #[.int .u64 x, .int .u64 y] w fun e w' => e = .returned (.tuple #[.int .u64 (x * y / 18446744073709551616), .int .u64 (IntKind.u64.wrap (x * y))]) ∧ w' = w := by
  have hf := mul_form x y hx0 hx hy0 hy
  have HF : Hid (_ = x * y / 18446744073709551616) := hf
  clear hf
  go_enter Try.func50, Try.ntmps50
  go_wp2
  go_ret2
  exact ⟨ret2 HF.out rfl, rfl⟩
end Go.Proofs.Ytibgfkjhohgkhaa.Ti
