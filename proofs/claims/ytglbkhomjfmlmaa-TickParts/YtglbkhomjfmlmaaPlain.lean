/- Plain arithmetic for the layer of ticks, with no Go in sight: how numbers are mixed, that mixing keeps unlike numbers unlike, how texts are hashed, and sums of times. Its conditions: numbers below 2^64 where that is said. -/
import Derived.Laws.Bits64b
import Derived.RowKit
namespace Go.Proofs.Ytglbkhomjfmlmaa
open Go.RowKit

/-! ### Mixing -/
def mixN (x : Nat) : Nat :=
  let a := (x ^^^ x / 1073741824) * 13787848793156543929 % 18446744073709551616
  let b := (a ^^^ a / 134217728) * 10723151780598845931 % 18446744073709551616
  b ^^^ b / 2147483648

theorem xor_div_lt (b s : Nat) (hb : b < 18446744073709551616) : b ^^^ b / s < 18446744073709551616 := by
  have h : b / s < 18446744073709551616 := Nat.lt_of_le_of_lt (Nat.div_le_self _ _) hb
  exact Nat.xor_lt_two_pow (n := 64) hb h

theorem mixN_lt (x : Nat) : mixN x < 18446744073709551616 := by
  unfold mixN
  exact xor_div_lt _ _ (Nat.mod_lt _ (by decide))

theorem step1 (x : Nat) (hx : x < 18446744073709551616) :
    IntKind.u64.wrap (bits .xor .u64 (x : Int) ((x : Int) / 1073741824) * 13787848793156543929) = (((x ^^^ x / 1073741824) * 13787848793156543929 % 18446744073709551616 : Nat) : Int) :=
  mixStep_u64 x 1073741824 13787848793156543929 hx
theorem step2 (x : Nat) (hx : x < 18446744073709551616) :
    IntKind.u64.wrap (bits .xor .u64 (x : Int) ((x : Int) / 134217728) * 10723151780598845931) = (((x ^^^ x / 134217728) * 10723151780598845931 % 18446744073709551616 : Nat) : Int) :=
  mixStep_u64 x 134217728 10723151780598845931 hx
theorem step3 (x : Nat) (hx : x < 18446744073709551616) :
    bits .xor .u64 (x : Int) ((x : Int) / 2147483648) = ((x ^^^ x / 2147483648 : Nat) : Int) :=
  xorShift_u64 x 2147483648 hx
theorem mod_lt (x : Nat) : x % 18446744073709551616 < 18446744073709551616 := Nat.mod_lt _ (by decide)

theorem quo27 (z : Nat) (hz : z < 18446744073709551616) : IntKind.u64.wrap ((z : Int).tdiv 134217728) = (z : Int) / 134217728 := by
  rw [Int.tdiv_eq_ediv_of_nonneg (by omega), IntKind.wrap_u64]; omega
theorem quo31 (z : Nat) (hz : z < 18446744073709551616) : IntKind.u64.wrap ((z : Int).tdiv 2147483648) = (z : Int) / 2147483648 := by
  rw [Int.tdiv_eq_ediv_of_nonneg (by omega), IntKind.wrap_u64]; omega

/-- The program's own form of a mixed number. -/
theorem mix_form (x : Nat) (hx : x < 18446744073709551616) :
    bits .xor .u64 (IntKind.u64.wrap (bits .xor .u64 (IntKind.u64.wrap (bits .xor .u64 (x : Int) ((x : Int) / 1073741824) * 13787848793156543929)) (IntKind.u64.wrap (bits .xor .u64 (x : Int) ((x : Int) / 1073741824) * 13787848793156543929) / 134217728) * 10723151780598845931))
      (IntKind.u64.wrap (bits .xor .u64 (IntKind.u64.wrap (bits .xor .u64 (x : Int) ((x : Int) / 1073741824) * 13787848793156543929)) (IntKind.u64.wrap (bits .xor .u64 (x : Int) ((x : Int) / 1073741824) * 13787848793156543929) / 134217728) * 10723151780598845931) / 2147483648) = ((mixN x : Nat) : Int) := by
  rw [step1 x hx, step2 _ (mod_lt _), step3 _ (mod_lt _)]; rfl

/-- The document's form of a mixed number. -/
theorem mix_form' (x : Nat) (hx : x < 18446744073709551616) :
    bits .xor .u64 (IntKind.u64.wrap (bits .xor .u64 (IntKind.u64.wrap (bits .xor .u64 (x : Int) ((x : Int) / 1073741824) * 13787848793156543929)) (IntKind.u64.wrap ((IntKind.u64.wrap (bits .xor .u64 (x : Int) ((x : Int) / 1073741824) * 13787848793156543929)).tdiv 134217728)) * 10723151780598845931))
      (IntKind.u64.wrap ((IntKind.u64.wrap (bits .xor .u64 (IntKind.u64.wrap (bits .xor .u64 (x : Int) ((x : Int) / 1073741824) * 13787848793156543929)) (IntKind.u64.wrap ((IntKind.u64.wrap (bits .xor .u64 (x : Int) ((x : Int) / 1073741824) * 13787848793156543929)).tdiv 134217728)) * 10723151780598845931)).tdiv 2147483648)) = ((mixN x : Nat) : Int) := by
  rw [step1 x hx, quo27 _ (mod_lt _), step2 _ (mod_lt _), quo31 _ (mod_lt _), step3 _ (mod_lt _)]; rfl

theorem xorshift_inj (s : Nat) (hs : 1 ≤ s) (x y : Nat) (hx : x < 18446744073709551616) (hy : y < 18446744073709551616) (h : x ^^^ x / 2 ^ s = y ^^^ y / 2 ^ s) : x = y := by
  have bit : ∀ i, (x.testBit i ^^ x.testBit (i + s)) = (y.testBit i ^^ y.testBit (i + s)) := by
    intro i
    have := congrArg (fun n => n.testBit i) h
    simpa [Nat.testBit_xor, Nat.testBit_div_two_pow] using this
  have key : ∀ n i, 64 ≤ i + n → x.testBit i = y.testBit i := by
    intro n
    induction n with
    | zero =>
      intro i hi
      have hp : (18446744073709551616 : Nat) ≤ 2 ^ i := by
        have := Nat.pow_le_pow_right (n := 2) (by decide) (show 64 ≤ i by omega)
        exact this
      rw [Nat.testBit_lt_two_pow (Nat.lt_of_lt_of_le hx hp), Nat.testBit_lt_two_pow (Nat.lt_of_lt_of_le hy hp)]
    | succ n ih =>
      intro i hi
      have h1 := ih (i + s) (by omega)
      have h2 := bit i
      rw [h1] at h2
      revert h2
      cases x.testBit i <;> cases y.testBit i <;> cases y.testBit (i + s) <;> simp
  exact Nat.eq_of_testBit_eq fun i => key 64 i (by omega)

theorem mul_inj (C D : Nat) (hCD : C * D % 18446744073709551616 = 1) (a b : Nat) (ha : a < 18446744073709551616) (hb : b < 18446744073709551616)
    (h : a * C % 18446744073709551616 = b * C % 18446744073709551616) : a = b := by
  have back : ∀ z, z < 18446744073709551616 → (z * C % 18446744073709551616) * D % 18446744073709551616 = z := by
    intro z hz
    rw [Nat.mod_mul_mod, Nat.mul_assoc, ← Nat.mul_mod_mod, hCD, Nat.mul_one, Nat.mod_eq_of_lt hz]
  rw [← back a ha, ← back b hb, h]

theorem mixN_inj (x y : Nat) (hx : x < 18446744073709551616) (hy : y < 18446744073709551616) (h : mixN x = mixN y) : x = y := by
  unfold mixN at h
  have h1 := xorshift_inj 31 (by decide) _ _ (mod_lt _) (mod_lt _) h
  have h2 := mul_inj 10723151780598845931 3573116690164977347 (by decide) _ _ (xor_div_lt _ _ (mod_lt _)) (xor_div_lt _ _ (mod_lt _)) h1
  have h3 := xorshift_inj 27 (by decide) _ _ (mod_lt _) (mod_lt _) h2
  have h4 := mul_inj 13787848793156543929 10871156337175269513 (by decide) _ _ (xor_div_lt _ _ hx) (xor_div_lt _ _ hy) h3
  exact xorshift_inj 30 (by decide) _ _ hx hy h4

/-! ### Hashing a text -/
def hashStep (h : Nat) (c : UInt8) : Nat := (h ^^^ c.toNat) * 1099511628211 % 18446744073709551616
def hashN (seed : Nat) (l : List UInt8) : Nat := l.foldl hashStep (seed ^^^ 14695981039346656037)
theorem hashN_lt (seed : Nat) (hs : seed < 18446744073709551616) (l : List UInt8) : hashN seed l < 18446744073709551616 := by
  unfold hashN
  have h0 : seed ^^^ 14695981039346656037 < 18446744073709551616 := Nat.xor_lt_two_pow (n := 64) hs (by omega)
  revert h0
  generalize seed ^^^ 14695981039346656037 = a
  induction l generalizing a with
  | nil => exact fun h => h
  | cons c l ih => intro _; exact ih _ (mod_lt _)
theorem foldl_snoc (f : Nat → UInt8 → Nat) (a : Nat) (l : List UInt8) (c : UInt8) : (l ++ [c]).foldl f a = f (l.foldl f a) c := by simp
theorem hashN_snoc (seed : Nat) (l : List UInt8) (c : UInt8) : hashN seed (l ++ [c]) = hashStep (hashN seed l) c :=
  foldl_snoc hashStep (seed ^^^ 14695981039346656037) l c
theorem hash_start (seed : Nat) (hs : seed < 18446744073709551616) : bits .xor .u64 (seed : Int) 14695981039346656037 = ((hashN seed [] : Nat) : Int) :=
  bits_xor_u64_nat seed 14695981039346656037 hs (by omega)
theorem hash_step (h : Nat) (c : UInt8) (hh : h < 18446744073709551616) : IntKind.u64.wrap (bits .xor .u64 (h : Int) (IntKind.u64.wrap (c.toNat : Int)) * 1099511628211) = ((hashStep h c : Nat) : Int) := by
  have hc : c.toNat < 256 := c.toNat_lt
  have hw : IntKind.u64.wrap (c.toNat : Int) = (c.toNat : Int) := by rw [IntKind.wrap_u64]; omega
  rw [hw]
  rw [bits_xor_u64_nat h c.toNat hh (by omega), IntKind.wrap_u64]
  unfold hashStep
  rw [Int.natCast_emod, Int.natCast_mul]
  rfl
theorem take_snoc (s : ByteArray) (k : Nat) (h : k < s.size) : s.data.toList.take (k + 1) = s.data.toList.take k ++ [s[k]] := by
  rw [List.take_succ_eq_append_getElem (by simpa using h)]; rfl

/-! ### Sums of times -/
def sumI : List Int → Int
  | [] => 0
  | x :: l => x + sumI l
theorem sumI_snoc (l : List Int) (x : Int) : sumI (l ++ [x]) = sumI l + x := by
  induction l with
  | nil => simp [sumI]
  | cons a l ih => simp only [List.cons_append, sumI, ih]; omega
def negIn (l : List Int) : Bool := l.any fun x => decide (x < 0)
theorem negIn_snoc (l : List Int) (x : Int) : negIn (l ++ [x]) = (negIn l || decide (x < 0)) := by simp [negIn]
theorem sumI_bounds (l : List Int) (h : negIn l = false) (hw : ∀ n ∈ l, n < 9223372036854775808) : 0 ≤ sumI l ∧ sumI l ≤ l.length * 9223372036854775807 := by
  induction l with
  | nil => simp [sumI]
  | cons a l ih =>
    simp only [negIn, List.any_cons, Bool.or_eq_false_iff, decide_eq_false_iff_not] at h
    have := ih h.2 fun n hn => hw n (List.mem_cons_of_mem _ hn)
    have := hw a List.mem_cons_self
    simp only [sumI, List.length_cons]
    omega
def sumHi (l : List Int) : Int := if negIn l then 0 else sumI l / 18446744073709551616
def sumLo (l : List Int) : Int := if negIn l then 0 else sumI l % 18446744073709551616
def sumErr (l : List Int) : Int := if negIn l then 11 else 0

theorem sum_next {H L z T : Int} (h : T = H * 18446744073709551616 + L) : T + z = (H + (L + z) / 18446744073709551616) * 18446744073709551616 + (L + z) % 18446744073709551616 := by omega
theorem sum_end {l : List Int} {H L : Int} (h : sumI l = H * 18446744073709551616 + L) (h0 : 0 ≤ L) (h1 : L < 18446744073709551616) (hn : negIn l = false) : H = sumHi l ∧ L = sumLo l ∧ 0 = sumErr l := by
  unfold sumHi sumLo sumErr
  rw [hn, h]
  refine ⟨?_, ?_, rfl⟩ <;> simp only [Bool.false_eq_true, if_false] <;> omega
theorem getD_at (zs : List Int) (k : Nat) (hz : k < zs.length) : zs.getD k 0 = zs[k] := by simp [List.getD, hz]
theorem negIn_take (zs : List Int) (k n : Nat) (hk : k < n) (hz : k < zs.length) (h : zs.getD k 0 < 0) : negIn (zs.take n) = true := by
  unfold negIn
  rw [List.any_eq_true]
  refine ⟨zs.getD k 0, ?_, by simpa using h⟩
  rw [getD_at zs k hz]
  exact List.mem_take_iff_getElem.2 ⟨k, by omega, rfl⟩
theorem take_next (zs : List Int) (k : Nat) (hz : k < zs.length) : zs.take (k + 1) = zs.take k ++ [zs.getD k 0] := by
  rw [List.take_succ_eq_append_getElem hz, getD_at zs k hz]
theorem i64_bounds {z : Int} (h : (Lit.int .i64 z).wf = true) : -9223372036854775808 ≤ z ∧ z < 9223372036854775808 := by
  have h := h
  simp [Lit.wf, IntKind.min, IntKind.max, IntKind.bits, IntKind.signed] at h
  omega
theorem u64_bounds {z : Int} (h : (Lit.int .u64 z).wf = true) : 0 ≤ z ∧ z < 18446744073709551616 := by
  have h := h
  simp [Lit.wf, IntKind.min, IntKind.max, IntKind.bits, IntKind.signed] at h
  omega

end Go.Proofs.Ytglbkhomjfmlmaa
