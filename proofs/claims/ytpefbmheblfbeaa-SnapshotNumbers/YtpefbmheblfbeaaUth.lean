/- Numbers in bytes, plain: a number's bytes, and the number that stands at a place; no program. -/
import Derived.Test.YtpefbmheblfbeaaRsl
import Derived.Laws.Bits64b
namespace Go.Proofs.Ytpefbmheblfbeaa.Sn
set_option linter.unusedVariables false
/-- A number's bytes. -/
def numF : Nat → Nat → List UInt8
  | 0, x => [UInt8.ofNat x]
  | f + 1, x => if 128 ≤ x then UInt8.ofNat (x % 128 + 128) :: numF f (x / 128) else [UInt8.ofNat x]
theorem numF_any : ∀ (f g x : Nat), x ≤ f → x ≤ g → numF f x = numF g x
  | 0, 0, x, _, _ => rfl
  | 0, g + 1, x, h, _ => by rw [numF, numF, if_neg (by omega)]
  | f + 1, 0, x, _, h => by rw [numF, numF, if_neg (by omega)]
  | f + 1, g + 1, x, h1, h2 => by
    rw [numF, numF]
    by_cases h : 128 ≤ x
    · rw [if_pos h, if_pos h, numF_any f g (x / 128) (by omega) (by omega)]
    · rw [if_neg h, if_neg h]
def numL (x : Nat) : List UInt8 := numF x x
theorem numL_go {x : Nat} (h : 128 ≤ x) : numL x = UInt8.ofNat (x % 128 + 128) :: numL (x / 128) := by
  unfold numL
  obtain ⟨f, rfl⟩ : ∃ f, x = f + 1 := ⟨x - 1, by omega⟩
  rw [numF, if_pos h, numF_any f ((f + 1) / 128) ((f + 1) / 128) (by omega) (by omega)]
theorem numL_end {x : Nat} (h : ¬ 128 ≤ x) : numL x = [UInt8.ofNat x] := by
  unfold numL
  cases x with
  | zero => rfl
  | succ f => rw [numF, if_neg h]
/-- May a byte be the last one, behind so many? -/
def lastB (b i : Nat) : Bool := if i = 9 then decide (b = 1) else decide (0 < b) || decide (i = 0)
/-- The number whose bytes go on with a list, behind i bytes that are x so far: it, and how many bytes it has in all. -/
def takeG : List UInt8 → Nat → Nat → Option (Nat × Nat)
  | [], _, _ => none
  | b :: l, i, x => if 10 ≤ i then none else if b.toNat < 128 then (if lastB b.toNat i then some (x + b.toNat * 128 ^ i, i + 1) else none) else takeG l (i + 1) (x + b.toNat % 128 * 128 ^ i)
def takeN (l : List UInt8) : Option (Nat × Nat) := takeG l 0 0
theorem takeG_ten (l : List UInt8) (x : Nat) : takeG l 10 x = none := by
  cases l <;> simp [takeG]
theorem takeG_nil (i x : Nat) : takeG [] i x = none := rfl
theorem takeG_last {b : UInt8} {l : List UInt8} {i x : Nat} (hi : i < 10) (hb : b.toNat < 128) : takeG (b :: l) i x = if lastB b.toNat i then some (x + b.toNat * 128 ^ i, i + 1) else none := by
  rw [takeG, if_neg (by omega), if_pos hb]
theorem takeG_more {b : UInt8} {l : List UInt8} {i x : Nat} (hi : i < 10) (hb : ¬ b.toNat < 128) : takeG (b :: l) i x = takeG l (i + 1) (x + b.toNat % 128 * 128 ^ i) := by
  rw [takeG, if_neg (by omega), if_neg hb]
theorem drop_cons (s : ByteArray) (k : Nat) (h : k < s.size) : s.data.toList.drop k = s[k] :: s.data.toList.drop (k + 1) := by
  rw [List.drop_eq_getElem_cons (by simpa using h)]; rfl
/-- What stands at a place of a text. -/
def takeAt (s : ByteArray) (at_ : Int) : Option (Nat × Nat) := if at_ < 0 then none else takeN (s.data.toList.drop at_.toNat)
/-- The answer of taking a number. -/
def takeV (at_ : Int) : Option (Nat × Nat) → Value
  | some (x, n) => .tuple #[.int .u64 x, .int .i64 (at_ + n), .bool true]
  | none => .tuple #[.int .u64 0, .int .i64 0, .bool false]
def sgn (n : Int) : Int := if n < 0 then -2 * n - 1 else 2 * n
def uns (x : Int) : Int := if x % 2 = 1 then - (x / 2) - 1 else x / 2
end Go.Proofs.Ytpefbmheblfbeaa.Sn
