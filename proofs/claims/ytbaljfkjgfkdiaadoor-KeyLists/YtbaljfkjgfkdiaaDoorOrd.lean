/- The walk of the law KeyOrders: it returns true and lays new blocks alone; the names' lengths fit. -/
import Derived.Test.YtbaljfkjgfkdiaaDoorText
namespace Go.Proofs.YtbaljfkjgfkdiaaDoor
open Go.RowKit Go.Sort
set_option linter.unusedVariables false

theorem cb_range : ∀ (a b : List UInt8), Lib.compareBytes a b = -1 ∨ Lib.compareBytes a b = 0 ∨ Lib.compareBytes a b = 1
  | [], [] => by simp [Lib.compareBytes]
  | [], _ :: _ => by simp [Lib.compareBytes]
  | _ :: _, [] => by simp [Lib.compareBytes]
  | x :: a, y :: b => by
    have := cb_range a b
    unfold Lib.compareBytes
    split
    · simp
    · split
      · simp
      · exact this
theorem cb_neg : ∀ (a b : List UInt8), Lib.compareBytes b a = - Lib.compareBytes a b
  | [], [] => by simp [Lib.compareBytes]
  | [], _ :: _ => by simp [Lib.compareBytes]
  | _ :: _, [] => by simp [Lib.compareBytes]
  | x :: a, y :: b => by
    have ih := cb_neg a b
    simp only [Lib.compareBytes]
    by_cases h1 : x < y
    · have h2 : ¬ y < x := by rw [UInt8.lt_iff_toNat_lt] at *; omega
      simp [h1, h2]
    · by_cases h2 : y < x
      · simp [h1, h2]
      · simp [h1, h2, ih]
theorem cb_zero : ∀ (a b : List UInt8), Lib.compareBytes a b = 0 → a = b
  | [], [], _ => rfl
  | [], _ :: _, h => by simp [Lib.compareBytes] at h
  | _ :: _, [], h => by simp [Lib.compareBytes] at h
  | x :: a, y :: b, h => by
    simp only [Lib.compareBytes] at h
    by_cases h1 : x < y
    · simp [h1] at h
    · by_cases h2 : y < x
      · simp [h1, h2] at h
      · simp [h1, h2] at h
        have e : x = y := UInt8.toNat_inj.1 (by rw [UInt8.lt_iff_toNat_lt] at *; omega)
        rw [e, cb_zero a b h]
theorem cb_self (a : List UInt8) : Lib.compareBytes a a = 0 := by
  have := cb_neg a a
  omega
theorem cb_trans : ∀ (a b c : List UInt8), Lib.compareBytes a b ≤ 0 → Lib.compareBytes b c ≤ 0 → Lib.compareBytes a c ≤ 0
  | [], _, [], _, _ => by simp [Lib.compareBytes]
  | [], _, _ :: _, _, _ => by simp [Lib.compareBytes]
  | _ :: _, [], _, h, _ => by simp [Lib.compareBytes] at h
  | _ :: _, _ :: _, [], _, h => by simp [Lib.compareBytes] at h
  | x :: a, y :: b, z :: c, h1, h2 => by
    simp only [Lib.compareBytes, UInt8.lt_iff_toNat_lt] at *
    by_cases p1 : x.toNat < y.toNat
    · by_cases p2 : y.toNat < z.toNat
      · rw [if_pos (by omega)]; omega
      · by_cases p3 : z.toNat < y.toNat
        · simp [p2, p3] at h2
        · rw [if_pos (by omega)]; omega
    · by_cases p1' : y.toNat < x.toNat
      · simp [p1, p1'] at h1
      · simp [p1, p1'] at h1
        by_cases p2 : y.toNat < z.toNat
        · rw [if_pos (by omega)]; omega
        · by_cases p3 : z.toNat < y.toNat
          · simp [p2, p3] at h2
          · simp [p2, p3] at h2
            rw [if_neg (by omega), if_neg (by omega)]
            exact cb_trans a b c h1 h2
theorem cmpK_range (a b : Int) (s t : ByteArray) : cmpK a s b t = -1 ∨ cmpK a s b t = 0 ∨ cmpK a s b t = 1 := by
  unfold cmpK
  split
  · simp
  · split
    · simp
    · exact cb_range _ _
theorem cmpK_neg (a b : Int) (s t : ByteArray) : cmpK b t a s = - cmpK a s b t := by
  unfold cmpK
  by_cases h1 : a < b
  · have h2 : ¬ b < a := by omega
    simp [h1, h2]
  · by_cases h2 : b < a
    · simp [h1, h2]
    · simp [h1, h2, cb_neg s.data.toList t.data.toList]
theorem cmpK_zero (a b : Int) (s t : ByteArray) (h : cmpK a s b t = 0) : a = b ∧ s = t := by
  unfold cmpK at h
  by_cases h1 : a < b
  · simp [h1] at h
  · by_cases h2 : b < a
    · simp [h1, h2] at h
    · simp [h1, h2] at h
      exact ⟨by omega, by apply ByteArray.ext; exact Array.toList_inj.1 (cb_zero _ _ h)⟩
theorem cmpK_self (a : Int) (s : ByteArray) : cmpK a s a s = 0 := by simp [cmpK, cb_self]
theorem cmpK_trans (a b c : Int) (s t u : ByteArray) (h1 : cmpK a s b t ≤ 0) (h2 : cmpK b t c u ≤ 0) : cmpK a s c u ≤ 0 := by
  unfold cmpK at *
  by_cases p1 : a < b
  · by_cases p2 : b < c
    · rw [if_pos (by omega)]; omega
    · by_cases p3 : c < b
      · simp [p2, p3] at h2
      · rw [if_pos (by omega)]; omega
  · by_cases p1' : b < a
    · simp [p1, p1'] at h1
    · simp [p1, p1'] at h1
      by_cases p2 : b < c
      · rw [if_pos (by omega)]; omega
      · by_cases p3 : c < b
        · simp [p2, p3] at h2
        · simp [p2, p3] at h2
          rw [if_neg (by omega), if_neg (by omega)]
          exact cb_trans _ _ _ h1 h2
end Go.Proofs.YtbaljfkjgfkdiaaDoor
