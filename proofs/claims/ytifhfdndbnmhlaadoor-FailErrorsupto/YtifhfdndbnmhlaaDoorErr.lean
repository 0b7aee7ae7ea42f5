/- What the walk of FailErrors leans on: lists of notes in memory, how long what is said grows, and the comparisons of failures; no conditions but those that each states. -/
import Derived.Test.YtifhfdndbnmhlaaDoorBld
import Derived.Test.YtifhfdndbnmhlaaDoorRtx
namespace Go.Proofs.YtifhfdndbnmhlaaDoor
open Go.RowKit Go.Sort
set_option linter.unusedVariables false
set_option linter.unusedSimpArgs false

/-- a list of notes, as a slice's address tells it -/
def Nts (w : World) (A : Option Addr) (xs : List ByteArray) : Prop :=
  0 < xs.length → ∃ b off, A = some ⟨b, off, none⟩ ∧ ∀ i (h : i < xs.length), w.cell? ⟨b, off + i, none⟩ = some (.string xs[i])
theorem Nts.gr {w w' : World} {A : Option Addr} {xs : List ByteArray} (h : Nts w A xs) (hg : Gr w w') : Nts w' A xs := fun h0 => by
  obtain ⟨b, off, hA, hc⟩ := h h0
  exact ⟨b, off, hA, fun i hi => hg.cell' (hc i hi)⟩
theorem said_app (a b : List ByteArray) : saidB (a ++ b) = saidB a ++ saidB b := by
  apply ByteArray.ext
  apply Array.ext'
  induction a with
  | nil => simp [saidB, ByteArray.data_append]
  | cons n a ih =>
    simp only [List.cons_append, saidB, ByteArray.data_append, Array.toList_append, ih, List.append_assoc]
theorem said_rev_le (xs : List ByteArray) (p : Nat) : (saidB (xs.take p).reverse).size ≤ (saidB xs.reverse).size := by
  have h : xs.reverse = (xs.drop p).reverse ++ (xs.take p).reverse := by rw [← List.reverse_append, List.take_append_drop]
  rw [h, said_app, ByteArray.size_append]
  omega
theorem said_step (xs : List ByteArray) (p : Nat) (h : p < xs.length) : saidB (xs.take (p + 1)).reverse = xs[p] ++ col ++ saidB (xs.take p).reverse := by
  rw [List.take_succ_eq_append_getElem h, List.reverse_append]
  rfl
theorem rev_step (xs : List ByteArray) (p : Nat) (h : p < xs.length) : (xs.take (p + 1)).reverse = xs[p] :: (xs.take p).reverse := by
  rw [List.take_succ_eq_append_getElem h, List.reverse_append]
  rfl
theorem eql23 (k c r k' c' r' : Int) (w : World) : (binOp .eql 23 (fl k c r) (fl k' c' r')).run Tryd.prog w = .ok (.bool (same k c r k' c' r')) w := by
  by_cases h1 : k = k'
  · by_cases h2 : c = c'
    · by_cases h3 : r = r'
      · go_simp
        simp [same, h1, h2, h3]
      · go_simp
        simp [same, h1, h2, h3]
    · go_simp
      simp [same, h1, h2]
  · go_simp
    simp [same, h1]
theorem same_none (k c r : Int) : same k c r 0 0 0 = none3 k c r := rfl
theorem none_same (k c r : Int) : same 0 0 0 k c r = none3 k c r := by
  unfold same none3
  congr 1
  simp only [eq_comm]
theorem same_comm (k c r k' c' r' : Int) : same k' c' r' k c r = same k c r k' c' r' := by
  unfold same
  congr 1
  rw [eq_comm (a := k'), eq_comm (a := c'), eq_comm (a := r')]
abbrev oth : ByteArray := ⟨#[111, 116, 104, 101, 114]⟩
theorem same_self (k c r : Int) : same k c r k c r = true := by simp [same]
end Go.Proofs.YtifhfdndbnmhlaaDoor
