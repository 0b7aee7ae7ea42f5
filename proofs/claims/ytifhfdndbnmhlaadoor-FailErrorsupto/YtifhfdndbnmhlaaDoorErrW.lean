/- The walk of FailErrors, whole: a failure is found in an error through any wrapping; the conditions: the listed variables hold what the start lays, and the notes are not too long together. -/
import Derived.Test.YtifhfdndbnmhlaaDoorEns
import Derived.Test.YtifhfdndbnmhlaaDoorEnb
import Derived.Test.YtifhfdndbnmhlaaDoorEss
import Derived.Test.YtifhfdndbnmhlaaDoorEsb
namespace Go.Proofs.YtifhfdndbnmhlaaDoor
open Go.RowKit Go.Sort
set_option linter.unusedVariables false
theorem Nts.take {w : World} {A : Option Addr} {xs : List ByteArray} (h : Nts w A xs) (n : Nat) : Nts w A (xs.take n) := fun h0 => by
  rw [List.length_take] at h0
  obtain ⟨b, off, hA, hc⟩ := h (by omega)
  refine ⟨b, off, hA, fun i hi => ?_⟩
  rw [List.getElem_take]
  exact hc i (by rw [List.length_take] at hi; omega)
theorem errs5 (k c r k' c' r' : Int) (xs : List ByteArray) (v : Value) (w : World) (hS : St w) (hk : I64 k) (hc : I64 c) (hr : I64 r) (hk' : I64 k') (hc' : I64 c') (hr' : I64 r') (hX : ∃ A cap, v = .slice A xs.length cap ∧ xs.length ≤ cap ∧ Nts w A xs) (hz : (saidB xs.reverse).size ≤ 4194304) :
    Calls Tryd.prog 5 #[fl k c r, fl k' c' r', v] w fun e w' => e = .returned (.bool true) ∧ Gr w w' := by
  obtain ⟨A, cap, rfl, hcap, hN⟩ := hX
  by_cases hx : xs.length ≤ 1000
  · cases hn : none3 k c r with
    | true =>
      obtain ⟨rfl, rfl, rfl⟩ := none_zero hn
      exact errs_none k' c' r' xs A cap hx w hS hk' hc' hr' hN hz
    | false => exact errs_some k c r k' c' r' hn xs A cap hx w hS hk hc hr hk' hc' hr' hN hz
  · obtain ⟨b, off, rfl, hcell⟩ := hN (by omega)
    have hz' := said_rev_le xs 1000
    have hl : (xs.take 1000).length = 1000 := by rw [List.length_take]; omega
    cases hn : none3 k c r with
    | true =>
      obtain ⟨rfl, rfl, rfl⟩ := none_zero hn
      exact errs_none_big k' c' r' (xs.take 1000) b off cap xs.length (by omega) hl hcap w hS hk' hc' hr' (hN.take 1000) (by omega)
    | false => exact errs_some_big k c r k' c' r' hn (xs.take 1000) b off cap xs.length (by omega) hl hcap w hS hk hc hr hk' hc' hr' (hN.take 1000) (by omega)
end Go.Proofs.YtifhfdndbnmhlaaDoor
