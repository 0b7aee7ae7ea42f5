/- The contract of the document's taking of a key where one stands; the text's length is within the form's reach. -/
import Derived.Test.YtbaljfkjgfkdiaaDoorTak
import Derived.BigRegion
namespace Go.Proofs.YtbaljfkjgfkdiaaDoor
open Go.RowKit Go.Sort
set_option linter.unusedVariables false

set_option maxHeartbeats 1000000 in
theorem ref19_ok (s : ByteArray) (k n : Nat) (w : World) (hs : s.size ≤ 281474976710656) (hk : k + 3 ≤ s.size) (hn : s[k + 2].toNat = n) (p q : Nat) (hp : s[k].toNat = p) (hq : s[k + 1].toNat = q) (h : n ≤ 64) (h' : k + 3 + n ≤ s.size) :
    Calls Tryd.prog 19 #[.string s, .int .i64 k] w fun e w' => e = .returned (.tuple #[.agg #[.int .u16 ((p : Int) + 256 * (q : Int)), .string (s.extract (k + 3) (k + 3 + n))], .int .i64 ((k : Int) + 3 + (n : Int)), .bool true]) ∧ Below w.heap.size w w' := by
  have k0 : (k : Int) < (s.size : Int) := by omega
  have k1 : (k : Int) + 1 < (s.size : Int) := by omega
  have k1' : ((k : Int) + 1).toNat = k + 1 := by omega
  have k2 : (k : Int) + 2 < (s.size : Int) := by omega
  have k3 : ((k : Int) + 2).toNat = k + 2 := by omega
  have hx : ¬ (s.size : Int) - (k : Int) < 3 := by omega
  have hx' : ¬ (s.size : Int) < (k : Int) := by omega
  have hn0 : (0 : Int) ≤ (n : Int) := by omega
  have hn1 : (n : Int) ≤ 255 := by omega
  have h0' : ¬ (64 : Int) < (n : Int) := by omega
  have h1' : ¬ (s.size : Int) - (k : Int) - 3 < (n : Int) := by omega
  have p1 : p ≤ 255 := by
    have := s[k].toNat_lt
    omega
  have q1 : q ≤ 255 := by
    have := s[k + 1].toNat_lt
    omega
  have wk : IntKind.i64.wrap ((k : Int) + 1) = (k : Int) + 1 := by rw [IntKind.wrap_i64]; omega
  have wk3 : IntKind.i64.wrap ((k : Int) + 3) = (k : Int) + 3 := by rw [IntKind.wrap_i64]; omega
  have wkn : IntKind.i64.wrap ((k : Int) + 3 + (n : Int)) = (k : Int) + 3 + (n : Int) := by rw [IntKind.wrap_i64]; omega
  have wp : IntKind.u16.wrap (p : Int) = (p : Int) := by rw [IntKind.wrap_u16]; omega
  have wq : IntKind.u16.wrap (q : Int) = (q : Int) := by rw [IntKind.wrap_u16]; omega
  have wq2 : IntKind.u16.wrap (256 * (q : Int)) = 256 * (q : Int) := by rw [IntKind.wrap_u16]; omega
  have wpq : IntKind.u16.wrap ((p : Int) + 256 * (q : Int)) = (p : Int) + 256 * (q : Int) := by rw [IntKind.wrap_u16]; omega
  have hsl : ∀ w, (Instr.slice 9 (.string s) (some (.int .i64 ((k : Int) + 3))) (some (.int .i64 ((k : Int) + 3 + (n : Int)))) none).run Tryd.prog w = .ok (.string (s.extract (k + 3) (k + 3 + n))) w := fun w => by
    rw [run_slice_string w 9 s .i64 .i64 _ _ Tryd.underlying9 (by omega) (by omega) (by omega), show ((k : Int) + 3).toNat = k + 3 by omega, show ((k : Int) + 3 + (n : Int)).toNat = k + 3 + n by omega]
  go_enter Tryd.func19, Tryd.ntmps19
  go_wp2
  go_region
  all_goals go_wp2
  all_goals (exact bodyPost_ret (v := .tuple #[.agg #[.int .u16 ((p : Int) + 256 * (q : Int)), .string (s.extract (k + 3) (k + 3 + n))], .int .i64 ((k : Int) + 3 + (n : Int)), .bool true]) (by simp [results, Tryd.results19, go_sem]) rfl ⟨rfl, by repeat (first | exact Below.refl _ _ | (refine Below.drew ?_) | (refine Below.setCell ?_ (Nat.le_refl _) _) | (refine Below.alloc ?_ (Nat.le_refl _) _))⟩)
end Go.Proofs.YtbaljfkjgfkdiaaDoor
