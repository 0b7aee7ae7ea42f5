/- Lists of keys in memory, and the contract of the law's own comparison of two lists that are the same; no conditions but that the lengths fit. -/
import Derived.Test.YtbaljfkjgfkdiaaDoorText
namespace Go.Proofs.YtbaljfkjgfkdiaaDoor
open Go.RowKit Go.Sort
set_option linter.unusedVariables false

abbrev K := Int × ByteArray
structure Row (w : World) (b off : Nat) (xs : List K) : Prop where
  lt : b < w.heap.size
  at0 : ∀ i (h : i < xs.length), w.cell? ⟨b, off + i * 2, none⟩ = some (.int .u16 xs[i].1)
  at1 : ∀ i (h : i < xs.length), w.cell? ⟨b, off + i * 2 + 1, none⟩ = some (.string xs[i].2)
theorem Row.below {w w' : World} {b off : Nat} {xs : List K} (h : Row w b off xs) (hb : Below w.heap.size w w') : Row w' b off xs :=
  ⟨Nat.lt_of_lt_of_le h.lt hb.size, fun i hi => by rw [hb.cell (by exact h.lt)]; exact h.at0 i hi, fun i hi => by rw [hb.cell (by exact h.lt)]; exact h.at1 i hi⟩
def Sl (w : World) (v : Value) (xs : List K) : Prop := (xs = [] ∧ ∃ a cap, v = .slice a 0 cap) ∨ ∃ b off cap, v = .slice (some ⟨b, off, none⟩) xs.length cap ∧ Row w b off xs
theorem Sl.below {w w' : World} {v : Value} {xs : List K} (h : Sl w v xs) (hb : Below w.heap.size w w') : Sl w' v xs := by
  rcases h with h | ⟨b, off, cap, hv, hr⟩
  · exact Or.inl h
  · exact Or.inr ⟨b, off, cap, hv, hr.below hb⟩
theorem Sl.gr {w w' : World} {v : Value} {xs : List K} (h : Sl w v xs) (hg : Gr w w') : Sl w' v xs := h.below hg.below

set_option maxHeartbeats 1000000 in
theorem same24_row (xs : List K) (b off cap b' off' cap' : Nat) (w : World) (hl : xs.length ≤ 9223372036854775807) (R : Row w b off xs) (R' : Row w b' off' xs) :
    Calls Tryd.prog 24 #[.slice (some ⟨b, off, none⟩) xs.length cap, .slice (some ⟨b', off', none⟩) xs.length cap'] w fun e w' => e = .returned (.bool true) ∧ Gr w w' := by
  have mixed : Tryd.prog.follows .mixedOrders = true := by kernel_rfl
  have HR : Hid _ := R
  have HR' : Hid _ := R'
  clear R R'
  go_enter Tryd.func24, Tryd.ntmps24
  go_wp2
  go_loopw [13] (fun i wr => ∃ k : Nat, i = .int .i64 k ∧ k ≤ xs.length ∧ Gr w wr) (fun i _ => xs.length - (intOf i).toNat)
  case atStart => exact ⟨0, rfl, Nat.zero_le _, Gr.refl _⟩
  case round =>
    obtain ⟨k, rfl, hk, G⟩ := hrel
    by_cases hlt : k < xs.length
    · have hz : (k : Int) < (xs.length : Int) := by omega
      have hz0 : (0 : Int) ≤ (k : Int) := by omega
      have f0 : ∀ n os, (grow (wr.drewN n) os).cell? ⟨b, off + k * 2, none⟩ = some (.int .u16 xs[k].1) := fun n os => (G.grow n os).cell (HR.out.at0 k hlt) (by exact HR.out.lt)
      have f1 : ∀ n os, (grow (wr.drewN n) os).cell? ⟨b, off + k * 2 + 1, none⟩ = some (.string xs[k].2) := fun n os => (G.grow n os).cell (HR.out.at1 k hlt) (by exact HR.out.lt)
      have f2 : ∀ n os, (grow (wr.drewN n) os).cell? ⟨b', off' + k * 2, none⟩ = some (.int .u16 xs[k].1) := fun n os => (G.grow n os).cell (HR'.out.at0 k hlt) (by exact HR'.out.lt)
      have f3 : ∀ n os, (grow (wr.drewN n) os).cell? ⟨b', off' + k * 2 + 1, none⟩ = some (.string xs[k].2) := fun n os => (G.grow n os).cell (HR'.out.at1 k hlt) (by exact HR'.out.lt)
      have HG : Hid (Gr w wr) := G
      clear G
      generalize xs[k].1 = x at *
      generalize xs[k].2 = y at *
      go_wp2_with fail
      go_quiet_grown (first | (go_at_call 12; refine Calls.grown_of (given12 _ _ _)))
      go_wp2
      go_roundw
      case rel => exact ⟨k + 1, by go_num, by omega, HG.out.grow _ _⟩
      case measure => simp [intOf]; omega
    · have hz : ¬ (k : Int) < (xs.length : Int) := by omega
      go_wp2
      go_ret
      exact ⟨rfl, G⟩

theorem same24_nil (a a' : Option Addr) (cap cap' : Nat) (w : World) :
    Calls Tryd.prog 24 #[.slice a 0 cap, .slice a' 0 cap'] w fun e w' => e = .returned (.bool true) ∧ Gr w w' := by
  go_enter Tryd.func24, Tryd.ntmps24
  go_wp2
  go_loop [13] (fun i => i = .int .i64 0) (fun _ => 0)
  case atStart => rfl
  case round =>
    subst hrel
    go_wp2
    go_ret
    exact ⟨rfl, Gr.refl _⟩
theorem same24 (xs : List K) (v v' : Value) (w : World) (hl : xs.length ≤ 9223372036854775807) (R : Sl w v xs) (R' : Sl w v' xs) :
    Calls Tryd.prog 24 #[v, v'] w fun e w' => e = .returned (.bool true) ∧ Gr w w' := by
  rcases R with ⟨h0, a, cap, rfl⟩ | ⟨b, off, cap, rfl, R⟩
  · rcases R' with ⟨_, a', cap', rfl⟩ | ⟨b', off', cap', rfl, R'⟩
    · exact same24_nil a a' cap cap' w
    · rw [h0]; exact same24_nil a _ cap cap' w
  · rcases R' with ⟨h0, a', cap', rfl⟩ | ⟨b', off', cap', rfl, R'⟩
    · rw [h0]; exact same24_nil _ a' cap cap' w
    · exact same24_row xs b off cap b' off' cap' w hl R R'
end Go.Proofs.YtbaljfkjgfkdiaaDoor
