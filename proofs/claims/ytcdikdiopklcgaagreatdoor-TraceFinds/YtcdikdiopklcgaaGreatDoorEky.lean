/- Keys as cells; no conditions. -/
import Derived.Test.YtcdikdiopklcgaaGreatDoorMpk
import Derived.Test.YtcdikdiopklcgaaGreatDoorRsl
import Derived.Lib.SmallJoins
import Derived.Shelf.Small.Strs
import Derived.BigRegion
import Derived.Shelf.SlSortCmp.QuietGrown
import Derived.WalkKit
import Derived.ProofKit
import Derived.BigQuiet
namespace Go.Proofs.YtcdikdiopklcgaaGreatDoor.Me
open Go.RowKit Go.Sort Go.Maps Go.ChangeMaps Go.WideMaps
set_option maxRecDepth 100000
set_option linter.unusedVariables false
def cellsK (xs : List K) : List Value := xs.flatMap fun x => [.int .u16 x.1, .string x.2]
theorem cellsK_app (xs ys : List K) : cellsK (xs ++ ys) = cellsK xs ++ cellsK ys := by unfold cellsK; simp
theorem cellsK_one (x : K) : cellsK [x] = [.int .u16 x.1, .string x.2] := rfl
theorem cellsK_len (xs : List K) : (cellsK xs).length = xs.length * 2 := by
  induction xs with
  | nil => rfl
  | cons x xs ih => rw [show x :: xs = [x] ++ xs from rfl, cellsK_app, List.length_append, ih, cellsK_one]; simp; omega
theorem cellsK_at0 : ∀ (xs : List K) (i : Nat) (h : i < xs.length), (cellsK xs)[i * 2]? = some (.int .u16 xs[i].1)
  | x :: xs, 0, _ => rfl
  | x :: xs, i + 1, h => by
    rw [show (i + 1) * 2 = i * 2 + 1 + 1 by omega]
    exact cellsK_at0 xs i (by simpa using h)
theorem cellsK_at1 : ∀ (xs : List K) (i : Nat) (h : i < xs.length), (cellsK xs)[i * 2 + 1]? = some (.string xs[i].2)
  | x :: xs, 0, _ => rfl
  | x :: xs, i + 1, h => by
    rw [show (i + 1) * 2 + 1 = i * 2 + 1 + 1 + 1 by omega]
    exact cellsK_at1 xs i (by simpa using h)
theorem info36 : (Tryz.prog.info? 26).map (fun i => (i.zero, i.size, i.bytes)) = some (some (.agg #[.int .u16 0, .string ⟨#[]⟩]), 2, 24) := by kernel_rfl
theorem info44 : (Tryz.prog.info? 42).map (fun i => (i.zero, i.size, i.bytes)) = some (some (.agg #[.int .u16 0, .string ⟨#[]⟩]), 2, 24) := by kernel_rfl
theorem cell_two_new (w : World) (x y : Value) (t : TypeId) : ∀ j u, [x, y][j]? = some u → (w.alloc (.cells #[x, y] t)).cell? ((⟨w.heap.size, 0, none⟩ : Addr).add j) = some u := by
  intro j u hj
  match j, hj with
  | 0, hj => simp at hj; subst hj; simp [Addr.add]
  | 1, hj => simp at hj; subst hj; simp [Addr.add]
end Go.Proofs.YtcdikdiopklcgaaGreatDoor.Me
