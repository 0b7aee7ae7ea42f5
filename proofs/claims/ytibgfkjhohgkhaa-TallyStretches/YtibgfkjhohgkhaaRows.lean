/-
  No cell of these rows narrows 'for every input' (looked for: loops, veiled, ifaces, maps, wideKeys, modest, calm, conditions, laid).
  DERIVED. THE GIVEN ROWS OF THIS SEAT. 4 by the template 'for every input the law returns true; each argument reads behind the call as it read before'; 0 by the template 'total and deterministic' (their statements: YtibgfkjhohgkhaaTotals.lean).
  GIVEN WITH THE SEED: the statements are not yours to turn. If you find one false, say at which input.
  Laid BY PROGRAM, IN A SANDBOX (cutbox-rows.mjs): the forced cells as the released guide's own fill.sh prints them over the translation d0e652f5d16f00db… (all of the seat's roots in one cut). By AI agents, Wed Nov 11 2026. No macro, syntax, notation, axiom, sorry.
-/
import Derived.Test.YtibgfkjhohgkhaaChecked
import GoSem.Claim
import GoSem.ClaimJoined
import GoSem.ClaimMapViews
import Derived.JoinedTies
import Derived.KernelRfl
namespace Go.Proofs.Ytibgfkjhohgkhaa
/- THE CELL 'sum', in the pinned program and in every row, IS THE sha256 OF THE DUMP (.gsa) THAT YtibgfkjhohgkhaaProg.lean LOADS. Nothing in Lean hashes anything: it is a label: what it is worth is what the hold of that sum in a sandbox is worth. -/
noncomputable def Try.pinned : Pinned := { name := "ytibgfkjhohgkhaa", sum := "d0e652f5d16f00dbc71773bb3fa3129bca60903d49b1e1e0eb71e4e9a331a249", checked := Try.checked }
namespace Rows
def none {H : Type} : Left H := { results := [], args := [] }

/-- 'convoylaw26.TallyCounts': WHATEVER THE INPUT: true; the input reads as it did. -/
def tallyCountsSpec : ChangeSpec := { name := "tallyCounts", fn := fun _ => fun
  | [d1, d2] => { results := [.lit (.bool true)], args := [d1, d2] }
  | _ => none }
def tallyCountsRow : OpenClaim := { program := "ytibgfkjhohgkhaa", sum := "d0e652f5d16f00dbc71773bb3fa3129bca60903d49b1e1e0eb71e4e9a331a249", func := "convoy/convoylaw26.TallyCounts", spec := "tallyCounts", plainKeys := false, apart := false }
def TallyCountsSaid : Prop := tallyCountsRow.holds Try.pinned (OpenSpec.ofChange tallyCountsSpec)

/-- ITS FALSE NEIGHBOUR: 'it returns false'. Refute it at one input. -/
def tallyCountsWrong : ChangeSpec := { name := "tallyCounts", fn := fun _ => fun
  | [d1, d2] => { results := [.lit (.bool false)], args := [d1, d2] }
  | _ => none }
def TallyCountsWrongFalsely : Prop := tallyCountsRow.holds Try.pinned (OpenSpec.ofChange tallyCountsWrong)

/-- 'convoylaw26.TallyTimes': WHATEVER THE INPUT: true; the input reads as it did. -/
def tallyTimesSpec : ChangeSpec := { name := "tallyTimes", fn := fun _ => fun
  | [d] => { results := [.lit (.bool true)], args := [d] }
  | _ => none }
def tallyTimesRow : OpenClaim := { program := "ytibgfkjhohgkhaa", sum := "d0e652f5d16f00dbc71773bb3fa3129bca60903d49b1e1e0eb71e4e9a331a249", func := "convoy/convoylaw26.TallyTimes", spec := "tallyTimes", unfollowed := true, recurses := true, plainKeys := false, apart := false }
def TallyTimesSaid : Prop := tallyTimesRow.holds Try.pinned (OpenSpec.ofChange tallyTimesSpec)

/-- ITS FALSE NEIGHBOUR: 'it returns false'. Refute it at one input. -/
def tallyTimesWrong : ChangeSpec := { name := "tallyTimes", fn := fun _ => fun
  | [d] => { results := [.lit (.bool false)], args := [d] }
  | _ => none }
def TallyTimesWrongFalsely : Prop := tallyTimesRow.holds Try.pinned (OpenSpec.ofChange tallyTimesWrong)

/-- 'convoylaw26.TallyStretches': WHATEVER THE INPUT: true; the input reads as it did. -/
def tallyStretchesSpec : ChangeSpec := { name := "tallyStretches", fn := fun _ => fun
  | [d1, d2] => { results := [.lit (.bool true)], args := [d1, d2] }
  | _ => none }
def tallyStretchesRow : OpenClaim := { program := "ytibgfkjhohgkhaa", sum := "d0e652f5d16f00dbc71773bb3fa3129bca60903d49b1e1e0eb71e4e9a331a249", func := "convoy/convoylaw26.TallyStretches", spec := "tallyStretches", unfollowed := true, recurses := true, plainKeys := false, apart := false }
def TallyStretchesSaid : Prop := tallyStretchesRow.holds Try.pinned (OpenSpec.ofChange tallyStretchesSpec)

/-- ITS FALSE NEIGHBOUR: 'it returns false'. Refute it at one input. -/
def tallyStretchesWrong : ChangeSpec := { name := "tallyStretches", fn := fun _ => fun
  | [d1, d2] => { results := [.lit (.bool false)], args := [d1, d2] }
  | _ => none }
def TallyStretchesWrongFalsely : Prop := tallyStretchesRow.holds Try.pinned (OpenSpec.ofChange tallyStretchesWrong)

/-- 'convoylaw26.TallyQuantiles': WHATEVER THE INPUT: true; the input reads as it did. -/
def tallyQuantilesSpec : ChangeSpec := { name := "tallyQuantiles", fn := fun _ => fun
  | [d1, d2, d3] => { results := [.lit (.bool true)], args := [d1, d2, d3] }
  | _ => none }
def tallyQuantilesRow : OpenClaim := { program := "ytibgfkjhohgkhaa", sum := "d0e652f5d16f00dbc71773bb3fa3129bca60903d49b1e1e0eb71e4e9a331a249", func := "convoy/convoylaw26.TallyQuantiles", spec := "tallyQuantiles", plainKeys := false, apart := false }
def TallyQuantilesSaid : Prop := tallyQuantilesRow.holds Try.pinned (OpenSpec.ofChange tallyQuantilesSpec)

/-- ITS FALSE NEIGHBOUR: 'it returns false'. Refute it at one input. -/
def tallyQuantilesWrong : ChangeSpec := { name := "tallyQuantiles", fn := fun _ => fun
  | [d1, d2, d3] => { results := [.lit (.bool false)], args := [d1, d2, d3] }
  | _ => none }
def TallyQuantilesWrongFalsely : Prop := tallyQuantilesRow.holds Try.pinned (OpenSpec.ofChange tallyQuantilesWrong)

/- THE SECOND FORM. 'bulk': how many values and letters a reading holds, each counted each time it is reached (what is shared counts as often as it is met; a slice's spare places count too). A statement '..UptoSaid' is the law's where the arguments, and the package variables that the reading takes, are together of bulk at most 1048576: NARROWER than '..Said'. Prove '..Said' where nothing that the law and all that it calls make is longer than what came in: it says more and counts as full. Else prove '..UptoSaid'. A law counts once. -/
mutual
def uptoBulk {H : Type} : DataW H → Nat
  | .lit (.string bytes) => bytes.length + 1
  | .lit _ => 1
  | .nil => 1
  | .ptr d => uptoBulk d + 1
  | .slice elems spare => uptoBulkAll elems + uptoBulkAll spare + 1
  | .agg parts => uptoBulkAll parts + 1
  | .iface _ d => uptoBulk d + 1
  | .map entries => uptoBulkEntries entries + 1
  | .held _ => 1
def uptoBulkAll {H : Type} : List (DataW H) → Nat
  | [] => 0
  | d :: r => uptoBulk d + uptoBulkAll r
def uptoBulkEntries {H : Type} : List (Lit × DataW H) → Nat
  | [] => 0
  | x :: r => uptoBulkEntry x + uptoBulkEntries r
def uptoBulkEntry {H : Type} : Lit × DataW H → Nat
  | (.string bytes, d) => bytes.length + uptoBulk d + 1
  | (_, d) => uptoBulk d + 1
 end
def uptoSmall : (H : Type) → List (DataW H) → Bool := fun _ ds => decide (uptoBulkAll ds ≤ 1048576)
def OpenSpec.upto (s : _root_.Go.ChangeSpec) : _root_.Go.OpenSpec := { _root_.Go.OpenSpec.ofChange s with cond := some uptoSmall }

/-- 'convoylaw26.TallyCounts', WHERE WHAT IT READS IS OF BULK AT MOST 1048576: true; the input reads as it did. -/
def tallyCountsUptoRow : OpenClaim := { program := "ytibgfkjhohgkhaa", sum := "d0e652f5d16f00dbc71773bb3fa3129bca60903d49b1e1e0eb71e4e9a331a249", func := "convoy/convoylaw26.TallyCounts", spec := "tallyCounts", plainKeys := false, apart := false, narrowed := true }
def TallyCountsUptoSaid : Prop := tallyCountsUptoRow.holds Try.pinned (OpenSpec.upto tallyCountsSpec)

/-- 'convoylaw26.TallyTimes', WHERE WHAT IT READS IS OF BULK AT MOST 1048576: true; the input reads as it did. -/
def tallyTimesUptoRow : OpenClaim := { program := "ytibgfkjhohgkhaa", sum := "d0e652f5d16f00dbc71773bb3fa3129bca60903d49b1e1e0eb71e4e9a331a249", func := "convoy/convoylaw26.TallyTimes", spec := "tallyTimes", unfollowed := true, recurses := true, plainKeys := false, apart := false, narrowed := true }
def TallyTimesUptoSaid : Prop := tallyTimesUptoRow.holds Try.pinned (OpenSpec.upto tallyTimesSpec)

/-- 'convoylaw26.TallyStretches', WHERE WHAT IT READS IS OF BULK AT MOST 1048576: true; the input reads as it did. -/
def tallyStretchesUptoRow : OpenClaim := { program := "ytibgfkjhohgkhaa", sum := "d0e652f5d16f00dbc71773bb3fa3129bca60903d49b1e1e0eb71e4e9a331a249", func := "convoy/convoylaw26.TallyStretches", spec := "tallyStretches", unfollowed := true, recurses := true, plainKeys := false, apart := false, narrowed := true }
def TallyStretchesUptoSaid : Prop := tallyStretchesUptoRow.holds Try.pinned (OpenSpec.upto tallyStretchesSpec)

/-- 'convoylaw26.TallyQuantiles', WHERE WHAT IT READS IS OF BULK AT MOST 1048576: true; the input reads as it did. -/
def tallyQuantilesUptoRow : OpenClaim := { program := "ytibgfkjhohgkhaa", sum := "d0e652f5d16f00dbc71773bb3fa3129bca60903d49b1e1e0eb71e4e9a331a249", func := "convoy/convoylaw26.TallyQuantiles", spec := "tallyQuantiles", plainKeys := false, apart := false, narrowed := true }
def TallyQuantilesUptoSaid : Prop := tallyQuantilesUptoRow.holds Try.pinned (OpenSpec.upto tallyQuantilesSpec)

end Rows
end Go.Proofs.Ytibgfkjhohgkhaa
