/-
  No cell of these rows narrows 'for every input' (looked for: loops, veiled, ifaces, maps, wideKeys, modest, calm, conditions, laid).
  DERIVED. THE GIVEN ROWS OF THIS SEAT. 3 by the template 'for every input the law returns true; each argument reads behind the call as it read before'; 0 by the template 'total and deterministic' (their statements: YtllchnancjgijaaGreatTotals.lean).
  GIVEN WITH THE SEED: the statements are not yours to turn. If you find one false, say at which input.
  Laid BY PROGRAM, IN A SANDBOX (cutbox-rows.mjs): the forced cells as the released guide's own fill.sh prints them over the translation 168774998e4ddd42… (all of the seat's roots in one cut). By AI agents, Wed Nov 11 2026. No macro, syntax, notation, axiom, sorry.
-/
import Derived.Test.YtllchnancjgijaaGreatChecked
import GoSem.Claim
import GoSem.ClaimJoined
import GoSem.ClaimMapViews
import Derived.JoinedTies
import Derived.KernelRfl
namespace Go.Proofs.YtllchnancjgijaaGreat
/- THE CELL 'sum', in the pinned program and in every row, IS THE sha256 OF THE DUMP (.gsa) THAT YtllchnancjgijaaGreatProg.lean LOADS. Nothing in Lean hashes anything: it is a label: what it is worth is what the hold of that sum in a sandbox is worth. -/
noncomputable def Tryz.pinned : Pinned := { name := "ytllchnancjgijaagreat", sum := "168774998e4ddd421f84e073bfff2565274e4a143b8e4ecedd0efcbddfe494ec", checked := Tryz.checked }
namespace Rows
def none {H : Type} : Left H := { results := [], args := [] }

/-- 'convoylaw18.ShardApart': WHATEVER THE INPUT: true; the input reads as it did. -/
def shardApartSpec : ChangeSpec := { name := "shardApart", fn := fun _ => fun
  | [d1, d2, d3] => { results := [.lit (.bool true)], args := [d1, d2, d3] }
  | _ => none }
def shardApartRow : OpenClaim := { program := "ytllchnancjgijaagreat", sum := "168774998e4ddd421f84e073bfff2565274e4a143b8e4ecedd0efcbddfe494ec", func := "convoy/convoylaw18.ShardApart", spec := "shardApart", inPlace := ["math/bits.Add64"], plainKeys := false, apart := false }
def ShardApartSaid : Prop := shardApartRow.holds Tryz.pinned (OpenSpec.ofChange shardApartSpec)

/-- ITS FALSE NEIGHBOUR: 'it returns false'. Refute it at one input. -/
def shardApartWrong : ChangeSpec := { name := "shardApart", fn := fun _ => fun
  | [d1, d2, d3] => { results := [.lit (.bool false)], args := [d1, d2, d3] }
  | _ => none }
def ShardApartWrongFalsely : Prop := shardApartRow.holds Tryz.pinned (OpenSpec.ofChange shardApartWrong)

/-- 'convoylaw18.ShardNil': WHATEVER THE INPUT: true; the input reads as it did. -/
def shardNilSpec : ChangeSpec := { name := "shardNil", fn := fun _ => fun
  | [d1, d2, d3] => { results := [.lit (.bool true)], args := [d1, d2, d3] }
  | _ => none }
def shardNilRow : OpenClaim := { program := "ytllchnancjgijaagreat", sum := "168774998e4ddd421f84e073bfff2565274e4a143b8e4ecedd0efcbddfe494ec", func := "convoy/convoylaw18.ShardNil", spec := "shardNil", inPlace := ["math/bits.Add64", "maps.clone"], unfollowed := true, recurses := true, plainKeys := false, apart := false }
def ShardNilSaid : Prop := shardNilRow.holds Tryz.pinned (OpenSpec.ofChange shardNilSpec)

/-- ITS FALSE NEIGHBOUR: 'it returns false'. Refute it at one input. -/
def shardNilWrong : ChangeSpec := { name := "shardNil", fn := fun _ => fun
  | [d1, d2, d3] => { results := [.lit (.bool false)], args := [d1, d2, d3] }
  | _ => none }
def ShardNilWrongFalsely : Prop := shardNilRow.holds Tryz.pinned (OpenSpec.ofChange shardNilWrong)

/-- 'convoylaw18.ShardAlone': WHATEVER THE INPUT: true; the input reads as it did. -/
def shardAloneSpec : ChangeSpec := { name := "shardAlone", fn := fun _ => fun
  | [d1, d2] => { results := [.lit (.bool true)], args := [d1, d2] }
  | _ => none }
def shardAloneRow : OpenClaim := { program := "ytllchnancjgijaagreat", sum := "168774998e4ddd421f84e073bfff2565274e4a143b8e4ecedd0efcbddfe494ec", func := "convoy/convoylaw18.ShardAlone", spec := "shardAlone", inPlace := ["math/bits.Add64"], unfollowed := true, recurses := true, plainKeys := false, apart := false }
def ShardAloneSaid : Prop := shardAloneRow.holds Tryz.pinned (OpenSpec.ofChange shardAloneSpec)

/-- ITS FALSE NEIGHBOUR: 'it returns false'. Refute it at one input. -/
def shardAloneWrong : ChangeSpec := { name := "shardAlone", fn := fun _ => fun
  | [d1, d2] => { results := [.lit (.bool false)], args := [d1, d2] }
  | _ => none }
def ShardAloneWrongFalsely : Prop := shardAloneRow.holds Tryz.pinned (OpenSpec.ofChange shardAloneWrong)

/- THE SECOND FORM. 'bulk': how many values and letters a reading holds, each counted each time it is reached (what is shared counts as often as it is met; a slice's spare places count too). A statement '..UptoSaid' is the law's where the arguments, and the package variables that the reading takes, are together of bulk at most 1048576: NARROWER than '..Said'. Prove '..Said' where nothing that the law and all that it calls make is longer than what came in: it says more and counts as full. Else prove '..UptoSaid'. A law counts once. -/
mutual
def uptoBulk {H : Type} : DataW H → Nat
  | .lit (.string bytes) => bytes.length + 1
  | .lit _ => 1
  | .nil => 1
  | .ptr d => uptoBulk d + 1
  | .slice elems spare => uptoBulkAll elems + uptoBulkAll spare + 1
  | .agg parts => uptoBulkAll parts + 1
  | .iface _ d => uptoBulk d + 1
  | .map entries => uptoBulkEntries entries + 1
  | .held _ => 1
def uptoBulkAll {H : Type} : List (DataW H) → Nat
  | [] => 0
  | d :: r => uptoBulk d + uptoBulkAll r
def uptoBulkEntries {H : Type} : List (Lit × DataW H) → Nat
  | [] => 0
  | x :: r => uptoBulkEntry x + uptoBulkEntries r
def uptoBulkEntry {H : Type} : Lit × DataW H → Nat
  | (.string bytes, d) => bytes.length + uptoBulk d + 1
  | (_, d) => uptoBulk d + 1
 end
def uptoSmall : (H : Type) → List (DataW H) → Bool := fun _ ds => decide (uptoBulkAll ds ≤ 1048576)
def OpenSpec.upto (s : _root_.Go.ChangeSpec) : _root_.Go.OpenSpec := { _root_.Go.OpenSpec.ofChange s with cond := some uptoSmall }

/-- 'convoylaw18.ShardApart', WHERE WHAT IT READS IS OF BULK AT MOST 1048576: true; the input reads as it did. -/
def shardApartUptoRow : OpenClaim := { program := "ytllchnancjgijaagreat", sum := "168774998e4ddd421f84e073bfff2565274e4a143b8e4ecedd0efcbddfe494ec", func := "convoy/convoylaw18.ShardApart", spec := "shardApart", inPlace := ["math/bits.Add64"], plainKeys := false, apart := false, narrowed := true }
def ShardApartUptoSaid : Prop := shardApartUptoRow.holds Tryz.pinned (OpenSpec.upto shardApartSpec)

/-- 'convoylaw18.ShardNil', WHERE WHAT IT READS IS OF BULK AT MOST 1048576: true; the input reads as it did. -/
def shardNilUptoRow : OpenClaim := { program := "ytllchnancjgijaagreat", sum := "168774998e4ddd421f84e073bfff2565274e4a143b8e4ecedd0efcbddfe494ec", func := "convoy/convoylaw18.ShardNil", spec := "shardNil", inPlace := ["math/bits.Add64", "maps.clone"], unfollowed := true, recurses := true, plainKeys := false, apart := false, narrowed := true }
def ShardNilUptoSaid : Prop := shardNilUptoRow.holds Tryz.pinned (OpenSpec.upto shardNilSpec)

/-- 'convoylaw18.ShardAlone', WHERE WHAT IT READS IS OF BULK AT MOST 1048576: true; the input reads as it did. -/
def shardAloneUptoRow : OpenClaim := { program := "ytllchnancjgijaagreat", sum := "168774998e4ddd421f84e073bfff2565274e4a143b8e4ecedd0efcbddfe494ec", func := "convoy/convoylaw18.ShardAlone", spec := "shardAlone", inPlace := ["math/bits.Add64"], unfollowed := true, recurses := true, plainKeys := false, apart := false, narrowed := true }
def ShardAloneUptoSaid : Prop := shardAloneUptoRow.holds Tryz.pinned (OpenSpec.upto shardAloneSpec)

end Rows
end Go.Proofs.YtllchnancjgijaaGreat
