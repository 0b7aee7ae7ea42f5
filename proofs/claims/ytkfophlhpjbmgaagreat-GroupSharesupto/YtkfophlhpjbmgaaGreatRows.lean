/-
  No cell of these rows narrows 'for every input' (looked for: loops, veiled, ifaces, maps, wideKeys, modest, calm, conditions, laid).
  DERIVED. THE GIVEN ROWS OF THIS SEAT. 5 by the template 'for every input the law returns true; each argument reads behind the call as it read before'; 0 by the template 'total and deterministic' (their statements: YtkfophlhpjbmgaaGreatTotals.lean).
  GIVEN WITH THE SEED: the statements are not yours to turn. If you find one false, say at which input.
  Laid BY PROGRAM, IN A SANDBOX (cutbox-rows.mjs): the forced cells as the released guide's own fill.sh prints them over the translation cf92c29fbfea71a5… (all of the seat's roots in one cut). By AI agents, Wed Nov 11 2026. No macro, syntax, notation, axiom, sorry.
-/
import Derived.Test.YtkfophlhpjbmgaaGreatChecked
import GoSem.Claim
import GoSem.ClaimJoined
import GoSem.ClaimMapViews
import Derived.JoinedTies
import Derived.KernelRfl
namespace Go.Proofs.YtkfophlhpjbmgaaGreat
/- THE CELL 'sum', in the pinned program and in every row, IS THE sha256 OF THE DUMP (.gsa) THAT YtkfophlhpjbmgaaGreatProg.lean LOADS. Nothing in Lean hashes anything: it is a label: what it is worth is what the hold of that sum in a sandbox is worth. -/
noncomputable def Tryz.pinned : Pinned := { name := "ytkfophlhpjbmgaagreat", sum := "cf92c29fbfea71a54dcf670ddb7c8f5c479d965526ec4b02a28a4a6509963690", checked := Tryz.checked }
namespace Rows
def none {H : Type} : Left H := { results := [], args := [] }

/-- 'convoylaw16.GroupTruth': WHATEVER THE INPUT: true; the input reads as it did. -/
def groupTruthSpec : ChangeSpec := { name := "groupTruth", fn := fun _ => fun
  | [d1, d2] => { results := [.lit (.bool true)], args := [d1, d2] }
  | _ => none }
def groupTruthRow : OpenClaim := { program := "ytkfophlhpjbmgaagreat", sum := "cf92c29fbfea71a54dcf670ddb7c8f5c479d965526ec4b02a28a4a6509963690", func := "convoy/convoylaw16.GroupTruth", spec := "groupTruth", inPlace := ["math/bits.Add64"], unfollowed := true, recurses := true, plainKeys := false, apart := false }
def GroupTruthSaid : Prop := groupTruthRow.holds Tryz.pinned (OpenSpec.ofChange groupTruthSpec)

/-- ITS FALSE NEIGHBOUR: 'it returns false'. Refute it at one input. -/
def groupTruthWrong : ChangeSpec := { name := "groupTruth", fn := fun _ => fun
  | [d1, d2] => { results := [.lit (.bool false)], args := [d1, d2] }
  | _ => none }
def GroupTruthWrongFalsely : Prop := groupTruthRow.holds Tryz.pinned (OpenSpec.ofChange groupTruthWrong)

/-- 'convoylaw16.GroupShares': WHATEVER THE INPUT: true; the input reads as it did. -/
def groupSharesSpec : ChangeSpec := { name := "groupShares", fn := fun _ => fun
  | [d1, d2, d3] => { results := [.lit (.bool true)], args := [d1, d2, d3] }
  | _ => none }
def groupSharesRow : OpenClaim := { program := "ytkfophlhpjbmgaagreat", sum := "cf92c29fbfea71a54dcf670ddb7c8f5c479d965526ec4b02a28a4a6509963690", func := "convoy/convoylaw16.GroupShares", spec := "groupShares", inPlace := ["math/bits.Add64"], unfollowed := true, recurses := true, plainKeys := false, apart := false }
def GroupSharesSaid : Prop := groupSharesRow.holds Tryz.pinned (OpenSpec.ofChange groupSharesSpec)

/-- ITS FALSE NEIGHBOUR: 'it returns false'. Refute it at one input. -/
def groupSharesWrong : ChangeSpec := { name := "groupShares", fn := fun _ => fun
  | [d1, d2, d3] => { results := [.lit (.bool false)], args := [d1, d2, d3] }
  | _ => none }
def GroupSharesWrongFalsely : Prop := groupSharesRow.holds Tryz.pinned (OpenSpec.ofChange groupSharesWrong)

/-- 'convoylaw16.GroupNil': WHATEVER THE INPUT: true; the input reads as it did. -/
def groupNilSpec : ChangeSpec := { name := "groupNil", fn := fun _ => fun
  | [d1, d2] => { results := [.lit (.bool true)], args := [d1, d2] }
  | _ => none }
def groupNilRow : OpenClaim := { program := "ytkfophlhpjbmgaagreat", sum := "cf92c29fbfea71a54dcf670ddb7c8f5c479d965526ec4b02a28a4a6509963690", func := "convoy/convoylaw16.GroupNil", spec := "groupNil", inPlace := ["math/bits.Add64", "internal/bytealg.abigen_runtime_cmpstring", "maps.clone"], unfollowed := true, recurses := true, plainKeys := false, apart := false }
def GroupNilSaid : Prop := groupNilRow.holds Tryz.pinned (OpenSpec.ofChange groupNilSpec)

/-- ITS FALSE NEIGHBOUR: 'it returns false'. Refute it at one input. -/
def groupNilWrong : ChangeSpec := { name := "groupNil", fn := fun _ => fun
  | [d1, d2] => { results := [.lit (.bool false)], args := [d1, d2] }
  | _ => none }
def GroupNilWrongFalsely : Prop := groupNilRow.holds Tryz.pinned (OpenSpec.ofChange groupNilWrong)

/-- 'convoylaw16.GroupStale': WHATEVER THE INPUT: true; the input reads as it did. -/
def groupStaleSpec : ChangeSpec := { name := "groupStale", fn := fun _ => fun
  | [d1, d2, d3] => { results := [.lit (.bool true)], args := [d1, d2, d3] }
  | _ => none }
def groupStaleRow : OpenClaim := { program := "ytkfophlhpjbmgaagreat", sum := "cf92c29fbfea71a54dcf670ddb7c8f5c479d965526ec4b02a28a4a6509963690", func := "convoy/convoylaw16.GroupStale", spec := "groupStale", inPlace := ["math/bits.Add64"], unfollowed := true, recurses := true, plainKeys := false, apart := false }
def GroupStaleSaid : Prop := groupStaleRow.holds Tryz.pinned (OpenSpec.ofChange groupStaleSpec)

/-- ITS FALSE NEIGHBOUR: 'it returns false'. Refute it at one input. -/
def groupStaleWrong : ChangeSpec := { name := "groupStale", fn := fun _ => fun
  | [d1, d2, d3] => { results := [.lit (.bool false)], args := [d1, d2, d3] }
  | _ => none }
def GroupStaleWrongFalsely : Prop := groupStaleRow.holds Tryz.pinned (OpenSpec.ofChange groupStaleWrong)

/-- 'convoylaw16.GroupOnce': WHATEVER THE INPUT: true; the input reads as it did. -/
def groupOnceSpec : ChangeSpec := { name := "groupOnce", fn := fun _ => fun
  | [d1, d2] => { results := [.lit (.bool true)], args := [d1, d2] }
  | _ => none }
def groupOnceRow : OpenClaim := { program := "ytkfophlhpjbmgaagreat", sum := "cf92c29fbfea71a54dcf670ddb7c8f5c479d965526ec4b02a28a4a6509963690", func := "convoy/convoylaw16.GroupOnce", spec := "groupOnce", inPlace := ["math/bits.Add64"], plainKeys := false, apart := false }
def GroupOnceSaid : Prop := groupOnceRow.holds Tryz.pinned (OpenSpec.ofChange groupOnceSpec)

/-- ITS FALSE NEIGHBOUR: 'it returns false'. Refute it at one input. -/
def groupOnceWrong : ChangeSpec := { name := "groupOnce", fn := fun _ => fun
  | [d1, d2] => { results := [.lit (.bool false)], args := [d1, d2] }
  | _ => none }
def GroupOnceWrongFalsely : Prop := groupOnceRow.holds Tryz.pinned (OpenSpec.ofChange groupOnceWrong)

/- THE SECOND FORM. 'bulk': how many values and letters a reading holds, each counted each time it is reached (what is shared counts as often as it is met; a slice's spare places count too). A statement '..UptoSaid' is the law's where the arguments, and the package variables that the reading takes, are together of bulk at most 1048576: NARROWER than '..Said'. Prove '..Said' where nothing that the law and all that it calls make is longer than what came in: it says more and counts as full. Else prove '..UptoSaid'. A law counts once. -/
mutual
def uptoBulk {H : Type} : DataW H → Nat
  | .lit (.string bytes) => bytes.length + 1
  | .lit _ => 1
  | .nil => 1
  | .ptr d => uptoBulk d + 1
  | .slice elems spare => uptoBulkAll elems + uptoBulkAll spare + 1
  | .agg parts => uptoBulkAll parts + 1
  | .iface _ d => uptoBulk d + 1
  | .map entries => uptoBulkEntries entries + 1
  | .held _ => 1
def uptoBulkAll {H : Type} : List (DataW H) → Nat
  | [] => 0
  | d :: r => uptoBulk d + uptoBulkAll r
def uptoBulkEntries {H : Type} : List (Lit × DataW H) → Nat
  | [] => 0
  | x :: r => uptoBulkEntry x + uptoBulkEntries r
def uptoBulkEntry {H : Type} : Lit × DataW H → Nat
  | (.string bytes, d) => bytes.length + uptoBulk d + 1
  | (_, d) => uptoBulk d + 1
 end
def uptoSmall : (H : Type) → List (DataW H) → Bool := fun _ ds => decide (uptoBulkAll ds ≤ 1048576)
def OpenSpec.upto (s : _root_.Go.ChangeSpec) : _root_.Go.OpenSpec := { _root_.Go.OpenSpec.ofChange s with cond := some uptoSmall }

/-- 'convoylaw16.GroupTruth', WHERE WHAT IT READS IS OF BULK AT MOST 1048576: true; the input reads as it did. -/
def groupTruthUptoRow : OpenClaim := { program := "ytkfophlhpjbmgaagreat", sum := "cf92c29fbfea71a54dcf670ddb7c8f5c479d965526ec4b02a28a4a6509963690", func := "convoy/convoylaw16.GroupTruth", spec := "groupTruth", inPlace := ["math/bits.Add64"], unfollowed := true, recurses := true, plainKeys := false, apart := false, narrowed := true }
def GroupTruthUptoSaid : Prop := groupTruthUptoRow.holds Tryz.pinned (OpenSpec.upto groupTruthSpec)

/-- 'convoylaw16.GroupShares', WHERE WHAT IT READS IS OF BULK AT MOST 1048576: true; the input reads as it did. -/
def groupSharesUptoRow : OpenClaim := { program := "ytkfophlhpjbmgaagreat", sum := "cf92c29fbfea71a54dcf670ddb7c8f5c479d965526ec4b02a28a4a6509963690", func := "convoy/convoylaw16.GroupShares", spec := "groupShares", inPlace := ["math/bits.Add64"], unfollowed := true, recurses := true, plainKeys := false, apart := false, narrowed := true }
def GroupSharesUptoSaid : Prop := groupSharesUptoRow.holds Tryz.pinned (OpenSpec.upto groupSharesSpec)

/-- 'convoylaw16.GroupNil', WHERE WHAT IT READS IS OF BULK AT MOST 1048576: true; the input reads as it did. -/
def groupNilUptoRow : OpenClaim := { program := "ytkfophlhpjbmgaagreat", sum := "cf92c29fbfea71a54dcf670ddb7c8f5c479d965526ec4b02a28a4a6509963690", func := "convoy/convoylaw16.GroupNil", spec := "groupNil", inPlace := ["math/bits.Add64", "internal/bytealg.abigen_runtime_cmpstring", "maps.clone"], unfollowed := true, recurses := true, plainKeys := false, apart := false, narrowed := true }
def GroupNilUptoSaid : Prop := groupNilUptoRow.holds Tryz.pinned (OpenSpec.upto groupNilSpec)

/-- 'convoylaw16.GroupStale', WHERE WHAT IT READS IS OF BULK AT MOST 1048576: true; the input reads as it did. -/
def groupStaleUptoRow : OpenClaim := { program := "ytkfophlhpjbmgaagreat", sum := "cf92c29fbfea71a54dcf670ddb7c8f5c479d965526ec4b02a28a4a6509963690", func := "convoy/convoylaw16.GroupStale", spec := "groupStale", inPlace := ["math/bits.Add64"], unfollowed := true, recurses := true, plainKeys := false, apart := false, narrowed := true }
def GroupStaleUptoSaid : Prop := groupStaleUptoRow.holds Tryz.pinned (OpenSpec.upto groupStaleSpec)

/-- 'convoylaw16.GroupOnce', WHERE WHAT IT READS IS OF BULK AT MOST 1048576: true; the input reads as it did. -/
def groupOnceUptoRow : OpenClaim := { program := "ytkfophlhpjbmgaagreat", sum := "cf92c29fbfea71a54dcf670ddb7c8f5c479d965526ec4b02a28a4a6509963690", func := "convoy/convoylaw16.GroupOnce", spec := "groupOnce", inPlace := ["math/bits.Add64"], plainKeys := false, apart := false, narrowed := true }
def GroupOnceUptoSaid : Prop := groupOnceUptoRow.holds Tryz.pinned (OpenSpec.upto groupOnceSpec)

end Rows
end Go.Proofs.YtkfophlhpjbmgaaGreat
