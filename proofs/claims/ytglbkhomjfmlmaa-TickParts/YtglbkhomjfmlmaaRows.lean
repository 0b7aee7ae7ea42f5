/-
  No cell of these rows narrows 'for every input' (looked for: loops, veiled, ifaces, maps, wideKeys, modest, calm, conditions, laid).
  DERIVED. THE GIVEN ROWS OF THIS SEAT. 6 by the template 'for every input the law returns true; each argument reads behind the call as it read before'; 0 by the template 'total and deterministic' (their statements: YtglbkhomjfmlmaaTotals.lean).
  GIVEN WITH THE SEED: the statements are not yours to turn. If you find one false, say at which input.
  Laid BY PROGRAM, IN A SANDBOX (cutbox-rows.mjs): the forced cells as the released guide's own fill.sh prints them over the translation cb36495361b9e3f1… (all of the seat's roots in one cut). By AI agents, Wed Nov 11 2026. No macro, syntax, notation, axiom, sorry.
-/
import Derived.Test.YtglbkhomjfmlmaaChecked
import GoSem.Claim
import GoSem.ClaimJoined
import GoSem.ClaimMapViews
import Derived.JoinedTies
import Derived.KernelRfl
namespace Go.Proofs.Ytglbkhomjfmlmaa
/- THE CELL 'sum', in the pinned program and in every row, IS THE sha256 OF THE DUMP (.gsa) THAT YtglbkhomjfmlmaaProg.lean LOADS. Nothing in Lean hashes anything: it is a label: what it is worth is what the hold of that sum in a sandbox is worth. -/
noncomputable def Try.pinned : Pinned := { name := "ytglbkhomjfmlmaa", sum := "cb36495361b9e3f1c11a16e8412f914afe1759a359faf58e360304ae19013378", checked := Try.checked }
namespace Rows
def none {H : Type} : Left H := { results := [], args := [] }

/-- 'convoylaw01.TickAges': WHATEVER THE INPUT: true; the input reads as it did. -/
def tickAgesSpec : ChangeSpec := { name := "tickAges", fn := fun _ => fun
  | [d1, d2, d3] => { results := [.lit (.bool true)], args := [d1, d2, d3] }
  | _ => none }
def tickAgesRow : OpenClaim := { program := "ytglbkhomjfmlmaa", sum := "cb36495361b9e3f1c11a16e8412f914afe1759a359faf58e360304ae19013378", func := "convoy/convoylaw01.TickAges", spec := "tickAges", inPlace := ["math/bits.Add64"], apart := false }
def TickAgesSaid : Prop := tickAgesRow.holds Try.pinned (OpenSpec.ofChange tickAgesSpec)

/-- ITS FALSE NEIGHBOUR: 'it returns false'. Refute it at one input. -/
def tickAgesWrong : ChangeSpec := { name := "tickAges", fn := fun _ => fun
  | [d1, d2, d3] => { results := [.lit (.bool false)], args := [d1, d2, d3] }
  | _ => none }
def TickAgesWrongFalsely : Prop := tickAgesRow.holds Try.pinned (OpenSpec.ofChange tickAgesWrong)

/-- 'convoylaw01.TickSums': WHATEVER THE INPUT: true; the input reads as it did. -/
def tickSumsSpec : ChangeSpec := { name := "tickSums", fn := fun _ => fun
  | [d1, d2, d3] => { results := [.lit (.bool true)], args := [d1, d2, d3] }
  | _ => none }
def tickSumsRow : OpenClaim := { program := "ytglbkhomjfmlmaa", sum := "cb36495361b9e3f1c11a16e8412f914afe1759a359faf58e360304ae19013378", func := "convoy/convoylaw01.TickSums", spec := "tickSums", inPlace := ["math/bits.Add64"], apart := false }
def TickSumsSaid : Prop := tickSumsRow.holds Try.pinned (OpenSpec.ofChange tickSumsSpec)

/-- ITS FALSE NEIGHBOUR: 'it returns false'. Refute it at one input. -/
def tickSumsWrong : ChangeSpec := { name := "tickSums", fn := fun _ => fun
  | [d1, d2, d3] => { results := [.lit (.bool false)], args := [d1, d2, d3] }
  | _ => none }
def TickSumsWrongFalsely : Prop := tickSumsRow.holds Try.pinned (OpenSpec.ofChange tickSumsWrong)

/-- 'convoylaw01.TickBuckets': WHATEVER THE INPUT: true; the input reads as it did. -/
def tickBucketsSpec : ChangeSpec := { name := "tickBuckets", fn := fun _ => fun
  | [d1, d2] => { results := [.lit (.bool true)], args := [d1, d2] }
  | _ => none }
def tickBucketsRow : OpenClaim := { program := "ytglbkhomjfmlmaa", sum := "cb36495361b9e3f1c11a16e8412f914afe1759a359faf58e360304ae19013378", func := "convoy/convoylaw01.TickBuckets", spec := "tickBuckets", inPlace := ["math/bits.Add64"], apart := false }
def TickBucketsSaid : Prop := tickBucketsRow.holds Try.pinned (OpenSpec.ofChange tickBucketsSpec)

/-- ITS FALSE NEIGHBOUR: 'it returns false'. Refute it at one input. -/
def tickBucketsWrong : ChangeSpec := { name := "tickBuckets", fn := fun _ => fun
  | [d1, d2] => { results := [.lit (.bool false)], args := [d1, d2] }
  | _ => none }
def TickBucketsWrongFalsely : Prop := tickBucketsRow.holds Try.pinned (OpenSpec.ofChange tickBucketsWrong)

/-- 'convoylaw01.TickRounds': WHATEVER THE INPUT: true; the input reads as it did. -/
def tickRoundsSpec : ChangeSpec := { name := "tickRounds", fn := fun _ => fun
  | [d1, d2, d3] => { results := [.lit (.bool true)], args := [d1, d2, d3] }
  | _ => none }
def tickRoundsRow : OpenClaim := { program := "ytglbkhomjfmlmaa", sum := "cb36495361b9e3f1c11a16e8412f914afe1759a359faf58e360304ae19013378", func := "convoy/convoylaw01.TickRounds", spec := "tickRounds", inPlace := ["math/bits.Add64"], apart := false }
def TickRoundsSaid : Prop := tickRoundsRow.holds Try.pinned (OpenSpec.ofChange tickRoundsSpec)

/-- ITS FALSE NEIGHBOUR: 'it returns false'. Refute it at one input. -/
def tickRoundsWrong : ChangeSpec := { name := "tickRounds", fn := fun _ => fun
  | [d1, d2, d3] => { results := [.lit (.bool false)], args := [d1, d2, d3] }
  | _ => none }
def TickRoundsWrongFalsely : Prop := tickRoundsRow.holds Try.pinned (OpenSpec.ofChange tickRoundsWrong)

/-- 'convoylaw01.TickMixes': WHATEVER THE INPUT: true; the input reads as it did. -/
def tickMixesSpec : ChangeSpec := { name := "tickMixes", fn := fun _ => fun
  | [d1, d2, d3] => { results := [.lit (.bool true)], args := [d1, d2, d3] }
  | _ => none }
def tickMixesRow : OpenClaim := { program := "ytglbkhomjfmlmaa", sum := "cb36495361b9e3f1c11a16e8412f914afe1759a359faf58e360304ae19013378", func := "convoy/convoylaw01.TickMixes", spec := "tickMixes", inPlace := ["math/bits.Add64"], apart := false }
def TickMixesSaid : Prop := tickMixesRow.holds Try.pinned (OpenSpec.ofChange tickMixesSpec)

/-- ITS FALSE NEIGHBOUR: 'it returns false'. Refute it at one input. -/
def tickMixesWrong : ChangeSpec := { name := "tickMixes", fn := fun _ => fun
  | [d1, d2, d3] => { results := [.lit (.bool false)], args := [d1, d2, d3] }
  | _ => none }
def TickMixesWrongFalsely : Prop := tickMixesRow.holds Try.pinned (OpenSpec.ofChange tickMixesWrong)

/-- 'convoylaw01.TickParts': WHATEVER THE INPUT: true; the input reads as it did. -/
def tickPartsSpec : ChangeSpec := { name := "tickParts", fn := fun _ => fun
  | [d1, d2, d3] => { results := [.lit (.bool true)], args := [d1, d2, d3] }
  | _ => none }
def tickPartsRow : OpenClaim := { program := "ytglbkhomjfmlmaa", sum := "cb36495361b9e3f1c11a16e8412f914afe1759a359faf58e360304ae19013378", func := "convoy/convoylaw01.TickParts", spec := "tickParts", inPlace := ["math/bits.Add64"], apart := false }
def TickPartsSaid : Prop := tickPartsRow.holds Try.pinned (OpenSpec.ofChange tickPartsSpec)

/-- ITS FALSE NEIGHBOUR: 'it returns false'. Refute it at one input. -/
def tickPartsWrong : ChangeSpec := { name := "tickParts", fn := fun _ => fun
  | [d1, d2, d3] => { results := [.lit (.bool false)], args := [d1, d2, d3] }
  | _ => none }
def TickPartsWrongFalsely : Prop := tickPartsRow.holds Try.pinned (OpenSpec.ofChange tickPartsWrong)

/- THE SECOND FORM. 'bulk': how many values and letters a reading holds, each counted each time it is reached (what is shared counts as often as it is met; a slice's spare places count too). A statement '..UptoSaid' is the law's where the arguments, and the package variables that the reading takes, are together of bulk at most 1048576: NARROWER than '..Said'. Prove '..Said' where nothing that the law and all that it calls make is longer than what came in: it says more and counts as full. Else prove '..UptoSaid'. A law counts once. -/
mutual
def uptoBulk {H : Type} : DataW H → Nat
  | .lit (.string bytes) => bytes.length + 1
  | .lit _ => 1
  | .nil => 1
  | .ptr d => uptoBulk d + 1
  | .slice elems spare => uptoBulkAll elems + uptoBulkAll spare + 1
  | .agg parts => uptoBulkAll parts + 1
  | .iface _ d => uptoBulk d + 1
  | .map entries => uptoBulkEntries entries + 1
  | .held _ => 1
def uptoBulkAll {H : Type} : List (DataW H) → Nat
  | [] => 0
  | d :: r => uptoBulk d + uptoBulkAll r
def uptoBulkEntries {H : Type} : List (Lit × DataW H) → Nat
  | [] => 0
  | x :: r => uptoBulkEntry x + uptoBulkEntries r
def uptoBulkEntry {H : Type} : Lit × DataW H → Nat
  | (.string bytes, d) => bytes.length + uptoBulk d + 1
  | (_, d) => uptoBulk d + 1
 end
def uptoSmall : (H : Type) → List (DataW H) → Bool := fun _ ds => decide (uptoBulkAll ds ≤ 1048576)
def OpenSpec.upto (s : _root_.Go.ChangeSpec) : _root_.Go.OpenSpec := { _root_.Go.OpenSpec.ofChange s with cond := some uptoSmall }

/-- 'convoylaw01.TickAges', WHERE WHAT IT READS IS OF BULK AT MOST 1048576: true; the input reads as it did. -/
def tickAgesUptoRow : OpenClaim := { program := "ytglbkhomjfmlmaa", sum := "cb36495361b9e3f1c11a16e8412f914afe1759a359faf58e360304ae19013378", func := "convoy/convoylaw01.TickAges", spec := "tickAges", inPlace := ["math/bits.Add64"], apart := false, narrowed := true }
def TickAgesUptoSaid : Prop := tickAgesUptoRow.holds Try.pinned (OpenSpec.upto tickAgesSpec)

/-- 'convoylaw01.TickSums', WHERE WHAT IT READS IS OF BULK AT MOST 1048576: true; the input reads as it did. -/
def tickSumsUptoRow : OpenClaim := { program := "ytglbkhomjfmlmaa", sum := "cb36495361b9e3f1c11a16e8412f914afe1759a359faf58e360304ae19013378", func := "convoy/convoylaw01.TickSums", spec := "tickSums", inPlace := ["math/bits.Add64"], apart := false, narrowed := true }
def TickSumsUptoSaid : Prop := tickSumsUptoRow.holds Try.pinned (OpenSpec.upto tickSumsSpec)

/-- 'convoylaw01.TickBuckets', WHERE WHAT IT READS IS OF BULK AT MOST 1048576: true; the input reads as it did. -/
def tickBucketsUptoRow : OpenClaim := { program := "ytglbkhomjfmlmaa", sum := "cb36495361b9e3f1c11a16e8412f914afe1759a359faf58e360304ae19013378", func := "convoy/convoylaw01.TickBuckets", spec := "tickBuckets", inPlace := ["math/bits.Add64"], apart := false, narrowed := true }
def TickBucketsUptoSaid : Prop := tickBucketsUptoRow.holds Try.pinned (OpenSpec.upto tickBucketsSpec)

/-- 'convoylaw01.TickRounds', WHERE WHAT IT READS IS OF BULK AT MOST 1048576: true; the input reads as it did. -/
def tickRoundsUptoRow : OpenClaim := { program := "ytglbkhomjfmlmaa", sum := "cb36495361b9e3f1c11a16e8412f914afe1759a359faf58e360304ae19013378", func := "convoy/convoylaw01.TickRounds", spec := "tickRounds", inPlace := ["math/bits.Add64"], apart := false, narrowed := true }
def TickRoundsUptoSaid : Prop := tickRoundsUptoRow.holds Try.pinned (OpenSpec.upto tickRoundsSpec)

/-- 'convoylaw01.TickMixes', WHERE WHAT IT READS IS OF BULK AT MOST 1048576: true; the input reads as it did. -/
def tickMixesUptoRow : OpenClaim := { program := "ytglbkhomjfmlmaa", sum := "cb36495361b9e3f1c11a16e8412f914afe1759a359faf58e360304ae19013378", func := "convoy/convoylaw01.TickMixes", spec := "tickMixes", inPlace := ["math/bits.Add64"], apart := false, narrowed := true }
def TickMixesUptoSaid : Prop := tickMixesUptoRow.holds Try.pinned (OpenSpec.upto tickMixesSpec)

/-- 'convoylaw01.TickParts', WHERE WHAT IT READS IS OF BULK AT MOST 1048576: true; the input reads as it did. -/
def tickPartsUptoRow : OpenClaim := { program := "ytglbkhomjfmlmaa", sum := "cb36495361b9e3f1c11a16e8412f914afe1759a359faf58e360304ae19013378", func := "convoy/convoylaw01.TickParts", spec := "tickParts", inPlace := ["math/bits.Add64"], apart := false, narrowed := true }
def TickPartsUptoSaid : Prop := tickPartsUptoRow.holds Try.pinned (OpenSpec.upto tickPartsSpec)

end Rows
end Go.Proofs.Ytglbkhomjfmlmaa
