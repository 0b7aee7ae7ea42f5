/-
  No cell of these rows narrows 'for every input' (looked for: loops, veiled, ifaces, maps, wideKeys, modest, calm, conditions, laid).
  DERIVED. THE GIVEN ROWS OF THIS SEAT. 4 by the template 'for every input the law returns true; each argument reads behind the call as it read before'; 0 by the template 'total and deterministic' (their statements: YtkodabhkhifggaaTotals.lean).
  GIVEN WITH THE SEED: the statements are not yours to turn. If you find one false, say at which input.
  Laid BY PROGRAM, IN A SANDBOX (cutbox-rows.mjs): the forced cells as the released guide's own fill.sh prints them over the translation e28bcc7341d4f4a4… (all of the seat's roots in one cut). By AI agents, Wed Nov 11 2026. No macro, syntax, notation, axiom, sorry.
-/
import Derived.Test.YtkodabhkhifggaaChecked
import GoSem.Claim
import GoSem.ClaimJoined
import GoSem.ClaimMapViews
import Derived.JoinedTies
import Derived.KernelRfl
namespace Go.Proofs.Ytkodabhkhifggaa
/- THE CELL 'sum', in the pinned program and in every row, IS THE sha256 OF THE DUMP (.gsa) THAT YtkodabhkhifggaaProg.lean LOADS. Nothing in Lean hashes anything: it is a label: what it is worth is what the hold of that sum in a sandbox is worth. -/
noncomputable def Try.pinned : Pinned := { name := "ytkodabhkhifggaa", sum := "e28bcc7341d4f4a471f1b0324f3c4430397518b68c841f38ece6ff44712f8114", checked := Try.checked }
namespace Rows
def none {H : Type} : Left H := { results := [], args := [] }

/-- 'convoylaw17.RetryWaits': WHATEVER THE INPUT: true; the input reads as it did. -/
def retryWaitsSpec : ChangeSpec := { name := "retryWaits", fn := fun _ => fun
  | [d1, d2, d3] => { results := [.lit (.bool true)], args := [d1, d2, d3] }
  | _ => none }
def retryWaitsRow : OpenClaim := { program := "ytkodabhkhifggaa", sum := "e28bcc7341d4f4a471f1b0324f3c4430397518b68c841f38ece6ff44712f8114", func := "convoy/convoylaw17.RetryWaits", spec := "retryWaits", apart := false }
def RetryWaitsSaid : Prop := retryWaitsRow.holds Try.pinned (OpenSpec.ofChange retryWaitsSpec)

/-- ITS FALSE NEIGHBOUR: 'it returns false'. Refute it at one input. -/
def retryWaitsWrong : ChangeSpec := { name := "retryWaits", fn := fun _ => fun
  | [d1, d2, d3] => { results := [.lit (.bool false)], args := [d1, d2, d3] }
  | _ => none }
def RetryWaitsWrongFalsely : Prop := retryWaitsRow.holds Try.pinned (OpenSpec.ofChange retryWaitsWrong)

/-- 'convoylaw17.RetryPlans': WHATEVER THE INPUT: true; the input reads as it did. -/
def retryPlansSpec : ChangeSpec := { name := "retryPlans", fn := fun _ => fun
  | [d1, d2] => { results := [.lit (.bool true)], args := [d1, d2] }
  | _ => none }
def retryPlansRow : OpenClaim := { program := "ytkodabhkhifggaa", sum := "e28bcc7341d4f4a471f1b0324f3c4430397518b68c841f38ece6ff44712f8114", func := "convoy/convoylaw17.RetryPlans", spec := "retryPlans", inPlace := ["math/bits.Add64"], apart := false }
def RetryPlansSaid : Prop := retryPlansRow.holds Try.pinned (OpenSpec.ofChange retryPlansSpec)

/-- ITS FALSE NEIGHBOUR: 'it returns false'. Refute it at one input. -/
def retryPlansWrong : ChangeSpec := { name := "retryPlans", fn := fun _ => fun
  | [d1, d2] => { results := [.lit (.bool false)], args := [d1, d2] }
  | _ => none }
def RetryPlansWrongFalsely : Prop := retryPlansRow.holds Try.pinned (OpenSpec.ofChange retryPlansWrong)

/-- 'convoylaw17.RetryBreaks': WHATEVER THE INPUT: true; the input reads as it did. -/
def retryBreaksSpec : ChangeSpec := { name := "retryBreaks", fn := fun _ => fun
  | [d1, d2, d3] => { results := [.lit (.bool true)], args := [d1, d2, d3] }
  | _ => none }
def retryBreaksRow : OpenClaim := { program := "ytkodabhkhifggaa", sum := "e28bcc7341d4f4a471f1b0324f3c4430397518b68c841f38ece6ff44712f8114", func := "convoy/convoylaw17.RetryBreaks", spec := "retryBreaks", apart := false }
def RetryBreaksSaid : Prop := retryBreaksRow.holds Try.pinned (OpenSpec.ofChange retryBreaksSpec)

/-- ITS FALSE NEIGHBOUR: 'it returns false'. Refute it at one input. -/
def retryBreaksWrong : ChangeSpec := { name := "retryBreaks", fn := fun _ => fun
  | [d1, d2, d3] => { results := [.lit (.bool false)], args := [d1, d2, d3] }
  | _ => none }
def RetryBreaksWrongFalsely : Prop := retryBreaksRow.holds Try.pinned (OpenSpec.ofChange retryBreaksWrong)

/-- 'convoylaw17.RetryNil': WHATEVER THE INPUT: true; the input reads as it did. -/
def retryNilSpec : ChangeSpec := { name := "retryNil", fn := fun _ => fun
  | [d] => { results := [.lit (.bool true)], args := [d] }
  | _ => none }
def retryNilRow : OpenClaim := { program := "ytkodabhkhifggaa", sum := "e28bcc7341d4f4a471f1b0324f3c4430397518b68c841f38ece6ff44712f8114", func := "convoy/convoylaw17.RetryNil", spec := "retryNil", apart := false }
def RetryNilSaid : Prop := retryNilRow.holds Try.pinned (OpenSpec.ofChange retryNilSpec)

/-- ITS FALSE NEIGHBOUR: 'it returns false'. Refute it at one input. -/
def retryNilWrong : ChangeSpec := { name := "retryNil", fn := fun _ => fun
  | [d] => { results := [.lit (.bool false)], args := [d] }
  | _ => none }
def RetryNilWrongFalsely : Prop := retryNilRow.holds Try.pinned (OpenSpec.ofChange retryNilWrong)

/- THE SECOND FORM. 'bulk': how many values and letters a reading holds, each counted each time it is reached (what is shared counts as often as it is met; a slice's spare places count too). A statement '..UptoSaid' is the law's where the arguments, and the package variables that the reading takes, are together of bulk at most 1048576: NARROWER than '..Said'. Prove '..Said' where nothing that the law and all that it calls make is longer than what came in: it says more and counts as full. Else prove '..UptoSaid'. A law counts once. -/
mutual
def uptoBulk {H : Type} : DataW H → Nat
  | .lit (.string bytes) => bytes.length + 1
  | .lit _ => 1
  | .nil => 1
  | .ptr d => uptoBulk d + 1
  | .slice elems spare => uptoBulkAll elems + uptoBulkAll spare + 1
  | .agg parts => uptoBulkAll parts + 1
  | .iface _ d => uptoBulk d + 1
  | .map entries => uptoBulkEntries entries + 1
  | .held _ => 1
def uptoBulkAll {H : Type} : List (DataW H) → Nat
  | [] => 0
  | d :: r => uptoBulk d + uptoBulkAll r
def uptoBulkEntries {H : Type} : List (Lit × DataW H) → Nat
  | [] => 0
  | x :: r => uptoBulkEntry x + uptoBulkEntries r
def uptoBulkEntry {H : Type} : Lit × DataW H → Nat
  | (.string bytes, d) => bytes.length + uptoBulk d + 1
  | (_, d) => uptoBulk d + 1
 end
def uptoSmall : (H : Type) → List (DataW H) → Bool := fun _ ds => decide (uptoBulkAll ds ≤ 1048576)
def OpenSpec.upto (s : _root_.Go.ChangeSpec) : _root_.Go.OpenSpec := { _root_.Go.OpenSpec.ofChange s with cond := some uptoSmall }

/-- 'convoylaw17.RetryWaits', WHERE WHAT IT READS IS OF BULK AT MOST 1048576: true; the input reads as it did. -/
def retryWaitsUptoRow : OpenClaim := { program := "ytkodabhkhifggaa", sum := "e28bcc7341d4f4a471f1b0324f3c4430397518b68c841f38ece6ff44712f8114", func := "convoy/convoylaw17.RetryWaits", spec := "retryWaits", apart := false, narrowed := true }
def RetryWaitsUptoSaid : Prop := retryWaitsUptoRow.holds Try.pinned (OpenSpec.upto retryWaitsSpec)

/-- 'convoylaw17.RetryPlans', WHERE WHAT IT READS IS OF BULK AT MOST 1048576: true; the input reads as it did. -/
def retryPlansUptoRow : OpenClaim := { program := "ytkodabhkhifggaa", sum := "e28bcc7341d4f4a471f1b0324f3c4430397518b68c841f38ece6ff44712f8114", func := "convoy/convoylaw17.RetryPlans", spec := "retryPlans", inPlace := ["math/bits.Add64"], apart := false, narrowed := true }
def RetryPlansUptoSaid : Prop := retryPlansUptoRow.holds Try.pinned (OpenSpec.upto retryPlansSpec)

/-- 'convoylaw17.RetryBreaks', WHERE WHAT IT READS IS OF BULK AT MOST 1048576: true; the input reads as it did. -/
def retryBreaksUptoRow : OpenClaim := { program := "ytkodabhkhifggaa", sum := "e28bcc7341d4f4a471f1b0324f3c4430397518b68c841f38ece6ff44712f8114", func := "convoy/convoylaw17.RetryBreaks", spec := "retryBreaks", apart := false, narrowed := true }
def RetryBreaksUptoSaid : Prop := retryBreaksUptoRow.holds Try.pinned (OpenSpec.upto retryBreaksSpec)

/-- 'convoylaw17.RetryNil', WHERE WHAT IT READS IS OF BULK AT MOST 1048576: true; the input reads as it did. -/
def retryNilUptoRow : OpenClaim := { program := "ytkodabhkhifggaa", sum := "e28bcc7341d4f4a471f1b0324f3c4430397518b68c841f38ece6ff44712f8114", func := "convoy/convoylaw17.RetryNil", spec := "retryNil", apart := false, narrowed := true }
def RetryNilUptoSaid : Prop := retryNilUptoRow.holds Try.pinned (OpenSpec.upto retryNilSpec)

end Rows
end Go.Proofs.Ytkodabhkhifggaa
