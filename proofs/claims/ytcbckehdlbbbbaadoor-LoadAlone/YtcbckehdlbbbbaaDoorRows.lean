/-
  NARROWER THAN 'FOR EVERY INPUT', by the rows' own cells (each row's printed sentence says how): LoadEnds: laid · LoadNil: laid · LoadAlone: laid.
  DERIVED. THE GIVEN ROWS OF THIS SEAT. 3 by the template 'for every input the law returns true; each argument reads behind the call as it read before'; 0 by the template 'total and deterministic' (their statements: YtcbckehdlbbbbaaDoorTotals.lean).
  GIVEN WITH THE SEED: the statements are not yours to turn. If you find one false, say at which input.
  Laid BY PROGRAM, IN A SANDBOX (cutbox-rows.mjs): the forced cells as the released guide's own fill.sh prints them over the translation 6b39c2a6db887117… (all of the seat's roots in one cut). By AI agents, Wed Nov 11 2026. No macro, syntax, notation, axiom, sorry.
-/
import Derived.Test.YtcbckehdlbbbbaaDoorChecked
import GoSem.Claim
import GoSem.ClaimJoined
import GoSem.ClaimMapViews
import Derived.JoinedTies
import Derived.KernelRfl
namespace Go.Proofs.YtcbckehdlbbbbaaDoor
/- THE CELL 'sum', in the pinned program and in every row, IS THE sha256 OF THE DUMP (.gsa) THAT YtcbckehdlbbbbaaDoorProg.lean LOADS. Nothing in Lean hashes anything: it is a label: what it is worth is what the hold of that sum in a sandbox is worth. -/
noncomputable def Tryd.pinned : Pinned := { name := "ytcbckehdlbbbbaadoor", sum := "6b39c2a6db887117e69519ce3dc18f2a1cc889eeb9bfba312f08572c44ed8fa0", checked := Tryd.checked }
namespace Rows
def none {H : Type} : Left H := { results := [], args := [] }

/- WHAT THE LISTED PACKAGE-LEVEL VARIABLES READ AS WHEN THE CALL BEGINS. Each datum BY PROGRAM (the guide's laid-datum.mjs) off the statement by which the dump's own 'gosem.cut.vars' lays the variable. In a bare row this is a premise. The card (YtcbckehdlbbbbaaDoorCards.lean) ties it to the program's text. -/
def laid_convoy_recipe_kinds {H : Type} : DataW H := .agg [.agg [.lit (.string []), .lit (.int .i64 0), .agg [.agg [.lit (.int .i64 0), .lit (.int .i64 0)], .agg [.lit (.int .i64 0), .lit (.int .i64 0)]]], .agg [.lit (.string [97, 100, 100]), .lit (.int .i64 1), .agg [.agg [.lit (.int .i64 (-9223372036854775808)), .lit (.int .i64 9223372036854775807)], .agg [.lit (.int .i64 0), .lit (.int .i64 0)]]], .agg [.lit (.string [115, 104, 105, 102, 116]), .lit (.int .i64 1), .agg [.agg [.lit (.int .i64 (-63)), .lit (.int .i64 63)], .agg [.lit (.int .i64 0), .lit (.int .i64 0)]]], .agg [.lit (.string [107, 101, 121]), .lit (.int .i64 0), .agg [.agg [.lit (.int .i64 0), .lit (.int .i64 0)], .agg [.lit (.int .i64 0), .lit (.int .i64 0)]]], .agg [.lit (.string [114, 117, 110]), .lit (.int .i64 0), .agg [.agg [.lit (.int .i64 0), .lit (.int .i64 0)], .agg [.lit (.int .i64 0), .lit (.int .i64 0)]]], .agg [.lit (.string [116, 117, 114, 110]), .lit (.int .i64 1), .agg [.agg [.lit (.int .i64 0), .lit (.int .i64 63)], .agg [.lit (.int .i64 0), .lit (.int .i64 0)]]], .agg [.lit (.string [103, 97, 116, 101]), .lit (.int .i64 1), .agg [.agg [.lit (.int .i64 0), .lit (.int .i64 255)], .agg [.lit (.int .i64 0), .lit (.int .i64 0)]]], .agg [.lit (.string [115, 108, 101, 101, 112]), .lit (.int .i64 1), .agg [.agg [.lit (.int .i64 0), .lit (.int .i64 4611686018427387904)], .agg [.lit (.int .i64 0), .lit (.int .i64 0)]]], .agg [.lit (.string [104, 101, 101, 100]), .lit (.int .i64 0), .agg [.agg [.lit (.int .i64 0), .lit (.int .i64 0)], .agg [.lit (.int .i64 0), .lit (.int .i64 0)]]], .agg [.lit (.string [115, 107, 105, 112]), .lit (.int .i64 2), .agg [.agg [.lit (.int .i64 0), .lit (.int .i64 3)], .agg [.lit (.int .i64 1), .lit (.int .i64 256)]]], .agg [.lit (.string [97, 110, 115, 119, 101, 114]), .lit (.int .i64 0), .agg [.agg [.lit (.int .i64 0), .lit (.int .i64 0)], .agg [.lit (.int .i64 0), .lit (.int .i64 0)]]], .agg [.lit (.string [102, 97, 105, 108]), .lit (.int .i64 1), .agg [.agg [.lit (.int .i64 (-9223372036854775808)), .lit (.int .i64 9223372036854775807)], .agg [.lit (.int .i64 0), .lit (.int .i64 0)]]], .agg [.lit (.string [112, 97, 110, 105, 99]), .lit (.int .i64 1), .agg [.agg [.lit (.int .i64 (-9223372036854775808)), .lit (.int .i64 9223372036854775807)], .agg [.lit (.int .i64 0), .lit (.int .i64 0)]]]]

/-- 'convoylaw14.LoadEnds': WHATEVER THE INPUT: true; the input reads as it did. -/
def loadEndsSpec : ChangeSpec := { name := "loadEnds", fn := fun _ => fun
  | [d] => { results := [.lit (.bool true)], args := [d] }
  | _ => none }
def loadEndsRow : OpenClaim := { program := "ytcbckehdlbbbbaadoor", sum := "6b39c2a6db887117e69519ce3dc18f2a1cc889eeb9bfba312f08572c44ed8fa0", func := "convoy/convoylaw14.LoadEnds", spec := "loadEnds", unfollowed := true, recurses := true, named := ["convoy/recipe.kinds"], apart := false, laid := [("convoy/recipe.kinds", laid_convoy_recipe_kinds)] }
def LoadEndsSaid : Prop := loadEndsRow.holds Tryd.pinned (OpenSpec.ofChange loadEndsSpec)

/-- ITS FALSE NEIGHBOUR: 'it returns false'. Refute it at one input. -/
def loadEndsWrong : ChangeSpec := { name := "loadEnds", fn := fun _ => fun
  | [d] => { results := [.lit (.bool false)], args := [d] }
  | _ => none }
def LoadEndsWrongFalsely : Prop := loadEndsRow.holds Tryd.pinned (OpenSpec.ofChange loadEndsWrong)

/-- 'convoylaw14.LoadNil': WHATEVER THE INPUT: true; the input reads as it did. -/
def loadNilSpec : ChangeSpec := { name := "loadNil", fn := fun _ => fun
  | [d1, d2] => { results := [.lit (.bool true)], args := [d1, d2] }
  | _ => none }
def loadNilRow : OpenClaim := { program := "ytcbckehdlbbbbaadoor", sum := "6b39c2a6db887117e69519ce3dc18f2a1cc889eeb9bfba312f08572c44ed8fa0", func := "convoy/convoylaw14.LoadNil", spec := "loadNil", unfollowed := true, recurses := true, named := ["convoy/recipe.kinds"], apart := false, laid := [("convoy/recipe.kinds", laid_convoy_recipe_kinds)] }
def LoadNilSaid : Prop := loadNilRow.holds Tryd.pinned (OpenSpec.ofChange loadNilSpec)

/-- ITS FALSE NEIGHBOUR: 'it returns false'. Refute it at one input. -/
def loadNilWrong : ChangeSpec := { name := "loadNil", fn := fun _ => fun
  | [d1, d2] => { results := [.lit (.bool false)], args := [d1, d2] }
  | _ => none }
def LoadNilWrongFalsely : Prop := loadNilRow.holds Tryd.pinned (OpenSpec.ofChange loadNilWrong)

/-- 'convoylaw14.LoadAlone': WHATEVER THE INPUT: true; the input reads as it did. -/
def loadAloneSpec : ChangeSpec := { name := "loadAlone", fn := fun _ => fun
  | [d] => { results := [.lit (.bool true)], args := [d] }
  | _ => none }
def loadAloneRow : OpenClaim := { program := "ytcbckehdlbbbbaadoor", sum := "6b39c2a6db887117e69519ce3dc18f2a1cc889eeb9bfba312f08572c44ed8fa0", func := "convoy/convoylaw14.LoadAlone", spec := "loadAlone", unfollowed := true, recurses := true, named := ["convoy/recipe.kinds"], apart := false, laid := [("convoy/recipe.kinds", laid_convoy_recipe_kinds)] }
def LoadAloneSaid : Prop := loadAloneRow.holds Tryd.pinned (OpenSpec.ofChange loadAloneSpec)

/-- ITS FALSE NEIGHBOUR: 'it returns false'. Refute it at one input. -/
def loadAloneWrong : ChangeSpec := { name := "loadAlone", fn := fun _ => fun
  | [d] => { results := [.lit (.bool false)], args := [d] }
  | _ => none }
def LoadAloneWrongFalsely : Prop := loadAloneRow.holds Tryd.pinned (OpenSpec.ofChange loadAloneWrong)

/- THE SECOND FORM. 'bulk': how many values and letters a reading holds, each counted each time it is reached (what is shared counts as often as it is met; a slice's spare places count too). A statement '..UptoSaid' is the law's where the arguments, and the package variables that the reading takes, are together of bulk at most 1048576: NARROWER than '..Said'. Prove '..Said' where nothing that the law and all that it calls make is longer than what came in: it says more and counts as full. Else prove '..UptoSaid'. A law counts once. -/
mutual
def uptoBulk {H : Type} : DataW H → Nat
  | .lit (.string bytes) => bytes.length + 1
  | .lit _ => 1
  | .nil => 1
  | .ptr d => uptoBulk d + 1
  | .slice elems spare => uptoBulkAll elems + uptoBulkAll spare + 1
  | .agg parts => uptoBulkAll parts + 1
  | .iface _ d => uptoBulk d + 1
  | .map entries => uptoBulkEntries entries + 1
  | .held _ => 1
def uptoBulkAll {H : Type} : List (DataW H) → Nat
  | [] => 0
  | d :: r => uptoBulk d + uptoBulkAll r
def uptoBulkEntries {H : Type} : List (Lit × DataW H) → Nat
  | [] => 0
  | x :: r => uptoBulkEntry x + uptoBulkEntries r
def uptoBulkEntry {H : Type} : Lit × DataW H → Nat
  | (.string bytes, d) => bytes.length + uptoBulk d + 1
  | (_, d) => uptoBulk d + 1
 end
def uptoSmall : (H : Type) → List (DataW H) → Bool := fun _ ds => decide (uptoBulkAll ds ≤ 1048576)
def OpenSpec.upto (s : _root_.Go.ChangeSpec) : _root_.Go.OpenSpec := { _root_.Go.OpenSpec.ofChange s with cond := some uptoSmall }

/-- 'convoylaw14.LoadEnds', WHERE WHAT IT READS IS OF BULK AT MOST 1048576: true; the input reads as it did. -/
def loadEndsUptoRow : OpenClaim := { program := "ytcbckehdlbbbbaadoor", sum := "6b39c2a6db887117e69519ce3dc18f2a1cc889eeb9bfba312f08572c44ed8fa0", func := "convoy/convoylaw14.LoadEnds", spec := "loadEnds", unfollowed := true, recurses := true, named := ["convoy/recipe.kinds"], apart := false, laid := [("convoy/recipe.kinds", laid_convoy_recipe_kinds)], narrowed := true }
def LoadEndsUptoSaid : Prop := loadEndsUptoRow.holds Tryd.pinned (OpenSpec.upto loadEndsSpec)

/-- 'convoylaw14.LoadNil', WHERE WHAT IT READS IS OF BULK AT MOST 1048576: true; the input reads as it did. -/
def loadNilUptoRow : OpenClaim := { program := "ytcbckehdlbbbbaadoor", sum := "6b39c2a6db887117e69519ce3dc18f2a1cc889eeb9bfba312f08572c44ed8fa0", func := "convoy/convoylaw14.LoadNil", spec := "loadNil", unfollowed := true, recurses := true, named := ["convoy/recipe.kinds"], apart := false, laid := [("convoy/recipe.kinds", laid_convoy_recipe_kinds)], narrowed := true }
def LoadNilUptoSaid : Prop := loadNilUptoRow.holds Tryd.pinned (OpenSpec.upto loadNilSpec)

/-- 'convoylaw14.LoadAlone', WHERE WHAT IT READS IS OF BULK AT MOST 1048576: true; the input reads as it did. -/
def loadAloneUptoRow : OpenClaim := { program := "ytcbckehdlbbbbaadoor", sum := "6b39c2a6db887117e69519ce3dc18f2a1cc889eeb9bfba312f08572c44ed8fa0", func := "convoy/convoylaw14.LoadAlone", spec := "loadAlone", unfollowed := true, recurses := true, named := ["convoy/recipe.kinds"], apart := false, laid := [("convoy/recipe.kinds", laid_convoy_recipe_kinds)], narrowed := true }
def LoadAloneUptoSaid : Prop := loadAloneUptoRow.holds Tryd.pinned (OpenSpec.upto loadAloneSpec)

end Rows
end Go.Proofs.YtcbckehdlbbbbaaDoor
