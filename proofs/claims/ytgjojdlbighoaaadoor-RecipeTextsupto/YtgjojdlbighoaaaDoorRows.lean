/-
  NARROWER THAN 'FOR EVERY INPUT', by the rows' own cells (each row's printed sentence says how): RecipeDoes: laid · RecipeAlone: laid · RecipeTexts: laid · RecipeBack: laid · RecipeSame: laid.
  DERIVED. THE GIVEN ROWS OF THIS SEAT. 5 by the template 'for every input the law returns true; each argument reads behind the call as it read before'; 0 by the template 'total and deterministic' (their statements: YtgjojdlbighoaaaDoorTotals.lean).
  GIVEN WITH THE SEED: the statements are not yours to turn. If you find one false, say at which input.
  Laid BY PROGRAM, IN A SANDBOX (cutbox-rows.mjs): the forced cells as the released guide's own fill.sh prints them over the translation 9591189085df1755… (all of the seat's roots in one cut). By AI agents, Wed Nov 11 2026. No macro, syntax, notation, axiom, sorry.
-/
import Derived.Test.YtgjojdlbighoaaaDoorChecked
import GoSem.Claim
import GoSem.ClaimJoined
import GoSem.ClaimMapViews
import Derived.JoinedTies
import Derived.KernelRfl
namespace Go.Proofs.YtgjojdlbighoaaaDoor
/- THE CELL 'sum', in the pinned program and in every row, IS THE sha256 OF THE DUMP (.gsa) THAT YtgjojdlbighoaaaDoorProg.lean LOADS. Nothing in Lean hashes anything: it is a label: what it is worth is what the hold of that sum in a sandbox is worth. -/
noncomputable def Tryd.pinned : Pinned := { name := "ytgjojdlbighoaaadoor", sum := "9591189085df175594a6a8b029af0b1aaa20b15f9d414b29f66c7c0d09640e71", checked := Tryd.checked }
namespace Rows
def none {H : Type} : Left H := { results := [], args := [] }

/- WHAT THE LISTED PACKAGE-LEVEL VARIABLES READ AS WHEN THE CALL BEGINS. Each datum BY PROGRAM (the guide's laid-datum.mjs) off the statement by which the dump's own 'gosem.cut.vars' lays the variable. In a bare row this is a premise. The card (YtgjojdlbighoaaaDoorCards.lean) ties it to the program's text. -/
def laid_convoy_recipe_kinds {H : Type} : DataW H := .agg [.agg [.lit (.string []), .lit (.int .i64 0), .agg [.agg [.lit (.int .i64 0), .lit (.int .i64 0)], .agg [.lit (.int .i64 0), .lit (.int .i64 0)]]], .agg [.lit (.string [97, 100, 100]), .lit (.int .i64 1), .agg [.agg [.lit (.int .i64 (-9223372036854775808)), .lit (.int .i64 9223372036854775807)], .agg [.lit (.int .i64 0), .lit (.int .i64 0)]]], .agg [.lit (.string [115, 104, 105, 102, 116]), .lit (.int .i64 1), .agg [.agg [.lit (.int .i64 (-63)), .lit (.int .i64 63)], .agg [.lit (.int .i64 0), .lit (.int .i64 0)]]], .agg [.lit (.string [107, 101, 121]), .lit (.int .i64 0), .agg [.agg [.lit (.int .i64 0), .lit (.int .i64 0)], .agg [.lit (.int .i64 0), .lit (.int .i64 0)]]], .agg [.lit (.string [114, 117, 110]), .lit (.int .i64 0), .agg [.agg [.lit (.int .i64 0), .lit (.int .i64 0)], .agg [.lit (.int .i64 0), .lit (.int .i64 0)]]], .agg [.lit (.string [116, 117, 114, 110]), .lit (.int .i64 1), .agg [.agg [.lit (.int .i64 0), .lit (.int .i64 63)], .agg [.lit (.int .i64 0), .lit (.int .i64 0)]]], .agg [.lit (.string [103, 97, 116, 101]), .lit (.int .i64 1), .agg [.agg [.lit (.int .i64 0), .lit (.int .i64 255)], .agg [.lit (.int .i64 0), .lit (.int .i64 0)]]], .agg [.lit (.string [115, 108, 101, 101, 112]), .lit (.int .i64 1), .agg [.agg [.lit (.int .i64 0), .lit (.int .i64 4611686018427387904)], .agg [.lit (.int .i64 0), .lit (.int .i64 0)]]], .agg [.lit (.string [104, 101, 101, 100]), .lit (.int .i64 0), .agg [.agg [.lit (.int .i64 0), .lit (.int .i64 0)], .agg [.lit (.int .i64 0), .lit (.int .i64 0)]]], .agg [.lit (.string [115, 107, 105, 112]), .lit (.int .i64 2), .agg [.agg [.lit (.int .i64 0), .lit (.int .i64 3)], .agg [.lit (.int .i64 1), .lit (.int .i64 256)]]], .agg [.lit (.string [97, 110, 115, 119, 101, 114]), .lit (.int .i64 0), .agg [.agg [.lit (.int .i64 0), .lit (.int .i64 0)], .agg [.lit (.int .i64 0), .lit (.int .i64 0)]]], .agg [.lit (.string [102, 97, 105, 108]), .lit (.int .i64 1), .agg [.agg [.lit (.int .i64 (-9223372036854775808)), .lit (.int .i64 9223372036854775807)], .agg [.lit (.int .i64 0), .lit (.int .i64 0)]]], .agg [.lit (.string [112, 97, 110, 105, 99]), .lit (.int .i64 1), .agg [.agg [.lit (.int .i64 (-9223372036854775808)), .lit (.int .i64 9223372036854775807)], .agg [.lit (.int .i64 0), .lit (.int .i64 0)]]]]
def laid_math_bits_deBruijn32tab {H : Type} : DataW H := .agg [.lit (.int .u8 0), .lit (.int .u8 1), .lit (.int .u8 28), .lit (.int .u8 2), .lit (.int .u8 29), .lit (.int .u8 14), .lit (.int .u8 24), .lit (.int .u8 3), .lit (.int .u8 30), .lit (.int .u8 22), .lit (.int .u8 20), .lit (.int .u8 15), .lit (.int .u8 25), .lit (.int .u8 17), .lit (.int .u8 4), .lit (.int .u8 8), .lit (.int .u8 31), .lit (.int .u8 27), .lit (.int .u8 13), .lit (.int .u8 23), .lit (.int .u8 21), .lit (.int .u8 19), .lit (.int .u8 16), .lit (.int .u8 7), .lit (.int .u8 26), .lit (.int .u8 12), .lit (.int .u8 18), .lit (.int .u8 6), .lit (.int .u8 11), .lit (.int .u8 5), .lit (.int .u8 10), .lit (.int .u8 9)]
def laid_math_bits_deBruijn64tab {H : Type} : DataW H := .agg [.lit (.int .u8 0), .lit (.int .u8 1), .lit (.int .u8 56), .lit (.int .u8 2), .lit (.int .u8 57), .lit (.int .u8 49), .lit (.int .u8 28), .lit (.int .u8 3), .lit (.int .u8 61), .lit (.int .u8 58), .lit (.int .u8 42), .lit (.int .u8 50), .lit (.int .u8 38), .lit (.int .u8 29), .lit (.int .u8 17), .lit (.int .u8 4), .lit (.int .u8 62), .lit (.int .u8 47), .lit (.int .u8 59), .lit (.int .u8 36), .lit (.int .u8 45), .lit (.int .u8 43), .lit (.int .u8 51), .lit (.int .u8 22), .lit (.int .u8 53), .lit (.int .u8 39), .lit (.int .u8 33), .lit (.int .u8 30), .lit (.int .u8 24), .lit (.int .u8 18), .lit (.int .u8 12), .lit (.int .u8 5), .lit (.int .u8 63), .lit (.int .u8 55), .lit (.int .u8 48), .lit (.int .u8 27), .lit (.int .u8 60), .lit (.int .u8 41), .lit (.int .u8 37), .lit (.int .u8 16), .lit (.int .u8 46), .lit (.int .u8 35), .lit (.int .u8 44), .lit (.int .u8 21), .lit (.int .u8 52), .lit (.int .u8 32), .lit (.int .u8 23), .lit (.int .u8 11), .lit (.int .u8 54), .lit (.int .u8 26), .lit (.int .u8 40), .lit (.int .u8 15), .lit (.int .u8 34), .lit (.int .u8 20), .lit (.int .u8 31), .lit (.int .u8 10), .lit (.int .u8 25), .lit (.int .u8 14), .lit (.int .u8 19), .lit (.int .u8 9), .lit (.int .u8 13), .lit (.int .u8 8), .lit (.int .u8 7), .lit (.int .u8 6)]
def laid_internal_strconv_uint64pow10 {H : Type} : DataW H := .agg [.lit (.int .u64 1), .lit (.int .u64 10), .lit (.int .u64 100), .lit (.int .u64 1000), .lit (.int .u64 10000), .lit (.int .u64 100000), .lit (.int .u64 1000000), .lit (.int .u64 10000000), .lit (.int .u64 100000000), .lit (.int .u64 1000000000), .lit (.int .u64 10000000000), .lit (.int .u64 100000000000), .lit (.int .u64 1000000000000), .lit (.int .u64 10000000000000), .lit (.int .u64 100000000000000), .lit (.int .u64 1000000000000000), .lit (.int .u64 10000000000000000), .lit (.int .u64 100000000000000000), .lit (.int .u64 1000000000000000000), .lit (.int .u64 10000000000000000000)]
def laid_strconv_ErrRange {H : Type} : DataW H := .iface "*errors.errorString" (.ptr (.agg [.lit (.string [118, 97, 108, 117, 101, 32, 111, 117, 116, 32, 111, 102, 32, 114, 97, 110, 103, 101])]))
def laid_strconv_ErrSyntax {H : Type} : DataW H := .iface "*errors.errorString" (.ptr (.agg [.lit (.string [105, 110, 118, 97, 108, 105, 100, 32, 115, 121, 110, 116, 97, 120])]))

/-- 'convoylaw08.RecipeDoes': WHATEVER THE INPUT: true; the input reads as it did. -/
def recipeDoesSpec : ChangeSpec := { name := "recipeDoes", fn := fun _ => fun
  | [d1, d2, d3] => { results := [.lit (.bool true)], args := [d1, d2, d3] }
  | _ => none }
def recipeDoesRow : OpenClaim := { program := "ytgjojdlbighoaaadoor", sum := "9591189085df175594a6a8b029af0b1aaa20b15f9d414b29f66c7c0d09640e71", func := "convoy/convoylaw08.RecipeDoes", spec := "recipeDoes", named := ["convoy/recipe.kinds"], apart := false, laid := [("convoy/recipe.kinds", laid_convoy_recipe_kinds)] }
def RecipeDoesSaid : Prop := recipeDoesRow.holds Tryd.pinned (OpenSpec.ofChange recipeDoesSpec)

/-- ITS FALSE NEIGHBOUR: 'it returns false'. Refute it at one input. -/
def recipeDoesWrong : ChangeSpec := { name := "recipeDoes", fn := fun _ => fun
  | [d1, d2, d3] => { results := [.lit (.bool false)], args := [d1, d2, d3] }
  | _ => none }
def RecipeDoesWrongFalsely : Prop := recipeDoesRow.holds Tryd.pinned (OpenSpec.ofChange recipeDoesWrong)

/-- 'convoylaw08.RecipeAlone': WHATEVER THE INPUT: true; the input reads as it did. -/
def recipeAloneSpec : ChangeSpec := { name := "recipeAlone", fn := fun _ => fun
  | [d1, d2] => { results := [.lit (.bool true)], args := [d1, d2] }
  | _ => none }
def recipeAloneRow : OpenClaim := { program := "ytgjojdlbighoaaadoor", sum := "9591189085df175594a6a8b029af0b1aaa20b15f9d414b29f66c7c0d09640e71", func := "convoy/convoylaw08.RecipeAlone", spec := "recipeAlone", recurses := true, named := ["convoy/recipe.kinds"], apart := false, laid := [("convoy/recipe.kinds", laid_convoy_recipe_kinds)] }
def RecipeAloneSaid : Prop := recipeAloneRow.holds Tryd.pinned (OpenSpec.ofChange recipeAloneSpec)

/-- ITS FALSE NEIGHBOUR: 'it returns false'. Refute it at one input. -/
def recipeAloneWrong : ChangeSpec := { name := "recipeAlone", fn := fun _ => fun
  | [d1, d2] => { results := [.lit (.bool false)], args := [d1, d2] }
  | _ => none }
def RecipeAloneWrongFalsely : Prop := recipeAloneRow.holds Tryd.pinned (OpenSpec.ofChange recipeAloneWrong)

/-- 'convoylaw08.RecipeTexts': WHATEVER THE INPUT: true; the input reads as it did. -/
def recipeTextsSpec : ChangeSpec := { name := "recipeTexts", fn := fun _ => fun
  | [d1, d2] => { results := [.lit (.bool true)], args := [d1, d2] }
  | _ => none }
def recipeTextsRow : OpenClaim := { program := "ytgjojdlbighoaaadoor", sum := "9591189085df175594a6a8b029af0b1aaa20b15f9d414b29f66c7c0d09640e71", func := "convoy/convoylaw08.RecipeTexts", spec := "recipeTexts", inPlace := ["internal/abi.NoEscape", "internal/bytealg.MakeNoZero", "internal/bytealg.IndexByteString", "internal/bytealg.IndexString"], named := ["convoy/recipe.kinds", "internal/strconv.uint64pow10", "math/bits.deBruijn32tab", "math/bits.deBruijn64tab", "internal/bytealg.MaxLen", "strconv.ErrSyntax", "strconv.ErrRange"], apart := false, laid := [("math/bits.deBruijn32tab", laid_math_bits_deBruijn32tab), ("math/bits.deBruijn64tab", laid_math_bits_deBruijn64tab), ("internal/strconv.uint64pow10", laid_internal_strconv_uint64pow10), ("strconv.ErrRange", laid_strconv_ErrRange), ("strconv.ErrSyntax", laid_strconv_ErrSyntax), ("convoy/recipe.kinds", laid_convoy_recipe_kinds)] }
def RecipeTextsSaid : Prop := recipeTextsRow.holds Tryd.pinned (OpenSpec.ofChange recipeTextsSpec)

/-- ITS FALSE NEIGHBOUR: 'it returns false'. Refute it at one input. -/
def recipeTextsWrong : ChangeSpec := { name := "recipeTexts", fn := fun _ => fun
  | [d1, d2] => { results := [.lit (.bool false)], args := [d1, d2] }
  | _ => none }
def RecipeTextsWrongFalsely : Prop := recipeTextsRow.holds Tryd.pinned (OpenSpec.ofChange recipeTextsWrong)

/-- 'convoylaw08.RecipeBack': WHATEVER THE INPUT: true; the input reads as it did. -/
def recipeBackSpec : ChangeSpec := { name := "recipeBack", fn := fun _ => fun
  | [d1, d2] => { results := [.lit (.bool true)], args := [d1, d2] }
  | _ => none }
def recipeBackRow : OpenClaim := { program := "ytgjojdlbighoaaadoor", sum := "9591189085df175594a6a8b029af0b1aaa20b15f9d414b29f66c7c0d09640e71", func := "convoy/convoylaw08.RecipeBack", spec := "recipeBack", inPlace := ["internal/abi.NoEscape", "internal/bytealg.MakeNoZero", "internal/bytealg.IndexByteString", "internal/bytealg.IndexString"], named := ["convoy/recipe.kinds", "internal/strconv.uint64pow10", "math/bits.deBruijn32tab", "math/bits.deBruijn64tab", "internal/bytealg.MaxLen", "strconv.ErrSyntax", "strconv.ErrRange"], apart := false, laid := [("math/bits.deBruijn32tab", laid_math_bits_deBruijn32tab), ("math/bits.deBruijn64tab", laid_math_bits_deBruijn64tab), ("internal/strconv.uint64pow10", laid_internal_strconv_uint64pow10), ("strconv.ErrRange", laid_strconv_ErrRange), ("strconv.ErrSyntax", laid_strconv_ErrSyntax), ("convoy/recipe.kinds", laid_convoy_recipe_kinds)] }
def RecipeBackSaid : Prop := recipeBackRow.holds Tryd.pinned (OpenSpec.ofChange recipeBackSpec)

/-- ITS FALSE NEIGHBOUR: 'it returns false'. Refute it at one input. -/
def recipeBackWrong : ChangeSpec := { name := "recipeBack", fn := fun _ => fun
  | [d1, d2] => { results := [.lit (.bool false)], args := [d1, d2] }
  | _ => none }
def RecipeBackWrongFalsely : Prop := recipeBackRow.holds Tryd.pinned (OpenSpec.ofChange recipeBackWrong)

/-- 'convoylaw08.RecipeSame': WHATEVER THE INPUT: true; the input reads as it did. -/
def recipeSameSpec : ChangeSpec := { name := "recipeSame", fn := fun _ => fun
  | [d1, d2, d3] => { results := [.lit (.bool true)], args := [d1, d2, d3] }
  | _ => none }
def recipeSameRow : OpenClaim := { program := "ytgjojdlbighoaaadoor", sum := "9591189085df175594a6a8b029af0b1aaa20b15f9d414b29f66c7c0d09640e71", func := "convoy/convoylaw08.RecipeSame", spec := "recipeSame", named := ["convoy/recipe.kinds"], apart := false, laid := [("convoy/recipe.kinds", laid_convoy_recipe_kinds)] }
def RecipeSameSaid : Prop := recipeSameRow.holds Tryd.pinned (OpenSpec.ofChange recipeSameSpec)

/-- ITS FALSE NEIGHBOUR: 'it returns false'. Refute it at one input. -/
def recipeSameWrong : ChangeSpec := { name := "recipeSame", fn := fun _ => fun
  | [d1, d2, d3] => { results := [.lit (.bool false)], args := [d1, d2, d3] }
  | _ => none }
def RecipeSameWrongFalsely : Prop := recipeSameRow.holds Tryd.pinned (OpenSpec.ofChange recipeSameWrong)

/- THE SECOND FORM. 'bulk': how many values and letters a reading holds, each counted each time it is reached (what is shared counts as often as it is met; a slice's spare places count too). A statement '..UptoSaid' is the law's where the arguments, and the package variables that the reading takes, are together of bulk at most 1048576: NARROWER than '..Said'. Prove '..Said' where nothing that the law and all that it calls make is longer than what came in: it says more and counts as full. Else prove '..UptoSaid'. A law counts once. -/
mutual
def uptoBulk {H : Type} : DataW H → Nat
  | .lit (.string bytes) => bytes.length + 1
  | .lit _ => 1
  | .nil => 1
  | .ptr d => uptoBulk d + 1
  | .slice elems spare => uptoBulkAll elems + uptoBulkAll spare + 1
  | .agg parts => uptoBulkAll parts + 1
  | .iface _ d => uptoBulk d + 1
  | .map entries => uptoBulkEntries entries + 1
  | .held _ => 1
def uptoBulkAll {H : Type} : List (DataW H) → Nat
  | [] => 0
  | d :: r => uptoBulk d + uptoBulkAll r
def uptoBulkEntries {H : Type} : List (Lit × DataW H) → Nat
  | [] => 0
  | x :: r => uptoBulkEntry x + uptoBulkEntries r
def uptoBulkEntry {H : Type} : Lit × DataW H → Nat
  | (.string bytes, d) => bytes.length + uptoBulk d + 1
  | (_, d) => uptoBulk d + 1
 end
def uptoSmall : (H : Type) → List (DataW H) → Bool := fun _ ds => decide (uptoBulkAll ds ≤ 1048576)
def OpenSpec.upto (s : _root_.Go.ChangeSpec) : _root_.Go.OpenSpec := { _root_.Go.OpenSpec.ofChange s with cond := some uptoSmall }

/-- 'convoylaw08.RecipeDoes', WHERE WHAT IT READS IS OF BULK AT MOST 1048576: true; the input reads as it did. -/
def recipeDoesUptoRow : OpenClaim := { program := "ytgjojdlbighoaaadoor", sum := "9591189085df175594a6a8b029af0b1aaa20b15f9d414b29f66c7c0d09640e71", func := "convoy/convoylaw08.RecipeDoes", spec := "recipeDoes", named := ["convoy/recipe.kinds"], apart := false, laid := [("convoy/recipe.kinds", laid_convoy_recipe_kinds)], narrowed := true }
def RecipeDoesUptoSaid : Prop := recipeDoesUptoRow.holds Tryd.pinned (OpenSpec.upto recipeDoesSpec)

/-- 'convoylaw08.RecipeAlone', WHERE WHAT IT READS IS OF BULK AT MOST 1048576: true; the input reads as it did. -/
def recipeAloneUptoRow : OpenClaim := { program := "ytgjojdlbighoaaadoor", sum := "9591189085df175594a6a8b029af0b1aaa20b15f9d414b29f66c7c0d09640e71", func := "convoy/convoylaw08.RecipeAlone", spec := "recipeAlone", recurses := true, named := ["convoy/recipe.kinds"], apart := false, laid := [("convoy/recipe.kinds", laid_convoy_recipe_kinds)], narrowed := true }
def RecipeAloneUptoSaid : Prop := recipeAloneUptoRow.holds Tryd.pinned (OpenSpec.upto recipeAloneSpec)

/-- 'convoylaw08.RecipeTexts', WHERE WHAT IT READS IS OF BULK AT MOST 1048576: true; the input reads as it did. -/
def recipeTextsUptoRow : OpenClaim := { program := "ytgjojdlbighoaaadoor", sum := "9591189085df175594a6a8b029af0b1aaa20b15f9d414b29f66c7c0d09640e71", func := "convoy/convoylaw08.RecipeTexts", spec := "recipeTexts", inPlace := ["internal/abi.NoEscape", "internal/bytealg.MakeNoZero", "internal/bytealg.IndexByteString", "internal/bytealg.IndexString"], named := ["convoy/recipe.kinds", "internal/strconv.uint64pow10", "math/bits.deBruijn32tab", "math/bits.deBruijn64tab", "internal/bytealg.MaxLen", "strconv.ErrSyntax", "strconv.ErrRange"], apart := false, laid := [("math/bits.deBruijn32tab", laid_math_bits_deBruijn32tab), ("math/bits.deBruijn64tab", laid_math_bits_deBruijn64tab), ("internal/strconv.uint64pow10", laid_internal_strconv_uint64pow10), ("strconv.ErrRange", laid_strconv_ErrRange), ("strconv.ErrSyntax", laid_strconv_ErrSyntax), ("convoy/recipe.kinds", laid_convoy_recipe_kinds)], narrowed := true }
def RecipeTextsUptoSaid : Prop := recipeTextsUptoRow.holds Tryd.pinned (OpenSpec.upto recipeTextsSpec)

/-- 'convoylaw08.RecipeBack', WHERE WHAT IT READS IS OF BULK AT MOST 1048576: true; the input reads as it did. -/
def recipeBackUptoRow : OpenClaim := { program := "ytgjojdlbighoaaadoor", sum := "9591189085df175594a6a8b029af0b1aaa20b15f9d414b29f66c7c0d09640e71", func := "convoy/convoylaw08.RecipeBack", spec := "recipeBack", inPlace := ["internal/abi.NoEscape", "internal/bytealg.MakeNoZero", "internal/bytealg.IndexByteString", "internal/bytealg.IndexString"], named := ["convoy/recipe.kinds", "internal/strconv.uint64pow10", "math/bits.deBruijn32tab", "math/bits.deBruijn64tab", "internal/bytealg.MaxLen", "strconv.ErrSyntax", "strconv.ErrRange"], apart := false, laid := [("math/bits.deBruijn32tab", laid_math_bits_deBruijn32tab), ("math/bits.deBruijn64tab", laid_math_bits_deBruijn64tab), ("internal/strconv.uint64pow10", laid_internal_strconv_uint64pow10), ("strconv.ErrRange", laid_strconv_ErrRange), ("strconv.ErrSyntax", laid_strconv_ErrSyntax), ("convoy/recipe.kinds", laid_convoy_recipe_kinds)], narrowed := true }
def RecipeBackUptoSaid : Prop := recipeBackUptoRow.holds Tryd.pinned (OpenSpec.upto recipeBackSpec)

/-- 'convoylaw08.RecipeSame', WHERE WHAT IT READS IS OF BULK AT MOST 1048576: true; the input reads as it did. -/
def recipeSameUptoRow : OpenClaim := { program := "ytgjojdlbighoaaadoor", sum := "9591189085df175594a6a8b029af0b1aaa20b15f9d414b29f66c7c0d09640e71", func := "convoy/convoylaw08.RecipeSame", spec := "recipeSame", named := ["convoy/recipe.kinds"], apart := false, laid := [("convoy/recipe.kinds", laid_convoy_recipe_kinds)], narrowed := true }
def RecipeSameUptoSaid : Prop := recipeSameUptoRow.holds Tryd.pinned (OpenSpec.upto recipeSameSpec)

end Rows
end Go.Proofs.YtgjojdlbighoaaaDoor
