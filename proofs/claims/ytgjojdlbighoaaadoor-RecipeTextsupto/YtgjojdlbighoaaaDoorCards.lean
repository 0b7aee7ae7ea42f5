/-
  DERIVED. GIVEN WITH THE SEED: THE CARDS: each row of YtgjojdlbighoaaaDoorRows.lean that lists a variable, with what it lists TIED to the program's text (the seventh form; the later family's looks); each row that meets fmt, with fmt's text TOLD by the authors' own Lean function (tested against real Go, not proved from fmt's source: count such statements apart). THE CARD IS WHAT COUNTS. Prove the row's statement (the work); the ties are given (YtgjojdlbighoaaaDoorTie.lean); close each card by the builder's one call (the guide's Derived/Test/ToyasCard.lean, 'card_holds'). Laid BY PROGRAM, IN A SANDBOX (cutbox-door.mjs). By AI agents, Wed Nov 11 2026. No macro, syntax, notation, axiom, sorry.
-/
import Derived.Test.YtgjojdlbighoaaaDoorRows
import GoSem.ClaimSeven
namespace Go.Proofs.YtgjojdlbighoaaaDoor
namespace Rows

/-- THE TIED CARD OF 'convoylaw08.RecipeDoes'. -/
def recipeDoesCard : Claim7 := { stood := { row := recipeDoesRow, standIns := [], harness := (true, "5dad170850a26250cdfbafde9e799217ef0ae1de1e4a5c14643fcd097f1d3604"), looks := true }, kinds := [], alts := [], laidByText := true, laidKinds := [.wider], laidTests := true, laidLooks := .later }
def RecipeDoesCardSaid : Prop := Claim7.holds Tryd.pinned (.plain (OpenSpec.ofChange recipeDoesSpec)) recipeDoesCard

/-- THE TIED CARD OF 'convoylaw08.RecipeAlone'. -/
def recipeAloneCard : Claim7 := { stood := { row := recipeAloneRow, standIns := [], harness := (true, "5dad170850a26250cdfbafde9e799217ef0ae1de1e4a5c14643fcd097f1d3604"), looks := true }, kinds := [], alts := [], laidByText := true, laidKinds := [.wider], laidTests := true, laidLooks := .later }
def RecipeAloneCardSaid : Prop := Claim7.holds Tryd.pinned (.plain (OpenSpec.ofChange recipeAloneSpec)) recipeAloneCard

/-- THE TIED CARD OF 'convoylaw08.RecipeTexts'. -/
def recipeTextsCard : Claim7 := { stood := { row := recipeTextsRow, standIns := [], harness := (true, "5dad170850a26250cdfbafde9e799217ef0ae1de1e4a5c14643fcd097f1d3604"), looks := true }, kinds := [], alts := [], laidByText := true, laidKinds := [.data, .data, .data, .sentinel, .sentinel, .wider], laidTests := true, laidLooks := .later }
def RecipeTextsCardSaid : Prop := Claim7.holds Tryd.pinned (.plain (OpenSpec.ofChange recipeTextsSpec)) recipeTextsCard

/-- THE TIED CARD OF 'convoylaw08.RecipeBack'. -/
def recipeBackCard : Claim7 := { stood := { row := recipeBackRow, standIns := [], harness := (true, "5dad170850a26250cdfbafde9e799217ef0ae1de1e4a5c14643fcd097f1d3604"), looks := true }, kinds := [], alts := [], laidByText := true, laidKinds := [.data, .data, .data, .sentinel, .sentinel, .wider], laidTests := true, laidLooks := .later }
def RecipeBackCardSaid : Prop := Claim7.holds Tryd.pinned (.plain (OpenSpec.ofChange recipeBackSpec)) recipeBackCard

/-- THE TIED CARD OF 'convoylaw08.RecipeSame'. -/
def recipeSameCard : Claim7 := { stood := { row := recipeSameRow, standIns := [], harness := (true, "5dad170850a26250cdfbafde9e799217ef0ae1de1e4a5c14643fcd097f1d3604"), looks := true }, kinds := [], alts := [], laidByText := true, laidKinds := [.wider], laidTests := true, laidLooks := .later }
def RecipeSameCardSaid : Prop := Claim7.holds Tryd.pinned (.plain (OpenSpec.ofChange recipeSameSpec)) recipeSameCard

/-- THE SECOND FORM's CARD OF 'convoylaw08.RecipeDoes'. -/
def recipeDoesUptoCard : Claim7 := { stood := { row := recipeDoesUptoRow, standIns := [], harness := (true, "5dad170850a26250cdfbafde9e799217ef0ae1de1e4a5c14643fcd097f1d3604"), looks := true }, kinds := [], alts := [], laidByText := true, laidKinds := [.wider], laidTests := true, laidLooks := .later }
def RecipeDoesUptoCardSaid : Prop := Claim7.holds Tryd.pinned (.plain (OpenSpec.upto recipeDoesSpec)) recipeDoesUptoCard

/-- THE SECOND FORM's CARD OF 'convoylaw08.RecipeAlone'. -/
def recipeAloneUptoCard : Claim7 := { stood := { row := recipeAloneUptoRow, standIns := [], harness := (true, "5dad170850a26250cdfbafde9e799217ef0ae1de1e4a5c14643fcd097f1d3604"), looks := true }, kinds := [], alts := [], laidByText := true, laidKinds := [.wider], laidTests := true, laidLooks := .later }
def RecipeAloneUptoCardSaid : Prop := Claim7.holds Tryd.pinned (.plain (OpenSpec.upto recipeAloneSpec)) recipeAloneUptoCard

/-- THE SECOND FORM's CARD OF 'convoylaw08.RecipeTexts'. -/
def recipeTextsUptoCard : Claim7 := { stood := { row := recipeTextsUptoRow, standIns := [], harness := (true, "5dad170850a26250cdfbafde9e799217ef0ae1de1e4a5c14643fcd097f1d3604"), looks := true }, kinds := [], alts := [], laidByText := true, laidKinds := [.data, .data, .data, .sentinel, .sentinel, .wider], laidTests := true, laidLooks := .later }
def RecipeTextsUptoCardSaid : Prop := Claim7.holds Tryd.pinned (.plain (OpenSpec.upto recipeTextsSpec)) recipeTextsUptoCard

/-- THE SECOND FORM's CARD OF 'convoylaw08.RecipeBack'. -/
def recipeBackUptoCard : Claim7 := { stood := { row := recipeBackUptoRow, standIns := [], harness := (true, "5dad170850a26250cdfbafde9e799217ef0ae1de1e4a5c14643fcd097f1d3604"), looks := true }, kinds := [], alts := [], laidByText := true, laidKinds := [.data, .data, .data, .sentinel, .sentinel, .wider], laidTests := true, laidLooks := .later }
def RecipeBackUptoCardSaid : Prop := Claim7.holds Tryd.pinned (.plain (OpenSpec.upto recipeBackSpec)) recipeBackUptoCard

/-- THE SECOND FORM's CARD OF 'convoylaw08.RecipeSame'. -/
def recipeSameUptoCard : Claim7 := { stood := { row := recipeSameUptoRow, standIns := [], harness := (true, "5dad170850a26250cdfbafde9e799217ef0ae1de1e4a5c14643fcd097f1d3604"), looks := true }, kinds := [], alts := [], laidByText := true, laidKinds := [.wider], laidTests := true, laidLooks := .later }
def RecipeSameUptoCardSaid : Prop := Claim7.holds Tryd.pinned (.plain (OpenSpec.upto recipeSameSpec)) recipeSameUptoCard
end Rows
end Go.Proofs.YtgjojdlbighoaaaDoor
