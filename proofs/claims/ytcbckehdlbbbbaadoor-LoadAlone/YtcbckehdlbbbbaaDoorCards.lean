/-
  DERIVED. GIVEN WITH THE SEED: THE CARDS: each row of YtcbckehdlbbbbaaDoorRows.lean that lists a variable, with what it lists TIED to the program's text (the seventh form; the later family's looks); each row that meets fmt, with fmt's text TOLD by the authors' own Lean function (tested against real Go, not proved from fmt's source: count such statements apart). THE CARD IS WHAT COUNTS. Prove the row's statement (the work); the ties are given (YtcbckehdlbbbbaaDoorTie.lean); close each card by the builder's one call (the guide's Derived/Test/ToyasCard.lean, 'card_holds'). Laid BY PROGRAM, IN A SANDBOX (cutbox-door.mjs). By AI agents, Wed Nov 11 2026. No macro, syntax, notation, axiom, sorry.
-/
import Derived.Test.YtcbckehdlbbbbaaDoorRows
import GoSem.ClaimSeven
namespace Go.Proofs.YtcbckehdlbbbbaaDoor
namespace Rows

/-- THE TIED CARD OF 'convoylaw14.LoadEnds'. -/
def loadEndsCard : Claim7 := { stood := { row := loadEndsRow, standIns := [], harness := (true, "c6f24612c2dda1a4a945742fa265160874bfea35ed367ac38c4057b328474583"), looks := true }, kinds := [], alts := [], laidByText := true, laidKinds := [.wider], laidTests := true, laidLooks := .later }
def LoadEndsCardSaid : Prop := Claim7.holds Tryd.pinned (.plain (OpenSpec.ofChange loadEndsSpec)) loadEndsCard

/-- THE TIED CARD OF 'convoylaw14.LoadNil'. -/
def loadNilCard : Claim7 := { stood := { row := loadNilRow, standIns := [], harness := (true, "c6f24612c2dda1a4a945742fa265160874bfea35ed367ac38c4057b328474583"), looks := true }, kinds := [], alts := [], laidByText := true, laidKinds := [.wider], laidTests := true, laidLooks := .later }
def LoadNilCardSaid : Prop := Claim7.holds Tryd.pinned (.plain (OpenSpec.ofChange loadNilSpec)) loadNilCard

/-- THE TIED CARD OF 'convoylaw14.LoadAlone'. -/
def loadAloneCard : Claim7 := { stood := { row := loadAloneRow, standIns := [], harness := (true, "c6f24612c2dda1a4a945742fa265160874bfea35ed367ac38c4057b328474583"), looks := true }, kinds := [], alts := [], laidByText := true, laidKinds := [.wider], laidTests := true, laidLooks := .later }
def LoadAloneCardSaid : Prop := Claim7.holds Tryd.pinned (.plain (OpenSpec.ofChange loadAloneSpec)) loadAloneCard

/-- THE SECOND FORM's CARD OF 'convoylaw14.LoadEnds'. -/
def loadEndsUptoCard : Claim7 := { stood := { row := loadEndsUptoRow, standIns := [], harness := (true, "c6f24612c2dda1a4a945742fa265160874bfea35ed367ac38c4057b328474583"), looks := true }, kinds := [], alts := [], laidByText := true, laidKinds := [.wider], laidTests := true, laidLooks := .later }
def LoadEndsUptoCardSaid : Prop := Claim7.holds Tryd.pinned (.plain (OpenSpec.upto loadEndsSpec)) loadEndsUptoCard

/-- THE SECOND FORM's CARD OF 'convoylaw14.LoadNil'. -/
def loadNilUptoCard : Claim7 := { stood := { row := loadNilUptoRow, standIns := [], harness := (true, "c6f24612c2dda1a4a945742fa265160874bfea35ed367ac38c4057b328474583"), looks := true }, kinds := [], alts := [], laidByText := true, laidKinds := [.wider], laidTests := true, laidLooks := .later }
def LoadNilUptoCardSaid : Prop := Claim7.holds Tryd.pinned (.plain (OpenSpec.upto loadNilSpec)) loadNilUptoCard

/-- THE SECOND FORM's CARD OF 'convoylaw14.LoadAlone'. -/
def loadAloneUptoCard : Claim7 := { stood := { row := loadAloneUptoRow, standIns := [], harness := (true, "c6f24612c2dda1a4a945742fa265160874bfea35ed367ac38c4057b328474583"), looks := true }, kinds := [], alts := [], laidByText := true, laidKinds := [.wider], laidTests := true, laidLooks := .later }
def LoadAloneUptoCardSaid : Prop := Claim7.holds Tryd.pinned (.plain (OpenSpec.upto loadAloneSpec)) loadAloneUptoCard
end Rows
end Go.Proofs.YtcbckehdlbbbbaaDoor
