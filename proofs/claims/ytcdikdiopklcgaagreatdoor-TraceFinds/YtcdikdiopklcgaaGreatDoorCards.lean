/-
  DERIVED. GIVEN WITH THE SEED: THE CARDS: each row of YtcdikdiopklcgaaGreatDoorRows.lean that lists a variable, with what it lists TIED to the program's text (the seventh form; the later family's looks); each row that meets fmt, with fmt's text TOLD by the authors' own Lean function (tested against real Go, not proved from fmt's source: count such statements apart). THE CARD IS WHAT COUNTS. Prove the row's statement (the work); the ties are given (YtcdikdiopklcgaaGreatDoorTie.lean); close each card by the builder's one call (the guide's Derived/Test/ToyasCard.lean, 'card_holds'). Laid BY PROGRAM, IN A SANDBOX (cutbox-door.mjs). By AI agents, Wed Nov 11 2026. No macro, syntax, notation, axiom, sorry.
-/
import Derived.Test.YtcdikdiopklcgaaGreatDoorRows
import GoSem.ClaimSeven
namespace Go.Proofs.YtcdikdiopklcgaaGreatDoor
namespace Rows

/-- THE TIED CARD OF 'convoylaw24.TraceFinds'. -/
def traceFindsCard : Claim7 := { stood := { row := traceFindsRow, standIns := [], harness := (true, "2902dcfb18a7a63f0ff6607449796950d01eb21025b4f388fc3c46f6f30c599d"), looks := true }, kinds := [], alts := [], laidByText := true, laidKinds := [.data, .data, .data, .data], laidTests := true, laidLooks := .later }
def TraceFindsCardSaid : Prop := Claim7.holds Tryz.pinned (.plain (OpenSpec.ofChange traceFindsSpec)) traceFindsCard

/-- THE SECOND FORM's CARD OF 'convoylaw24.TraceFinds'. -/
def traceFindsUptoCard : Claim7 := { stood := { row := traceFindsUptoRow, standIns := [], harness := (true, "2902dcfb18a7a63f0ff6607449796950d01eb21025b4f388fc3c46f6f30c599d"), looks := true }, kinds := [], alts := [], laidByText := true, laidKinds := [.data, .data, .data, .data], laidTests := true, laidLooks := .later }
def TraceFindsUptoCardSaid : Prop := Claim7.holds Tryz.pinned (.plain (OpenSpec.upto traceFindsSpec)) traceFindsUptoCard
end Rows
end Go.Proofs.YtcdikdiopklcgaaGreatDoor
