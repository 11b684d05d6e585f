/-
  DERIVED. GIVEN WITH THE SEED: THE CARDS: each row of YtbahpbinilnfoaaDoorRows.lean that lists a variable, with what it lists TIED to the program's text (the seventh form; the later family's looks); each row that meets fmt, with fmt's text TOLD by the authors' own Lean function (tested against real Go, not proved from fmt's source: count such statements apart). THE CARD IS WHAT COUNTS. Prove the row's statement (the work); the ties are given (YtbahpbinilnfoaaDoorTie.lean); close each card by the builder's one call (the guide's Derived/Test/ToyasCard.lean, 'card_holds'). Laid BY PROGRAM, IN A SANDBOX (cutbox-door.mjs). By AI agents, Wed Nov 11 2026. No macro, syntax, notation, axiom, sorry.
-/
import Derived.Test.YtbahpbinilnfoaaDoorRows
import GoSem.ClaimSeven
namespace Go.Proofs.YtbahpbinilnfoaaDoor
namespace Rows

/-- THE TIED CARD OF 'carillonlaw05.ShowLong'. -/
def showLongCard : Claim7 := { stood := { row := showLongRow, standIns := [], harness := (true, "c83164bd0a6da674cdb7d52c232a345b23a26d5cd59b666fbbb7adeb04d28191"), looks := false }, kinds := [], alts := [], laidByText := true, laidKinds := [.data, .data, .data, .data, .data], laidTests := true, laidLooks := .later }
def ShowLongCardSaid : Prop := Claim7.holds Tryd.pinned (.plain (OpenSpec.ofChange showLongSpec)) showLongCard

/-- THE SECOND FORM's CARD OF 'carillonlaw05.ShowLong'. -/
def showLongUptoCard : Claim7 := { stood := { row := showLongUptoRow, standIns := [], harness := (true, "c83164bd0a6da674cdb7d52c232a345b23a26d5cd59b666fbbb7adeb04d28191"), looks := false }, kinds := [], alts := [], laidByText := true, laidKinds := [.data, .data, .data, .data, .data], laidTests := true, laidLooks := .later }
def ShowLongUptoCardSaid : Prop := Claim7.holds Tryd.pinned (.plain (OpenSpec.upto showLongSpec)) showLongUptoCard
end Rows
end Go.Proofs.YtbahpbinilnfoaaDoor
