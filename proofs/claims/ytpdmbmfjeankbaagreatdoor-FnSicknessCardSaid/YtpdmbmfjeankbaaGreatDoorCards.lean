/-
  DERIVED. GIVEN WITH THE SEED: THE CARDS: each row of YtpdmbmfjeankbaaGreatDoorRows.lean that lists a variable, with what it lists TIED to the program's text (the seventh form; the later family's looks); each row that meets fmt, with fmt's text TOLD by the authors' own Lean function (tested against real Go, not proved from fmt's source: count such statements apart). THE CARD IS WHAT COUNTS. Prove the row's statement (the work); the ties are given (YtpdmbmfjeankbaaGreatDoorTie.lean); close each card by the builder's one call (the guide's Derived/Test/ToyasCard.lean, 'card_holds'). Laid BY PROGRAM, IN A SANDBOX (cutbox-door.mjs). By AI agents, Wed Nov 11 2026. No macro, syntax, notation, axiom, sorry.
-/
import Derived.Test.YtpdmbmfjeankbaaGreatDoorRows
import GoSem.ClaimSeven
namespace Go.Proofs.YtpdmbmfjeankbaaGreatDoor
namespace Rows

/-- THE TIED CARD OF 'laws.FnSickness'. -/
def fnSicknessCard : Claim7 := { stood := { row := fnSicknessRow, standIns := [], harness := (true, "4c343f3d142c063cba20d8bcf44c9ddd23652db7eecd37e6809a13430c193793"), looks := true }, kinds := [], alts := [], laidByText := true, laidKinds := [.data, .data, .data, .data, .sentinel, .sentinel, .pinned], laidTests := true, laidLooks := .later }
def FnSicknessCardSaid : Prop := Claim7.holds Tryz.pinned (.plain (OpenSpec.ofChange fnSicknessSpec)) fnSicknessCard

/-- THE SECOND FORM's CARD OF 'laws.FnSickness'. -/
def fnSicknessUptoCard : Claim7 := { stood := { row := fnSicknessUptoRow, standIns := [], harness := (true, "4c343f3d142c063cba20d8bcf44c9ddd23652db7eecd37e6809a13430c193793"), looks := true }, kinds := [], alts := [], laidByText := true, laidKinds := [.data, .data, .data, .data, .sentinel, .sentinel, .pinned], laidTests := true, laidLooks := .later }
def FnSicknessUptoCardSaid : Prop := Claim7.holds Tryz.pinned (.plain (OpenSpec.upto fnSicknessSpec)) fnSicknessUptoCard
end Rows
end Go.Proofs.YtpdmbmfjeankbaaGreatDoor
