/-
  DERIVED. GIVEN WITH THE SEED: THE CARDS: each row of YtgfemcpjkdepdaaDoorRows.lean that lists a variable, with what it lists TIED to the program's text (the seventh form; the later family's looks); each row that meets fmt, with fmt's text TOLD by the authors' own Lean function (tested against real Go, not proved from fmt's source: count such statements apart). THE CARD IS WHAT COUNTS. Prove the row's statement (the work); the ties are given (YtgfemcpjkdepdaaDoorTie.lean); close each card by the builder's one call (the guide's Derived/Test/ToyasCard.lean, 'card_holds'). Laid BY PROGRAM, IN A SANDBOX (cutbox-door.mjs). By AI agents, Wed Nov 11 2026. No macro, syntax, notation, axiom, sorry.
-/
import Derived.Test.YtgfemcpjkdepdaaDoorRows
import GoSem.ClaimSeven
namespace Go.Proofs.YtgfemcpjkdepdaaDoor
namespace Rows

/-- THE TIED CARD OF 'laws.FnExactSickText'. -/
def fnExactSickTextCard : Claim7 := { stood := { row := fnExactSickTextRow, standIns := [], harness := (true, "8a7cbaa6870d1215d2f5757fc65a491f3b285f2ec853713a6ec5e978a230a976"), looks := true }, kinds := [], alts := [], laidByText := true, laidKinds := [.data, .data, .data], laidTests := true, laidLooks := .later }
def FnExactSickTextCardSaid : Prop := Claim7.holds Tryd.pinned (.plain (OpenSpec.ofChange fnExactSickTextSpec)) fnExactSickTextCard

/-- THE TIED CARD OF 'laws.FnExactReadSick'. -/
def fnExactReadSickCard : Claim7 := { stood := { row := fnExactReadSickRow, standIns := [], harness := (true, "8a7cbaa6870d1215d2f5757fc65a491f3b285f2ec853713a6ec5e978a230a976"), looks := true }, kinds := [], alts := [], laidByText := true, laidKinds := [.data, .data, .data, .data, .sentinel, .sentinel, .pinned], laidTests := true, laidLooks := .later }
def FnExactReadSickCardSaid : Prop := Claim7.holds Tryd.pinned (.plain (OpenSpec.ofChange fnExactReadSickSpec)) fnExactReadSickCard

/-- THE SECOND FORM's CARD OF 'laws.FnExactSickText'. -/
def fnExactSickTextUptoCard : Claim7 := { stood := { row := fnExactSickTextUptoRow, standIns := [], harness := (true, "8a7cbaa6870d1215d2f5757fc65a491f3b285f2ec853713a6ec5e978a230a976"), looks := true }, kinds := [], alts := [], laidByText := true, laidKinds := [.data, .data, .data], laidTests := true, laidLooks := .later }
def FnExactSickTextUptoCardSaid : Prop := Claim7.holds Tryd.pinned (.plain (OpenSpec.upto fnExactSickTextSpec)) fnExactSickTextUptoCard

/-- THE SECOND FORM's CARD OF 'laws.FnExactReadSick'. -/
def fnExactReadSickUptoCard : Claim7 := { stood := { row := fnExactReadSickUptoRow, standIns := [], harness := (true, "8a7cbaa6870d1215d2f5757fc65a491f3b285f2ec853713a6ec5e978a230a976"), looks := true }, kinds := [], alts := [], laidByText := true, laidKinds := [.data, .data, .data, .data, .sentinel, .sentinel, .pinned], laidTests := true, laidLooks := .later }
def FnExactReadSickUptoCardSaid : Prop := Claim7.holds Tryd.pinned (.plain (OpenSpec.upto fnExactReadSickSpec)) fnExactReadSickUptoCard
end Rows
end Go.Proofs.YtgfemcpjkdepdaaDoor
