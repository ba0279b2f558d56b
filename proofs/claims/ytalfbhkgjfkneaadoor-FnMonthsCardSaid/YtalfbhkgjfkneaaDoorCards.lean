/-
  DERIVED. GIVEN WITH THE SEED: THE CARDS: each row of YtalfbhkgjfkneaaDoorRows.lean that lists a variable, with what it lists TIED to the program's text (the seventh form; the later family's looks); each row that meets fmt, with fmt's text TOLD by the authors' own Lean function (tested against real Go, not proved from fmt's source: count such statements apart). THE CARD IS WHAT COUNTS. Prove the row's statement (the work); the ties are given (YtalfbhkgjfkneaaDoorTie.lean); close each card by the builder's one call (the guide's Derived/Test/ToyasCard.lean, 'card_holds'). Laid BY PROGRAM, IN A SANDBOX (cutbox-door.mjs). By AI agents, Wed Nov 11 2026. No macro, syntax, notation, axiom, sorry.
-/
import Derived.Test.YtalfbhkgjfkneaaDoorRows
import GoSem.ClaimSeven
namespace Go.Proofs.YtalfbhkgjfkneaaDoor
namespace Rows

/-- THE TIED CARD OF 'laws.FnMonths'. -/
def fnMonthsCard : Claim7 := { stood := { row := fnMonthsRow, standIns := [], harness := (true, "faded4f3f2c4388744e66ba1600601b90aef4853924f18a9ccec9ed4e3cba0a0"), looks := true }, kinds := [], alts := [], laidByText := true, laidKinds := [.data, .data, .data, .sentinel, .sentinel], laidTests := true, laidLooks := .later }
def FnMonthsCardSaid : Prop := Claim7.holds Tryd.pinned (.plain (OpenSpec.ofChange fnMonthsSpec)) fnMonthsCard

/-- THE TIED CARD OF 'laws.FnExactReadMonth'. -/
def fnExactReadMonthCard : Claim7 := { stood := { row := fnExactReadMonthRow, standIns := [], harness := (true, "faded4f3f2c4388744e66ba1600601b90aef4853924f18a9ccec9ed4e3cba0a0"), looks := true }, kinds := [], alts := [], laidByText := true, laidKinds := [.data, .data, .data, .sentinel, .sentinel], laidTests := true, laidLooks := .later }
def FnExactReadMonthCardSaid : Prop := Claim7.holds Tryd.pinned (.plain (OpenSpec.ofChange fnExactReadMonthSpec)) fnExactReadMonthCard

/-- THE SECOND FORM's CARD OF 'laws.FnMonths'. -/
def fnMonthsUptoCard : Claim7 := { stood := { row := fnMonthsUptoRow, standIns := [], harness := (true, "faded4f3f2c4388744e66ba1600601b90aef4853924f18a9ccec9ed4e3cba0a0"), looks := true }, kinds := [], alts := [], laidByText := true, laidKinds := [.data, .data, .data, .sentinel, .sentinel], laidTests := true, laidLooks := .later }
def FnMonthsUptoCardSaid : Prop := Claim7.holds Tryd.pinned (.plain (OpenSpec.upto fnMonthsSpec)) fnMonthsUptoCard

/-- THE SECOND FORM's CARD OF 'laws.FnExactReadMonth'. -/
def fnExactReadMonthUptoCard : Claim7 := { stood := { row := fnExactReadMonthUptoRow, standIns := [], harness := (true, "faded4f3f2c4388744e66ba1600601b90aef4853924f18a9ccec9ed4e3cba0a0"), looks := true }, kinds := [], alts := [], laidByText := true, laidKinds := [.data, .data, .data, .sentinel, .sentinel], laidTests := true, laidLooks := .later }
def FnExactReadMonthUptoCardSaid : Prop := Claim7.holds Tryd.pinned (.plain (OpenSpec.upto fnExactReadMonthSpec)) fnExactReadMonthUptoCard
end Rows
end Go.Proofs.YtalfbhkgjfkneaaDoor
