/-
  DERIVED. GIVEN WITH THE SEED: THE CARDS: each row of YtjcedfafeakikaaDoorRows.lean that lists a variable, with what it lists TIED to the program's text (the seventh form; the later family's looks); each row that meets fmt, with fmt's text TOLD by the authors' own Lean function (tested against real Go, not proved from fmt's source: count such statements apart). THE CARD IS WHAT COUNTS. Prove the row's statement (the work); the ties are given (YtjcedfafeakikaaDoorTie.lean); close each card by the builder's one call (the guide's Derived/Test/ToyasCard.lean, 'card_holds'). Laid BY PROGRAM, IN A SANDBOX (cutbox-door.mjs). By AI agents, Wed Nov 11 2026. No macro, syntax, notation, axiom, sorry.
-/
import Derived.Test.YtjcedfafeakikaaDoorRows
import GoSem.ClaimSeven
namespace Go.Proofs.YtjcedfafeakikaaDoor
namespace Rows

/-- THE TIED CARD OF 'laws.FnMoneyTexts'. -/
def fnMoneyTextsCard : Claim7 := { stood := { row := fnMoneyTextsRow, standIns := [], harness := (true, "42102576294b1d131c4e7c90921bb4e80e15ee6ccd012c0650d4c252e2762c6a"), looks := true }, kinds := [], alts := [], laidByText := true, laidKinds := [.data, .data, .data, .sentinel, .sentinel], laidTests := true, laidLooks := .later }
def FnMoneyTextsCardSaid : Prop := Claim7.holds Tryd.pinned (.plain (OpenSpec.ofChange fnMoneyTextsSpec)) fnMoneyTextsCard

/-- THE TIED CARD OF 'laws.FnExactMoneyText'. -/
def fnExactMoneyTextCard : Claim7 := { stood := { row := fnExactMoneyTextRow, standIns := [], harness := (true, "42102576294b1d131c4e7c90921bb4e80e15ee6ccd012c0650d4c252e2762c6a"), looks := true }, kinds := [], alts := [], laidByText := true, laidKinds := [.data, .data, .data], laidTests := true, laidLooks := .later }
def FnExactMoneyTextCardSaid : Prop := Claim7.holds Tryd.pinned (.plain (OpenSpec.ofChange fnExactMoneyTextSpec)) fnExactMoneyTextCard

/-- THE TIED CARD OF 'laws.FnExactReadMoney'. -/
def fnExactReadMoneyCard : Claim7 := { stood := { row := fnExactReadMoneyRow, standIns := [], harness := (true, "42102576294b1d131c4e7c90921bb4e80e15ee6ccd012c0650d4c252e2762c6a"), looks := true }, kinds := [], alts := [], laidByText := true, laidKinds := [.data, .data, .data, .sentinel, .sentinel], laidTests := true, laidLooks := .later }
def FnExactReadMoneyCardSaid : Prop := Claim7.holds Tryd.pinned (.plain (OpenSpec.ofChange fnExactReadMoneySpec)) fnExactReadMoneyCard

/-- THE SECOND FORM's CARD OF 'laws.FnMoneyTexts'. -/
def fnMoneyTextsUptoCard : Claim7 := { stood := { row := fnMoneyTextsUptoRow, standIns := [], harness := (true, "42102576294b1d131c4e7c90921bb4e80e15ee6ccd012c0650d4c252e2762c6a"), looks := true }, kinds := [], alts := [], laidByText := true, laidKinds := [.data, .data, .data, .sentinel, .sentinel], laidTests := true, laidLooks := .later }
def FnMoneyTextsUptoCardSaid : Prop := Claim7.holds Tryd.pinned (.plain (OpenSpec.upto fnMoneyTextsSpec)) fnMoneyTextsUptoCard

/-- THE SECOND FORM's CARD OF 'laws.FnExactMoneyText'. -/
def fnExactMoneyTextUptoCard : Claim7 := { stood := { row := fnExactMoneyTextUptoRow, standIns := [], harness := (true, "42102576294b1d131c4e7c90921bb4e80e15ee6ccd012c0650d4c252e2762c6a"), looks := true }, kinds := [], alts := [], laidByText := true, laidKinds := [.data, .data, .data], laidTests := true, laidLooks := .later }
def FnExactMoneyTextUptoCardSaid : Prop := Claim7.holds Tryd.pinned (.plain (OpenSpec.upto fnExactMoneyTextSpec)) fnExactMoneyTextUptoCard

/-- THE SECOND FORM's CARD OF 'laws.FnExactReadMoney'. -/
def fnExactReadMoneyUptoCard : Claim7 := { stood := { row := fnExactReadMoneyUptoRow, standIns := [], harness := (true, "42102576294b1d131c4e7c90921bb4e80e15ee6ccd012c0650d4c252e2762c6a"), looks := true }, kinds := [], alts := [], laidByText := true, laidKinds := [.data, .data, .data, .sentinel, .sentinel], laidTests := true, laidLooks := .later }
def FnExactReadMoneyUptoCardSaid : Prop := Claim7.holds Tryd.pinned (.plain (OpenSpec.upto fnExactReadMoneySpec)) fnExactReadMoneyUptoCard
end Rows
end Go.Proofs.YtjcedfafeakikaaDoor
