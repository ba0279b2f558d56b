/-
  No cell of these rows narrows 'for every input' (looked for: loops, veiled, ifaces, maps, wideKeys, modest, calm, conditions, laid).
  DERIVED. THE GIVEN ROWS OF THIS SEAT. 9 by the template 'for every input the law returns true; each argument reads behind the call as it read before'; 0 by the template 'total and deterministic' (their statements: YtonkaoacohocjaaTotals.lean).
  GIVEN WITH THE SEED: the statements are not yours to turn. If you find one false, say at which input.
  Laid BY PROGRAM, IN A SANDBOX (cutbox-rows.mjs): the forced cells as the released guide's own fill.sh prints them over the translation eb3ee37966df19ff… (all of the seat's roots in one cut). By AI agents, Wed Nov 11 2026. No macro, syntax, notation, axiom, sorry.
-/
import Derived.Test.YtonkaoacohocjaaChecked
import GoSem.Claim
import GoSem.ClaimJoined
import GoSem.ClaimMapViews
import Derived.JoinedTies
import Derived.KernelRfl
namespace Go.Proofs.Ytonkaoacohocjaa
/- THE CELL 'sum', in the pinned program and in every row, IS THE sha256 OF THE DUMP (.gsa) THAT YtonkaoacohocjaaProg.lean LOADS. Nothing in Lean hashes anything: it is a label: what it is worth is what the hold of that sum in a sandbox is worth. -/
noncomputable def Try.pinned : Pinned := { name := "ytonkaoacohocjaa", sum := "eb3ee37966df19ff9695999aaafc5e51c9ef99b49278abef6abd7d8804aa5765", checked := Try.checked }
namespace Rows
def none {H : Type} : Left H := { results := [], args := [] }

/-- 'laws.FnSurvival': WHATEVER THE INPUT: true; the input reads as it did. -/
def fnSurvivalSpec : ChangeSpec := { name := "fnSurvival", fn := fun _ => fun
  | [d] => { results := [.lit (.bool true)], args := [d] }
  | _ => none }
def fnSurvivalRow : OpenClaim := { program := "ytonkaoacohocjaa", sum := "eb3ee37966df19ff9695999aaafc5e51c9ef99b49278abef6abd7d8804aa5765", func := "loop.example/g01025/laws.FnSurvival", spec := "fnSurvival", unfollowed := true, recurses := true, apart := false }
def FnSurvivalSaid : Prop := fnSurvivalRow.holds Try.pinned (OpenSpec.ofChange fnSurvivalSpec)

/-- ITS FALSE NEIGHBOUR: 'it returns false'. Refute it at one input. -/
def fnSurvivalWrong : ChangeSpec := { name := "fnSurvival", fn := fun _ => fun
  | [d] => { results := [.lit (.bool false)], args := [d] }
  | _ => none }
def FnSurvivalWrongFalsely : Prop := fnSurvivalRow.holds Try.pinned (OpenSpec.ofChange fnSurvivalWrong)

/-- 'laws.FnMadeTables': WHATEVER THE INPUT: true; the input reads as it did. -/
def fnMadeTablesSpec : ChangeSpec := { name := "fnMadeTables", fn := fun _ => fun
  | [d] => { results := [.lit (.bool true)], args := [d] }
  | _ => none }
def fnMadeTablesRow : OpenClaim := { program := "ytonkaoacohocjaa", sum := "eb3ee37966df19ff9695999aaafc5e51c9ef99b49278abef6abd7d8804aa5765", func := "loop.example/g01025/laws.FnMadeTables", spec := "fnMadeTables", apart := false }
def FnMadeTablesSaid : Prop := fnMadeTablesRow.holds Try.pinned (OpenSpec.ofChange fnMadeTablesSpec)

/-- ITS FALSE NEIGHBOUR: 'it returns false'. Refute it at one input. -/
def fnMadeTablesWrong : ChangeSpec := { name := "fnMadeTables", fn := fun _ => fun
  | [d] => { results := [.lit (.bool false)], args := [d] }
  | _ => none }
def FnMadeTablesWrongFalsely : Prop := fnMadeTablesRow.holds Try.pinned (OpenSpec.ofChange fnMadeTablesWrong)

/-- 'laws.FnExactIsLifeTable': WHATEVER THE INPUT: true; the input reads as it did. -/
def fnExactIsLifeTableSpec : ChangeSpec := { name := "fnExactIsLifeTable", fn := fun _ => fun
  | [d] => { results := [.lit (.bool true)], args := [d] }
  | _ => none }
def fnExactIsLifeTableRow : OpenClaim := { program := "ytonkaoacohocjaa", sum := "eb3ee37966df19ff9695999aaafc5e51c9ef99b49278abef6abd7d8804aa5765", func := "loop.example/g01025/laws.FnExactIsLifeTable", spec := "fnExactIsLifeTable", apart := false }
def FnExactIsLifeTableSaid : Prop := fnExactIsLifeTableRow.holds Try.pinned (OpenSpec.ofChange fnExactIsLifeTableSpec)

/-- ITS FALSE NEIGHBOUR: 'it returns false'. Refute it at one input. -/
def fnExactIsLifeTableWrong : ChangeSpec := { name := "fnExactIsLifeTable", fn := fun _ => fun
  | [d] => { results := [.lit (.bool false)], args := [d] }
  | _ => none }
def FnExactIsLifeTableWrongFalsely : Prop := fnExactIsLifeTableRow.holds Try.pinned (OpenSpec.ofChange fnExactIsLifeTableWrong)

/-- 'laws.FnExactLivesAt': WHATEVER THE INPUT: true; the input reads as it did. -/
def fnExactLivesAtSpec : ChangeSpec := { name := "fnExactLivesAt", fn := fun _ => fun
  | [d1, d2] => { results := [.lit (.bool true)], args := [d1, d2] }
  | _ => none }
def fnExactLivesAtRow : OpenClaim := { program := "ytonkaoacohocjaa", sum := "eb3ee37966df19ff9695999aaafc5e51c9ef99b49278abef6abd7d8804aa5765", func := "loop.example/g01025/laws.FnExactLivesAt", spec := "fnExactLivesAt", apart := false }
def FnExactLivesAtSaid : Prop := fnExactLivesAtRow.holds Try.pinned (OpenSpec.ofChange fnExactLivesAtSpec)

/-- ITS FALSE NEIGHBOUR: 'it returns false'. Refute it at one input. -/
def fnExactLivesAtWrong : ChangeSpec := { name := "fnExactLivesAt", fn := fun _ => fun
  | [d1, d2] => { results := [.lit (.bool false)], args := [d1, d2] }
  | _ => none }
def FnExactLivesAtWrongFalsely : Prop := fnExactLivesAtRow.holds Try.pinned (OpenSpec.ofChange fnExactLivesAtWrong)

/-- 'laws.FnExactDeathsAt': WHATEVER THE INPUT: true; the input reads as it did. -/
def fnExactDeathsAtSpec : ChangeSpec := { name := "fnExactDeathsAt", fn := fun _ => fun
  | [d1, d2] => { results := [.lit (.bool true)], args := [d1, d2] }
  | _ => none }
def fnExactDeathsAtRow : OpenClaim := { program := "ytonkaoacohocjaa", sum := "eb3ee37966df19ff9695999aaafc5e51c9ef99b49278abef6abd7d8804aa5765", func := "loop.example/g01025/laws.FnExactDeathsAt", spec := "fnExactDeathsAt", apart := false }
def FnExactDeathsAtSaid : Prop := fnExactDeathsAtRow.holds Try.pinned (OpenSpec.ofChange fnExactDeathsAtSpec)

/-- ITS FALSE NEIGHBOUR: 'it returns false'. Refute it at one input. -/
def fnExactDeathsAtWrong : ChangeSpec := { name := "fnExactDeathsAt", fn := fun _ => fun
  | [d1, d2] => { results := [.lit (.bool false)], args := [d1, d2] }
  | _ => none }
def FnExactDeathsAtWrongFalsely : Prop := fnExactDeathsAtRow.holds Try.pinned (OpenSpec.ofChange fnExactDeathsAtWrong)

/-- 'laws.FnExactSurvivalOf': WHATEVER THE INPUT: true; the input reads as it did. -/
def fnExactSurvivalOfSpec : ChangeSpec := { name := "fnExactSurvivalOf", fn := fun _ => fun
  | [d1, d2, d3] => { results := [.lit (.bool true)], args := [d1, d2, d3] }
  | _ => none }
def fnExactSurvivalOfRow : OpenClaim := { program := "ytonkaoacohocjaa", sum := "eb3ee37966df19ff9695999aaafc5e51c9ef99b49278abef6abd7d8804aa5765", func := "loop.example/g01025/laws.FnExactSurvivalOf", spec := "fnExactSurvivalOf", recurses := true, apart := false }
def FnExactSurvivalOfSaid : Prop := fnExactSurvivalOfRow.holds Try.pinned (OpenSpec.ofChange fnExactSurvivalOfSpec)

/-- ITS FALSE NEIGHBOUR: 'it returns false'. Refute it at one input. -/
def fnExactSurvivalOfWrong : ChangeSpec := { name := "fnExactSurvivalOf", fn := fun _ => fun
  | [d1, d2, d3] => { results := [.lit (.bool false)], args := [d1, d2, d3] }
  | _ => none }
def FnExactSurvivalOfWrongFalsely : Prop := fnExactSurvivalOfRow.holds Try.pinned (OpenSpec.ofChange fnExactSurvivalOfWrong)

/-- 'laws.FnExactExpectedYears': WHATEVER THE INPUT: true; the input reads as it did. -/
def fnExactExpectedYearsSpec : ChangeSpec := { name := "fnExactExpectedYears", fn := fun _ => fun
  | [d1, d2] => { results := [.lit (.bool true)], args := [d1, d2] }
  | _ => none }
def fnExactExpectedYearsRow : OpenClaim := { program := "ytonkaoacohocjaa", sum := "eb3ee37966df19ff9695999aaafc5e51c9ef99b49278abef6abd7d8804aa5765", func := "loop.example/g01025/laws.FnExactExpectedYears", spec := "fnExactExpectedYears", unfollowed := true, recurses := true, apart := false }
def FnExactExpectedYearsSaid : Prop := fnExactExpectedYearsRow.holds Try.pinned (OpenSpec.ofChange fnExactExpectedYearsSpec)

/-- ITS FALSE NEIGHBOUR: 'it returns false'. Refute it at one input. -/
def fnExactExpectedYearsWrong : ChangeSpec := { name := "fnExactExpectedYears", fn := fun _ => fun
  | [d1, d2] => { results := [.lit (.bool false)], args := [d1, d2] }
  | _ => none }
def FnExactExpectedYearsWrongFalsely : Prop := fnExactExpectedYearsRow.holds Try.pinned (OpenSpec.ofChange fnExactExpectedYearsWrong)

/-- 'laws.FnExactMiddleAge': WHATEVER THE INPUT: true; the input reads as it did. -/
def fnExactMiddleAgeSpec : ChangeSpec := { name := "fnExactMiddleAge", fn := fun _ => fun
  | [d1, d2] => { results := [.lit (.bool true)], args := [d1, d2] }
  | _ => none }
def fnExactMiddleAgeRow : OpenClaim := { program := "ytonkaoacohocjaa", sum := "eb3ee37966df19ff9695999aaafc5e51c9ef99b49278abef6abd7d8804aa5765", func := "loop.example/g01025/laws.FnExactMiddleAge", spec := "fnExactMiddleAge", unfollowed := true, recurses := true, apart := false }
def FnExactMiddleAgeSaid : Prop := fnExactMiddleAgeRow.holds Try.pinned (OpenSpec.ofChange fnExactMiddleAgeSpec)

/-- ITS FALSE NEIGHBOUR: 'it returns false'. Refute it at one input. -/
def fnExactMiddleAgeWrong : ChangeSpec := { name := "fnExactMiddleAge", fn := fun _ => fun
  | [d1, d2] => { results := [.lit (.bool false)], args := [d1, d2] }
  | _ => none }
def FnExactMiddleAgeWrongFalsely : Prop := fnExactMiddleAgeRow.holds Try.pinned (OpenSpec.ofChange fnExactMiddleAgeWrong)

/-- 'laws.FnExactMakeTable': WHATEVER THE INPUT: true; the input reads as it did. -/
def fnExactMakeTableSpec : ChangeSpec := { name := "fnExactMakeTable", fn := fun _ => fun
  | [d1, d2, d3] => { results := [.lit (.bool true)], args := [d1, d2, d3] }
  | _ => none }
def fnExactMakeTableRow : OpenClaim := { program := "ytonkaoacohocjaa", sum := "eb3ee37966df19ff9695999aaafc5e51c9ef99b49278abef6abd7d8804aa5765", func := "loop.example/g01025/laws.FnExactMakeTable", spec := "fnExactMakeTable", apart := false }
def FnExactMakeTableSaid : Prop := fnExactMakeTableRow.holds Try.pinned (OpenSpec.ofChange fnExactMakeTableSpec)

/-- ITS FALSE NEIGHBOUR: 'it returns false'. Refute it at one input. -/
def fnExactMakeTableWrong : ChangeSpec := { name := "fnExactMakeTable", fn := fun _ => fun
  | [d1, d2, d3] => { results := [.lit (.bool false)], args := [d1, d2, d3] }
  | _ => none }
def FnExactMakeTableWrongFalsely : Prop := fnExactMakeTableRow.holds Try.pinned (OpenSpec.ofChange fnExactMakeTableWrong)

/- THE SECOND FORM. 'bulk': how many values and letters a reading holds, each counted each time it is reached (what is shared counts as often as it is met; a slice's spare places count too). A statement '..UptoSaid' is the law's where the arguments, and the package variables that the reading takes, are together of bulk at most 1048576: NARROWER than '..Said'. Prove '..Said' where nothing that the law and all that it calls make is longer than what came in: it says more and counts as full. Else prove '..UptoSaid'. A law counts once. -/
mutual
def uptoBulk {H : Type} : DataW H → Nat
  | .lit (.string bytes) => bytes.length + 1
  | .lit _ => 1
  | .nil => 1
  | .ptr d => uptoBulk d + 1
  | .slice elems spare => uptoBulkAll elems + uptoBulkAll spare + 1
  | .agg parts => uptoBulkAll parts + 1
  | .iface _ d => uptoBulk d + 1
  | .map entries => uptoBulkEntries entries + 1
  | .held _ => 1
def uptoBulkAll {H : Type} : List (DataW H) → Nat
  | [] => 0
  | d :: r => uptoBulk d + uptoBulkAll r
def uptoBulkEntries {H : Type} : List (Lit × DataW H) → Nat
  | [] => 0
  | x :: r => uptoBulkEntry x + uptoBulkEntries r
def uptoBulkEntry {H : Type} : Lit × DataW H → Nat
  | (.string bytes, d) => bytes.length + uptoBulk d + 1
  | (_, d) => uptoBulk d + 1
 end
def uptoSmall : (H : Type) → List (DataW H) → Bool := fun _ ds => decide (uptoBulkAll ds ≤ 1048576)
def OpenSpec.upto (s : _root_.Go.ChangeSpec) : _root_.Go.OpenSpec := { _root_.Go.OpenSpec.ofChange s with cond := some uptoSmall }

/-- 'laws.FnSurvival', WHERE WHAT IT READS IS OF BULK AT MOST 1048576: true; the input reads as it did. -/
def fnSurvivalUptoRow : OpenClaim := { program := "ytonkaoacohocjaa", sum := "eb3ee37966df19ff9695999aaafc5e51c9ef99b49278abef6abd7d8804aa5765", func := "loop.example/g01025/laws.FnSurvival", spec := "fnSurvival", unfollowed := true, recurses := true, apart := false, narrowed := true }
def FnSurvivalUptoSaid : Prop := fnSurvivalUptoRow.holds Try.pinned (OpenSpec.upto fnSurvivalSpec)

/-- 'laws.FnMadeTables', WHERE WHAT IT READS IS OF BULK AT MOST 1048576: true; the input reads as it did. -/
def fnMadeTablesUptoRow : OpenClaim := { program := "ytonkaoacohocjaa", sum := "eb3ee37966df19ff9695999aaafc5e51c9ef99b49278abef6abd7d8804aa5765", func := "loop.example/g01025/laws.FnMadeTables", spec := "fnMadeTables", apart := false, narrowed := true }
def FnMadeTablesUptoSaid : Prop := fnMadeTablesUptoRow.holds Try.pinned (OpenSpec.upto fnMadeTablesSpec)

/-- 'laws.FnExactIsLifeTable', WHERE WHAT IT READS IS OF BULK AT MOST 1048576: true; the input reads as it did. -/
def fnExactIsLifeTableUptoRow : OpenClaim := { program := "ytonkaoacohocjaa", sum := "eb3ee37966df19ff9695999aaafc5e51c9ef99b49278abef6abd7d8804aa5765", func := "loop.example/g01025/laws.FnExactIsLifeTable", spec := "fnExactIsLifeTable", apart := false, narrowed := true }
def FnExactIsLifeTableUptoSaid : Prop := fnExactIsLifeTableUptoRow.holds Try.pinned (OpenSpec.upto fnExactIsLifeTableSpec)

/-- 'laws.FnExactLivesAt', WHERE WHAT IT READS IS OF BULK AT MOST 1048576: true; the input reads as it did. -/
def fnExactLivesAtUptoRow : OpenClaim := { program := "ytonkaoacohocjaa", sum := "eb3ee37966df19ff9695999aaafc5e51c9ef99b49278abef6abd7d8804aa5765", func := "loop.example/g01025/laws.FnExactLivesAt", spec := "fnExactLivesAt", apart := false, narrowed := true }
def FnExactLivesAtUptoSaid : Prop := fnExactLivesAtUptoRow.holds Try.pinned (OpenSpec.upto fnExactLivesAtSpec)

/-- 'laws.FnExactDeathsAt', WHERE WHAT IT READS IS OF BULK AT MOST 1048576: true; the input reads as it did. -/
def fnExactDeathsAtUptoRow : OpenClaim := { program := "ytonkaoacohocjaa", sum := "eb3ee37966df19ff9695999aaafc5e51c9ef99b49278abef6abd7d8804aa5765", func := "loop.example/g01025/laws.FnExactDeathsAt", spec := "fnExactDeathsAt", apart := false, narrowed := true }
def FnExactDeathsAtUptoSaid : Prop := fnExactDeathsAtUptoRow.holds Try.pinned (OpenSpec.upto fnExactDeathsAtSpec)

/-- 'laws.FnExactSurvivalOf', WHERE WHAT IT READS IS OF BULK AT MOST 1048576: true; the input reads as it did. -/
def fnExactSurvivalOfUptoRow : OpenClaim := { program := "ytonkaoacohocjaa", sum := "eb3ee37966df19ff9695999aaafc5e51c9ef99b49278abef6abd7d8804aa5765", func := "loop.example/g01025/laws.FnExactSurvivalOf", spec := "fnExactSurvivalOf", recurses := true, apart := false, narrowed := true }
def FnExactSurvivalOfUptoSaid : Prop := fnExactSurvivalOfUptoRow.holds Try.pinned (OpenSpec.upto fnExactSurvivalOfSpec)

/-- 'laws.FnExactExpectedYears', WHERE WHAT IT READS IS OF BULK AT MOST 1048576: true; the input reads as it did. -/
def fnExactExpectedYearsUptoRow : OpenClaim := { program := "ytonkaoacohocjaa", sum := "eb3ee37966df19ff9695999aaafc5e51c9ef99b49278abef6abd7d8804aa5765", func := "loop.example/g01025/laws.FnExactExpectedYears", spec := "fnExactExpectedYears", unfollowed := true, recurses := true, apart := false, narrowed := true }
def FnExactExpectedYearsUptoSaid : Prop := fnExactExpectedYearsUptoRow.holds Try.pinned (OpenSpec.upto fnExactExpectedYearsSpec)

/-- 'laws.FnExactMiddleAge', WHERE WHAT IT READS IS OF BULK AT MOST 1048576: true; the input reads as it did. -/
def fnExactMiddleAgeUptoRow : OpenClaim := { program := "ytonkaoacohocjaa", sum := "eb3ee37966df19ff9695999aaafc5e51c9ef99b49278abef6abd7d8804aa5765", func := "loop.example/g01025/laws.FnExactMiddleAge", spec := "fnExactMiddleAge", unfollowed := true, recurses := true, apart := false, narrowed := true }
def FnExactMiddleAgeUptoSaid : Prop := fnExactMiddleAgeUptoRow.holds Try.pinned (OpenSpec.upto fnExactMiddleAgeSpec)

/-- 'laws.FnExactMakeTable', WHERE WHAT IT READS IS OF BULK AT MOST 1048576: true; the input reads as it did. -/
def fnExactMakeTableUptoRow : OpenClaim := { program := "ytonkaoacohocjaa", sum := "eb3ee37966df19ff9695999aaafc5e51c9ef99b49278abef6abd7d8804aa5765", func := "loop.example/g01025/laws.FnExactMakeTable", spec := "fnExactMakeTable", apart := false, narrowed := true }
def FnExactMakeTableUptoSaid : Prop := fnExactMakeTableUptoRow.holds Try.pinned (OpenSpec.upto fnExactMakeTableSpec)

end Rows
end Go.Proofs.Ytonkaoacohocjaa
