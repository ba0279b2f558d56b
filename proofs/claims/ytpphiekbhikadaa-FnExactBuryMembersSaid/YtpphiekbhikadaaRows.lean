/-
  No cell of these rows narrows 'for every input' (looked for: loops, veiled, ifaces, maps, wideKeys, modest, calm, conditions, laid).
  DERIVED. THE GIVEN ROWS OF THIS SEAT. 7 by the template 'for every input the law returns true; each argument reads behind the call as it read before'; 0 by the template 'total and deterministic' (their statements: YtpphiekbhikadaaTotals.lean).
  GIVEN WITH THE SEED: the statements are not yours to turn. If you find one false, say at which input.
  Laid BY PROGRAM, IN A SANDBOX (cutbox-rows.mjs): the forced cells as the released guide's own fill.sh prints them over the translation 7f69646874c7886f… (all of the seat's roots in one cut). By AI agents, Wed Nov 11 2026. No macro, syntax, notation, axiom, sorry.
-/
import Derived.Test.YtpphiekbhikadaaChecked
import GoSem.Claim
import GoSem.ClaimJoined
import GoSem.ClaimMapViews
import Derived.JoinedTies
import Derived.KernelRfl
namespace Go.Proofs.Ytpphiekbhikadaa
/- THE CELL 'sum', in the pinned program and in every row, IS THE sha256 OF THE DUMP (.gsa) THAT YtpphiekbhikadaaProg.lean LOADS. Nothing in Lean hashes anything: it is a label: what it is worth is what the hold of that sum in a sandbox is worth. -/
noncomputable def Try.pinned : Pinned := { name := "ytpphiekbhikadaa", sum := "7f69646874c7886f5ca41b17763a96c0e968f8d9edefecb5727bafde27dfe7fc", checked := Try.checked }
namespace Rows
def none {H : Type} : Left H := { results := [], args := [] }

/-- 'laws.FnTontines': WHATEVER THE INPUT: true; the input reads as it did. -/
def fnTontinesSpec : ChangeSpec := { name := "fnTontines", fn := fun _ => fun
  | [d] => { results := [.lit (.bool true)], args := [d] }
  | _ => none }
def fnTontinesRow : OpenClaim := { program := "ytpphiekbhikadaa", sum := "7f69646874c7886f5ca41b17763a96c0e968f8d9edefecb5727bafde27dfe7fc", func := "loop.example/g01025/laws.FnTontines", spec := "fnTontines", apart := false }
def FnTontinesSaid : Prop := fnTontinesRow.holds Try.pinned (OpenSpec.ofChange fnTontinesSpec)

/-- ITS FALSE NEIGHBOUR: 'it returns false'. Refute it at one input. -/
def fnTontinesWrong : ChangeSpec := { name := "fnTontines", fn := fun _ => fun
  | [d] => { results := [.lit (.bool false)], args := [d] }
  | _ => none }
def FnTontinesWrongFalsely : Prop := fnTontinesRow.holds Try.pinned (OpenSpec.ofChange fnTontinesWrong)

/-- 'laws.FnExactIsClass': WHATEVER THE INPUT: true; the input reads as it did. -/
def fnExactIsClassSpec : ChangeSpec := { name := "fnExactIsClass", fn := fun _ => fun
  | [d] => { results := [.lit (.bool true)], args := [d] }
  | _ => none }
def fnExactIsClassRow : OpenClaim := { program := "ytpphiekbhikadaa", sum := "7f69646874c7886f5ca41b17763a96c0e968f8d9edefecb5727bafde27dfe7fc", func := "loop.example/g01025/laws.FnExactIsClass", spec := "fnExactIsClass", apart := false }
def FnExactIsClassSaid : Prop := fnExactIsClassRow.holds Try.pinned (OpenSpec.ofChange fnExactIsClassSpec)

/-- ITS FALSE NEIGHBOUR: 'it returns false'. Refute it at one input. -/
def fnExactIsClassWrong : ChangeSpec := { name := "fnExactIsClass", fn := fun _ => fun
  | [d] => { results := [.lit (.bool false)], args := [d] }
  | _ => none }
def FnExactIsClassWrongFalsely : Prop := fnExactIsClassRow.holds Try.pinned (OpenSpec.ofChange fnExactIsClassWrong)

/-- 'laws.FnExactLivingShares': WHATEVER THE INPUT: true; the input reads as it did. -/
def fnExactLivingSharesSpec : ChangeSpec := { name := "fnExactLivingShares", fn := fun _ => fun
  | [d] => { results := [.lit (.bool true)], args := [d] }
  | _ => none }
def fnExactLivingSharesRow : OpenClaim := { program := "ytpphiekbhikadaa", sum := "7f69646874c7886f5ca41b17763a96c0e968f8d9edefecb5727bafde27dfe7fc", func := "loop.example/g01025/laws.FnExactLivingShares", spec := "fnExactLivingShares", apart := false }
def FnExactLivingSharesSaid : Prop := fnExactLivingSharesRow.holds Try.pinned (OpenSpec.ofChange fnExactLivingSharesSpec)

/-- ITS FALSE NEIGHBOUR: 'it returns false'. Refute it at one input. -/
def fnExactLivingSharesWrong : ChangeSpec := { name := "fnExactLivingShares", fn := fun _ => fun
  | [d] => { results := [.lit (.bool false)], args := [d] }
  | _ => none }
def FnExactLivingSharesWrongFalsely : Prop := fnExactLivingSharesRow.holds Try.pinned (OpenSpec.ofChange fnExactLivingSharesWrong)

/-- 'laws.FnExactBuryMembers': WHATEVER THE INPUT: true; the input reads as it did. -/
def fnExactBuryMembersSpec : ChangeSpec := { name := "fnExactBuryMembers", fn := fun _ => fun
  | [d1, d2] => { results := [.lit (.bool true)], args := [d1, d2] }
  | _ => none }
def fnExactBuryMembersRow : OpenClaim := { program := "ytpphiekbhikadaa", sum := "7f69646874c7886f5ca41b17763a96c0e968f8d9edefecb5727bafde27dfe7fc", func := "loop.example/g01025/laws.FnExactBuryMembers", spec := "fnExactBuryMembers", apart := false }
def FnExactBuryMembersSaid : Prop := fnExactBuryMembersRow.holds Try.pinned (OpenSpec.ofChange fnExactBuryMembersSpec)

/-- ITS FALSE NEIGHBOUR: 'it returns false'. Refute it at one input. -/
def fnExactBuryMembersWrong : ChangeSpec := { name := "fnExactBuryMembers", fn := fun _ => fun
  | [d1, d2] => { results := [.lit (.bool false)], args := [d1, d2] }
  | _ => none }
def FnExactBuryMembersWrongFalsely : Prop := fnExactBuryMembersRow.holds Try.pinned (OpenSpec.ofChange fnExactBuryMembersWrong)

/-- 'laws.FnExactPayIncome': WHATEVER THE INPUT: true; the input reads as it did. -/
def fnExactPayIncomeSpec : ChangeSpec := { name := "fnExactPayIncome", fn := fun _ => fun
  | [d1, d2] => { results := [.lit (.bool true)], args := [d1, d2] }
  | _ => none }
def fnExactPayIncomeRow : OpenClaim := { program := "ytpphiekbhikadaa", sum := "7f69646874c7886f5ca41b17763a96c0e968f8d9edefecb5727bafde27dfe7fc", func := "loop.example/g01025/laws.FnExactPayIncome", spec := "fnExactPayIncome", apart := false }
def FnExactPayIncomeSaid : Prop := fnExactPayIncomeRow.holds Try.pinned (OpenSpec.ofChange fnExactPayIncomeSpec)

/-- ITS FALSE NEIGHBOUR: 'it returns false'. Refute it at one input. -/
def fnExactPayIncomeWrong : ChangeSpec := { name := "fnExactPayIncome", fn := fun _ => fun
  | [d1, d2] => { results := [.lit (.bool false)], args := [d1, d2] }
  | _ => none }
def FnExactPayIncomeWrongFalsely : Prop := fnExactPayIncomeRow.holds Try.pinned (OpenSpec.ofChange fnExactPayIncomeWrong)

/-- 'laws.FnExactRunClass': WHATEVER THE INPUT: true; the input reads as it did. -/
def fnExactRunClassSpec : ChangeSpec := { name := "fnExactRunClass", fn := fun _ => fun
  | [d1, d2, d3] => { results := [.lit (.bool true)], args := [d1, d2, d3] }
  | _ => none }
def fnExactRunClassRow : OpenClaim := { program := "ytpphiekbhikadaa", sum := "7f69646874c7886f5ca41b17763a96c0e968f8d9edefecb5727bafde27dfe7fc", func := "loop.example/g01025/laws.FnExactRunClass", spec := "fnExactRunClass", apart := false }
def FnExactRunClassSaid : Prop := fnExactRunClassRow.holds Try.pinned (OpenSpec.ofChange fnExactRunClassSpec)

/-- ITS FALSE NEIGHBOUR: 'it returns false'. Refute it at one input. -/
def fnExactRunClassWrong : ChangeSpec := { name := "fnExactRunClass", fn := fun _ => fun
  | [d1, d2, d3] => { results := [.lit (.bool false)], args := [d1, d2, d3] }
  | _ => none }
def FnExactRunClassWrongFalsely : Prop := fnExactRunClassRow.holds Try.pinned (OpenSpec.ofChange fnExactRunClassWrong)

/-- 'laws.FnExactLastMember': WHATEVER THE INPUT: true; the input reads as it did. -/
def fnExactLastMemberSpec : ChangeSpec := { name := "fnExactLastMember", fn := fun _ => fun
  | [d] => { results := [.lit (.bool true)], args := [d] }
  | _ => none }
def fnExactLastMemberRow : OpenClaim := { program := "ytpphiekbhikadaa", sum := "7f69646874c7886f5ca41b17763a96c0e968f8d9edefecb5727bafde27dfe7fc", func := "loop.example/g01025/laws.FnExactLastMember", spec := "fnExactLastMember", apart := false }
def FnExactLastMemberSaid : Prop := fnExactLastMemberRow.holds Try.pinned (OpenSpec.ofChange fnExactLastMemberSpec)

/-- ITS FALSE NEIGHBOUR: 'it returns false'. Refute it at one input. -/
def fnExactLastMemberWrong : ChangeSpec := { name := "fnExactLastMember", fn := fun _ => fun
  | [d] => { results := [.lit (.bool false)], args := [d] }
  | _ => none }
def FnExactLastMemberWrongFalsely : Prop := fnExactLastMemberRow.holds Try.pinned (OpenSpec.ofChange fnExactLastMemberWrong)

/- THE SECOND FORM. 'bulk': how many values and letters a reading holds, each counted each time it is reached (what is shared counts as often as it is met; a slice's spare places count too). A statement '..UptoSaid' is the law's where the arguments, and the package variables that the reading takes, are together of bulk at most 1048576: NARROWER than '..Said'. Prove '..Said' where nothing that the law and all that it calls make is longer than what came in: it says more and counts as full. Else prove '..UptoSaid'. A law counts once. -/
mutual
def uptoBulk {H : Type} : DataW H → Nat
  | .lit (.string bytes) => bytes.length + 1
  | .lit _ => 1
  | .nil => 1
  | .ptr d => uptoBulk d + 1
  | .slice elems spare => uptoBulkAll elems + uptoBulkAll spare + 1
  | .agg parts => uptoBulkAll parts + 1
  | .iface _ d => uptoBulk d + 1
  | .map entries => uptoBulkEntries entries + 1
  | .held _ => 1
def uptoBulkAll {H : Type} : List (DataW H) → Nat
  | [] => 0
  | d :: r => uptoBulk d + uptoBulkAll r
def uptoBulkEntries {H : Type} : List (Lit × DataW H) → Nat
  | [] => 0
  | x :: r => uptoBulkEntry x + uptoBulkEntries r
def uptoBulkEntry {H : Type} : Lit × DataW H → Nat
  | (.string bytes, d) => bytes.length + uptoBulk d + 1
  | (_, d) => uptoBulk d + 1
 end
def uptoSmall : (H : Type) → List (DataW H) → Bool := fun _ ds => decide (uptoBulkAll ds ≤ 1048576)
def OpenSpec.upto (s : _root_.Go.ChangeSpec) : _root_.Go.OpenSpec := { _root_.Go.OpenSpec.ofChange s with cond := some uptoSmall }

/-- 'laws.FnTontines', WHERE WHAT IT READS IS OF BULK AT MOST 1048576: true; the input reads as it did. -/
def fnTontinesUptoRow : OpenClaim := { program := "ytpphiekbhikadaa", sum := "7f69646874c7886f5ca41b17763a96c0e968f8d9edefecb5727bafde27dfe7fc", func := "loop.example/g01025/laws.FnTontines", spec := "fnTontines", apart := false, narrowed := true }
def FnTontinesUptoSaid : Prop := fnTontinesUptoRow.holds Try.pinned (OpenSpec.upto fnTontinesSpec)

/-- 'laws.FnExactIsClass', WHERE WHAT IT READS IS OF BULK AT MOST 1048576: true; the input reads as it did. -/
def fnExactIsClassUptoRow : OpenClaim := { program := "ytpphiekbhikadaa", sum := "7f69646874c7886f5ca41b17763a96c0e968f8d9edefecb5727bafde27dfe7fc", func := "loop.example/g01025/laws.FnExactIsClass", spec := "fnExactIsClass", apart := false, narrowed := true }
def FnExactIsClassUptoSaid : Prop := fnExactIsClassUptoRow.holds Try.pinned (OpenSpec.upto fnExactIsClassSpec)

/-- 'laws.FnExactLivingShares', WHERE WHAT IT READS IS OF BULK AT MOST 1048576: true; the input reads as it did. -/
def fnExactLivingSharesUptoRow : OpenClaim := { program := "ytpphiekbhikadaa", sum := "7f69646874c7886f5ca41b17763a96c0e968f8d9edefecb5727bafde27dfe7fc", func := "loop.example/g01025/laws.FnExactLivingShares", spec := "fnExactLivingShares", apart := false, narrowed := true }
def FnExactLivingSharesUptoSaid : Prop := fnExactLivingSharesUptoRow.holds Try.pinned (OpenSpec.upto fnExactLivingSharesSpec)

/-- 'laws.FnExactBuryMembers', WHERE WHAT IT READS IS OF BULK AT MOST 1048576: true; the input reads as it did. -/
def fnExactBuryMembersUptoRow : OpenClaim := { program := "ytpphiekbhikadaa", sum := "7f69646874c7886f5ca41b17763a96c0e968f8d9edefecb5727bafde27dfe7fc", func := "loop.example/g01025/laws.FnExactBuryMembers", spec := "fnExactBuryMembers", apart := false, narrowed := true }
def FnExactBuryMembersUptoSaid : Prop := fnExactBuryMembersUptoRow.holds Try.pinned (OpenSpec.upto fnExactBuryMembersSpec)

/-- 'laws.FnExactPayIncome', WHERE WHAT IT READS IS OF BULK AT MOST 1048576: true; the input reads as it did. -/
def fnExactPayIncomeUptoRow : OpenClaim := { program := "ytpphiekbhikadaa", sum := "7f69646874c7886f5ca41b17763a96c0e968f8d9edefecb5727bafde27dfe7fc", func := "loop.example/g01025/laws.FnExactPayIncome", spec := "fnExactPayIncome", apart := false, narrowed := true }
def FnExactPayIncomeUptoSaid : Prop := fnExactPayIncomeUptoRow.holds Try.pinned (OpenSpec.upto fnExactPayIncomeSpec)

/-- 'laws.FnExactRunClass', WHERE WHAT IT READS IS OF BULK AT MOST 1048576: true; the input reads as it did. -/
def fnExactRunClassUptoRow : OpenClaim := { program := "ytpphiekbhikadaa", sum := "7f69646874c7886f5ca41b17763a96c0e968f8d9edefecb5727bafde27dfe7fc", func := "loop.example/g01025/laws.FnExactRunClass", spec := "fnExactRunClass", apart := false, narrowed := true }
def FnExactRunClassUptoSaid : Prop := fnExactRunClassUptoRow.holds Try.pinned (OpenSpec.upto fnExactRunClassSpec)

/-- 'laws.FnExactLastMember', WHERE WHAT IT READS IS OF BULK AT MOST 1048576: true; the input reads as it did. -/
def fnExactLastMemberUptoRow : OpenClaim := { program := "ytpphiekbhikadaa", sum := "7f69646874c7886f5ca41b17763a96c0e968f8d9edefecb5727bafde27dfe7fc", func := "loop.example/g01025/laws.FnExactLastMember", spec := "fnExactLastMember", apart := false, narrowed := true }
def FnExactLastMemberUptoSaid : Prop := fnExactLastMemberUptoRow.holds Try.pinned (OpenSpec.upto fnExactLastMemberSpec)

end Rows
end Go.Proofs.Ytpphiekbhikadaa
