/-
  No cell of these rows narrows 'for every input' (looked for: loops, veiled, ifaces, maps, wideKeys, modest, calm, conditions, laid).
  DERIVED. THE GIVEN ROWS OF THIS SEAT. 10 by the template 'for every input the law returns true; each argument reads behind the call as it read before'; 0 by the template 'total and deterministic' (their statements: YtalfbhkgjfkneaaTotals.lean).
  GIVEN WITH THE SEED: the statements are not yours to turn. If you find one false, say at which input.
  Laid BY PROGRAM, IN A SANDBOX (cutbox-rows.mjs): the forced cells as the released guide's own fill.sh prints them over the translation 3b52daed4e990000… (all of the seat's roots in one cut). By AI agents, Wed Nov 11 2026. No macro, syntax, notation, axiom, sorry.
-/
import Derived.Test.YtalfbhkgjfkneaaChecked
import GoSem.Claim
import GoSem.ClaimJoined
import GoSem.ClaimMapViews
import Derived.JoinedTies
import Derived.KernelRfl
namespace Go.Proofs.Ytalfbhkgjfkneaa
/- THE CELL 'sum', in the pinned program and in every row, IS THE sha256 OF THE DUMP (.gsa) THAT YtalfbhkgjfkneaaProg.lean LOADS. Nothing in Lean hashes anything: it is a label: what it is worth is what the hold of that sum in a sandbox is worth. -/
noncomputable def Try.pinned : Pinned := { name := "ytalfbhkgjfkneaa", sum := "3b52daed4e99000004df3a8f3d79efb5b21199fa8b6ebc1bcf9f63cf92a531fc", checked := Try.checked }
namespace Rows
def none {H : Type} : Left H := { results := [], args := [] }

/-- 'laws.FnShares': WHATEVER THE INPUT: true; the input reads as it did. -/
def fnSharesSpec : ChangeSpec := { name := "fnShares", fn := fun _ => fun
  | [d] => { results := [.lit (.bool true)], args := [d] }
  | _ => none }
def fnSharesRow : OpenClaim := { program := "ytalfbhkgjfkneaa", sum := "3b52daed4e99000004df3a8f3d79efb5b21199fa8b6ebc1bcf9f63cf92a531fc", func := "loop.example/g01025/laws.FnShares", spec := "fnShares", unfollowed := true, recurses := true, apart := false }
def FnSharesSaid : Prop := fnSharesRow.holds Try.pinned (OpenSpec.ofChange fnSharesSpec)

/-- ITS FALSE NEIGHBOUR: 'it returns false'. Refute it at one input. -/
def fnSharesWrong : ChangeSpec := { name := "fnShares", fn := fun _ => fun
  | [d] => { results := [.lit (.bool false)], args := [d] }
  | _ => none }
def FnSharesWrongFalsely : Prop := fnSharesRow.holds Try.pinned (OpenSpec.ofChange fnSharesWrong)

/-- 'laws.FnExactShareOut': WHATEVER THE INPUT: true; the input reads as it did. -/
def fnExactShareOutSpec : ChangeSpec := { name := "fnExactShareOut", fn := fun _ => fun
  | [d1, d2] => { results := [.lit (.bool true)], args := [d1, d2] }
  | _ => none }
def fnExactShareOutRow : OpenClaim := { program := "ytalfbhkgjfkneaa", sum := "3b52daed4e99000004df3a8f3d79efb5b21199fa8b6ebc1bcf9f63cf92a531fc", func := "loop.example/g01025/laws.FnExactShareOut", spec := "fnExactShareOut", unfollowed := true, recurses := true, apart := false }
def FnExactShareOutSaid : Prop := fnExactShareOutRow.holds Try.pinned (OpenSpec.ofChange fnExactShareOutSpec)

/-- ITS FALSE NEIGHBOUR: 'it returns false'. Refute it at one input. -/
def fnExactShareOutWrong : ChangeSpec := { name := "fnExactShareOut", fn := fun _ => fun
  | [d1, d2] => { results := [.lit (.bool false)], args := [d1, d2] }
  | _ => none }
def FnExactShareOutWrongFalsely : Prop := fnExactShareOutRow.holds Try.pinned (OpenSpec.ofChange fnExactShareOutWrong)

/-- 'laws.FnAges': WHATEVER THE INPUT: true; the input reads as it did. -/
def fnAgesSpec : ChangeSpec := { name := "fnAges", fn := fun _ => fun
  | [d] => { results := [.lit (.bool true)], args := [d] }
  | _ => none }
def fnAgesRow : OpenClaim := { program := "ytalfbhkgjfkneaa", sum := "3b52daed4e99000004df3a8f3d79efb5b21199fa8b6ebc1bcf9f63cf92a531fc", func := "loop.example/g01025/laws.FnAges", spec := "fnAges", apart := false }
def FnAgesSaid : Prop := fnAgesRow.holds Try.pinned (OpenSpec.ofChange fnAgesSpec)

/-- ITS FALSE NEIGHBOUR: 'it returns false'. Refute it at one input. -/
def fnAgesWrong : ChangeSpec := { name := "fnAges", fn := fun _ => fun
  | [d] => { results := [.lit (.bool false)], args := [d] }
  | _ => none }
def FnAgesWrongFalsely : Prop := fnAgesRow.holds Try.pinned (OpenSpec.ofChange fnAgesWrong)

/-- 'laws.FnExactMonthOf': WHATEVER THE INPUT: true; the input reads as it did. -/
def fnExactMonthOfSpec : ChangeSpec := { name := "fnExactMonthOf", fn := fun _ => fun
  | [d1, d2] => { results := [.lit (.bool true)], args := [d1, d2] }
  | _ => none }
def fnExactMonthOfRow : OpenClaim := { program := "ytalfbhkgjfkneaa", sum := "3b52daed4e99000004df3a8f3d79efb5b21199fa8b6ebc1bcf9f63cf92a531fc", func := "loop.example/g01025/laws.FnExactMonthOf", spec := "fnExactMonthOf", apart := false }
def FnExactMonthOfSaid : Prop := fnExactMonthOfRow.holds Try.pinned (OpenSpec.ofChange fnExactMonthOfSpec)

/-- ITS FALSE NEIGHBOUR: 'it returns false'. Refute it at one input. -/
def fnExactMonthOfWrong : ChangeSpec := { name := "fnExactMonthOf", fn := fun _ => fun
  | [d1, d2] => { results := [.lit (.bool false)], args := [d1, d2] }
  | _ => none }
def FnExactMonthOfWrongFalsely : Prop := fnExactMonthOfRow.holds Try.pinned (OpenSpec.ofChange fnExactMonthOfWrong)

/-- 'laws.FnExactYearOf': WHATEVER THE INPUT: true; the input reads as it did. -/
def fnExactYearOfSpec : ChangeSpec := { name := "fnExactYearOf", fn := fun _ => fun
  | [d] => { results := [.lit (.bool true)], args := [d] }
  | _ => none }
def fnExactYearOfRow : OpenClaim := { program := "ytalfbhkgjfkneaa", sum := "3b52daed4e99000004df3a8f3d79efb5b21199fa8b6ebc1bcf9f63cf92a531fc", func := "loop.example/g01025/laws.FnExactYearOf", spec := "fnExactYearOf", apart := false }
def FnExactYearOfSaid : Prop := fnExactYearOfRow.holds Try.pinned (OpenSpec.ofChange fnExactYearOfSpec)

/-- ITS FALSE NEIGHBOUR: 'it returns false'. Refute it at one input. -/
def fnExactYearOfWrong : ChangeSpec := { name := "fnExactYearOf", fn := fun _ => fun
  | [d] => { results := [.lit (.bool false)], args := [d] }
  | _ => none }
def FnExactYearOfWrongFalsely : Prop := fnExactYearOfRow.holds Try.pinned (OpenSpec.ofChange fnExactYearOfWrong)

/-- 'laws.FnExactMonthText': WHATEVER THE INPUT: true; the input reads as it did. -/
def fnExactMonthTextSpec : ChangeSpec := { name := "fnExactMonthText", fn := fun _ => fun
  | [d] => { results := [.lit (.bool true)], args := [d] }
  | _ => none }
def fnExactMonthTextRow : OpenClaim := { program := "ytalfbhkgjfkneaa", sum := "3b52daed4e99000004df3a8f3d79efb5b21199fa8b6ebc1bcf9f63cf92a531fc", func := "loop.example/g01025/laws.FnExactMonthText", spec := "fnExactMonthText", recurses := true, apart := false }
def FnExactMonthTextSaid : Prop := fnExactMonthTextRow.holds Try.pinned (OpenSpec.ofChange fnExactMonthTextSpec)

/-- ITS FALSE NEIGHBOUR: 'it returns false'. Refute it at one input. -/
def fnExactMonthTextWrong : ChangeSpec := { name := "fnExactMonthText", fn := fun _ => fun
  | [d] => { results := [.lit (.bool false)], args := [d] }
  | _ => none }
def FnExactMonthTextWrongFalsely : Prop := fnExactMonthTextRow.holds Try.pinned (OpenSpec.ofChange fnExactMonthTextWrong)

/-- 'laws.FnExactAgeIn': WHATEVER THE INPUT: true; the input reads as it did. -/
def fnExactAgeInSpec : ChangeSpec := { name := "fnExactAgeIn", fn := fun _ => fun
  | [d1, d2] => { results := [.lit (.bool true)], args := [d1, d2] }
  | _ => none }
def fnExactAgeInRow : OpenClaim := { program := "ytalfbhkgjfkneaa", sum := "3b52daed4e99000004df3a8f3d79efb5b21199fa8b6ebc1bcf9f63cf92a531fc", func := "loop.example/g01025/laws.FnExactAgeIn", spec := "fnExactAgeIn", apart := false }
def FnExactAgeInSaid : Prop := fnExactAgeInRow.holds Try.pinned (OpenSpec.ofChange fnExactAgeInSpec)

/-- ITS FALSE NEIGHBOUR: 'it returns false'. Refute it at one input. -/
def fnExactAgeInWrong : ChangeSpec := { name := "fnExactAgeIn", fn := fun _ => fun
  | [d1, d2] => { results := [.lit (.bool false)], args := [d1, d2] }
  | _ => none }
def FnExactAgeInWrongFalsely : Prop := fnExactAgeInRow.holds Try.pinned (OpenSpec.ofChange fnExactAgeInWrong)

/-- 'laws.FnExactNextBirthday': WHATEVER THE INPUT: true; the input reads as it did. -/
def fnExactNextBirthdaySpec : ChangeSpec := { name := "fnExactNextBirthday", fn := fun _ => fun
  | [d1, d2] => { results := [.lit (.bool true)], args := [d1, d2] }
  | _ => none }
def fnExactNextBirthdayRow : OpenClaim := { program := "ytalfbhkgjfkneaa", sum := "3b52daed4e99000004df3a8f3d79efb5b21199fa8b6ebc1bcf9f63cf92a531fc", func := "loop.example/g01025/laws.FnExactNextBirthday", spec := "fnExactNextBirthday", apart := false }
def FnExactNextBirthdaySaid : Prop := fnExactNextBirthdayRow.holds Try.pinned (OpenSpec.ofChange fnExactNextBirthdaySpec)

/-- ITS FALSE NEIGHBOUR: 'it returns false'. Refute it at one input. -/
def fnExactNextBirthdayWrong : ChangeSpec := { name := "fnExactNextBirthday", fn := fun _ => fun
  | [d1, d2] => { results := [.lit (.bool false)], args := [d1, d2] }
  | _ => none }
def FnExactNextBirthdayWrongFalsely : Prop := fnExactNextBirthdayRow.holds Try.pinned (OpenSpec.ofChange fnExactNextBirthdayWrong)

/-- 'laws.FnExactAddMonths': WHATEVER THE INPUT: true; the input reads as it did. -/
def fnExactAddMonthsSpec : ChangeSpec := { name := "fnExactAddMonths", fn := fun _ => fun
  | [d1, d2] => { results := [.lit (.bool true)], args := [d1, d2] }
  | _ => none }
def fnExactAddMonthsRow : OpenClaim := { program := "ytalfbhkgjfkneaa", sum := "3b52daed4e99000004df3a8f3d79efb5b21199fa8b6ebc1bcf9f63cf92a531fc", func := "loop.example/g01025/laws.FnExactAddMonths", spec := "fnExactAddMonths", apart := false }
def FnExactAddMonthsSaid : Prop := fnExactAddMonthsRow.holds Try.pinned (OpenSpec.ofChange fnExactAddMonthsSpec)

/-- ITS FALSE NEIGHBOUR: 'it returns false'. Refute it at one input. -/
def fnExactAddMonthsWrong : ChangeSpec := { name := "fnExactAddMonths", fn := fun _ => fun
  | [d1, d2] => { results := [.lit (.bool false)], args := [d1, d2] }
  | _ => none }
def FnExactAddMonthsWrongFalsely : Prop := fnExactAddMonthsRow.holds Try.pinned (OpenSpec.ofChange fnExactAddMonthsWrong)

/-- 'laws.FnExactFullYears': WHATEVER THE INPUT: true; the input reads as it did. -/
def fnExactFullYearsSpec : ChangeSpec := { name := "fnExactFullYears", fn := fun _ => fun
  | [d1, d2] => { results := [.lit (.bool true)], args := [d1, d2] }
  | _ => none }
def fnExactFullYearsRow : OpenClaim := { program := "ytalfbhkgjfkneaa", sum := "3b52daed4e99000004df3a8f3d79efb5b21199fa8b6ebc1bcf9f63cf92a531fc", func := "loop.example/g01025/laws.FnExactFullYears", spec := "fnExactFullYears", apart := false }
def FnExactFullYearsSaid : Prop := fnExactFullYearsRow.holds Try.pinned (OpenSpec.ofChange fnExactFullYearsSpec)

/-- ITS FALSE NEIGHBOUR: 'it returns false'. Refute it at one input. -/
def fnExactFullYearsWrong : ChangeSpec := { name := "fnExactFullYears", fn := fun _ => fun
  | [d1, d2] => { results := [.lit (.bool false)], args := [d1, d2] }
  | _ => none }
def FnExactFullYearsWrongFalsely : Prop := fnExactFullYearsRow.holds Try.pinned (OpenSpec.ofChange fnExactFullYearsWrong)

/- THE SECOND FORM. 'bulk': how many values and letters a reading holds, each counted each time it is reached (what is shared counts as often as it is met; a slice's spare places count too). A statement '..UptoSaid' is the law's where the arguments, and the package variables that the reading takes, are together of bulk at most 1048576: NARROWER than '..Said'. Prove '..Said' where nothing that the law and all that it calls make is longer than what came in: it says more and counts as full. Else prove '..UptoSaid'. A law counts once. -/
mutual
def uptoBulk {H : Type} : DataW H → Nat
  | .lit (.string bytes) => bytes.length + 1
  | .lit _ => 1
  | .nil => 1
  | .ptr d => uptoBulk d + 1
  | .slice elems spare => uptoBulkAll elems + uptoBulkAll spare + 1
  | .agg parts => uptoBulkAll parts + 1
  | .iface _ d => uptoBulk d + 1
  | .map entries => uptoBulkEntries entries + 1
  | .held _ => 1
def uptoBulkAll {H : Type} : List (DataW H) → Nat
  | [] => 0
  | d :: r => uptoBulk d + uptoBulkAll r
def uptoBulkEntries {H : Type} : List (Lit × DataW H) → Nat
  | [] => 0
  | x :: r => uptoBulkEntry x + uptoBulkEntries r
def uptoBulkEntry {H : Type} : Lit × DataW H → Nat
  | (.string bytes, d) => bytes.length + uptoBulk d + 1
  | (_, d) => uptoBulk d + 1
 end
def uptoSmall : (H : Type) → List (DataW H) → Bool := fun _ ds => decide (uptoBulkAll ds ≤ 1048576)
def OpenSpec.upto (s : _root_.Go.ChangeSpec) : _root_.Go.OpenSpec := { _root_.Go.OpenSpec.ofChange s with cond := some uptoSmall }

/-- 'laws.FnShares', WHERE WHAT IT READS IS OF BULK AT MOST 1048576: true; the input reads as it did. -/
def fnSharesUptoRow : OpenClaim := { program := "ytalfbhkgjfkneaa", sum := "3b52daed4e99000004df3a8f3d79efb5b21199fa8b6ebc1bcf9f63cf92a531fc", func := "loop.example/g01025/laws.FnShares", spec := "fnShares", unfollowed := true, recurses := true, apart := false, narrowed := true }
def FnSharesUptoSaid : Prop := fnSharesUptoRow.holds Try.pinned (OpenSpec.upto fnSharesSpec)

/-- 'laws.FnExactShareOut', WHERE WHAT IT READS IS OF BULK AT MOST 1048576: true; the input reads as it did. -/
def fnExactShareOutUptoRow : OpenClaim := { program := "ytalfbhkgjfkneaa", sum := "3b52daed4e99000004df3a8f3d79efb5b21199fa8b6ebc1bcf9f63cf92a531fc", func := "loop.example/g01025/laws.FnExactShareOut", spec := "fnExactShareOut", unfollowed := true, recurses := true, apart := false, narrowed := true }
def FnExactShareOutUptoSaid : Prop := fnExactShareOutUptoRow.holds Try.pinned (OpenSpec.upto fnExactShareOutSpec)

/-- 'laws.FnAges', WHERE WHAT IT READS IS OF BULK AT MOST 1048576: true; the input reads as it did. -/
def fnAgesUptoRow : OpenClaim := { program := "ytalfbhkgjfkneaa", sum := "3b52daed4e99000004df3a8f3d79efb5b21199fa8b6ebc1bcf9f63cf92a531fc", func := "loop.example/g01025/laws.FnAges", spec := "fnAges", apart := false, narrowed := true }
def FnAgesUptoSaid : Prop := fnAgesUptoRow.holds Try.pinned (OpenSpec.upto fnAgesSpec)

/-- 'laws.FnExactMonthOf', WHERE WHAT IT READS IS OF BULK AT MOST 1048576: true; the input reads as it did. -/
def fnExactMonthOfUptoRow : OpenClaim := { program := "ytalfbhkgjfkneaa", sum := "3b52daed4e99000004df3a8f3d79efb5b21199fa8b6ebc1bcf9f63cf92a531fc", func := "loop.example/g01025/laws.FnExactMonthOf", spec := "fnExactMonthOf", apart := false, narrowed := true }
def FnExactMonthOfUptoSaid : Prop := fnExactMonthOfUptoRow.holds Try.pinned (OpenSpec.upto fnExactMonthOfSpec)

/-- 'laws.FnExactYearOf', WHERE WHAT IT READS IS OF BULK AT MOST 1048576: true; the input reads as it did. -/
def fnExactYearOfUptoRow : OpenClaim := { program := "ytalfbhkgjfkneaa", sum := "3b52daed4e99000004df3a8f3d79efb5b21199fa8b6ebc1bcf9f63cf92a531fc", func := "loop.example/g01025/laws.FnExactYearOf", spec := "fnExactYearOf", apart := false, narrowed := true }
def FnExactYearOfUptoSaid : Prop := fnExactYearOfUptoRow.holds Try.pinned (OpenSpec.upto fnExactYearOfSpec)

/-- 'laws.FnExactMonthText', WHERE WHAT IT READS IS OF BULK AT MOST 1048576: true; the input reads as it did. -/
def fnExactMonthTextUptoRow : OpenClaim := { program := "ytalfbhkgjfkneaa", sum := "3b52daed4e99000004df3a8f3d79efb5b21199fa8b6ebc1bcf9f63cf92a531fc", func := "loop.example/g01025/laws.FnExactMonthText", spec := "fnExactMonthText", recurses := true, apart := false, narrowed := true }
def FnExactMonthTextUptoSaid : Prop := fnExactMonthTextUptoRow.holds Try.pinned (OpenSpec.upto fnExactMonthTextSpec)

/-- 'laws.FnExactAgeIn', WHERE WHAT IT READS IS OF BULK AT MOST 1048576: true; the input reads as it did. -/
def fnExactAgeInUptoRow : OpenClaim := { program := "ytalfbhkgjfkneaa", sum := "3b52daed4e99000004df3a8f3d79efb5b21199fa8b6ebc1bcf9f63cf92a531fc", func := "loop.example/g01025/laws.FnExactAgeIn", spec := "fnExactAgeIn", apart := false, narrowed := true }
def FnExactAgeInUptoSaid : Prop := fnExactAgeInUptoRow.holds Try.pinned (OpenSpec.upto fnExactAgeInSpec)

/-- 'laws.FnExactNextBirthday', WHERE WHAT IT READS IS OF BULK AT MOST 1048576: true; the input reads as it did. -/
def fnExactNextBirthdayUptoRow : OpenClaim := { program := "ytalfbhkgjfkneaa", sum := "3b52daed4e99000004df3a8f3d79efb5b21199fa8b6ebc1bcf9f63cf92a531fc", func := "loop.example/g01025/laws.FnExactNextBirthday", spec := "fnExactNextBirthday", apart := false, narrowed := true }
def FnExactNextBirthdayUptoSaid : Prop := fnExactNextBirthdayUptoRow.holds Try.pinned (OpenSpec.upto fnExactNextBirthdaySpec)

/-- 'laws.FnExactAddMonths', WHERE WHAT IT READS IS OF BULK AT MOST 1048576: true; the input reads as it did. -/
def fnExactAddMonthsUptoRow : OpenClaim := { program := "ytalfbhkgjfkneaa", sum := "3b52daed4e99000004df3a8f3d79efb5b21199fa8b6ebc1bcf9f63cf92a531fc", func := "loop.example/g01025/laws.FnExactAddMonths", spec := "fnExactAddMonths", apart := false, narrowed := true }
def FnExactAddMonthsUptoSaid : Prop := fnExactAddMonthsUptoRow.holds Try.pinned (OpenSpec.upto fnExactAddMonthsSpec)

/-- 'laws.FnExactFullYears', WHERE WHAT IT READS IS OF BULK AT MOST 1048576: true; the input reads as it did. -/
def fnExactFullYearsUptoRow : OpenClaim := { program := "ytalfbhkgjfkneaa", sum := "3b52daed4e99000004df3a8f3d79efb5b21199fa8b6ebc1bcf9f63cf92a531fc", func := "loop.example/g01025/laws.FnExactFullYears", spec := "fnExactFullYears", apart := false, narrowed := true }
def FnExactFullYearsUptoSaid : Prop := fnExactFullYearsUptoRow.holds Try.pinned (OpenSpec.upto fnExactFullYearsSpec)

end Rows
end Go.Proofs.Ytalfbhkgjfkneaa
