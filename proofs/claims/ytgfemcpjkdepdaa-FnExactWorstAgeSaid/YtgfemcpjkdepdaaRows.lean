/-
  No cell of these rows narrows 'for every input' (looked for: loops, veiled, ifaces, maps, wideKeys, modest, calm, conditions, laid).
  DERIVED. THE GIVEN ROWS OF THIS SEAT. 7 by the template 'for every input the law returns true; each argument reads behind the call as it read before'; 0 by the template 'total and deterministic' (their statements: YtgfemcpjkdepdaaTotals.lean).
  GIVEN WITH THE SEED: the statements are not yours to turn. If you find one false, say at which input.
  Laid BY PROGRAM, IN A SANDBOX (cutbox-rows.mjs): the forced cells as the released guide's own fill.sh prints them over the translation ccc2bcc41baac0d3… (all of the seat's roots in one cut). By AI agents, Wed Nov 11 2026. No macro, syntax, notation, axiom, sorry.
-/
import Derived.Test.YtgfemcpjkdepdaaChecked
import GoSem.Claim
import GoSem.ClaimJoined
import GoSem.ClaimMapViews
import Derived.JoinedTies
import Derived.KernelRfl
namespace Go.Proofs.Ytgfemcpjkdepdaa
/- THE CELL 'sum', in the pinned program and in every row, IS THE sha256 OF THE DUMP (.gsa) THAT YtgfemcpjkdepdaaProg.lean LOADS. Nothing in Lean hashes anything: it is a label: what it is worth is what the hold of that sum in a sandbox is worth. -/
noncomputable def Try.pinned : Pinned := { name := "ytgfemcpjkdepdaa", sum := "ccc2bcc41baac0d315ccb83f7e217a49098cb061b00fb0982b507577c673381a", checked := Try.checked }
namespace Rows
def none {H : Type} : Left H := { results := [], args := [] }

/-- 'laws.FnSickWeeks': WHATEVER THE INPUT: true; the input reads as it did. -/
def fnSickWeeksSpec : ChangeSpec := { name := "fnSickWeeks", fn := fun _ => fun
  | [d] => { results := [.lit (.bool true)], args := [d] }
  | _ => none }
def fnSickWeeksRow : OpenClaim := { program := "ytgfemcpjkdepdaa", sum := "ccc2bcc41baac0d315ccb83f7e217a49098cb061b00fb0982b507577c673381a", func := "loop.example/g01025/laws.FnSickWeeks", spec := "fnSickWeeks", apart := false }
def FnSickWeeksSaid : Prop := fnSickWeeksRow.holds Try.pinned (OpenSpec.ofChange fnSickWeeksSpec)

/-- ITS FALSE NEIGHBOUR: 'it returns false'. Refute it at one input. -/
def fnSickWeeksWrong : ChangeSpec := { name := "fnSickWeeks", fn := fun _ => fun
  | [d] => { results := [.lit (.bool false)], args := [d] }
  | _ => none }
def FnSickWeeksWrongFalsely : Prop := fnSickWeeksRow.holds Try.pinned (OpenSpec.ofChange fnSickWeeksWrong)

/-- 'laws.FnExactIsSickTable': WHATEVER THE INPUT: true; the input reads as it did. -/
def fnExactIsSickTableSpec : ChangeSpec := { name := "fnExactIsSickTable", fn := fun _ => fun
  | [d] => { results := [.lit (.bool true)], args := [d] }
  | _ => none }
def fnExactIsSickTableRow : OpenClaim := { program := "ytgfemcpjkdepdaa", sum := "ccc2bcc41baac0d315ccb83f7e217a49098cb061b00fb0982b507577c673381a", func := "loop.example/g01025/laws.FnExactIsSickTable", spec := "fnExactIsSickTable", apart := false }
def FnExactIsSickTableSaid : Prop := fnExactIsSickTableRow.holds Try.pinned (OpenSpec.ofChange fnExactIsSickTableSpec)

/-- ITS FALSE NEIGHBOUR: 'it returns false'. Refute it at one input. -/
def fnExactIsSickTableWrong : ChangeSpec := { name := "fnExactIsSickTable", fn := fun _ => fun
  | [d] => { results := [.lit (.bool false)], args := [d] }
  | _ => none }
def FnExactIsSickTableWrongFalsely : Prop := fnExactIsSickTableRow.holds Try.pinned (OpenSpec.ofChange fnExactIsSickTableWrong)

/-- 'laws.FnExactWeeksAt': WHATEVER THE INPUT: true; the input reads as it did. -/
def fnExactWeeksAtSpec : ChangeSpec := { name := "fnExactWeeksAt", fn := fun _ => fun
  | [d1, d2] => { results := [.lit (.bool true)], args := [d1, d2] }
  | _ => none }
def fnExactWeeksAtRow : OpenClaim := { program := "ytgfemcpjkdepdaa", sum := "ccc2bcc41baac0d315ccb83f7e217a49098cb061b00fb0982b507577c673381a", func := "loop.example/g01025/laws.FnExactWeeksAt", spec := "fnExactWeeksAt", apart := false }
def FnExactWeeksAtSaid : Prop := fnExactWeeksAtRow.holds Try.pinned (OpenSpec.ofChange fnExactWeeksAtSpec)

/-- ITS FALSE NEIGHBOUR: 'it returns false'. Refute it at one input. -/
def fnExactWeeksAtWrong : ChangeSpec := { name := "fnExactWeeksAt", fn := fun _ => fun
  | [d1, d2] => { results := [.lit (.bool false)], args := [d1, d2] }
  | _ => none }
def FnExactWeeksAtWrongFalsely : Prop := fnExactWeeksAtRow.holds Try.pinned (OpenSpec.ofChange fnExactWeeksAtWrong)

/-- 'laws.FnExactSickValue': WHATEVER THE INPUT: true; the input reads as it did. -/
def fnExactSickValueSpec : ChangeSpec := { name := "fnExactSickValue", fn := fun _ => fun
  | [d1, d2, d3, d4, d5, d6] => { results := [.lit (.bool true)], args := [d1, d2, d3, d4, d5, d6] }
  | _ => none }
def fnExactSickValueRow : OpenClaim := { program := "ytgfemcpjkdepdaa", sum := "ccc2bcc41baac0d315ccb83f7e217a49098cb061b00fb0982b507577c673381a", func := "loop.example/g01025/laws.FnExactSickValue", spec := "fnExactSickValue", inPlace := ["sync/atomic.LoadUint32", "(*internal/sync.Mutex).Lock", "internal/race.Disable", "sync/atomic.CompareAndSwapInt32", "internal/race.Enable", "internal/race.Acquire", "(*internal/sync.Mutex).lockSlow", "internal/sync.runtime_canSpin", "internal/sync.runtime_doSpin", "internal/sync.throw", "internal/sync.runtime_nanotime", "internal/sync.runtime_SemacquireMutex", "sync/atomic.AddInt32", "(*internal/sync.Mutex).Unlock", "internal/race.ReleaseMerge", "(*internal/sync.Mutex).unlockSlow", "internal/sync.fatal", "internal/sync.runtime_Semrelease", "sync/atomic.StoreUint32"], unfollowed := true, recurses := true, named := ["math/bits.divideError", "math/bits.overflowError"], apart := false }
def FnExactSickValueSaid : Prop := fnExactSickValueRow.holds Try.pinned (OpenSpec.ofChange fnExactSickValueSpec)

/-- ITS FALSE NEIGHBOUR: 'it returns false'. Refute it at one input. -/
def fnExactSickValueWrong : ChangeSpec := { name := "fnExactSickValue", fn := fun _ => fun
  | [d1, d2, d3, d4, d5, d6] => { results := [.lit (.bool false)], args := [d1, d2, d3, d4, d5, d6] }
  | _ => none }
def FnExactSickValueWrongFalsely : Prop := fnExactSickValueRow.holds Try.pinned (OpenSpec.ofChange fnExactSickValueWrong)

/-- 'laws.FnExactSickPremium': WHATEVER THE INPUT: true; the input reads as it did. -/
def fnExactSickPremiumSpec : ChangeSpec := { name := "fnExactSickPremium", fn := fun _ => fun
  | [d1, d2, d3, d4, d5, d6] => { results := [.lit (.bool true)], args := [d1, d2, d3, d4, d5, d6] }
  | _ => none }
def fnExactSickPremiumRow : OpenClaim := { program := "ytgfemcpjkdepdaa", sum := "ccc2bcc41baac0d315ccb83f7e217a49098cb061b00fb0982b507577c673381a", func := "loop.example/g01025/laws.FnExactSickPremium", spec := "fnExactSickPremium", inPlace := ["sync/atomic.LoadUint32", "(*internal/sync.Mutex).Lock", "internal/race.Disable", "sync/atomic.CompareAndSwapInt32", "internal/race.Enable", "internal/race.Acquire", "(*internal/sync.Mutex).lockSlow", "internal/sync.runtime_canSpin", "internal/sync.runtime_doSpin", "internal/sync.throw", "internal/sync.runtime_nanotime", "internal/sync.runtime_SemacquireMutex", "sync/atomic.AddInt32", "(*internal/sync.Mutex).Unlock", "internal/race.ReleaseMerge", "(*internal/sync.Mutex).unlockSlow", "internal/sync.fatal", "internal/sync.runtime_Semrelease", "sync/atomic.StoreUint32"], unfollowed := true, recurses := true, named := ["math/bits.divideError", "math/bits.overflowError"], apart := false }
def FnExactSickPremiumSaid : Prop := fnExactSickPremiumRow.holds Try.pinned (OpenSpec.ofChange fnExactSickPremiumSpec)

/-- ITS FALSE NEIGHBOUR: 'it returns false'. Refute it at one input. -/
def fnExactSickPremiumWrong : ChangeSpec := { name := "fnExactSickPremium", fn := fun _ => fun
  | [d1, d2, d3, d4, d5, d6] => { results := [.lit (.bool false)], args := [d1, d2, d3, d4, d5, d6] }
  | _ => none }
def FnExactSickPremiumWrongFalsely : Prop := fnExactSickPremiumRow.holds Try.pinned (OpenSpec.ofChange fnExactSickPremiumWrong)

/-- 'laws.FnExactSickWeeks': WHATEVER THE INPUT: true; the input reads as it did. -/
def fnExactSickWeeksSpec : ChangeSpec := { name := "fnExactSickWeeks", fn := fun _ => fun
  | [d1, d2] => { results := [.lit (.bool true)], args := [d1, d2] }
  | _ => none }
def fnExactSickWeeksRow : OpenClaim := { program := "ytgfemcpjkdepdaa", sum := "ccc2bcc41baac0d315ccb83f7e217a49098cb061b00fb0982b507577c673381a", func := "loop.example/g01025/laws.FnExactSickWeeks", spec := "fnExactSickWeeks", apart := false }
def FnExactSickWeeksSaid : Prop := fnExactSickWeeksRow.holds Try.pinned (OpenSpec.ofChange fnExactSickWeeksSpec)

/-- ITS FALSE NEIGHBOUR: 'it returns false'. Refute it at one input. -/
def fnExactSickWeeksWrong : ChangeSpec := { name := "fnExactSickWeeks", fn := fun _ => fun
  | [d1, d2] => { results := [.lit (.bool false)], args := [d1, d2] }
  | _ => none }
def FnExactSickWeeksWrongFalsely : Prop := fnExactSickWeeksRow.holds Try.pinned (OpenSpec.ofChange fnExactSickWeeksWrong)

/-- 'laws.FnExactWorstAge': WHATEVER THE INPUT: true; the input reads as it did. -/
def fnExactWorstAgeSpec : ChangeSpec := { name := "fnExactWorstAge", fn := fun _ => fun
  | [d] => { results := [.lit (.bool true)], args := [d] }
  | _ => none }
def fnExactWorstAgeRow : OpenClaim := { program := "ytgfemcpjkdepdaa", sum := "ccc2bcc41baac0d315ccb83f7e217a49098cb061b00fb0982b507577c673381a", func := "loop.example/g01025/laws.FnExactWorstAge", spec := "fnExactWorstAge", apart := false }
def FnExactWorstAgeSaid : Prop := fnExactWorstAgeRow.holds Try.pinned (OpenSpec.ofChange fnExactWorstAgeSpec)

/-- ITS FALSE NEIGHBOUR: 'it returns false'. Refute it at one input. -/
def fnExactWorstAgeWrong : ChangeSpec := { name := "fnExactWorstAge", fn := fun _ => fun
  | [d] => { results := [.lit (.bool false)], args := [d] }
  | _ => none }
def FnExactWorstAgeWrongFalsely : Prop := fnExactWorstAgeRow.holds Try.pinned (OpenSpec.ofChange fnExactWorstAgeWrong)

/- THE SECOND FORM. 'bulk': how many values and letters a reading holds, each counted each time it is reached (what is shared counts as often as it is met; a slice's spare places count too). A statement '..UptoSaid' is the law's where the arguments, and the package variables that the reading takes, are together of bulk at most 1048576: NARROWER than '..Said'. Prove '..Said' where nothing that the law and all that it calls make is longer than what came in: it says more and counts as full. Else prove '..UptoSaid'. A law counts once. -/
mutual
def uptoBulk {H : Type} : DataW H → Nat
  | .lit (.string bytes) => bytes.length + 1
  | .lit _ => 1
  | .nil => 1
  | .ptr d => uptoBulk d + 1
  | .slice elems spare => uptoBulkAll elems + uptoBulkAll spare + 1
  | .agg parts => uptoBulkAll parts + 1
  | .iface _ d => uptoBulk d + 1
  | .map entries => uptoBulkEntries entries + 1
  | .held _ => 1
def uptoBulkAll {H : Type} : List (DataW H) → Nat
  | [] => 0
  | d :: r => uptoBulk d + uptoBulkAll r
def uptoBulkEntries {H : Type} : List (Lit × DataW H) → Nat
  | [] => 0
  | x :: r => uptoBulkEntry x + uptoBulkEntries r
def uptoBulkEntry {H : Type} : Lit × DataW H → Nat
  | (.string bytes, d) => bytes.length + uptoBulk d + 1
  | (_, d) => uptoBulk d + 1
 end
def uptoSmall : (H : Type) → List (DataW H) → Bool := fun _ ds => decide (uptoBulkAll ds ≤ 1048576)
def OpenSpec.upto (s : _root_.Go.ChangeSpec) : _root_.Go.OpenSpec := { _root_.Go.OpenSpec.ofChange s with cond := some uptoSmall }

/-- 'laws.FnSickWeeks', WHERE WHAT IT READS IS OF BULK AT MOST 1048576: true; the input reads as it did. -/
def fnSickWeeksUptoRow : OpenClaim := { program := "ytgfemcpjkdepdaa", sum := "ccc2bcc41baac0d315ccb83f7e217a49098cb061b00fb0982b507577c673381a", func := "loop.example/g01025/laws.FnSickWeeks", spec := "fnSickWeeks", apart := false, narrowed := true }
def FnSickWeeksUptoSaid : Prop := fnSickWeeksUptoRow.holds Try.pinned (OpenSpec.upto fnSickWeeksSpec)

/-- 'laws.FnExactIsSickTable', WHERE WHAT IT READS IS OF BULK AT MOST 1048576: true; the input reads as it did. -/
def fnExactIsSickTableUptoRow : OpenClaim := { program := "ytgfemcpjkdepdaa", sum := "ccc2bcc41baac0d315ccb83f7e217a49098cb061b00fb0982b507577c673381a", func := "loop.example/g01025/laws.FnExactIsSickTable", spec := "fnExactIsSickTable", apart := false, narrowed := true }
def FnExactIsSickTableUptoSaid : Prop := fnExactIsSickTableUptoRow.holds Try.pinned (OpenSpec.upto fnExactIsSickTableSpec)

/-- 'laws.FnExactWeeksAt', WHERE WHAT IT READS IS OF BULK AT MOST 1048576: true; the input reads as it did. -/
def fnExactWeeksAtUptoRow : OpenClaim := { program := "ytgfemcpjkdepdaa", sum := "ccc2bcc41baac0d315ccb83f7e217a49098cb061b00fb0982b507577c673381a", func := "loop.example/g01025/laws.FnExactWeeksAt", spec := "fnExactWeeksAt", apart := false, narrowed := true }
def FnExactWeeksAtUptoSaid : Prop := fnExactWeeksAtUptoRow.holds Try.pinned (OpenSpec.upto fnExactWeeksAtSpec)

/-- 'laws.FnExactSickValue', WHERE WHAT IT READS IS OF BULK AT MOST 1048576: true; the input reads as it did. -/
def fnExactSickValueUptoRow : OpenClaim := { program := "ytgfemcpjkdepdaa", sum := "ccc2bcc41baac0d315ccb83f7e217a49098cb061b00fb0982b507577c673381a", func := "loop.example/g01025/laws.FnExactSickValue", spec := "fnExactSickValue", inPlace := ["sync/atomic.LoadUint32", "(*internal/sync.Mutex).Lock", "internal/race.Disable", "sync/atomic.CompareAndSwapInt32", "internal/race.Enable", "internal/race.Acquire", "(*internal/sync.Mutex).lockSlow", "internal/sync.runtime_canSpin", "internal/sync.runtime_doSpin", "internal/sync.throw", "internal/sync.runtime_nanotime", "internal/sync.runtime_SemacquireMutex", "sync/atomic.AddInt32", "(*internal/sync.Mutex).Unlock", "internal/race.ReleaseMerge", "(*internal/sync.Mutex).unlockSlow", "internal/sync.fatal", "internal/sync.runtime_Semrelease", "sync/atomic.StoreUint32"], unfollowed := true, recurses := true, named := ["math/bits.divideError", "math/bits.overflowError"], apart := false, narrowed := true }
def FnExactSickValueUptoSaid : Prop := fnExactSickValueUptoRow.holds Try.pinned (OpenSpec.upto fnExactSickValueSpec)

/-- 'laws.FnExactSickPremium', WHERE WHAT IT READS IS OF BULK AT MOST 1048576: true; the input reads as it did. -/
def fnExactSickPremiumUptoRow : OpenClaim := { program := "ytgfemcpjkdepdaa", sum := "ccc2bcc41baac0d315ccb83f7e217a49098cb061b00fb0982b507577c673381a", func := "loop.example/g01025/laws.FnExactSickPremium", spec := "fnExactSickPremium", inPlace := ["sync/atomic.LoadUint32", "(*internal/sync.Mutex).Lock", "internal/race.Disable", "sync/atomic.CompareAndSwapInt32", "internal/race.Enable", "internal/race.Acquire", "(*internal/sync.Mutex).lockSlow", "internal/sync.runtime_canSpin", "internal/sync.runtime_doSpin", "internal/sync.throw", "internal/sync.runtime_nanotime", "internal/sync.runtime_SemacquireMutex", "sync/atomic.AddInt32", "(*internal/sync.Mutex).Unlock", "internal/race.ReleaseMerge", "(*internal/sync.Mutex).unlockSlow", "internal/sync.fatal", "internal/sync.runtime_Semrelease", "sync/atomic.StoreUint32"], unfollowed := true, recurses := true, named := ["math/bits.divideError", "math/bits.overflowError"], apart := false, narrowed := true }
def FnExactSickPremiumUptoSaid : Prop := fnExactSickPremiumUptoRow.holds Try.pinned (OpenSpec.upto fnExactSickPremiumSpec)

/-- 'laws.FnExactSickWeeks', WHERE WHAT IT READS IS OF BULK AT MOST 1048576: true; the input reads as it did. -/
def fnExactSickWeeksUptoRow : OpenClaim := { program := "ytgfemcpjkdepdaa", sum := "ccc2bcc41baac0d315ccb83f7e217a49098cb061b00fb0982b507577c673381a", func := "loop.example/g01025/laws.FnExactSickWeeks", spec := "fnExactSickWeeks", apart := false, narrowed := true }
def FnExactSickWeeksUptoSaid : Prop := fnExactSickWeeksUptoRow.holds Try.pinned (OpenSpec.upto fnExactSickWeeksSpec)

/-- 'laws.FnExactWorstAge', WHERE WHAT IT READS IS OF BULK AT MOST 1048576: true; the input reads as it did. -/
def fnExactWorstAgeUptoRow : OpenClaim := { program := "ytgfemcpjkdepdaa", sum := "ccc2bcc41baac0d315ccb83f7e217a49098cb061b00fb0982b507577c673381a", func := "loop.example/g01025/laws.FnExactWorstAge", spec := "fnExactWorstAge", apart := false, narrowed := true }
def FnExactWorstAgeUptoSaid : Prop := fnExactWorstAgeUptoRow.holds Try.pinned (OpenSpec.upto fnExactWorstAgeSpec)

end Rows
end Go.Proofs.Ytgfemcpjkdepdaa
