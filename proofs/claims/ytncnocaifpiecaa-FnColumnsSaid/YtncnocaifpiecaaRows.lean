/-
  No cell of these rows narrows 'for every input' (looked for: loops, veiled, ifaces, maps, wideKeys, modest, calm, conditions, laid).
  DERIVED. THE GIVEN ROWS OF THIS SEAT. 8 by the template 'for every input the law returns true; each argument reads behind the call as it read before'; 0 by the template 'total and deterministic' (their statements: YtncnocaifpiecaaTotals.lean).
  GIVEN WITH THE SEED: the statements are not yours to turn. If you find one false, say at which input.
  Laid BY PROGRAM, IN A SANDBOX (cutbox-rows.mjs): the forced cells as the released guide's own fill.sh prints them over the translation 45abc79b97bd8b38… (all of the seat's roots in one cut). By AI agents, Wed Nov 11 2026. No macro, syntax, notation, axiom, sorry.
-/
import Derived.Test.YtncnocaifpiecaaChecked
import GoSem.Claim
import GoSem.ClaimJoined
import GoSem.ClaimMapViews
import Derived.JoinedTies
import Derived.KernelRfl
namespace Go.Proofs.Ytncnocaifpiecaa
/- THE CELL 'sum', in the pinned program and in every row, IS THE sha256 OF THE DUMP (.gsa) THAT YtncnocaifpiecaaProg.lean LOADS. Nothing in Lean hashes anything: it is a label: what it is worth is what the hold of that sum in a sandbox is worth. -/
noncomputable def Try.pinned : Pinned := { name := "ytncnocaifpiecaa", sum := "45abc79b97bd8b386aa37f21b489139c6408fafe0017fbb058e21bef2a80771f", checked := Try.checked }
namespace Rows
def none {H : Type} : Left H := { results := [], args := [] }

/-- 'laws.FnColumns': WHATEVER THE INPUT: true; the input reads as it did. -/
def fnColumnsSpec : ChangeSpec := { name := "fnColumns", fn := fun _ => fun
  | [d] => { results := [.lit (.bool true)], args := [d] }
  | _ => none }
def fnColumnsRow : OpenClaim := { program := "ytncnocaifpiecaa", sum := "45abc79b97bd8b386aa37f21b489139c6408fafe0017fbb058e21bef2a80771f", func := "loop.example/g01025/laws.FnColumns", spec := "fnColumns", inPlace := ["sync/atomic.LoadUint32", "(*internal/sync.Mutex).Lock", "internal/race.Disable", "sync/atomic.CompareAndSwapInt32", "internal/race.Enable", "internal/race.Acquire", "(*internal/sync.Mutex).lockSlow", "internal/sync.runtime_canSpin", "internal/sync.runtime_doSpin", "internal/sync.throw", "internal/sync.runtime_nanotime", "internal/sync.runtime_SemacquireMutex", "sync/atomic.AddInt32", "(*internal/sync.Mutex).Unlock", "internal/race.ReleaseMerge", "(*internal/sync.Mutex).unlockSlow", "internal/sync.fatal", "internal/sync.runtime_Semrelease", "sync/atomic.StoreUint32"], unfollowed := true, recurses := true, apart := false }
def FnColumnsSaid : Prop := fnColumnsRow.holds Try.pinned (OpenSpec.ofChange fnColumnsSpec)

/-- ITS FALSE NEIGHBOUR: 'it returns false'. Refute it at one input. -/
def fnColumnsWrong : ChangeSpec := { name := "fnColumns", fn := fun _ => fun
  | [d] => { results := [.lit (.bool false)], args := [d] }
  | _ => none }
def FnColumnsWrongFalsely : Prop := fnColumnsRow.holds Try.pinned (OpenSpec.ofChange fnColumnsWrong)

/-- 'laws.FnDivisions': WHATEVER THE INPUT: true; the input reads as it did. -/
def fnDivisionsSpec : ChangeSpec := { name := "fnDivisions", fn := fun _ => fun
  | [d] => { results := [.lit (.bool true)], args := [d] }
  | _ => none }
def fnDivisionsRow : OpenClaim := { program := "ytncnocaifpiecaa", sum := "45abc79b97bd8b386aa37f21b489139c6408fafe0017fbb058e21bef2a80771f", func := "loop.example/g01025/laws.FnDivisions", spec := "fnDivisions", named := ["math/bits.divideError", "math/bits.overflowError"], apart := false }
def FnDivisionsSaid : Prop := fnDivisionsRow.holds Try.pinned (OpenSpec.ofChange fnDivisionsSpec)

/-- ITS FALSE NEIGHBOUR: 'it returns false'. Refute it at one input. -/
def fnDivisionsWrong : ChangeSpec := { name := "fnDivisions", fn := fun _ => fun
  | [d] => { results := [.lit (.bool false)], args := [d] }
  | _ => none }
def FnDivisionsWrongFalsely : Prop := fnDivisionsRow.holds Try.pinned (OpenSpec.ofChange fnDivisionsWrong)

/-- 'laws.FnExactColumnsAt': WHATEVER THE INPUT: true; the input reads as it did. -/
def fnExactColumnsAtSpec : ChangeSpec := { name := "fnExactColumnsAt", fn := fun _ => fun
  | [d1, d2, d3] => { results := [.lit (.bool true)], args := [d1, d2, d3] }
  | _ => none }
def fnExactColumnsAtRow : OpenClaim := { program := "ytncnocaifpiecaa", sum := "45abc79b97bd8b386aa37f21b489139c6408fafe0017fbb058e21bef2a80771f", func := "loop.example/g01025/laws.FnExactColumnsAt", spec := "fnExactColumnsAt", inPlace := ["sync/atomic.LoadUint32", "(*internal/sync.Mutex).Lock", "internal/race.Disable", "sync/atomic.CompareAndSwapInt32", "internal/race.Enable", "internal/race.Acquire", "(*internal/sync.Mutex).lockSlow", "internal/sync.runtime_canSpin", "internal/sync.runtime_doSpin", "internal/sync.throw", "internal/sync.runtime_nanotime", "internal/sync.runtime_SemacquireMutex", "sync/atomic.AddInt32", "(*internal/sync.Mutex).Unlock", "internal/race.ReleaseMerge", "(*internal/sync.Mutex).unlockSlow", "internal/sync.fatal", "internal/sync.runtime_Semrelease", "sync/atomic.StoreUint32"], unfollowed := true, recurses := true, apart := false }
def FnExactColumnsAtSaid : Prop := fnExactColumnsAtRow.holds Try.pinned (OpenSpec.ofChange fnExactColumnsAtSpec)

/-- ITS FALSE NEIGHBOUR: 'it returns false'. Refute it at one input. -/
def fnExactColumnsAtWrong : ChangeSpec := { name := "fnExactColumnsAt", fn := fun _ => fun
  | [d1, d2, d3] => { results := [.lit (.bool false)], args := [d1, d2, d3] }
  | _ => none }
def FnExactColumnsAtWrongFalsely : Prop := fnExactColumnsAtRow.holds Try.pinned (OpenSpec.ofChange fnExactColumnsAtWrong)

/-- 'laws.FnExactColumnD': WHATEVER THE INPUT: true; the input reads as it did. -/
def fnExactColumnDSpec : ChangeSpec := { name := "fnExactColumnD", fn := fun _ => fun
  | [d1, d2] => { results := [.lit (.bool true)], args := [d1, d2] }
  | _ => none }
def fnExactColumnDRow : OpenClaim := { program := "ytncnocaifpiecaa", sum := "45abc79b97bd8b386aa37f21b489139c6408fafe0017fbb058e21bef2a80771f", func := "loop.example/g01025/laws.FnExactColumnD", spec := "fnExactColumnD", inPlace := ["sync/atomic.LoadUint32", "(*internal/sync.Mutex).Lock", "internal/race.Disable", "sync/atomic.CompareAndSwapInt32", "internal/race.Enable", "internal/race.Acquire", "(*internal/sync.Mutex).lockSlow", "internal/sync.runtime_canSpin", "internal/sync.runtime_doSpin", "internal/sync.throw", "internal/sync.runtime_nanotime", "internal/sync.runtime_SemacquireMutex", "sync/atomic.AddInt32", "(*internal/sync.Mutex).Unlock", "internal/race.ReleaseMerge", "(*internal/sync.Mutex).unlockSlow", "internal/sync.fatal", "internal/sync.runtime_Semrelease", "sync/atomic.StoreUint32"], unfollowed := true, recurses := true, apart := false }
def FnExactColumnDSaid : Prop := fnExactColumnDRow.holds Try.pinned (OpenSpec.ofChange fnExactColumnDSpec)

/-- ITS FALSE NEIGHBOUR: 'it returns false'. Refute it at one input. -/
def fnExactColumnDWrong : ChangeSpec := { name := "fnExactColumnD", fn := fun _ => fun
  | [d1, d2] => { results := [.lit (.bool false)], args := [d1, d2] }
  | _ => none }
def FnExactColumnDWrongFalsely : Prop := fnExactColumnDRow.holds Try.pinned (OpenSpec.ofChange fnExactColumnDWrong)

/-- 'laws.FnExactColumnN': WHATEVER THE INPUT: true; the input reads as it did. -/
def fnExactColumnNSpec : ChangeSpec := { name := "fnExactColumnN", fn := fun _ => fun
  | [d1, d2] => { results := [.lit (.bool true)], args := [d1, d2] }
  | _ => none }
def fnExactColumnNRow : OpenClaim := { program := "ytncnocaifpiecaa", sum := "45abc79b97bd8b386aa37f21b489139c6408fafe0017fbb058e21bef2a80771f", func := "loop.example/g01025/laws.FnExactColumnN", spec := "fnExactColumnN", inPlace := ["sync/atomic.LoadUint32", "(*internal/sync.Mutex).Lock", "internal/race.Disable", "sync/atomic.CompareAndSwapInt32", "internal/race.Enable", "internal/race.Acquire", "(*internal/sync.Mutex).lockSlow", "internal/sync.runtime_canSpin", "internal/sync.runtime_doSpin", "internal/sync.throw", "internal/sync.runtime_nanotime", "internal/sync.runtime_SemacquireMutex", "sync/atomic.AddInt32", "(*internal/sync.Mutex).Unlock", "internal/race.ReleaseMerge", "(*internal/sync.Mutex).unlockSlow", "internal/sync.fatal", "internal/sync.runtime_Semrelease", "sync/atomic.StoreUint32"], unfollowed := true, recurses := true, apart := false }
def FnExactColumnNSaid : Prop := fnExactColumnNRow.holds Try.pinned (OpenSpec.ofChange fnExactColumnNSpec)

/-- ITS FALSE NEIGHBOUR: 'it returns false'. Refute it at one input. -/
def fnExactColumnNWrong : ChangeSpec := { name := "fnExactColumnN", fn := fun _ => fun
  | [d1, d2] => { results := [.lit (.bool false)], args := [d1, d2] }
  | _ => none }
def FnExactColumnNWrongFalsely : Prop := fnExactColumnNRow.holds Try.pinned (OpenSpec.ofChange fnExactColumnNWrong)

/-- 'laws.FnExactColumnC': WHATEVER THE INPUT: true; the input reads as it did. -/
def fnExactColumnCSpec : ChangeSpec := { name := "fnExactColumnC", fn := fun _ => fun
  | [d1, d2] => { results := [.lit (.bool true)], args := [d1, d2] }
  | _ => none }
def fnExactColumnCRow : OpenClaim := { program := "ytncnocaifpiecaa", sum := "45abc79b97bd8b386aa37f21b489139c6408fafe0017fbb058e21bef2a80771f", func := "loop.example/g01025/laws.FnExactColumnC", spec := "fnExactColumnC", inPlace := ["sync/atomic.LoadUint32", "(*internal/sync.Mutex).Lock", "internal/race.Disable", "sync/atomic.CompareAndSwapInt32", "internal/race.Enable", "internal/race.Acquire", "(*internal/sync.Mutex).lockSlow", "internal/sync.runtime_canSpin", "internal/sync.runtime_doSpin", "internal/sync.throw", "internal/sync.runtime_nanotime", "internal/sync.runtime_SemacquireMutex", "sync/atomic.AddInt32", "(*internal/sync.Mutex).Unlock", "internal/race.ReleaseMerge", "(*internal/sync.Mutex).unlockSlow", "internal/sync.fatal", "internal/sync.runtime_Semrelease", "sync/atomic.StoreUint32"], unfollowed := true, recurses := true, apart := false }
def FnExactColumnCSaid : Prop := fnExactColumnCRow.holds Try.pinned (OpenSpec.ofChange fnExactColumnCSpec)

/-- ITS FALSE NEIGHBOUR: 'it returns false'. Refute it at one input. -/
def fnExactColumnCWrong : ChangeSpec := { name := "fnExactColumnC", fn := fun _ => fun
  | [d1, d2] => { results := [.lit (.bool false)], args := [d1, d2] }
  | _ => none }
def FnExactColumnCWrongFalsely : Prop := fnExactColumnCRow.holds Try.pinned (OpenSpec.ofChange fnExactColumnCWrong)

/-- 'laws.FnExactColumnM': WHATEVER THE INPUT: true; the input reads as it did. -/
def fnExactColumnMSpec : ChangeSpec := { name := "fnExactColumnM", fn := fun _ => fun
  | [d1, d2] => { results := [.lit (.bool true)], args := [d1, d2] }
  | _ => none }
def fnExactColumnMRow : OpenClaim := { program := "ytncnocaifpiecaa", sum := "45abc79b97bd8b386aa37f21b489139c6408fafe0017fbb058e21bef2a80771f", func := "loop.example/g01025/laws.FnExactColumnM", spec := "fnExactColumnM", inPlace := ["sync/atomic.LoadUint32", "(*internal/sync.Mutex).Lock", "internal/race.Disable", "sync/atomic.CompareAndSwapInt32", "internal/race.Enable", "internal/race.Acquire", "(*internal/sync.Mutex).lockSlow", "internal/sync.runtime_canSpin", "internal/sync.runtime_doSpin", "internal/sync.throw", "internal/sync.runtime_nanotime", "internal/sync.runtime_SemacquireMutex", "sync/atomic.AddInt32", "(*internal/sync.Mutex).Unlock", "internal/race.ReleaseMerge", "(*internal/sync.Mutex).unlockSlow", "internal/sync.fatal", "internal/sync.runtime_Semrelease", "sync/atomic.StoreUint32"], unfollowed := true, recurses := true, apart := false }
def FnExactColumnMSaid : Prop := fnExactColumnMRow.holds Try.pinned (OpenSpec.ofChange fnExactColumnMSpec)

/-- ITS FALSE NEIGHBOUR: 'it returns false'. Refute it at one input. -/
def fnExactColumnMWrong : ChangeSpec := { name := "fnExactColumnM", fn := fun _ => fun
  | [d1, d2] => { results := [.lit (.bool false)], args := [d1, d2] }
  | _ => none }
def FnExactColumnMWrongFalsely : Prop := fnExactColumnMRow.holds Try.pinned (OpenSpec.ofChange fnExactColumnMWrong)

/-- 'laws.FnExactMultiplyDivide': WHATEVER THE INPUT: true; the input reads as it did. -/
def fnExactMultiplyDivideSpec : ChangeSpec := { name := "fnExactMultiplyDivide", fn := fun _ => fun
  | [d1, d2, d3] => { results := [.lit (.bool true)], args := [d1, d2, d3] }
  | _ => none }
def fnExactMultiplyDivideRow : OpenClaim := { program := "ytncnocaifpiecaa", sum := "45abc79b97bd8b386aa37f21b489139c6408fafe0017fbb058e21bef2a80771f", func := "loop.example/g01025/laws.FnExactMultiplyDivide", spec := "fnExactMultiplyDivide", named := ["math/bits.divideError", "math/bits.overflowError"], apart := false }
def FnExactMultiplyDivideSaid : Prop := fnExactMultiplyDivideRow.holds Try.pinned (OpenSpec.ofChange fnExactMultiplyDivideSpec)

/-- ITS FALSE NEIGHBOUR: 'it returns false'. Refute it at one input. -/
def fnExactMultiplyDivideWrong : ChangeSpec := { name := "fnExactMultiplyDivide", fn := fun _ => fun
  | [d1, d2, d3] => { results := [.lit (.bool false)], args := [d1, d2, d3] }
  | _ => none }
def FnExactMultiplyDivideWrongFalsely : Prop := fnExactMultiplyDivideRow.holds Try.pinned (OpenSpec.ofChange fnExactMultiplyDivideWrong)

/- THE SECOND FORM. 'bulk': how many values and letters a reading holds, each counted each time it is reached (what is shared counts as often as it is met; a slice's spare places count too). A statement '..UptoSaid' is the law's where the arguments, and the package variables that the reading takes, are together of bulk at most 1048576: NARROWER than '..Said'. Prove '..Said' where nothing that the law and all that it calls make is longer than what came in: it says more and counts as full. Else prove '..UptoSaid'. A law counts once. -/
mutual
def uptoBulk {H : Type} : DataW H → Nat
  | .lit (.string bytes) => bytes.length + 1
  | .lit _ => 1
  | .nil => 1
  | .ptr d => uptoBulk d + 1
  | .slice elems spare => uptoBulkAll elems + uptoBulkAll spare + 1
  | .agg parts => uptoBulkAll parts + 1
  | .iface _ d => uptoBulk d + 1
  | .map entries => uptoBulkEntries entries + 1
  | .held _ => 1
def uptoBulkAll {H : Type} : List (DataW H) → Nat
  | [] => 0
  | d :: r => uptoBulk d + uptoBulkAll r
def uptoBulkEntries {H : Type} : List (Lit × DataW H) → Nat
  | [] => 0
  | x :: r => uptoBulkEntry x + uptoBulkEntries r
def uptoBulkEntry {H : Type} : Lit × DataW H → Nat
  | (.string bytes, d) => bytes.length + uptoBulk d + 1
  | (_, d) => uptoBulk d + 1
 end
def uptoSmall : (H : Type) → List (DataW H) → Bool := fun _ ds => decide (uptoBulkAll ds ≤ 1048576)
def OpenSpec.upto (s : _root_.Go.ChangeSpec) : _root_.Go.OpenSpec := { _root_.Go.OpenSpec.ofChange s with cond := some uptoSmall }

/-- 'laws.FnColumns', WHERE WHAT IT READS IS OF BULK AT MOST 1048576: true; the input reads as it did. -/
def fnColumnsUptoRow : OpenClaim := { program := "ytncnocaifpiecaa", sum := "45abc79b97bd8b386aa37f21b489139c6408fafe0017fbb058e21bef2a80771f", func := "loop.example/g01025/laws.FnColumns", spec := "fnColumns", inPlace := ["sync/atomic.LoadUint32", "(*internal/sync.Mutex).Lock", "internal/race.Disable", "sync/atomic.CompareAndSwapInt32", "internal/race.Enable", "internal/race.Acquire", "(*internal/sync.Mutex).lockSlow", "internal/sync.runtime_canSpin", "internal/sync.runtime_doSpin", "internal/sync.throw", "internal/sync.runtime_nanotime", "internal/sync.runtime_SemacquireMutex", "sync/atomic.AddInt32", "(*internal/sync.Mutex).Unlock", "internal/race.ReleaseMerge", "(*internal/sync.Mutex).unlockSlow", "internal/sync.fatal", "internal/sync.runtime_Semrelease", "sync/atomic.StoreUint32"], unfollowed := true, recurses := true, apart := false, narrowed := true }
def FnColumnsUptoSaid : Prop := fnColumnsUptoRow.holds Try.pinned (OpenSpec.upto fnColumnsSpec)

/-- 'laws.FnDivisions', WHERE WHAT IT READS IS OF BULK AT MOST 1048576: true; the input reads as it did. -/
def fnDivisionsUptoRow : OpenClaim := { program := "ytncnocaifpiecaa", sum := "45abc79b97bd8b386aa37f21b489139c6408fafe0017fbb058e21bef2a80771f", func := "loop.example/g01025/laws.FnDivisions", spec := "fnDivisions", named := ["math/bits.divideError", "math/bits.overflowError"], apart := false, narrowed := true }
def FnDivisionsUptoSaid : Prop := fnDivisionsUptoRow.holds Try.pinned (OpenSpec.upto fnDivisionsSpec)

/-- 'laws.FnExactColumnsAt', WHERE WHAT IT READS IS OF BULK AT MOST 1048576: true; the input reads as it did. -/
def fnExactColumnsAtUptoRow : OpenClaim := { program := "ytncnocaifpiecaa", sum := "45abc79b97bd8b386aa37f21b489139c6408fafe0017fbb058e21bef2a80771f", func := "loop.example/g01025/laws.FnExactColumnsAt", spec := "fnExactColumnsAt", inPlace := ["sync/atomic.LoadUint32", "(*internal/sync.Mutex).Lock", "internal/race.Disable", "sync/atomic.CompareAndSwapInt32", "internal/race.Enable", "internal/race.Acquire", "(*internal/sync.Mutex).lockSlow", "internal/sync.runtime_canSpin", "internal/sync.runtime_doSpin", "internal/sync.throw", "internal/sync.runtime_nanotime", "internal/sync.runtime_SemacquireMutex", "sync/atomic.AddInt32", "(*internal/sync.Mutex).Unlock", "internal/race.ReleaseMerge", "(*internal/sync.Mutex).unlockSlow", "internal/sync.fatal", "internal/sync.runtime_Semrelease", "sync/atomic.StoreUint32"], unfollowed := true, recurses := true, apart := false, narrowed := true }
def FnExactColumnsAtUptoSaid : Prop := fnExactColumnsAtUptoRow.holds Try.pinned (OpenSpec.upto fnExactColumnsAtSpec)

/-- 'laws.FnExactColumnD', WHERE WHAT IT READS IS OF BULK AT MOST 1048576: true; the input reads as it did. -/
def fnExactColumnDUptoRow : OpenClaim := { program := "ytncnocaifpiecaa", sum := "45abc79b97bd8b386aa37f21b489139c6408fafe0017fbb058e21bef2a80771f", func := "loop.example/g01025/laws.FnExactColumnD", spec := "fnExactColumnD", inPlace := ["sync/atomic.LoadUint32", "(*internal/sync.Mutex).Lock", "internal/race.Disable", "sync/atomic.CompareAndSwapInt32", "internal/race.Enable", "internal/race.Acquire", "(*internal/sync.Mutex).lockSlow", "internal/sync.runtime_canSpin", "internal/sync.runtime_doSpin", "internal/sync.throw", "internal/sync.runtime_nanotime", "internal/sync.runtime_SemacquireMutex", "sync/atomic.AddInt32", "(*internal/sync.Mutex).Unlock", "internal/race.ReleaseMerge", "(*internal/sync.Mutex).unlockSlow", "internal/sync.fatal", "internal/sync.runtime_Semrelease", "sync/atomic.StoreUint32"], unfollowed := true, recurses := true, apart := false, narrowed := true }
def FnExactColumnDUptoSaid : Prop := fnExactColumnDUptoRow.holds Try.pinned (OpenSpec.upto fnExactColumnDSpec)

/-- 'laws.FnExactColumnN', WHERE WHAT IT READS IS OF BULK AT MOST 1048576: true; the input reads as it did. -/
def fnExactColumnNUptoRow : OpenClaim := { program := "ytncnocaifpiecaa", sum := "45abc79b97bd8b386aa37f21b489139c6408fafe0017fbb058e21bef2a80771f", func := "loop.example/g01025/laws.FnExactColumnN", spec := "fnExactColumnN", inPlace := ["sync/atomic.LoadUint32", "(*internal/sync.Mutex).Lock", "internal/race.Disable", "sync/atomic.CompareAndSwapInt32", "internal/race.Enable", "internal/race.Acquire", "(*internal/sync.Mutex).lockSlow", "internal/sync.runtime_canSpin", "internal/sync.runtime_doSpin", "internal/sync.throw", "internal/sync.runtime_nanotime", "internal/sync.runtime_SemacquireMutex", "sync/atomic.AddInt32", "(*internal/sync.Mutex).Unlock", "internal/race.ReleaseMerge", "(*internal/sync.Mutex).unlockSlow", "internal/sync.fatal", "internal/sync.runtime_Semrelease", "sync/atomic.StoreUint32"], unfollowed := true, recurses := true, apart := false, narrowed := true }
def FnExactColumnNUptoSaid : Prop := fnExactColumnNUptoRow.holds Try.pinned (OpenSpec.upto fnExactColumnNSpec)

/-- 'laws.FnExactColumnC', WHERE WHAT IT READS IS OF BULK AT MOST 1048576: true; the input reads as it did. -/
def fnExactColumnCUptoRow : OpenClaim := { program := "ytncnocaifpiecaa", sum := "45abc79b97bd8b386aa37f21b489139c6408fafe0017fbb058e21bef2a80771f", func := "loop.example/g01025/laws.FnExactColumnC", spec := "fnExactColumnC", inPlace := ["sync/atomic.LoadUint32", "(*internal/sync.Mutex).Lock", "internal/race.Disable", "sync/atomic.CompareAndSwapInt32", "internal/race.Enable", "internal/race.Acquire", "(*internal/sync.Mutex).lockSlow", "internal/sync.runtime_canSpin", "internal/sync.runtime_doSpin", "internal/sync.throw", "internal/sync.runtime_nanotime", "internal/sync.runtime_SemacquireMutex", "sync/atomic.AddInt32", "(*internal/sync.Mutex).Unlock", "internal/race.ReleaseMerge", "(*internal/sync.Mutex).unlockSlow", "internal/sync.fatal", "internal/sync.runtime_Semrelease", "sync/atomic.StoreUint32"], unfollowed := true, recurses := true, apart := false, narrowed := true }
def FnExactColumnCUptoSaid : Prop := fnExactColumnCUptoRow.holds Try.pinned (OpenSpec.upto fnExactColumnCSpec)

/-- 'laws.FnExactColumnM', WHERE WHAT IT READS IS OF BULK AT MOST 1048576: true; the input reads as it did. -/
def fnExactColumnMUptoRow : OpenClaim := { program := "ytncnocaifpiecaa", sum := "45abc79b97bd8b386aa37f21b489139c6408fafe0017fbb058e21bef2a80771f", func := "loop.example/g01025/laws.FnExactColumnM", spec := "fnExactColumnM", inPlace := ["sync/atomic.LoadUint32", "(*internal/sync.Mutex).Lock", "internal/race.Disable", "sync/atomic.CompareAndSwapInt32", "internal/race.Enable", "internal/race.Acquire", "(*internal/sync.Mutex).lockSlow", "internal/sync.runtime_canSpin", "internal/sync.runtime_doSpin", "internal/sync.throw", "internal/sync.runtime_nanotime", "internal/sync.runtime_SemacquireMutex", "sync/atomic.AddInt32", "(*internal/sync.Mutex).Unlock", "internal/race.ReleaseMerge", "(*internal/sync.Mutex).unlockSlow", "internal/sync.fatal", "internal/sync.runtime_Semrelease", "sync/atomic.StoreUint32"], unfollowed := true, recurses := true, apart := false, narrowed := true }
def FnExactColumnMUptoSaid : Prop := fnExactColumnMUptoRow.holds Try.pinned (OpenSpec.upto fnExactColumnMSpec)

/-- 'laws.FnExactMultiplyDivide', WHERE WHAT IT READS IS OF BULK AT MOST 1048576: true; the input reads as it did. -/
def fnExactMultiplyDivideUptoRow : OpenClaim := { program := "ytncnocaifpiecaa", sum := "45abc79b97bd8b386aa37f21b489139c6408fafe0017fbb058e21bef2a80771f", func := "loop.example/g01025/laws.FnExactMultiplyDivide", spec := "fnExactMultiplyDivide", named := ["math/bits.divideError", "math/bits.overflowError"], apart := false, narrowed := true }
def FnExactMultiplyDivideUptoSaid : Prop := fnExactMultiplyDivideUptoRow.holds Try.pinned (OpenSpec.upto fnExactMultiplyDivideSpec)

end Rows
end Go.Proofs.Ytncnocaifpiecaa
