/-
  No cell of these rows narrows 'for every input' (looked for: loops, veiled, ifaces, maps, wideKeys, modest, calm, conditions, laid).
  DERIVED. THE GIVEN ROWS OF THIS SEAT. 8 by the template 'for every input the law returns true; each argument reads behind the call as it read before'; 0 by the template 'total and deterministic' (their statements: YtdlfofdibooidaaGreatTotals.lean).
  GIVEN WITH THE SEED: the statements are not yours to turn. If you find one false, say at which input.
  Laid BY PROGRAM, IN A SANDBOX (cutbox-rows.mjs): the forced cells as the released guide's own fill.sh prints them over the translation 98fe9104fc9d2987… (all of the seat's roots in one cut). By AI agents, Wed Nov 11 2026. No macro, syntax, notation, axiom, sorry.
-/
import Derived.Test.YtdlfofdibooidaaGreatChecked
import GoSem.Claim
import GoSem.ClaimJoined
import GoSem.ClaimMapViews
import Derived.JoinedTies
import Derived.KernelRfl
namespace Go.Proofs.YtdlfofdibooidaaGreat
/- THE CELL 'sum', in the pinned program and in every row, IS THE sha256 OF THE DUMP (.gsa) THAT YtdlfofdibooidaaGreatProg.lean LOADS. Nothing in Lean hashes anything: it is a label: what it is worth is what the hold of that sum in a sandbox is worth. -/
noncomputable def Tryz.pinned : Pinned := { name := "ytdlfofdibooidaagreat", sum := "98fe9104fc9d2987a72bd6c44ac7c93fcb8c5bc6aa7459b4c5b85e9af00ae463", checked := Tryz.checked }
namespace Rows
def none {H : Type} : Left H := { results := [], args := [] }

/-- 'laws.FnLeaving': WHATEVER THE INPUT: true; the input reads as it did. -/
def fnLeavingSpec : ChangeSpec := { name := "fnLeaving", fn := fun _ => fun
  | [d] => { results := [.lit (.bool true)], args := [d] }
  | _ => none }
def fnLeavingRow : OpenClaim := { program := "ytdlfofdibooidaagreat", sum := "98fe9104fc9d2987a72bd6c44ac7c93fcb8c5bc6aa7459b4c5b85e9af00ae463", func := "loop.example/g01025/laws.FnLeaving", spec := "fnLeaving", inPlace := ["sync/atomic.LoadUint32", "(*internal/sync.Mutex).Lock", "internal/race.Disable", "sync/atomic.CompareAndSwapInt32", "internal/race.Enable", "internal/race.Acquire", "(*internal/sync.Mutex).lockSlow", "internal/sync.runtime_canSpin", "internal/sync.runtime_doSpin", "internal/sync.throw", "internal/sync.runtime_nanotime", "internal/sync.runtime_SemacquireMutex", "sync/atomic.AddInt32", "(*internal/sync.Mutex).Unlock", "internal/race.ReleaseMerge", "(*internal/sync.Mutex).unlockSlow", "internal/sync.fatal", "internal/sync.runtime_Semrelease", "sync/atomic.StoreUint32", "math/bits.Sub64"], unfollowed := true, recurses := true, named := ["math/bits.divideError", "math/bits.overflowError"], plainKeys := false, apart := false }
def FnLeavingSaid : Prop := fnLeavingRow.holds Tryz.pinned (OpenSpec.ofChange fnLeavingSpec)

/-- ITS FALSE NEIGHBOUR: 'it returns false'. Refute it at one input. -/
def fnLeavingWrong : ChangeSpec := { name := "fnLeaving", fn := fun _ => fun
  | [d] => { results := [.lit (.bool false)], args := [d] }
  | _ => none }
def FnLeavingWrongFalsely : Prop := fnLeavingRow.holds Tryz.pinned (OpenSpec.ofChange fnLeavingWrong)

/-- 'laws.FnKeptYears': WHATEVER THE INPUT: true; the input reads as it did. -/
def fnKeptYearsSpec : ChangeSpec := { name := "fnKeptYears", fn := fun _ => fun
  | [d] => { results := [.lit (.bool true)], args := [d] }
  | _ => none }
def fnKeptYearsRow : OpenClaim := { program := "ytdlfofdibooidaagreat", sum := "98fe9104fc9d2987a72bd6c44ac7c93fcb8c5bc6aa7459b4c5b85e9af00ae463", func := "loop.example/g01025/laws.FnKeptYears", spec := "fnKeptYears", inPlace := ["sync/atomic.LoadUint32", "(*internal/sync.Mutex).Lock", "internal/race.Disable", "sync/atomic.CompareAndSwapInt32", "internal/race.Enable", "internal/race.Acquire", "(*internal/sync.Mutex).lockSlow", "internal/sync.runtime_canSpin", "internal/sync.runtime_doSpin", "internal/sync.throw", "internal/sync.runtime_nanotime", "internal/sync.runtime_SemacquireMutex", "sync/atomic.AddInt32", "(*internal/sync.Mutex).Unlock", "internal/race.ReleaseMerge", "(*internal/sync.Mutex).unlockSlow", "internal/sync.fatal", "internal/sync.runtime_Semrelease", "sync/atomic.StoreUint32", "math/bits.Sub64"], unfollowed := true, recurses := true, named := ["math/bits.divideError", "math/bits.overflowError"], plainKeys := false, apart := false }
def FnKeptYearsSaid : Prop := fnKeptYearsRow.holds Tryz.pinned (OpenSpec.ofChange fnKeptYearsSpec)

/-- ITS FALSE NEIGHBOUR: 'it returns false'. Refute it at one input. -/
def fnKeptYearsWrong : ChangeSpec := { name := "fnKeptYears", fn := fun _ => fun
  | [d] => { results := [.lit (.bool false)], args := [d] }
  | _ => none }
def FnKeptYearsWrongFalsely : Prop := fnKeptYearsRow.holds Tryz.pinned (OpenSpec.ofChange fnKeptYearsWrong)

/-- 'laws.FnExactSurrenderValue': WHATEVER THE INPUT: true; the input reads as it did. -/
def fnExactSurrenderValueSpec : ChangeSpec := { name := "fnExactSurrenderValue", fn := fun _ => fun
  | [d1, d2, d3] => { results := [.lit (.bool true)], args := [d1, d2, d3] }
  | _ => none }
def fnExactSurrenderValueRow : OpenClaim := { program := "ytdlfofdibooidaagreat", sum := "98fe9104fc9d2987a72bd6c44ac7c93fcb8c5bc6aa7459b4c5b85e9af00ae463", func := "loop.example/g01025/laws.FnExactSurrenderValue", spec := "fnExactSurrenderValue", inPlace := ["sync/atomic.LoadUint32", "(*internal/sync.Mutex).Lock", "internal/race.Disable", "sync/atomic.CompareAndSwapInt32", "internal/race.Enable", "internal/race.Acquire", "(*internal/sync.Mutex).lockSlow", "internal/sync.runtime_canSpin", "internal/sync.runtime_doSpin", "internal/sync.throw", "internal/sync.runtime_nanotime", "internal/sync.runtime_SemacquireMutex", "sync/atomic.AddInt32", "(*internal/sync.Mutex).Unlock", "internal/race.ReleaseMerge", "(*internal/sync.Mutex).unlockSlow", "internal/sync.fatal", "internal/sync.runtime_Semrelease", "sync/atomic.StoreUint32", "math/bits.Sub64"], unfollowed := true, recurses := true, named := ["math/bits.divideError", "math/bits.overflowError"], plainKeys := false, apart := false }
def FnExactSurrenderValueSaid : Prop := fnExactSurrenderValueRow.holds Tryz.pinned (OpenSpec.ofChange fnExactSurrenderValueSpec)

/-- ITS FALSE NEIGHBOUR: 'it returns false'. Refute it at one input. -/
def fnExactSurrenderValueWrong : ChangeSpec := { name := "fnExactSurrenderValue", fn := fun _ => fun
  | [d1, d2, d3] => { results := [.lit (.bool false)], args := [d1, d2, d3] }
  | _ => none }
def FnExactSurrenderValueWrongFalsely : Prop := fnExactSurrenderValueRow.holds Tryz.pinned (OpenSpec.ofChange fnExactSurrenderValueWrong)

/-- 'laws.FnExactPaidUpSum': WHATEVER THE INPUT: true; the input reads as it did. -/
def fnExactPaidUpSumSpec : ChangeSpec := { name := "fnExactPaidUpSum", fn := fun _ => fun
  | [d1, d2, d3] => { results := [.lit (.bool true)], args := [d1, d2, d3] }
  | _ => none }
def fnExactPaidUpSumRow : OpenClaim := { program := "ytdlfofdibooidaagreat", sum := "98fe9104fc9d2987a72bd6c44ac7c93fcb8c5bc6aa7459b4c5b85e9af00ae463", func := "loop.example/g01025/laws.FnExactPaidUpSum", spec := "fnExactPaidUpSum", inPlace := ["sync/atomic.LoadUint32", "(*internal/sync.Mutex).Lock", "internal/race.Disable", "sync/atomic.CompareAndSwapInt32", "internal/race.Enable", "internal/race.Acquire", "(*internal/sync.Mutex).lockSlow", "internal/sync.runtime_canSpin", "internal/sync.runtime_doSpin", "internal/sync.throw", "internal/sync.runtime_nanotime", "internal/sync.runtime_SemacquireMutex", "sync/atomic.AddInt32", "(*internal/sync.Mutex).Unlock", "internal/race.ReleaseMerge", "(*internal/sync.Mutex).unlockSlow", "internal/sync.fatal", "internal/sync.runtime_Semrelease", "sync/atomic.StoreUint32", "math/bits.Sub64"], unfollowed := true, recurses := true, named := ["math/bits.divideError", "math/bits.overflowError"], plainKeys := false, apart := false }
def FnExactPaidUpSumSaid : Prop := fnExactPaidUpSumRow.holds Tryz.pinned (OpenSpec.ofChange fnExactPaidUpSumSpec)

/-- ITS FALSE NEIGHBOUR: 'it returns false'. Refute it at one input. -/
def fnExactPaidUpSumWrong : ChangeSpec := { name := "fnExactPaidUpSum", fn := fun _ => fun
  | [d1, d2, d3] => { results := [.lit (.bool false)], args := [d1, d2, d3] }
  | _ => none }
def FnExactPaidUpSumWrongFalsely : Prop := fnExactPaidUpSumRow.holds Tryz.pinned (OpenSpec.ofChange fnExactPaidUpSumWrong)

/-- 'laws.FnExactKeptYears': WHATEVER THE INPUT: true; the input reads as it did. -/
def fnExactKeptYearsSpec : ChangeSpec := { name := "fnExactKeptYears", fn := fun _ => fun
  | [d1, d2, d3] => { results := [.lit (.bool true)], args := [d1, d2, d3] }
  | _ => none }
def fnExactKeptYearsRow : OpenClaim := { program := "ytdlfofdibooidaagreat", sum := "98fe9104fc9d2987a72bd6c44ac7c93fcb8c5bc6aa7459b4c5b85e9af00ae463", func := "loop.example/g01025/laws.FnExactKeptYears", spec := "fnExactKeptYears", inPlace := ["sync/atomic.LoadUint32", "(*internal/sync.Mutex).Lock", "internal/race.Disable", "sync/atomic.CompareAndSwapInt32", "internal/race.Enable", "internal/race.Acquire", "(*internal/sync.Mutex).lockSlow", "internal/sync.runtime_canSpin", "internal/sync.runtime_doSpin", "internal/sync.throw", "internal/sync.runtime_nanotime", "internal/sync.runtime_SemacquireMutex", "sync/atomic.AddInt32", "(*internal/sync.Mutex).Unlock", "internal/race.ReleaseMerge", "(*internal/sync.Mutex).unlockSlow", "internal/sync.fatal", "internal/sync.runtime_Semrelease", "sync/atomic.StoreUint32", "math/bits.Sub64"], unfollowed := true, recurses := true, named := ["math/bits.divideError", "math/bits.overflowError"], plainKeys := false, apart := false }
def FnExactKeptYearsSaid : Prop := fnExactKeptYearsRow.holds Tryz.pinned (OpenSpec.ofChange fnExactKeptYearsSpec)

/-- ITS FALSE NEIGHBOUR: 'it returns false'. Refute it at one input. -/
def fnExactKeptYearsWrong : ChangeSpec := { name := "fnExactKeptYears", fn := fun _ => fun
  | [d1, d2, d3] => { results := [.lit (.bool false)], args := [d1, d2, d3] }
  | _ => none }
def FnExactKeptYearsWrongFalsely : Prop := fnExactKeptYearsRow.holds Tryz.pinned (OpenSpec.ofChange fnExactKeptYearsWrong)

/-- 'laws.FnExactLoanLimit': WHATEVER THE INPUT: true; the input reads as it did. -/
def fnExactLoanLimitSpec : ChangeSpec := { name := "fnExactLoanLimit", fn := fun _ => fun
  | [d1, d2, d3] => { results := [.lit (.bool true)], args := [d1, d2, d3] }
  | _ => none }
def fnExactLoanLimitRow : OpenClaim := { program := "ytdlfofdibooidaagreat", sum := "98fe9104fc9d2987a72bd6c44ac7c93fcb8c5bc6aa7459b4c5b85e9af00ae463", func := "loop.example/g01025/laws.FnExactLoanLimit", spec := "fnExactLoanLimit", inPlace := ["sync/atomic.LoadUint32", "(*internal/sync.Mutex).Lock", "internal/race.Disable", "sync/atomic.CompareAndSwapInt32", "internal/race.Enable", "internal/race.Acquire", "(*internal/sync.Mutex).lockSlow", "internal/sync.runtime_canSpin", "internal/sync.runtime_doSpin", "internal/sync.throw", "internal/sync.runtime_nanotime", "internal/sync.runtime_SemacquireMutex", "sync/atomic.AddInt32", "(*internal/sync.Mutex).Unlock", "internal/race.ReleaseMerge", "(*internal/sync.Mutex).unlockSlow", "internal/sync.fatal", "internal/sync.runtime_Semrelease", "sync/atomic.StoreUint32", "math/bits.Sub64"], unfollowed := true, recurses := true, named := ["math/bits.divideError", "math/bits.overflowError"], plainKeys := false, apart := false }
def FnExactLoanLimitSaid : Prop := fnExactLoanLimitRow.holds Tryz.pinned (OpenSpec.ofChange fnExactLoanLimitSpec)

/-- ITS FALSE NEIGHBOUR: 'it returns false'. Refute it at one input. -/
def fnExactLoanLimitWrong : ChangeSpec := { name := "fnExactLoanLimit", fn := fun _ => fun
  | [d1, d2, d3] => { results := [.lit (.bool false)], args := [d1, d2, d3] }
  | _ => none }
def FnExactLoanLimitWrongFalsely : Prop := fnExactLoanLimitRow.holds Tryz.pinned (OpenSpec.ofChange fnExactLoanLimitWrong)

/-- 'laws.FnExactLeavingLoss': WHATEVER THE INPUT: true; the input reads as it did. -/
def fnExactLeavingLossSpec : ChangeSpec := { name := "fnExactLeavingLoss", fn := fun _ => fun
  | [d1, d2, d3] => { results := [.lit (.bool true)], args := [d1, d2, d3] }
  | _ => none }
def fnExactLeavingLossRow : OpenClaim := { program := "ytdlfofdibooidaagreat", sum := "98fe9104fc9d2987a72bd6c44ac7c93fcb8c5bc6aa7459b4c5b85e9af00ae463", func := "loop.example/g01025/laws.FnExactLeavingLoss", spec := "fnExactLeavingLoss", inPlace := ["sync/atomic.LoadUint32", "(*internal/sync.Mutex).Lock", "internal/race.Disable", "sync/atomic.CompareAndSwapInt32", "internal/race.Enable", "internal/race.Acquire", "(*internal/sync.Mutex).lockSlow", "internal/sync.runtime_canSpin", "internal/sync.runtime_doSpin", "internal/sync.throw", "internal/sync.runtime_nanotime", "internal/sync.runtime_SemacquireMutex", "sync/atomic.AddInt32", "(*internal/sync.Mutex).Unlock", "internal/race.ReleaseMerge", "(*internal/sync.Mutex).unlockSlow", "internal/sync.fatal", "internal/sync.runtime_Semrelease", "sync/atomic.StoreUint32", "math/bits.Sub64"], unfollowed := true, recurses := true, named := ["math/bits.divideError", "math/bits.overflowError"], plainKeys := false, apart := false }
def FnExactLeavingLossSaid : Prop := fnExactLeavingLossRow.holds Tryz.pinned (OpenSpec.ofChange fnExactLeavingLossSpec)

/-- ITS FALSE NEIGHBOUR: 'it returns false'. Refute it at one input. -/
def fnExactLeavingLossWrong : ChangeSpec := { name := "fnExactLeavingLoss", fn := fun _ => fun
  | [d1, d2, d3] => { results := [.lit (.bool false)], args := [d1, d2, d3] }
  | _ => none }
def FnExactLeavingLossWrongFalsely : Prop := fnExactLeavingLossRow.holds Tryz.pinned (OpenSpec.ofChange fnExactLeavingLossWrong)

/-- 'laws.FnExactBestLeaving': WHATEVER THE INPUT: true; the input reads as it did. -/
def fnExactBestLeavingSpec : ChangeSpec := { name := "fnExactBestLeaving", fn := fun _ => fun
  | [d1, d2] => { results := [.lit (.bool true)], args := [d1, d2] }
  | _ => none }
def fnExactBestLeavingRow : OpenClaim := { program := "ytdlfofdibooidaagreat", sum := "98fe9104fc9d2987a72bd6c44ac7c93fcb8c5bc6aa7459b4c5b85e9af00ae463", func := "loop.example/g01025/laws.FnExactBestLeaving", spec := "fnExactBestLeaving", inPlace := ["sync/atomic.LoadUint32", "(*internal/sync.Mutex).Lock", "internal/race.Disable", "sync/atomic.CompareAndSwapInt32", "internal/race.Enable", "internal/race.Acquire", "(*internal/sync.Mutex).lockSlow", "internal/sync.runtime_canSpin", "internal/sync.runtime_doSpin", "internal/sync.throw", "internal/sync.runtime_nanotime", "internal/sync.runtime_SemacquireMutex", "sync/atomic.AddInt32", "(*internal/sync.Mutex).Unlock", "internal/race.ReleaseMerge", "(*internal/sync.Mutex).unlockSlow", "internal/sync.fatal", "internal/sync.runtime_Semrelease", "sync/atomic.StoreUint32", "math/bits.Sub64"], unfollowed := true, recurses := true, named := ["math/bits.divideError", "math/bits.overflowError"], plainKeys := false, apart := false }
def FnExactBestLeavingSaid : Prop := fnExactBestLeavingRow.holds Tryz.pinned (OpenSpec.ofChange fnExactBestLeavingSpec)

/-- ITS FALSE NEIGHBOUR: 'it returns false'. Refute it at one input. -/
def fnExactBestLeavingWrong : ChangeSpec := { name := "fnExactBestLeaving", fn := fun _ => fun
  | [d1, d2] => { results := [.lit (.bool false)], args := [d1, d2] }
  | _ => none }
def FnExactBestLeavingWrongFalsely : Prop := fnExactBestLeavingRow.holds Tryz.pinned (OpenSpec.ofChange fnExactBestLeavingWrong)

/- THE SECOND FORM. 'bulk': how many values and letters a reading holds, each counted each time it is reached (what is shared counts as often as it is met; a slice's spare places count too). A statement '..UptoSaid' is the law's where the arguments, and the package variables that the reading takes, are together of bulk at most 1048576: NARROWER than '..Said'. Prove '..Said' where nothing that the law and all that it calls make is longer than what came in: it says more and counts as full. Else prove '..UptoSaid'. A law counts once. -/
mutual
def uptoBulk {H : Type} : DataW H → Nat
  | .lit (.string bytes) => bytes.length + 1
  | .lit _ => 1
  | .nil => 1
  | .ptr d => uptoBulk d + 1
  | .slice elems spare => uptoBulkAll elems + uptoBulkAll spare + 1
  | .agg parts => uptoBulkAll parts + 1
  | .iface _ d => uptoBulk d + 1
  | .map entries => uptoBulkEntries entries + 1
  | .held _ => 1
def uptoBulkAll {H : Type} : List (DataW H) → Nat
  | [] => 0
  | d :: r => uptoBulk d + uptoBulkAll r
def uptoBulkEntries {H : Type} : List (Lit × DataW H) → Nat
  | [] => 0
  | x :: r => uptoBulkEntry x + uptoBulkEntries r
def uptoBulkEntry {H : Type} : Lit × DataW H → Nat
  | (.string bytes, d) => bytes.length + uptoBulk d + 1
  | (_, d) => uptoBulk d + 1
 end
def uptoSmall : (H : Type) → List (DataW H) → Bool := fun _ ds => decide (uptoBulkAll ds ≤ 1048576)
def OpenSpec.upto (s : _root_.Go.ChangeSpec) : _root_.Go.OpenSpec := { _root_.Go.OpenSpec.ofChange s with cond := some uptoSmall }

/-- 'laws.FnLeaving', WHERE WHAT IT READS IS OF BULK AT MOST 1048576: true; the input reads as it did. -/
def fnLeavingUptoRow : OpenClaim := { program := "ytdlfofdibooidaagreat", sum := "98fe9104fc9d2987a72bd6c44ac7c93fcb8c5bc6aa7459b4c5b85e9af00ae463", func := "loop.example/g01025/laws.FnLeaving", spec := "fnLeaving", inPlace := ["sync/atomic.LoadUint32", "(*internal/sync.Mutex).Lock", "internal/race.Disable", "sync/atomic.CompareAndSwapInt32", "internal/race.Enable", "internal/race.Acquire", "(*internal/sync.Mutex).lockSlow", "internal/sync.runtime_canSpin", "internal/sync.runtime_doSpin", "internal/sync.throw", "internal/sync.runtime_nanotime", "internal/sync.runtime_SemacquireMutex", "sync/atomic.AddInt32", "(*internal/sync.Mutex).Unlock", "internal/race.ReleaseMerge", "(*internal/sync.Mutex).unlockSlow", "internal/sync.fatal", "internal/sync.runtime_Semrelease", "sync/atomic.StoreUint32", "math/bits.Sub64"], unfollowed := true, recurses := true, named := ["math/bits.divideError", "math/bits.overflowError"], plainKeys := false, apart := false, narrowed := true }
def FnLeavingUptoSaid : Prop := fnLeavingUptoRow.holds Tryz.pinned (OpenSpec.upto fnLeavingSpec)

/-- 'laws.FnKeptYears', WHERE WHAT IT READS IS OF BULK AT MOST 1048576: true; the input reads as it did. -/
def fnKeptYearsUptoRow : OpenClaim := { program := "ytdlfofdibooidaagreat", sum := "98fe9104fc9d2987a72bd6c44ac7c93fcb8c5bc6aa7459b4c5b85e9af00ae463", func := "loop.example/g01025/laws.FnKeptYears", spec := "fnKeptYears", inPlace := ["sync/atomic.LoadUint32", "(*internal/sync.Mutex).Lock", "internal/race.Disable", "sync/atomic.CompareAndSwapInt32", "internal/race.Enable", "internal/race.Acquire", "(*internal/sync.Mutex).lockSlow", "internal/sync.runtime_canSpin", "internal/sync.runtime_doSpin", "internal/sync.throw", "internal/sync.runtime_nanotime", "internal/sync.runtime_SemacquireMutex", "sync/atomic.AddInt32", "(*internal/sync.Mutex).Unlock", "internal/race.ReleaseMerge", "(*internal/sync.Mutex).unlockSlow", "internal/sync.fatal", "internal/sync.runtime_Semrelease", "sync/atomic.StoreUint32", "math/bits.Sub64"], unfollowed := true, recurses := true, named := ["math/bits.divideError", "math/bits.overflowError"], plainKeys := false, apart := false, narrowed := true }
def FnKeptYearsUptoSaid : Prop := fnKeptYearsUptoRow.holds Tryz.pinned (OpenSpec.upto fnKeptYearsSpec)

/-- 'laws.FnExactSurrenderValue', WHERE WHAT IT READS IS OF BULK AT MOST 1048576: true; the input reads as it did. -/
def fnExactSurrenderValueUptoRow : OpenClaim := { program := "ytdlfofdibooidaagreat", sum := "98fe9104fc9d2987a72bd6c44ac7c93fcb8c5bc6aa7459b4c5b85e9af00ae463", func := "loop.example/g01025/laws.FnExactSurrenderValue", spec := "fnExactSurrenderValue", inPlace := ["sync/atomic.LoadUint32", "(*internal/sync.Mutex).Lock", "internal/race.Disable", "sync/atomic.CompareAndSwapInt32", "internal/race.Enable", "internal/race.Acquire", "(*internal/sync.Mutex).lockSlow", "internal/sync.runtime_canSpin", "internal/sync.runtime_doSpin", "internal/sync.throw", "internal/sync.runtime_nanotime", "internal/sync.runtime_SemacquireMutex", "sync/atomic.AddInt32", "(*internal/sync.Mutex).Unlock", "internal/race.ReleaseMerge", "(*internal/sync.Mutex).unlockSlow", "internal/sync.fatal", "internal/sync.runtime_Semrelease", "sync/atomic.StoreUint32", "math/bits.Sub64"], unfollowed := true, recurses := true, named := ["math/bits.divideError", "math/bits.overflowError"], plainKeys := false, apart := false, narrowed := true }
def FnExactSurrenderValueUptoSaid : Prop := fnExactSurrenderValueUptoRow.holds Tryz.pinned (OpenSpec.upto fnExactSurrenderValueSpec)

/-- 'laws.FnExactPaidUpSum', WHERE WHAT IT READS IS OF BULK AT MOST 1048576: true; the input reads as it did. -/
def fnExactPaidUpSumUptoRow : OpenClaim := { program := "ytdlfofdibooidaagreat", sum := "98fe9104fc9d2987a72bd6c44ac7c93fcb8c5bc6aa7459b4c5b85e9af00ae463", func := "loop.example/g01025/laws.FnExactPaidUpSum", spec := "fnExactPaidUpSum", inPlace := ["sync/atomic.LoadUint32", "(*internal/sync.Mutex).Lock", "internal/race.Disable", "sync/atomic.CompareAndSwapInt32", "internal/race.Enable", "internal/race.Acquire", "(*internal/sync.Mutex).lockSlow", "internal/sync.runtime_canSpin", "internal/sync.runtime_doSpin", "internal/sync.throw", "internal/sync.runtime_nanotime", "internal/sync.runtime_SemacquireMutex", "sync/atomic.AddInt32", "(*internal/sync.Mutex).Unlock", "internal/race.ReleaseMerge", "(*internal/sync.Mutex).unlockSlow", "internal/sync.fatal", "internal/sync.runtime_Semrelease", "sync/atomic.StoreUint32", "math/bits.Sub64"], unfollowed := true, recurses := true, named := ["math/bits.divideError", "math/bits.overflowError"], plainKeys := false, apart := false, narrowed := true }
def FnExactPaidUpSumUptoSaid : Prop := fnExactPaidUpSumUptoRow.holds Tryz.pinned (OpenSpec.upto fnExactPaidUpSumSpec)

/-- 'laws.FnExactKeptYears', WHERE WHAT IT READS IS OF BULK AT MOST 1048576: true; the input reads as it did. -/
def fnExactKeptYearsUptoRow : OpenClaim := { program := "ytdlfofdibooidaagreat", sum := "98fe9104fc9d2987a72bd6c44ac7c93fcb8c5bc6aa7459b4c5b85e9af00ae463", func := "loop.example/g01025/laws.FnExactKeptYears", spec := "fnExactKeptYears", inPlace := ["sync/atomic.LoadUint32", "(*internal/sync.Mutex).Lock", "internal/race.Disable", "sync/atomic.CompareAndSwapInt32", "internal/race.Enable", "internal/race.Acquire", "(*internal/sync.Mutex).lockSlow", "internal/sync.runtime_canSpin", "internal/sync.runtime_doSpin", "internal/sync.throw", "internal/sync.runtime_nanotime", "internal/sync.runtime_SemacquireMutex", "sync/atomic.AddInt32", "(*internal/sync.Mutex).Unlock", "internal/race.ReleaseMerge", "(*internal/sync.Mutex).unlockSlow", "internal/sync.fatal", "internal/sync.runtime_Semrelease", "sync/atomic.StoreUint32", "math/bits.Sub64"], unfollowed := true, recurses := true, named := ["math/bits.divideError", "math/bits.overflowError"], plainKeys := false, apart := false, narrowed := true }
def FnExactKeptYearsUptoSaid : Prop := fnExactKeptYearsUptoRow.holds Tryz.pinned (OpenSpec.upto fnExactKeptYearsSpec)

/-- 'laws.FnExactLoanLimit', WHERE WHAT IT READS IS OF BULK AT MOST 1048576: true; the input reads as it did. -/
def fnExactLoanLimitUptoRow : OpenClaim := { program := "ytdlfofdibooidaagreat", sum := "98fe9104fc9d2987a72bd6c44ac7c93fcb8c5bc6aa7459b4c5b85e9af00ae463", func := "loop.example/g01025/laws.FnExactLoanLimit", spec := "fnExactLoanLimit", inPlace := ["sync/atomic.LoadUint32", "(*internal/sync.Mutex).Lock", "internal/race.Disable", "sync/atomic.CompareAndSwapInt32", "internal/race.Enable", "internal/race.Acquire", "(*internal/sync.Mutex).lockSlow", "internal/sync.runtime_canSpin", "internal/sync.runtime_doSpin", "internal/sync.throw", "internal/sync.runtime_nanotime", "internal/sync.runtime_SemacquireMutex", "sync/atomic.AddInt32", "(*internal/sync.Mutex).Unlock", "internal/race.ReleaseMerge", "(*internal/sync.Mutex).unlockSlow", "internal/sync.fatal", "internal/sync.runtime_Semrelease", "sync/atomic.StoreUint32", "math/bits.Sub64"], unfollowed := true, recurses := true, named := ["math/bits.divideError", "math/bits.overflowError"], plainKeys := false, apart := false, narrowed := true }
def FnExactLoanLimitUptoSaid : Prop := fnExactLoanLimitUptoRow.holds Tryz.pinned (OpenSpec.upto fnExactLoanLimitSpec)

/-- 'laws.FnExactLeavingLoss', WHERE WHAT IT READS IS OF BULK AT MOST 1048576: true; the input reads as it did. -/
def fnExactLeavingLossUptoRow : OpenClaim := { program := "ytdlfofdibooidaagreat", sum := "98fe9104fc9d2987a72bd6c44ac7c93fcb8c5bc6aa7459b4c5b85e9af00ae463", func := "loop.example/g01025/laws.FnExactLeavingLoss", spec := "fnExactLeavingLoss", inPlace := ["sync/atomic.LoadUint32", "(*internal/sync.Mutex).Lock", "internal/race.Disable", "sync/atomic.CompareAndSwapInt32", "internal/race.Enable", "internal/race.Acquire", "(*internal/sync.Mutex).lockSlow", "internal/sync.runtime_canSpin", "internal/sync.runtime_doSpin", "internal/sync.throw", "internal/sync.runtime_nanotime", "internal/sync.runtime_SemacquireMutex", "sync/atomic.AddInt32", "(*internal/sync.Mutex).Unlock", "internal/race.ReleaseMerge", "(*internal/sync.Mutex).unlockSlow", "internal/sync.fatal", "internal/sync.runtime_Semrelease", "sync/atomic.StoreUint32", "math/bits.Sub64"], unfollowed := true, recurses := true, named := ["math/bits.divideError", "math/bits.overflowError"], plainKeys := false, apart := false, narrowed := true }
def FnExactLeavingLossUptoSaid : Prop := fnExactLeavingLossUptoRow.holds Tryz.pinned (OpenSpec.upto fnExactLeavingLossSpec)

/-- 'laws.FnExactBestLeaving', WHERE WHAT IT READS IS OF BULK AT MOST 1048576: true; the input reads as it did. -/
def fnExactBestLeavingUptoRow : OpenClaim := { program := "ytdlfofdibooidaagreat", sum := "98fe9104fc9d2987a72bd6c44ac7c93fcb8c5bc6aa7459b4c5b85e9af00ae463", func := "loop.example/g01025/laws.FnExactBestLeaving", spec := "fnExactBestLeaving", inPlace := ["sync/atomic.LoadUint32", "(*internal/sync.Mutex).Lock", "internal/race.Disable", "sync/atomic.CompareAndSwapInt32", "internal/race.Enable", "internal/race.Acquire", "(*internal/sync.Mutex).lockSlow", "internal/sync.runtime_canSpin", "internal/sync.runtime_doSpin", "internal/sync.throw", "internal/sync.runtime_nanotime", "internal/sync.runtime_SemacquireMutex", "sync/atomic.AddInt32", "(*internal/sync.Mutex).Unlock", "internal/race.ReleaseMerge", "(*internal/sync.Mutex).unlockSlow", "internal/sync.fatal", "internal/sync.runtime_Semrelease", "sync/atomic.StoreUint32", "math/bits.Sub64"], unfollowed := true, recurses := true, named := ["math/bits.divideError", "math/bits.overflowError"], plainKeys := false, apart := false, narrowed := true }
def FnExactBestLeavingUptoSaid : Prop := fnExactBestLeavingUptoRow.holds Tryz.pinned (OpenSpec.upto fnExactBestLeavingSpec)

end Rows
end Go.Proofs.YtdlfofdibooidaaGreat
