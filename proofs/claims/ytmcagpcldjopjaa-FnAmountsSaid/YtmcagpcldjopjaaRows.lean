/-
  No cell of these rows narrows 'for every input' (looked for: loops, veiled, ifaces, maps, wideKeys, modest, calm, conditions, laid).
  DERIVED. THE GIVEN ROWS OF THIS SEAT. 10 by the template 'for every input the law returns true; each argument reads behind the call as it read before'; 0 by the template 'total and deterministic' (their statements: YtmcagpcldjopjaaTotals.lean).
  GIVEN WITH THE SEED: the statements are not yours to turn. If you find one false, say at which input.
  Laid BY PROGRAM, IN A SANDBOX (cutbox-rows.mjs): the forced cells as the released guide's own fill.sh prints them over the translation 78dca52e0ea44f05… (all of the seat's roots in one cut). By AI agents, Wed Nov 11 2026. No macro, syntax, notation, axiom, sorry.
-/
import Derived.Test.YtmcagpcldjopjaaChecked
import GoSem.Claim
import GoSem.ClaimJoined
import GoSem.ClaimMapViews
import Derived.JoinedTies
import Derived.KernelRfl
namespace Go.Proofs.Ytmcagpcldjopjaa
/- THE CELL 'sum', in the pinned program and in every row, IS THE sha256 OF THE DUMP (.gsa) THAT YtmcagpcldjopjaaProg.lean LOADS. Nothing in Lean hashes anything: it is a label: what it is worth is what the hold of that sum in a sandbox is worth. -/
noncomputable def Try.pinned : Pinned := { name := "ytmcagpcldjopjaa", sum := "78dca52e0ea44f0574b9ccd9c81b1b13c130f7d8ced35bfd0c4a569db0ffd753", checked := Try.checked }
namespace Rows
def none {H : Type} : Left H := { results := [], args := [] }

/-- 'laws.FnExpected': WHATEVER THE INPUT: true; the input reads as it did. -/
def fnExpectedSpec : ChangeSpec := { name := "fnExpected", fn := fun _ => fun
  | [d] => { results := [.lit (.bool true)], args := [d] }
  | _ => none }
def fnExpectedRow : OpenClaim := { program := "ytmcagpcldjopjaa", sum := "78dca52e0ea44f0574b9ccd9c81b1b13c130f7d8ced35bfd0c4a569db0ffd753", func := "loop.example/g01025/laws.FnExpected", spec := "fnExpected", unfollowed := true, recurses := true, apart := false }
def FnExpectedSaid : Prop := fnExpectedRow.holds Try.pinned (OpenSpec.ofChange fnExpectedSpec)

/-- ITS FALSE NEIGHBOUR: 'it returns false'. Refute it at one input. -/
def fnExpectedWrong : ChangeSpec := { name := "fnExpected", fn := fun _ => fun
  | [d] => { results := [.lit (.bool false)], args := [d] }
  | _ => none }
def FnExpectedWrongFalsely : Prop := fnExpectedRow.holds Try.pinned (OpenSpec.ofChange fnExpectedWrong)

/-- 'laws.FnAnnuities': WHATEVER THE INPUT: true; the input reads as it did. -/
def fnAnnuitiesSpec : ChangeSpec := { name := "fnAnnuities", fn := fun _ => fun
  | [d] => { results := [.lit (.bool true)], args := [d] }
  | _ => none }
def fnAnnuitiesRow : OpenClaim := { program := "ytmcagpcldjopjaa", sum := "78dca52e0ea44f0574b9ccd9c81b1b13c130f7d8ced35bfd0c4a569db0ffd753", func := "loop.example/g01025/laws.FnAnnuities", spec := "fnAnnuities", inPlace := ["sync/atomic.LoadUint32", "(*internal/sync.Mutex).Lock", "internal/race.Disable", "sync/atomic.CompareAndSwapInt32", "internal/race.Enable", "internal/race.Acquire", "(*internal/sync.Mutex).lockSlow", "internal/sync.runtime_canSpin", "internal/sync.runtime_doSpin", "internal/sync.throw", "internal/sync.runtime_nanotime", "internal/sync.runtime_SemacquireMutex", "sync/atomic.AddInt32", "(*internal/sync.Mutex).Unlock", "internal/race.ReleaseMerge", "(*internal/sync.Mutex).unlockSlow", "internal/sync.fatal", "internal/sync.runtime_Semrelease", "sync/atomic.StoreUint32"], unfollowed := true, recurses := true, named := ["math/bits.divideError", "math/bits.overflowError"], apart := false }
def FnAnnuitiesSaid : Prop := fnAnnuitiesRow.holds Try.pinned (OpenSpec.ofChange fnAnnuitiesSpec)

/-- ITS FALSE NEIGHBOUR: 'it returns false'. Refute it at one input. -/
def fnAnnuitiesWrong : ChangeSpec := { name := "fnAnnuities", fn := fun _ => fun
  | [d] => { results := [.lit (.bool false)], args := [d] }
  | _ => none }
def FnAnnuitiesWrongFalsely : Prop := fnAnnuitiesRow.holds Try.pinned (OpenSpec.ofChange fnAnnuitiesWrong)

/-- 'laws.FnAmounts': WHATEVER THE INPUT: true; the input reads as it did. -/
def fnAmountsSpec : ChangeSpec := { name := "fnAmounts", fn := fun _ => fun
  | [d] => { results := [.lit (.bool true)], args := [d] }
  | _ => none }
def fnAmountsRow : OpenClaim := { program := "ytmcagpcldjopjaa", sum := "78dca52e0ea44f0574b9ccd9c81b1b13c130f7d8ced35bfd0c4a569db0ffd753", func := "loop.example/g01025/laws.FnAmounts", spec := "fnAmounts", inPlace := ["sync/atomic.LoadUint32", "(*internal/sync.Mutex).Lock", "internal/race.Disable", "sync/atomic.CompareAndSwapInt32", "internal/race.Enable", "internal/race.Acquire", "(*internal/sync.Mutex).lockSlow", "internal/sync.runtime_canSpin", "internal/sync.runtime_doSpin", "internal/sync.throw", "internal/sync.runtime_nanotime", "internal/sync.runtime_SemacquireMutex", "sync/atomic.AddInt32", "(*internal/sync.Mutex).Unlock", "internal/race.ReleaseMerge", "(*internal/sync.Mutex).unlockSlow", "internal/sync.fatal", "internal/sync.runtime_Semrelease", "sync/atomic.StoreUint32"], unfollowed := true, recurses := true, named := ["math/bits.divideError", "math/bits.overflowError"], apart := false }
def FnAmountsSaid : Prop := fnAmountsRow.holds Try.pinned (OpenSpec.ofChange fnAmountsSpec)

/-- ITS FALSE NEIGHBOUR: 'it returns false'. Refute it at one input. -/
def fnAmountsWrong : ChangeSpec := { name := "fnAmounts", fn := fun _ => fun
  | [d] => { results := [.lit (.bool false)], args := [d] }
  | _ => none }
def FnAmountsWrongFalsely : Prop := fnAmountsRow.holds Try.pinned (OpenSpec.ofChange fnAmountsWrong)

/-- 'laws.FnExactLifeAnnuity': WHATEVER THE INPUT: true; the input reads as it did. -/
def fnExactLifeAnnuitySpec : ChangeSpec := { name := "fnExactLifeAnnuity", fn := fun _ => fun
  | [d1, d2, d3, d4] => { results := [.lit (.bool true)], args := [d1, d2, d3, d4] }
  | _ => none }
def fnExactLifeAnnuityRow : OpenClaim := { program := "ytmcagpcldjopjaa", sum := "78dca52e0ea44f0574b9ccd9c81b1b13c130f7d8ced35bfd0c4a569db0ffd753", func := "loop.example/g01025/laws.FnExactLifeAnnuity", spec := "fnExactLifeAnnuity", inPlace := ["sync/atomic.LoadUint32", "(*internal/sync.Mutex).Lock", "internal/race.Disable", "sync/atomic.CompareAndSwapInt32", "internal/race.Enable", "internal/race.Acquire", "(*internal/sync.Mutex).lockSlow", "internal/sync.runtime_canSpin", "internal/sync.runtime_doSpin", "internal/sync.throw", "internal/sync.runtime_nanotime", "internal/sync.runtime_SemacquireMutex", "sync/atomic.AddInt32", "(*internal/sync.Mutex).Unlock", "internal/race.ReleaseMerge", "(*internal/sync.Mutex).unlockSlow", "internal/sync.fatal", "internal/sync.runtime_Semrelease", "sync/atomic.StoreUint32"], unfollowed := true, recurses := true, named := ["math/bits.divideError", "math/bits.overflowError"], apart := false }
def FnExactLifeAnnuitySaid : Prop := fnExactLifeAnnuityRow.holds Try.pinned (OpenSpec.ofChange fnExactLifeAnnuitySpec)

/-- ITS FALSE NEIGHBOUR: 'it returns false'. Refute it at one input. -/
def fnExactLifeAnnuityWrong : ChangeSpec := { name := "fnExactLifeAnnuity", fn := fun _ => fun
  | [d1, d2, d3, d4] => { results := [.lit (.bool false)], args := [d1, d2, d3, d4] }
  | _ => none }
def FnExactLifeAnnuityWrongFalsely : Prop := fnExactLifeAnnuityRow.holds Try.pinned (OpenSpec.ofChange fnExactLifeAnnuityWrong)

/-- 'laws.FnExactTermAnnuity': WHATEVER THE INPUT: true; the input reads as it did. -/
def fnExactTermAnnuitySpec : ChangeSpec := { name := "fnExactTermAnnuity", fn := fun _ => fun
  | [d1, d2, d3, d4, d5] => { results := [.lit (.bool true)], args := [d1, d2, d3, d4, d5] }
  | _ => none }
def fnExactTermAnnuityRow : OpenClaim := { program := "ytmcagpcldjopjaa", sum := "78dca52e0ea44f0574b9ccd9c81b1b13c130f7d8ced35bfd0c4a569db0ffd753", func := "loop.example/g01025/laws.FnExactTermAnnuity", spec := "fnExactTermAnnuity", inPlace := ["sync/atomic.LoadUint32", "(*internal/sync.Mutex).Lock", "internal/race.Disable", "sync/atomic.CompareAndSwapInt32", "internal/race.Enable", "internal/race.Acquire", "(*internal/sync.Mutex).lockSlow", "internal/sync.runtime_canSpin", "internal/sync.runtime_doSpin", "internal/sync.throw", "internal/sync.runtime_nanotime", "internal/sync.runtime_SemacquireMutex", "sync/atomic.AddInt32", "(*internal/sync.Mutex).Unlock", "internal/race.ReleaseMerge", "(*internal/sync.Mutex).unlockSlow", "internal/sync.fatal", "internal/sync.runtime_Semrelease", "sync/atomic.StoreUint32"], unfollowed := true, recurses := true, named := ["math/bits.divideError", "math/bits.overflowError"], apart := false }
def FnExactTermAnnuitySaid : Prop := fnExactTermAnnuityRow.holds Try.pinned (OpenSpec.ofChange fnExactTermAnnuitySpec)

/-- ITS FALSE NEIGHBOUR: 'it returns false'. Refute it at one input. -/
def fnExactTermAnnuityWrong : ChangeSpec := { name := "fnExactTermAnnuity", fn := fun _ => fun
  | [d1, d2, d3, d4, d5] => { results := [.lit (.bool false)], args := [d1, d2, d3, d4, d5] }
  | _ => none }
def FnExactTermAnnuityWrongFalsely : Prop := fnExactTermAnnuityRow.holds Try.pinned (OpenSpec.ofChange fnExactTermAnnuityWrong)

/-- 'laws.FnExactLateAnnuity': WHATEVER THE INPUT: true; the input reads as it did. -/
def fnExactLateAnnuitySpec : ChangeSpec := { name := "fnExactLateAnnuity", fn := fun _ => fun
  | [d1, d2, d3, d4, d5] => { results := [.lit (.bool true)], args := [d1, d2, d3, d4, d5] }
  | _ => none }
def fnExactLateAnnuityRow : OpenClaim := { program := "ytmcagpcldjopjaa", sum := "78dca52e0ea44f0574b9ccd9c81b1b13c130f7d8ced35bfd0c4a569db0ffd753", func := "loop.example/g01025/laws.FnExactLateAnnuity", spec := "fnExactLateAnnuity", inPlace := ["sync/atomic.LoadUint32", "(*internal/sync.Mutex).Lock", "internal/race.Disable", "sync/atomic.CompareAndSwapInt32", "internal/race.Enable", "internal/race.Acquire", "(*internal/sync.Mutex).lockSlow", "internal/sync.runtime_canSpin", "internal/sync.runtime_doSpin", "internal/sync.throw", "internal/sync.runtime_nanotime", "internal/sync.runtime_SemacquireMutex", "sync/atomic.AddInt32", "(*internal/sync.Mutex).Unlock", "internal/race.ReleaseMerge", "(*internal/sync.Mutex).unlockSlow", "internal/sync.fatal", "internal/sync.runtime_Semrelease", "sync/atomic.StoreUint32"], unfollowed := true, recurses := true, named := ["math/bits.divideError", "math/bits.overflowError"], apart := false }
def FnExactLateAnnuitySaid : Prop := fnExactLateAnnuityRow.holds Try.pinned (OpenSpec.ofChange fnExactLateAnnuitySpec)

/-- ITS FALSE NEIGHBOUR: 'it returns false'. Refute it at one input. -/
def fnExactLateAnnuityWrong : ChangeSpec := { name := "fnExactLateAnnuity", fn := fun _ => fun
  | [d1, d2, d3, d4, d5] => { results := [.lit (.bool false)], args := [d1, d2, d3, d4, d5] }
  | _ => none }
def FnExactLateAnnuityWrongFalsely : Prop := fnExactLateAnnuityRow.holds Try.pinned (OpenSpec.ofChange fnExactLateAnnuityWrong)

/-- 'laws.FnExactSureAnnuity': WHATEVER THE INPUT: true; the input reads as it did. -/
def fnExactSureAnnuitySpec : ChangeSpec := { name := "fnExactSureAnnuity", fn := fun _ => fun
  | [d1, d2, d3, d4, d5] => { results := [.lit (.bool true)], args := [d1, d2, d3, d4, d5] }
  | _ => none }
def fnExactSureAnnuityRow : OpenClaim := { program := "ytmcagpcldjopjaa", sum := "78dca52e0ea44f0574b9ccd9c81b1b13c130f7d8ced35bfd0c4a569db0ffd753", func := "loop.example/g01025/laws.FnExactSureAnnuity", spec := "fnExactSureAnnuity", inPlace := ["sync/atomic.LoadUint32", "(*internal/sync.Mutex).Lock", "internal/race.Disable", "sync/atomic.CompareAndSwapInt32", "internal/race.Enable", "internal/race.Acquire", "(*internal/sync.Mutex).lockSlow", "internal/sync.runtime_canSpin", "internal/sync.runtime_doSpin", "internal/sync.throw", "internal/sync.runtime_nanotime", "internal/sync.runtime_SemacquireMutex", "sync/atomic.AddInt32", "(*internal/sync.Mutex).Unlock", "internal/race.ReleaseMerge", "(*internal/sync.Mutex).unlockSlow", "internal/sync.fatal", "internal/sync.runtime_Semrelease", "sync/atomic.StoreUint32"], unfollowed := true, recurses := true, named := ["math/bits.divideError", "math/bits.overflowError"], apart := false }
def FnExactSureAnnuitySaid : Prop := fnExactSureAnnuityRow.holds Try.pinned (OpenSpec.ofChange fnExactSureAnnuitySpec)

/-- ITS FALSE NEIGHBOUR: 'it returns false'. Refute it at one input. -/
def fnExactSureAnnuityWrong : ChangeSpec := { name := "fnExactSureAnnuity", fn := fun _ => fun
  | [d1, d2, d3, d4, d5] => { results := [.lit (.bool false)], args := [d1, d2, d3, d4, d5] }
  | _ => none }
def FnExactSureAnnuityWrongFalsely : Prop := fnExactSureAnnuityRow.holds Try.pinned (OpenSpec.ofChange fnExactSureAnnuityWrong)

/-- 'laws.FnExactAmountFor': WHATEVER THE INPUT: true; the input reads as it did. -/
def fnExactAmountForSpec : ChangeSpec := { name := "fnExactAmountFor", fn := fun _ => fun
  | [d1, d2, d3, d4] => { results := [.lit (.bool true)], args := [d1, d2, d3, d4] }
  | _ => none }
def fnExactAmountForRow : OpenClaim := { program := "ytmcagpcldjopjaa", sum := "78dca52e0ea44f0574b9ccd9c81b1b13c130f7d8ced35bfd0c4a569db0ffd753", func := "loop.example/g01025/laws.FnExactAmountFor", spec := "fnExactAmountFor", inPlace := ["sync/atomic.LoadUint32", "(*internal/sync.Mutex).Lock", "internal/race.Disable", "sync/atomic.CompareAndSwapInt32", "internal/race.Enable", "internal/race.Acquire", "(*internal/sync.Mutex).lockSlow", "internal/sync.runtime_canSpin", "internal/sync.runtime_doSpin", "internal/sync.throw", "internal/sync.runtime_nanotime", "internal/sync.runtime_SemacquireMutex", "sync/atomic.AddInt32", "(*internal/sync.Mutex).Unlock", "internal/race.ReleaseMerge", "(*internal/sync.Mutex).unlockSlow", "internal/sync.fatal", "internal/sync.runtime_Semrelease", "sync/atomic.StoreUint32"], unfollowed := true, recurses := true, named := ["math/bits.divideError", "math/bits.overflowError"], apart := false }
def FnExactAmountForSaid : Prop := fnExactAmountForRow.holds Try.pinned (OpenSpec.ofChange fnExactAmountForSpec)

/-- ITS FALSE NEIGHBOUR: 'it returns false'. Refute it at one input. -/
def fnExactAmountForWrong : ChangeSpec := { name := "fnExactAmountFor", fn := fun _ => fun
  | [d1, d2, d3, d4] => { results := [.lit (.bool false)], args := [d1, d2, d3, d4] }
  | _ => none }
def FnExactAmountForWrongFalsely : Prop := fnExactAmountForRow.holds Try.pinned (OpenSpec.ofChange fnExactAmountForWrong)

/-- 'laws.FnExactMeanPayments': WHATEVER THE INPUT: true; the input reads as it did. -/
def fnExactMeanPaymentsSpec : ChangeSpec := { name := "fnExactMeanPayments", fn := fun _ => fun
  | [d1, d2] => { results := [.lit (.bool true)], args := [d1, d2] }
  | _ => none }
def fnExactMeanPaymentsRow : OpenClaim := { program := "ytmcagpcldjopjaa", sum := "78dca52e0ea44f0574b9ccd9c81b1b13c130f7d8ced35bfd0c4a569db0ffd753", func := "loop.example/g01025/laws.FnExactMeanPayments", spec := "fnExactMeanPayments", unfollowed := true, recurses := true, apart := false }
def FnExactMeanPaymentsSaid : Prop := fnExactMeanPaymentsRow.holds Try.pinned (OpenSpec.ofChange fnExactMeanPaymentsSpec)

/-- ITS FALSE NEIGHBOUR: 'it returns false'. Refute it at one input. -/
def fnExactMeanPaymentsWrong : ChangeSpec := { name := "fnExactMeanPayments", fn := fun _ => fun
  | [d1, d2] => { results := [.lit (.bool false)], args := [d1, d2] }
  | _ => none }
def FnExactMeanPaymentsWrongFalsely : Prop := fnExactMeanPaymentsRow.holds Try.pinned (OpenSpec.ofChange fnExactMeanPaymentsWrong)

/-- 'laws.FnExactAnnuityPrices': WHATEVER THE INPUT: true; the input reads as it did. -/
def fnExactAnnuityPricesSpec : ChangeSpec := { name := "fnExactAnnuityPrices", fn := fun _ => fun
  | [d1, d2, d3] => { results := [.lit (.bool true)], args := [d1, d2, d3] }
  | _ => none }
def fnExactAnnuityPricesRow : OpenClaim := { program := "ytmcagpcldjopjaa", sum := "78dca52e0ea44f0574b9ccd9c81b1b13c130f7d8ced35bfd0c4a569db0ffd753", func := "loop.example/g01025/laws.FnExactAnnuityPrices", spec := "fnExactAnnuityPrices", inPlace := ["sync/atomic.LoadUint32", "(*internal/sync.Mutex).Lock", "internal/race.Disable", "sync/atomic.CompareAndSwapInt32", "internal/race.Enable", "internal/race.Acquire", "(*internal/sync.Mutex).lockSlow", "internal/sync.runtime_canSpin", "internal/sync.runtime_doSpin", "internal/sync.throw", "internal/sync.runtime_nanotime", "internal/sync.runtime_SemacquireMutex", "sync/atomic.AddInt32", "(*internal/sync.Mutex).Unlock", "internal/race.ReleaseMerge", "(*internal/sync.Mutex).unlockSlow", "internal/sync.fatal", "internal/sync.runtime_Semrelease", "sync/atomic.StoreUint32"], unfollowed := true, recurses := true, named := ["math/bits.divideError", "math/bits.overflowError"], apart := false }
def FnExactAnnuityPricesSaid : Prop := fnExactAnnuityPricesRow.holds Try.pinned (OpenSpec.ofChange fnExactAnnuityPricesSpec)

/-- ITS FALSE NEIGHBOUR: 'it returns false'. Refute it at one input. -/
def fnExactAnnuityPricesWrong : ChangeSpec := { name := "fnExactAnnuityPrices", fn := fun _ => fun
  | [d1, d2, d3] => { results := [.lit (.bool false)], args := [d1, d2, d3] }
  | _ => none }
def FnExactAnnuityPricesWrongFalsely : Prop := fnExactAnnuityPricesRow.holds Try.pinned (OpenSpec.ofChange fnExactAnnuityPricesWrong)

/- THE SECOND FORM. 'bulk': how many values and letters a reading holds, each counted each time it is reached (what is shared counts as often as it is met; a slice's spare places count too). A statement '..UptoSaid' is the law's where the arguments, and the package variables that the reading takes, are together of bulk at most 1048576: NARROWER than '..Said'. Prove '..Said' where nothing that the law and all that it calls make is longer than what came in: it says more and counts as full. Else prove '..UptoSaid'. A law counts once. -/
mutual
def uptoBulk {H : Type} : DataW H → Nat
  | .lit (.string bytes) => bytes.length + 1
  | .lit _ => 1
  | .nil => 1
  | .ptr d => uptoBulk d + 1
  | .slice elems spare => uptoBulkAll elems + uptoBulkAll spare + 1
  | .agg parts => uptoBulkAll parts + 1
  | .iface _ d => uptoBulk d + 1
  | .map entries => uptoBulkEntries entries + 1
  | .held _ => 1
def uptoBulkAll {H : Type} : List (DataW H) → Nat
  | [] => 0
  | d :: r => uptoBulk d + uptoBulkAll r
def uptoBulkEntries {H : Type} : List (Lit × DataW H) → Nat
  | [] => 0
  | x :: r => uptoBulkEntry x + uptoBulkEntries r
def uptoBulkEntry {H : Type} : Lit × DataW H → Nat
  | (.string bytes, d) => bytes.length + uptoBulk d + 1
  | (_, d) => uptoBulk d + 1
 end
def uptoSmall : (H : Type) → List (DataW H) → Bool := fun _ ds => decide (uptoBulkAll ds ≤ 1048576)
def OpenSpec.upto (s : _root_.Go.ChangeSpec) : _root_.Go.OpenSpec := { _root_.Go.OpenSpec.ofChange s with cond := some uptoSmall }

/-- 'laws.FnExpected', WHERE WHAT IT READS IS OF BULK AT MOST 1048576: true; the input reads as it did. -/
def fnExpectedUptoRow : OpenClaim := { program := "ytmcagpcldjopjaa", sum := "78dca52e0ea44f0574b9ccd9c81b1b13c130f7d8ced35bfd0c4a569db0ffd753", func := "loop.example/g01025/laws.FnExpected", spec := "fnExpected", unfollowed := true, recurses := true, apart := false, narrowed := true }
def FnExpectedUptoSaid : Prop := fnExpectedUptoRow.holds Try.pinned (OpenSpec.upto fnExpectedSpec)

/-- 'laws.FnAnnuities', WHERE WHAT IT READS IS OF BULK AT MOST 1048576: true; the input reads as it did. -/
def fnAnnuitiesUptoRow : OpenClaim := { program := "ytmcagpcldjopjaa", sum := "78dca52e0ea44f0574b9ccd9c81b1b13c130f7d8ced35bfd0c4a569db0ffd753", func := "loop.example/g01025/laws.FnAnnuities", spec := "fnAnnuities", inPlace := ["sync/atomic.LoadUint32", "(*internal/sync.Mutex).Lock", "internal/race.Disable", "sync/atomic.CompareAndSwapInt32", "internal/race.Enable", "internal/race.Acquire", "(*internal/sync.Mutex).lockSlow", "internal/sync.runtime_canSpin", "internal/sync.runtime_doSpin", "internal/sync.throw", "internal/sync.runtime_nanotime", "internal/sync.runtime_SemacquireMutex", "sync/atomic.AddInt32", "(*internal/sync.Mutex).Unlock", "internal/race.ReleaseMerge", "(*internal/sync.Mutex).unlockSlow", "internal/sync.fatal", "internal/sync.runtime_Semrelease", "sync/atomic.StoreUint32"], unfollowed := true, recurses := true, named := ["math/bits.divideError", "math/bits.overflowError"], apart := false, narrowed := true }
def FnAnnuitiesUptoSaid : Prop := fnAnnuitiesUptoRow.holds Try.pinned (OpenSpec.upto fnAnnuitiesSpec)

/-- 'laws.FnAmounts', WHERE WHAT IT READS IS OF BULK AT MOST 1048576: true; the input reads as it did. -/
def fnAmountsUptoRow : OpenClaim := { program := "ytmcagpcldjopjaa", sum := "78dca52e0ea44f0574b9ccd9c81b1b13c130f7d8ced35bfd0c4a569db0ffd753", func := "loop.example/g01025/laws.FnAmounts", spec := "fnAmounts", inPlace := ["sync/atomic.LoadUint32", "(*internal/sync.Mutex).Lock", "internal/race.Disable", "sync/atomic.CompareAndSwapInt32", "internal/race.Enable", "internal/race.Acquire", "(*internal/sync.Mutex).lockSlow", "internal/sync.runtime_canSpin", "internal/sync.runtime_doSpin", "internal/sync.throw", "internal/sync.runtime_nanotime", "internal/sync.runtime_SemacquireMutex", "sync/atomic.AddInt32", "(*internal/sync.Mutex).Unlock", "internal/race.ReleaseMerge", "(*internal/sync.Mutex).unlockSlow", "internal/sync.fatal", "internal/sync.runtime_Semrelease", "sync/atomic.StoreUint32"], unfollowed := true, recurses := true, named := ["math/bits.divideError", "math/bits.overflowError"], apart := false, narrowed := true }
def FnAmountsUptoSaid : Prop := fnAmountsUptoRow.holds Try.pinned (OpenSpec.upto fnAmountsSpec)

/-- 'laws.FnExactLifeAnnuity', WHERE WHAT IT READS IS OF BULK AT MOST 1048576: true; the input reads as it did. -/
def fnExactLifeAnnuityUptoRow : OpenClaim := { program := "ytmcagpcldjopjaa", sum := "78dca52e0ea44f0574b9ccd9c81b1b13c130f7d8ced35bfd0c4a569db0ffd753", func := "loop.example/g01025/laws.FnExactLifeAnnuity", spec := "fnExactLifeAnnuity", inPlace := ["sync/atomic.LoadUint32", "(*internal/sync.Mutex).Lock", "internal/race.Disable", "sync/atomic.CompareAndSwapInt32", "internal/race.Enable", "internal/race.Acquire", "(*internal/sync.Mutex).lockSlow", "internal/sync.runtime_canSpin", "internal/sync.runtime_doSpin", "internal/sync.throw", "internal/sync.runtime_nanotime", "internal/sync.runtime_SemacquireMutex", "sync/atomic.AddInt32", "(*internal/sync.Mutex).Unlock", "internal/race.ReleaseMerge", "(*internal/sync.Mutex).unlockSlow", "internal/sync.fatal", "internal/sync.runtime_Semrelease", "sync/atomic.StoreUint32"], unfollowed := true, recurses := true, named := ["math/bits.divideError", "math/bits.overflowError"], apart := false, narrowed := true }
def FnExactLifeAnnuityUptoSaid : Prop := fnExactLifeAnnuityUptoRow.holds Try.pinned (OpenSpec.upto fnExactLifeAnnuitySpec)

/-- 'laws.FnExactTermAnnuity', WHERE WHAT IT READS IS OF BULK AT MOST 1048576: true; the input reads as it did. -/
def fnExactTermAnnuityUptoRow : OpenClaim := { program := "ytmcagpcldjopjaa", sum := "78dca52e0ea44f0574b9ccd9c81b1b13c130f7d8ced35bfd0c4a569db0ffd753", func := "loop.example/g01025/laws.FnExactTermAnnuity", spec := "fnExactTermAnnuity", inPlace := ["sync/atomic.LoadUint32", "(*internal/sync.Mutex).Lock", "internal/race.Disable", "sync/atomic.CompareAndSwapInt32", "internal/race.Enable", "internal/race.Acquire", "(*internal/sync.Mutex).lockSlow", "internal/sync.runtime_canSpin", "internal/sync.runtime_doSpin", "internal/sync.throw", "internal/sync.runtime_nanotime", "internal/sync.runtime_SemacquireMutex", "sync/atomic.AddInt32", "(*internal/sync.Mutex).Unlock", "internal/race.ReleaseMerge", "(*internal/sync.Mutex).unlockSlow", "internal/sync.fatal", "internal/sync.runtime_Semrelease", "sync/atomic.StoreUint32"], unfollowed := true, recurses := true, named := ["math/bits.divideError", "math/bits.overflowError"], apart := false, narrowed := true }
def FnExactTermAnnuityUptoSaid : Prop := fnExactTermAnnuityUptoRow.holds Try.pinned (OpenSpec.upto fnExactTermAnnuitySpec)

/-- 'laws.FnExactLateAnnuity', WHERE WHAT IT READS IS OF BULK AT MOST 1048576: true; the input reads as it did. -/
def fnExactLateAnnuityUptoRow : OpenClaim := { program := "ytmcagpcldjopjaa", sum := "78dca52e0ea44f0574b9ccd9c81b1b13c130f7d8ced35bfd0c4a569db0ffd753", func := "loop.example/g01025/laws.FnExactLateAnnuity", spec := "fnExactLateAnnuity", inPlace := ["sync/atomic.LoadUint32", "(*internal/sync.Mutex).Lock", "internal/race.Disable", "sync/atomic.CompareAndSwapInt32", "internal/race.Enable", "internal/race.Acquire", "(*internal/sync.Mutex).lockSlow", "internal/sync.runtime_canSpin", "internal/sync.runtime_doSpin", "internal/sync.throw", "internal/sync.runtime_nanotime", "internal/sync.runtime_SemacquireMutex", "sync/atomic.AddInt32", "(*internal/sync.Mutex).Unlock", "internal/race.ReleaseMerge", "(*internal/sync.Mutex).unlockSlow", "internal/sync.fatal", "internal/sync.runtime_Semrelease", "sync/atomic.StoreUint32"], unfollowed := true, recurses := true, named := ["math/bits.divideError", "math/bits.overflowError"], apart := false, narrowed := true }
def FnExactLateAnnuityUptoSaid : Prop := fnExactLateAnnuityUptoRow.holds Try.pinned (OpenSpec.upto fnExactLateAnnuitySpec)

/-- 'laws.FnExactSureAnnuity', WHERE WHAT IT READS IS OF BULK AT MOST 1048576: true; the input reads as it did. -/
def fnExactSureAnnuityUptoRow : OpenClaim := { program := "ytmcagpcldjopjaa", sum := "78dca52e0ea44f0574b9ccd9c81b1b13c130f7d8ced35bfd0c4a569db0ffd753", func := "loop.example/g01025/laws.FnExactSureAnnuity", spec := "fnExactSureAnnuity", inPlace := ["sync/atomic.LoadUint32", "(*internal/sync.Mutex).Lock", "internal/race.Disable", "sync/atomic.CompareAndSwapInt32", "internal/race.Enable", "internal/race.Acquire", "(*internal/sync.Mutex).lockSlow", "internal/sync.runtime_canSpin", "internal/sync.runtime_doSpin", "internal/sync.throw", "internal/sync.runtime_nanotime", "internal/sync.runtime_SemacquireMutex", "sync/atomic.AddInt32", "(*internal/sync.Mutex).Unlock", "internal/race.ReleaseMerge", "(*internal/sync.Mutex).unlockSlow", "internal/sync.fatal", "internal/sync.runtime_Semrelease", "sync/atomic.StoreUint32"], unfollowed := true, recurses := true, named := ["math/bits.divideError", "math/bits.overflowError"], apart := false, narrowed := true }
def FnExactSureAnnuityUptoSaid : Prop := fnExactSureAnnuityUptoRow.holds Try.pinned (OpenSpec.upto fnExactSureAnnuitySpec)

/-- 'laws.FnExactAmountFor', WHERE WHAT IT READS IS OF BULK AT MOST 1048576: true; the input reads as it did. -/
def fnExactAmountForUptoRow : OpenClaim := { program := "ytmcagpcldjopjaa", sum := "78dca52e0ea44f0574b9ccd9c81b1b13c130f7d8ced35bfd0c4a569db0ffd753", func := "loop.example/g01025/laws.FnExactAmountFor", spec := "fnExactAmountFor", inPlace := ["sync/atomic.LoadUint32", "(*internal/sync.Mutex).Lock", "internal/race.Disable", "sync/atomic.CompareAndSwapInt32", "internal/race.Enable", "internal/race.Acquire", "(*internal/sync.Mutex).lockSlow", "internal/sync.runtime_canSpin", "internal/sync.runtime_doSpin", "internal/sync.throw", "internal/sync.runtime_nanotime", "internal/sync.runtime_SemacquireMutex", "sync/atomic.AddInt32", "(*internal/sync.Mutex).Unlock", "internal/race.ReleaseMerge", "(*internal/sync.Mutex).unlockSlow", "internal/sync.fatal", "internal/sync.runtime_Semrelease", "sync/atomic.StoreUint32"], unfollowed := true, recurses := true, named := ["math/bits.divideError", "math/bits.overflowError"], apart := false, narrowed := true }
def FnExactAmountForUptoSaid : Prop := fnExactAmountForUptoRow.holds Try.pinned (OpenSpec.upto fnExactAmountForSpec)

/-- 'laws.FnExactMeanPayments', WHERE WHAT IT READS IS OF BULK AT MOST 1048576: true; the input reads as it did. -/
def fnExactMeanPaymentsUptoRow : OpenClaim := { program := "ytmcagpcldjopjaa", sum := "78dca52e0ea44f0574b9ccd9c81b1b13c130f7d8ced35bfd0c4a569db0ffd753", func := "loop.example/g01025/laws.FnExactMeanPayments", spec := "fnExactMeanPayments", unfollowed := true, recurses := true, apart := false, narrowed := true }
def FnExactMeanPaymentsUptoSaid : Prop := fnExactMeanPaymentsUptoRow.holds Try.pinned (OpenSpec.upto fnExactMeanPaymentsSpec)

/-- 'laws.FnExactAnnuityPrices', WHERE WHAT IT READS IS OF BULK AT MOST 1048576: true; the input reads as it did. -/
def fnExactAnnuityPricesUptoRow : OpenClaim := { program := "ytmcagpcldjopjaa", sum := "78dca52e0ea44f0574b9ccd9c81b1b13c130f7d8ced35bfd0c4a569db0ffd753", func := "loop.example/g01025/laws.FnExactAnnuityPrices", spec := "fnExactAnnuityPrices", inPlace := ["sync/atomic.LoadUint32", "(*internal/sync.Mutex).Lock", "internal/race.Disable", "sync/atomic.CompareAndSwapInt32", "internal/race.Enable", "internal/race.Acquire", "(*internal/sync.Mutex).lockSlow", "internal/sync.runtime_canSpin", "internal/sync.runtime_doSpin", "internal/sync.throw", "internal/sync.runtime_nanotime", "internal/sync.runtime_SemacquireMutex", "sync/atomic.AddInt32", "(*internal/sync.Mutex).Unlock", "internal/race.ReleaseMerge", "(*internal/sync.Mutex).unlockSlow", "internal/sync.fatal", "internal/sync.runtime_Semrelease", "sync/atomic.StoreUint32"], unfollowed := true, recurses := true, named := ["math/bits.divideError", "math/bits.overflowError"], apart := false, narrowed := true }
def FnExactAnnuityPricesUptoSaid : Prop := fnExactAnnuityPricesUptoRow.holds Try.pinned (OpenSpec.upto fnExactAnnuityPricesSpec)

end Rows
end Go.Proofs.Ytmcagpcldjopjaa
