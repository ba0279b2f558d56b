/-
  No cell of these rows narrows 'for every input' (looked for: loops, veiled, ifaces, maps, wideKeys, modest, calm, conditions, laid).
  DERIVED. THE GIVEN ROWS OF THIS SEAT. 8 by the template 'for every input the law returns true; each argument reads behind the call as it read before'; 0 by the template 'total and deterministic' (their statements: YtlcmgihaelgclaaTotals.lean).
  GIVEN WITH THE SEED: the statements are not yours to turn. If you find one false, say at which input.
  Laid BY PROGRAM, IN A SANDBOX (cutbox-rows.mjs): the forced cells as the released guide's own fill.sh prints them over the translation de0e0e1746d0f169… (all of the seat's roots in one cut). By AI agents, Wed Nov 11 2026. No macro, syntax, notation, axiom, sorry.
-/
import Derived.Test.YtlcmgihaelgclaaChecked
import GoSem.Claim
import GoSem.ClaimJoined
import GoSem.ClaimMapViews
import Derived.JoinedTies
import Derived.KernelRfl
namespace Go.Proofs.Ytlcmgihaelgclaa
/- THE CELL 'sum', in the pinned program and in every row, IS THE sha256 OF THE DUMP (.gsa) THAT YtlcmgihaelgclaaProg.lean LOADS. Nothing in Lean hashes anything: it is a label: what it is worth is what the hold of that sum in a sandbox is worth. -/
noncomputable def Try.pinned : Pinned := { name := "ytlcmgihaelgclaa", sum := "de0e0e1746d0f16931cdefdbb6c6438462ebb31376f3eb8fb7cc8a98aeb45c1c", checked := Try.checked }
namespace Rows
def none {H : Type} : Left H := { results := [], args := [] }

/-- 'laws.FnJoint': WHATEVER THE INPUT: true; the input reads as it did. -/
def fnJointSpec : ChangeSpec := { name := "fnJoint", fn := fun _ => fun
  | [d] => { results := [.lit (.bool true)], args := [d] }
  | _ => none }
def fnJointRow : OpenClaim := { program := "ytlcmgihaelgclaa", sum := "de0e0e1746d0f16931cdefdbb6c6438462ebb31376f3eb8fb7cc8a98aeb45c1c", func := "loop.example/g01025/laws.FnJoint", spec := "fnJoint", unfollowed := true, recurses := true, apart := false }
def FnJointSaid : Prop := fnJointRow.holds Try.pinned (OpenSpec.ofChange fnJointSpec)

/-- ITS FALSE NEIGHBOUR: 'it returns false'. Refute it at one input. -/
def fnJointWrong : ChangeSpec := { name := "fnJoint", fn := fun _ => fun
  | [d] => { results := [.lit (.bool false)], args := [d] }
  | _ => none }
def FnJointWrongFalsely : Prop := fnJointRow.holds Try.pinned (OpenSpec.ofChange fnJointWrong)

/-- 'laws.FnExactJointTable': WHATEVER THE INPUT: true; the input reads as it did. -/
def fnExactJointTableSpec : ChangeSpec := { name := "fnExactJointTable", fn := fun _ => fun
  | [d1, d2, d3, d4] => { results := [.lit (.bool true)], args := [d1, d2, d3, d4] }
  | _ => none }
def fnExactJointTableRow : OpenClaim := { program := "ytlcmgihaelgclaa", sum := "de0e0e1746d0f16931cdefdbb6c6438462ebb31376f3eb8fb7cc8a98aeb45c1c", func := "loop.example/g01025/laws.FnExactJointTable", spec := "fnExactJointTable", unfollowed := true, recurses := true, apart := false }
def FnExactJointTableSaid : Prop := fnExactJointTableRow.holds Try.pinned (OpenSpec.ofChange fnExactJointTableSpec)

/-- ITS FALSE NEIGHBOUR: 'it returns false'. Refute it at one input. -/
def fnExactJointTableWrong : ChangeSpec := { name := "fnExactJointTable", fn := fun _ => fun
  | [d1, d2, d3, d4] => { results := [.lit (.bool false)], args := [d1, d2, d3, d4] }
  | _ => none }
def FnExactJointTableWrongFalsely : Prop := fnExactJointTableRow.holds Try.pinned (OpenSpec.ofChange fnExactJointTableWrong)

/-- 'laws.FnExactBothAlive': WHATEVER THE INPUT: true; the input reads as it did. -/
def fnExactBothAliveSpec : ChangeSpec := { name := "fnExactBothAlive", fn := fun _ => fun
  | [d1, d2, d3, d4, d5] => { results := [.lit (.bool true)], args := [d1, d2, d3, d4, d5] }
  | _ => none }
def fnExactBothAliveRow : OpenClaim := { program := "ytlcmgihaelgclaa", sum := "de0e0e1746d0f16931cdefdbb6c6438462ebb31376f3eb8fb7cc8a98aeb45c1c", func := "loop.example/g01025/laws.FnExactBothAlive", spec := "fnExactBothAlive", unfollowed := true, recurses := true, apart := false }
def FnExactBothAliveSaid : Prop := fnExactBothAliveRow.holds Try.pinned (OpenSpec.ofChange fnExactBothAliveSpec)

/-- ITS FALSE NEIGHBOUR: 'it returns false'. Refute it at one input. -/
def fnExactBothAliveWrong : ChangeSpec := { name := "fnExactBothAlive", fn := fun _ => fun
  | [d1, d2, d3, d4, d5] => { results := [.lit (.bool false)], args := [d1, d2, d3, d4, d5] }
  | _ => none }
def FnExactBothAliveWrongFalsely : Prop := fnExactBothAliveRow.holds Try.pinned (OpenSpec.ofChange fnExactBothAliveWrong)

/-- 'laws.FnExactOneAlive': WHATEVER THE INPUT: true; the input reads as it did. -/
def fnExactOneAliveSpec : ChangeSpec := { name := "fnExactOneAlive", fn := fun _ => fun
  | [d1, d2, d3, d4, d5] => { results := [.lit (.bool true)], args := [d1, d2, d3, d4, d5] }
  | _ => none }
def fnExactOneAliveRow : OpenClaim := { program := "ytlcmgihaelgclaa", sum := "de0e0e1746d0f16931cdefdbb6c6438462ebb31376f3eb8fb7cc8a98aeb45c1c", func := "loop.example/g01025/laws.FnExactOneAlive", spec := "fnExactOneAlive", unfollowed := true, recurses := true, apart := false }
def FnExactOneAliveSaid : Prop := fnExactOneAliveRow.holds Try.pinned (OpenSpec.ofChange fnExactOneAliveSpec)

/-- ITS FALSE NEIGHBOUR: 'it returns false'. Refute it at one input. -/
def fnExactOneAliveWrong : ChangeSpec := { name := "fnExactOneAlive", fn := fun _ => fun
  | [d1, d2, d3, d4, d5] => { results := [.lit (.bool false)], args := [d1, d2, d3, d4, d5] }
  | _ => none }
def FnExactOneAliveWrongFalsely : Prop := fnExactOneAliveRow.holds Try.pinned (OpenSpec.ofChange fnExactOneAliveWrong)

/-- 'laws.FnExactJointAnnuity': WHATEVER THE INPUT: true; the input reads as it did. -/
def fnExactJointAnnuitySpec : ChangeSpec := { name := "fnExactJointAnnuity", fn := fun _ => fun
  | [d1, d2, d3, d4, d5, d6] => { results := [.lit (.bool true)], args := [d1, d2, d3, d4, d5, d6] }
  | _ => none }
def fnExactJointAnnuityRow : OpenClaim := { program := "ytlcmgihaelgclaa", sum := "de0e0e1746d0f16931cdefdbb6c6438462ebb31376f3eb8fb7cc8a98aeb45c1c", func := "loop.example/g01025/laws.FnExactJointAnnuity", spec := "fnExactJointAnnuity", inPlace := ["sync/atomic.LoadUint32", "(*internal/sync.Mutex).Lock", "internal/race.Disable", "sync/atomic.CompareAndSwapInt32", "internal/race.Enable", "internal/race.Acquire", "(*internal/sync.Mutex).lockSlow", "internal/sync.runtime_canSpin", "internal/sync.runtime_doSpin", "internal/sync.throw", "internal/sync.runtime_nanotime", "internal/sync.runtime_SemacquireMutex", "sync/atomic.AddInt32", "(*internal/sync.Mutex).Unlock", "internal/race.ReleaseMerge", "(*internal/sync.Mutex).unlockSlow", "internal/sync.fatal", "internal/sync.runtime_Semrelease", "sync/atomic.StoreUint32"], unfollowed := true, recurses := true, named := ["math/bits.divideError", "math/bits.overflowError"], apart := false }
def FnExactJointAnnuitySaid : Prop := fnExactJointAnnuityRow.holds Try.pinned (OpenSpec.ofChange fnExactJointAnnuitySpec)

/-- ITS FALSE NEIGHBOUR: 'it returns false'. Refute it at one input. -/
def fnExactJointAnnuityWrong : ChangeSpec := { name := "fnExactJointAnnuity", fn := fun _ => fun
  | [d1, d2, d3, d4, d5, d6] => { results := [.lit (.bool false)], args := [d1, d2, d3, d4, d5, d6] }
  | _ => none }
def FnExactJointAnnuityWrongFalsely : Prop := fnExactJointAnnuityRow.holds Try.pinned (OpenSpec.ofChange fnExactJointAnnuityWrong)

/-- 'laws.FnExactWidowAnnuity': WHATEVER THE INPUT: true; the input reads as it did. -/
def fnExactWidowAnnuitySpec : ChangeSpec := { name := "fnExactWidowAnnuity", fn := fun _ => fun
  | [d1, d2, d3, d4, d5, d6] => { results := [.lit (.bool true)], args := [d1, d2, d3, d4, d5, d6] }
  | _ => none }
def fnExactWidowAnnuityRow : OpenClaim := { program := "ytlcmgihaelgclaa", sum := "de0e0e1746d0f16931cdefdbb6c6438462ebb31376f3eb8fb7cc8a98aeb45c1c", func := "loop.example/g01025/laws.FnExactWidowAnnuity", spec := "fnExactWidowAnnuity", inPlace := ["sync/atomic.LoadUint32", "(*internal/sync.Mutex).Lock", "internal/race.Disable", "sync/atomic.CompareAndSwapInt32", "internal/race.Enable", "internal/race.Acquire", "(*internal/sync.Mutex).lockSlow", "internal/sync.runtime_canSpin", "internal/sync.runtime_doSpin", "internal/sync.throw", "internal/sync.runtime_nanotime", "internal/sync.runtime_SemacquireMutex", "sync/atomic.AddInt32", "(*internal/sync.Mutex).Unlock", "internal/race.ReleaseMerge", "(*internal/sync.Mutex).unlockSlow", "internal/sync.fatal", "internal/sync.runtime_Semrelease", "sync/atomic.StoreUint32"], unfollowed := true, recurses := true, named := ["math/bits.divideError", "math/bits.overflowError"], apart := false }
def FnExactWidowAnnuitySaid : Prop := fnExactWidowAnnuityRow.holds Try.pinned (OpenSpec.ofChange fnExactWidowAnnuitySpec)

/-- ITS FALSE NEIGHBOUR: 'it returns false'. Refute it at one input. -/
def fnExactWidowAnnuityWrong : ChangeSpec := { name := "fnExactWidowAnnuity", fn := fun _ => fun
  | [d1, d2, d3, d4, d5, d6] => { results := [.lit (.bool false)], args := [d1, d2, d3, d4, d5, d6] }
  | _ => none }
def FnExactWidowAnnuityWrongFalsely : Prop := fnExactWidowAnnuityRow.holds Try.pinned (OpenSpec.ofChange fnExactWidowAnnuityWrong)

/-- 'laws.FnExactLastAnnuity': WHATEVER THE INPUT: true; the input reads as it did. -/
def fnExactLastAnnuitySpec : ChangeSpec := { name := "fnExactLastAnnuity", fn := fun _ => fun
  | [d1, d2, d3, d4, d5, d6] => { results := [.lit (.bool true)], args := [d1, d2, d3, d4, d5, d6] }
  | _ => none }
def fnExactLastAnnuityRow : OpenClaim := { program := "ytlcmgihaelgclaa", sum := "de0e0e1746d0f16931cdefdbb6c6438462ebb31376f3eb8fb7cc8a98aeb45c1c", func := "loop.example/g01025/laws.FnExactLastAnnuity", spec := "fnExactLastAnnuity", inPlace := ["sync/atomic.LoadUint32", "(*internal/sync.Mutex).Lock", "internal/race.Disable", "sync/atomic.CompareAndSwapInt32", "internal/race.Enable", "internal/race.Acquire", "(*internal/sync.Mutex).lockSlow", "internal/sync.runtime_canSpin", "internal/sync.runtime_doSpin", "internal/sync.throw", "internal/sync.runtime_nanotime", "internal/sync.runtime_SemacquireMutex", "sync/atomic.AddInt32", "(*internal/sync.Mutex).Unlock", "internal/race.ReleaseMerge", "(*internal/sync.Mutex).unlockSlow", "internal/sync.fatal", "internal/sync.runtime_Semrelease", "sync/atomic.StoreUint32"], unfollowed := true, recurses := true, named := ["math/bits.divideError", "math/bits.overflowError"], apart := false }
def FnExactLastAnnuitySaid : Prop := fnExactLastAnnuityRow.holds Try.pinned (OpenSpec.ofChange fnExactLastAnnuitySpec)

/-- ITS FALSE NEIGHBOUR: 'it returns false'. Refute it at one input. -/
def fnExactLastAnnuityWrong : ChangeSpec := { name := "fnExactLastAnnuity", fn := fun _ => fun
  | [d1, d2, d3, d4, d5, d6] => { results := [.lit (.bool false)], args := [d1, d2, d3, d4, d5, d6] }
  | _ => none }
def FnExactLastAnnuityWrongFalsely : Prop := fnExactLastAnnuityRow.holds Try.pinned (OpenSpec.ofChange fnExactLastAnnuityWrong)

/-- 'laws.FnExactWidowYears': WHATEVER THE INPUT: true; the input reads as it did. -/
def fnExactWidowYearsSpec : ChangeSpec := { name := "fnExactWidowYears", fn := fun _ => fun
  | [d1, d2, d3, d4] => { results := [.lit (.bool true)], args := [d1, d2, d3, d4] }
  | _ => none }
def fnExactWidowYearsRow : OpenClaim := { program := "ytlcmgihaelgclaa", sum := "de0e0e1746d0f16931cdefdbb6c6438462ebb31376f3eb8fb7cc8a98aeb45c1c", func := "loop.example/g01025/laws.FnExactWidowYears", spec := "fnExactWidowYears", unfollowed := true, recurses := true, apart := false }
def FnExactWidowYearsSaid : Prop := fnExactWidowYearsRow.holds Try.pinned (OpenSpec.ofChange fnExactWidowYearsSpec)

/-- ITS FALSE NEIGHBOUR: 'it returns false'. Refute it at one input. -/
def fnExactWidowYearsWrong : ChangeSpec := { name := "fnExactWidowYears", fn := fun _ => fun
  | [d1, d2, d3, d4] => { results := [.lit (.bool false)], args := [d1, d2, d3, d4] }
  | _ => none }
def FnExactWidowYearsWrongFalsely : Prop := fnExactWidowYearsRow.holds Try.pinned (OpenSpec.ofChange fnExactWidowYearsWrong)

/- THE SECOND FORM. 'bulk': how many values and letters a reading holds, each counted each time it is reached (what is shared counts as often as it is met; a slice's spare places count too). A statement '..UptoSaid' is the law's where the arguments, and the package variables that the reading takes, are together of bulk at most 1048576: NARROWER than '..Said'. Prove '..Said' where nothing that the law and all that it calls make is longer than what came in: it says more and counts as full. Else prove '..UptoSaid'. A law counts once. -/
mutual
def uptoBulk {H : Type} : DataW H → Nat
  | .lit (.string bytes) => bytes.length + 1
  | .lit _ => 1
  | .nil => 1
  | .ptr d => uptoBulk d + 1
  | .slice elems spare => uptoBulkAll elems + uptoBulkAll spare + 1
  | .agg parts => uptoBulkAll parts + 1
  | .iface _ d => uptoBulk d + 1
  | .map entries => uptoBulkEntries entries + 1
  | .held _ => 1
def uptoBulkAll {H : Type} : List (DataW H) → Nat
  | [] => 0
  | d :: r => uptoBulk d + uptoBulkAll r
def uptoBulkEntries {H : Type} : List (Lit × DataW H) → Nat
  | [] => 0
  | x :: r => uptoBulkEntry x + uptoBulkEntries r
def uptoBulkEntry {H : Type} : Lit × DataW H → Nat
  | (.string bytes, d) => bytes.length + uptoBulk d + 1
  | (_, d) => uptoBulk d + 1
 end
def uptoSmall : (H : Type) → List (DataW H) → Bool := fun _ ds => decide (uptoBulkAll ds ≤ 1048576)
def OpenSpec.upto (s : _root_.Go.ChangeSpec) : _root_.Go.OpenSpec := { _root_.Go.OpenSpec.ofChange s with cond := some uptoSmall }

/-- 'laws.FnJoint', WHERE WHAT IT READS IS OF BULK AT MOST 1048576: true; the input reads as it did. -/
def fnJointUptoRow : OpenClaim := { program := "ytlcmgihaelgclaa", sum := "de0e0e1746d0f16931cdefdbb6c6438462ebb31376f3eb8fb7cc8a98aeb45c1c", func := "loop.example/g01025/laws.FnJoint", spec := "fnJoint", unfollowed := true, recurses := true, apart := false, narrowed := true }
def FnJointUptoSaid : Prop := fnJointUptoRow.holds Try.pinned (OpenSpec.upto fnJointSpec)

/-- 'laws.FnExactJointTable', WHERE WHAT IT READS IS OF BULK AT MOST 1048576: true; the input reads as it did. -/
def fnExactJointTableUptoRow : OpenClaim := { program := "ytlcmgihaelgclaa", sum := "de0e0e1746d0f16931cdefdbb6c6438462ebb31376f3eb8fb7cc8a98aeb45c1c", func := "loop.example/g01025/laws.FnExactJointTable", spec := "fnExactJointTable", unfollowed := true, recurses := true, apart := false, narrowed := true }
def FnExactJointTableUptoSaid : Prop := fnExactJointTableUptoRow.holds Try.pinned (OpenSpec.upto fnExactJointTableSpec)

/-- 'laws.FnExactBothAlive', WHERE WHAT IT READS IS OF BULK AT MOST 1048576: true; the input reads as it did. -/
def fnExactBothAliveUptoRow : OpenClaim := { program := "ytlcmgihaelgclaa", sum := "de0e0e1746d0f16931cdefdbb6c6438462ebb31376f3eb8fb7cc8a98aeb45c1c", func := "loop.example/g01025/laws.FnExactBothAlive", spec := "fnExactBothAlive", unfollowed := true, recurses := true, apart := false, narrowed := true }
def FnExactBothAliveUptoSaid : Prop := fnExactBothAliveUptoRow.holds Try.pinned (OpenSpec.upto fnExactBothAliveSpec)

/-- 'laws.FnExactOneAlive', WHERE WHAT IT READS IS OF BULK AT MOST 1048576: true; the input reads as it did. -/
def fnExactOneAliveUptoRow : OpenClaim := { program := "ytlcmgihaelgclaa", sum := "de0e0e1746d0f16931cdefdbb6c6438462ebb31376f3eb8fb7cc8a98aeb45c1c", func := "loop.example/g01025/laws.FnExactOneAlive", spec := "fnExactOneAlive", unfollowed := true, recurses := true, apart := false, narrowed := true }
def FnExactOneAliveUptoSaid : Prop := fnExactOneAliveUptoRow.holds Try.pinned (OpenSpec.upto fnExactOneAliveSpec)

/-- 'laws.FnExactJointAnnuity', WHERE WHAT IT READS IS OF BULK AT MOST 1048576: true; the input reads as it did. -/
def fnExactJointAnnuityUptoRow : OpenClaim := { program := "ytlcmgihaelgclaa", sum := "de0e0e1746d0f16931cdefdbb6c6438462ebb31376f3eb8fb7cc8a98aeb45c1c", func := "loop.example/g01025/laws.FnExactJointAnnuity", spec := "fnExactJointAnnuity", inPlace := ["sync/atomic.LoadUint32", "(*internal/sync.Mutex).Lock", "internal/race.Disable", "sync/atomic.CompareAndSwapInt32", "internal/race.Enable", "internal/race.Acquire", "(*internal/sync.Mutex).lockSlow", "internal/sync.runtime_canSpin", "internal/sync.runtime_doSpin", "internal/sync.throw", "internal/sync.runtime_nanotime", "internal/sync.runtime_SemacquireMutex", "sync/atomic.AddInt32", "(*internal/sync.Mutex).Unlock", "internal/race.ReleaseMerge", "(*internal/sync.Mutex).unlockSlow", "internal/sync.fatal", "internal/sync.runtime_Semrelease", "sync/atomic.StoreUint32"], unfollowed := true, recurses := true, named := ["math/bits.divideError", "math/bits.overflowError"], apart := false, narrowed := true }
def FnExactJointAnnuityUptoSaid : Prop := fnExactJointAnnuityUptoRow.holds Try.pinned (OpenSpec.upto fnExactJointAnnuitySpec)

/-- 'laws.FnExactWidowAnnuity', WHERE WHAT IT READS IS OF BULK AT MOST 1048576: true; the input reads as it did. -/
def fnExactWidowAnnuityUptoRow : OpenClaim := { program := "ytlcmgihaelgclaa", sum := "de0e0e1746d0f16931cdefdbb6c6438462ebb31376f3eb8fb7cc8a98aeb45c1c", func := "loop.example/g01025/laws.FnExactWidowAnnuity", spec := "fnExactWidowAnnuity", inPlace := ["sync/atomic.LoadUint32", "(*internal/sync.Mutex).Lock", "internal/race.Disable", "sync/atomic.CompareAndSwapInt32", "internal/race.Enable", "internal/race.Acquire", "(*internal/sync.Mutex).lockSlow", "internal/sync.runtime_canSpin", "internal/sync.runtime_doSpin", "internal/sync.throw", "internal/sync.runtime_nanotime", "internal/sync.runtime_SemacquireMutex", "sync/atomic.AddInt32", "(*internal/sync.Mutex).Unlock", "internal/race.ReleaseMerge", "(*internal/sync.Mutex).unlockSlow", "internal/sync.fatal", "internal/sync.runtime_Semrelease", "sync/atomic.StoreUint32"], unfollowed := true, recurses := true, named := ["math/bits.divideError", "math/bits.overflowError"], apart := false, narrowed := true }
def FnExactWidowAnnuityUptoSaid : Prop := fnExactWidowAnnuityUptoRow.holds Try.pinned (OpenSpec.upto fnExactWidowAnnuitySpec)

/-- 'laws.FnExactLastAnnuity', WHERE WHAT IT READS IS OF BULK AT MOST 1048576: true; the input reads as it did. -/
def fnExactLastAnnuityUptoRow : OpenClaim := { program := "ytlcmgihaelgclaa", sum := "de0e0e1746d0f16931cdefdbb6c6438462ebb31376f3eb8fb7cc8a98aeb45c1c", func := "loop.example/g01025/laws.FnExactLastAnnuity", spec := "fnExactLastAnnuity", inPlace := ["sync/atomic.LoadUint32", "(*internal/sync.Mutex).Lock", "internal/race.Disable", "sync/atomic.CompareAndSwapInt32", "internal/race.Enable", "internal/race.Acquire", "(*internal/sync.Mutex).lockSlow", "internal/sync.runtime_canSpin", "internal/sync.runtime_doSpin", "internal/sync.throw", "internal/sync.runtime_nanotime", "internal/sync.runtime_SemacquireMutex", "sync/atomic.AddInt32", "(*internal/sync.Mutex).Unlock", "internal/race.ReleaseMerge", "(*internal/sync.Mutex).unlockSlow", "internal/sync.fatal", "internal/sync.runtime_Semrelease", "sync/atomic.StoreUint32"], unfollowed := true, recurses := true, named := ["math/bits.divideError", "math/bits.overflowError"], apart := false, narrowed := true }
def FnExactLastAnnuityUptoSaid : Prop := fnExactLastAnnuityUptoRow.holds Try.pinned (OpenSpec.upto fnExactLastAnnuitySpec)

/-- 'laws.FnExactWidowYears', WHERE WHAT IT READS IS OF BULK AT MOST 1048576: true; the input reads as it did. -/
def fnExactWidowYearsUptoRow : OpenClaim := { program := "ytlcmgihaelgclaa", sum := "de0e0e1746d0f16931cdefdbb6c6438462ebb31376f3eb8fb7cc8a98aeb45c1c", func := "loop.example/g01025/laws.FnExactWidowYears", spec := "fnExactWidowYears", unfollowed := true, recurses := true, apart := false, narrowed := true }
def FnExactWidowYearsUptoSaid : Prop := fnExactWidowYearsUptoRow.holds Try.pinned (OpenSpec.upto fnExactWidowYearsSpec)

end Rows
end Go.Proofs.Ytlcmgihaelgclaa
