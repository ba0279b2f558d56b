/- Numbers of 128 bits: products, differences, quotients rounded down. -/
import Derived.Test.YtnclncglmnbelaaMdD
import Derived.Test.YtnclncglmnbelaaBxs
import Derived.Test.YtnclncglmnbelaaRvn
import Derived.Shelf.Spec.BitsCarry
import Derived.Laws.Bits64
namespace Go.Proofs.Ytnclncglmnbelaa
open Go.ChangeShapes Go.WideShapes Go.ChangeAt Go.RowKit
set_option linter.unusedVariables false
set_option maxRecDepth 100000

/-- the borrow -/
def borW (x y : Int) : Int := if x < y then 1 else 0

/-- a number of 128 bits: its two words -/
def hiW (N : Int) : Int := N / 18446744073709551616 % 18446744073709551616

def loW (N : Int) : Int := N % 18446744073709551616

def wdV (N : Int) : Value := .agg #[.int .u64 (hiW N), .int .u64 (loW N)]

theorem minus_lo (A B : Int) : (loW A - loW B) % 18446744073709551616 = loW (A - B) := by unfold loW; omega

theorem minus_hi (A B : Int) : (hiW A - hiW B - borW (loW A) (loW B)) % 18446744073709551616 = hiW (A - B) := by
  unfold hiW loW borW
  split <;> omega

theorem nat_not (H : Nat) (h : H < 18446744073709551616) : 18446744073709551615 ^^^ H = 18446744073709551615 - H := by
  have h1 : ((BitVec.allOnes 64) ^^^ (BitVec.ofNat 64 H)).toNat = 18446744073709551615 ^^^ H := by
    rw [BitVec.toNat_xor, BitVec.toNat_allOnes, BitVec.toNat_ofNat, Nat.mod_eq_of_lt (by omega)]
  rw [← h1, BitVec.allOnes_xor, BitVec.toNat_not, BitVec.toNat_ofNat, Nat.mod_eq_of_lt (by omega)]

theorem u64_not (H : Int) (h0 : 0 ≤ H) (h1 : H < 18446744073709551616) : bits .xor .u64 IntKind.u64.max H = 18446744073709551615 - H := by
  obtain ⟨n, rfl⟩ := Int.eq_ofNat_of_zero_le h0
  have e : IntKind.u64.max = ((18446744073709551615 : Nat) : Int) := rfl
  rw [e, bits_xor_u64_nat 18446744073709551615 n (by omega) (by omega), nat_not n (by omega)]
  omega

end Go.Proofs.Ytnclncglmnbelaa
