/-
  A product of two words, laid at this program.
-/
import Derived.Shelf.Bits.Mul64
import Derived.Test.YtkkpkcigflikkaaProg
namespace Go.Proofs
open Go.Shelf
def Try.hLaysn212_ren : Go.Shelf.Ren := ⟨fun | 212 => 42 | 263 => 47 | 264 => 48 | n => n, fun | 46 => 72 | 51 => 86 | 53 => 89 | 146 => 87 | 148 => 90 | n => n, fun  | n => n⟩
theorem Try.hLaysn212 : Go.Proofs.Lays.n212 Try.prog Try.hLaysn212_ren := {
  mixed := by kernel_rfl
  f212 := Try.func42.trans (congrArg some (by kernel_rfl))
  f263 := Try.func47.trans (congrArg some (by kernel_rfl))
  f264 := Try.func48.trans (congrArg some (by kernel_rfl))
  t46 := Try.underlying72
  a46 := Try.isAgg72
  z46 := Try.sizeOf72
  v46 := Try.zeroValue72
  t51 := Try.underlying86
  a51 := Try.isAgg86
  z51 := Try.sizeOf86
  v51 := Try.zeroValue86
  t53 := Try.underlying89
  a53 := Try.isAgg89
  z53 := Try.sizeOf89
  v53 := Try.zeroValue89
  t146 := Try.underlying87
  a146 := Try.isAgg87
  z146 := Try.sizeOf87
  v146 := Try.zeroValue87
  t148 := Try.underlying90
  a148 := Try.isAgg90
  z148 := Try.sizeOf90
  v148 := Try.zeroValue90 }
open Go.RowKit in
theorem Try.bits_Mul (x y : Nat) (hx : x < 18446744073709551616) (hy : y < 18446744073709551616) (w : World) :
    Calls Try.prog 42 #[.int .u64 x, .int .u64 y] w fun e w' => e = .returned (.tuple #[.int .u64 ((x * y / 18446744073709551616 : Nat) : Int), .int .u64 ((x * y % 18446744073709551616 : Nat) : Int)]) ∧ w' = w := Any.bits_Mul Try.hLaysn212 x y hx hy w
end Go.Proofs
