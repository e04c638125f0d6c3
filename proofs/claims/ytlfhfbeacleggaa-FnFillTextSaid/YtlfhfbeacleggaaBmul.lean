/- Where math/bits.Mul stands in this program: the numbers alone. -/
import Derived.Shelf.Bits.Mul64
import Derived.Test.YtlfhfbeacleggaaFrame
namespace Go.Proofs
open Go.Shelf
open Go.ChangeShapes Go.WideShapes Go.ChangeAt
def Try.lays264_ren : Go.Shelf.Ren := ⟨fun | 264 => 194 | n => n, fun | 53 => 224 | 46 => 177 | n => n, fun | n => n⟩
theorem Try.lays264 : Go.Proofs.Lays.n264 Try.prog Try.lays264_ren := {
  mixed := by kernel_rfl
  f264 := Try.func194.trans (congrArg some (by kernel_rfl))
  t46 := Try.underlying177
  a46 := Try.isAgg177
  z46 := Try.sizeOf177
  v46 := Try.zeroValue177
  t53 := Try.underlying224
  a53 := Try.isAgg224
  z53 := Try.sizeOf224
  v53 := Try.zeroValue224 }
open Go.RowKit Go.Lib in
theorem Try.bits_Mul64 (x y : Nat) (hx : x < 18446744073709551616) (hy : y < 18446744073709551616) (w : World) :
    Calls Try.prog 194 #[.int .u64 x, .int .u64 y] w fun e w' => e = .returned (.tuple #[.int .u64 ((x * y / 18446744073709551616 : Nat) : Int), .int .u64 ((x * y % 18446744073709551616 : Nat) : Int)]) ∧ w' = w := Any.bits_Mul64 Try.lays264 x y hx hy w
def Try.lays212_ren : Go.Shelf.Ren := ⟨fun | 212 => 148 | 263 => 193 | 264 => 194 | n => n, fun | 46 => 177 | 51 => 221 | 146 => 222 | 53 => 224 | 148 => 225 | n => n, fun | n => n⟩
theorem Try.lays212 : Go.Proofs.Lays.n212 Try.prog Try.lays212_ren := {
  mixed := by kernel_rfl
  f212 := Try.func148.trans (congrArg some (by kernel_rfl))
  f263 := Try.func193.trans (congrArg some (by kernel_rfl))
  f264 := Try.func194.trans (congrArg some (by kernel_rfl))
  t46 := Try.underlying177
  a46 := Try.isAgg177
  z46 := Try.sizeOf177
  v46 := Try.zeroValue177
  t51 := Try.underlying221
  a51 := Try.isAgg221
  z51 := Try.sizeOf221
  v51 := Try.zeroValue221
  t53 := Try.underlying224
  a53 := Try.isAgg224
  z53 := Try.sizeOf224
  v53 := Try.zeroValue224
  t146 := Try.underlying222
  a146 := Try.isAgg222
  z146 := Try.sizeOf222
  v146 := Try.zeroValue222
  t148 := Try.underlying225
  a148 := Try.isAgg225
  z148 := Try.sizeOf225
  v148 := Try.zeroValue225 }
open Go.RowKit Go.Lib in
theorem Try.bits_Mul (x y : Nat) (hx : x < 18446744073709551616) (hy : y < 18446744073709551616) (w : World) :
    Calls Try.prog 148 #[.int .u64 x, .int .u64 y] w fun e w' => e = .returned (.tuple #[.int .u64 ((x * y / 18446744073709551616 : Nat) : Int), .int .u64 ((x * y % 18446744073709551616 : Nat) : Int)]) ∧ w' = w := Any.bits_Mul Try.lays212 x y hx hy w
end Go.Proofs
