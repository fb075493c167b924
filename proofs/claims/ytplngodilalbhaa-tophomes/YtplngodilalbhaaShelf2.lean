/- slices.Clone as it lies in this program, at strings and at writes: the library's contract applied, in plain words. -/
import Derived.Shelf.SlGeneric
import Derived.Shelf.SlicesE.Clone
import Derived.Test.YtplngodilalbhaaProg
namespace Go.Proofs
open Go.Shelf
def Try.clone62_ren : Go.Shelf.Ren := ⟨fun | 41 => 62 | n => n, fun | 22 => 49 | 23 => 9 | 4 => 4 | n => n, fun | n => n⟩
theorem Try.clone62 : Go.Proofs.SlLaysE0.n41 Try.prog Try.clone62_ren := {
  mixed := by kernel_rfl
  f41 := ⟨Try.f62.name, by decide, Try.func62.trans (congrArg some (by kernel_rfl))⟩
  t4 := Try.underlying4
  a4 := Try.isAgg4
  z4 := Try.sizeOf4
  v4 := Try.zeroValue4
  t22 := Try.underlying49
  a22 := Try.isAgg49
  z22 := Try.sizeOf49
  v22 := Try.zeroValue49 }
def Try.clone67_ren : Go.Shelf.Ren := ⟨fun | 41 => 67 | n => n, fun | 22 => 93 | 23 => 107 | 4 => 4 | n => n, fun | n => n⟩
theorem Try.clone67 : Go.Proofs.SlLaysE0.n41 Try.prog Try.clone67_ren := {
  mixed := by kernel_rfl
  f41 := ⟨Try.f67.name, by decide, Try.func67.trans (congrArg some (by kernel_rfl))⟩
  t4 := Try.underlying4
  a4 := Try.isAgg4
  z4 := Try.sizeOf4
  v4 := Try.zeroValue4
  t22 := Try.underlying93
  a22 := Try.isAgg93
  z22 := Try.sizeOf93
  v22 := Try.zeroValue93 }
end Go.Proofs
