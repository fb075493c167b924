/- slices.Clone and the insertion sort of slices at float64, as they lie in this program: the library's contracts applied, in plain words. -/
import Derived.Shelf.SlGeneric
import Derived.Shelf.SlSortCmp.Insertion1
import Derived.Shelf.SlBodiesF
import Derived.Shelf.SlicesE.Clone
import Derived.Test.YtmhfbgcfagfmbaaProg
namespace Go.Proofs
open Go.Shelf
def Try.ins82_ren : Go.Shelf.Ren := ⟨fun | 20 => 82 | n => n, fun | 24 => 45 | 22 => 51 | 3 => 3 | 25 => 62 | 4 => 4 | 0 => 0 | n => n, fun | n => n⟩
theorem Try.ins82 : Go.Proofs.SlLaysF.n20 Try.prog Try.ins82_ren := {
  mixed := by kernel_rfl
  f20 := ⟨Try.f82.name, by decide, Try.func82.trans (congrArg some (by kernel_rfl))⟩
  t0 := Try.underlying0
  a0 := Try.isAgg0
  z0 := Try.sizeOf0
  v0 := Try.zeroValue0
  t3 := Try.underlying3
  a3 := Try.isAgg3
  z3 := Try.sizeOf3
  v3 := Try.zeroValue3
  t4 := Try.underlying4
  a4 := Try.isAgg4
  z4 := Try.sizeOf4
  v4 := Try.zeroValue4
  t22 := Try.underlying51
  a22 := Try.isAgg51
  z22 := Try.sizeOf51
  v22 := Try.zeroValue51
  a24 := Try.isAgg45
  z24 := Try.sizeOf45
  t25 := Try.underlying62
  a25 := Try.isAgg62
  z25 := Try.sizeOf62
  v25 := Try.zeroValue62 }
def Try.clone70_ren : Go.Shelf.Ren := ⟨fun | 41 => 70 | n => n, fun | 22 => 51 | 23 => 45 | 4 => 4 | n => n, fun | n => n⟩
theorem Try.clone70 : Go.Proofs.SlLaysE0.n41 Try.prog Try.clone70_ren := {
  mixed := by kernel_rfl
  f41 := ⟨Try.f70.name, by decide, Try.func70.trans (congrArg some (by kernel_rfl))⟩
  t4 := Try.underlying4
  a4 := Try.isAgg4
  z4 := Try.sizeOf4
  v4 := Try.zeroValue4
  t22 := Try.underlying51
  a22 := Try.isAgg51
  z22 := Try.sizeOf51
  v22 := Try.zeroValue51 }
end Go.Proofs
