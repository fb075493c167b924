/- What the variables hold when a law begins. -/
import Derived.Test.YtgbnmokajaehhaaDoorNC
import Derived.ProofKit
import Derived.OpenShut
import Derived.Deep.DeepHandedRow
import Derived.Lib.LaidTab
import Derived.Lib.LaidU8
import Derived.Stop.LaidErr
import Derived.LaidLaws
import Derived.LaidSub
import Derived.Shelf.Vars
import Derived.Lay
namespace Go.Proofs.YtgbnmokajaehhaaDoor
open Go.ChangeShapes Go.WideShapes Go.ChangeAt Go.RowKit
set_option linter.unusedVariables false
set_option maxRecDepth 100000
/-- The list that each of the seat's rows bears. -/
def laidL : List (String × DataW Unit) := [("math/bits.deBruijn32tab", Rows.laid_math_bits_deBruijn32tab), ("math/bits.deBruijn64tab", Rows.laid_math_bits_deBruijn64tab), ("internal/strconv.uint64pow10", Rows.laid_internal_strconv_uint64pow10), ("unicode/utf8.acceptRanges", Rows.laid_unicode_utf8_acceptRanges), ("strconv.ErrRange", Rows.laid_strconv_ErrRange), ("strconv.ErrSyntax", Rows.laid_strconv_ErrSyntax), ("unicode/utf8.first", Rows.laid_unicode_utf8_first)]
theorem noHandles : (laidL.filter fun x => x.2.handleName?.isSome) = [] := by kernel_rfl
theorem plainL {W : World} (h : laidMetH Tryd.prog laidL W) : laidMet Tryd.prog laidL W := by
  unfold laidMetH at h; rw [noHandles] at h; exact h
theorem g0t : (Tryd.prog.globals[0]?).map (·.type) = some 63 := by kernel_rfl
theorem g1t : (Tryd.prog.globals[1]?).map (·.type) = some 63 := by kernel_rfl
theorem g2t : (Tryd.prog.globals[2]?).map (·.type) = some 117 := by kernel_rfl
theorem starE : "*" ++ "errors.errorString" = "*errors.errorString" := by decide
theorem rowE (u : TypeId) (h : Tryd.prog.typeName? 3 u = some "*errors.errorString") : u = 120 :=
  typeName_ptr_named (nm := "errors.errorString") (by rw [starE]; kernel_rfl) (by kernel_rfl) (by decide) u (by rw [starE]; exact h)
theorem cellsE : Tryd.prog.cellsOf 122 = 1 := by kernel_rfl
theorem cells9 : Tryd.prog.cellsOf 9 = 1 := by kernel_rfl
theorem cells117 : Tryd.prog.cellsOf 117 = 20 := by kernel_rfl
theorem cells34 : Tryd.prog.cellsOf 34 = 1 := by kernel_rfl
theorem nglob : Tryd.prog.globals.size = 8 := by kernel_rfl
theorem row7 : (((begin Tryd.prog (fun _ _ => 0) default).world.heap[7]?).bind Obj.row?).isSome = true := by kernel_rfl
theorem env_of {W : World} (hL : laidMetH Tryd.prog laidL W) (hS : W.ShapedOpen Tryd.prog) : Env W := by
  have h := plainL hL
  have h2 := (h.tail).tail
  have h4 := h2.tail.tail
  have h5 := h4.tail
  obtain ⟨a1, s1, hr, _⟩ := laid_sentinel h4 g1 g1t Tryd.underlying63 rowE Tryd.underlying120 Tryd.underlying122 rfl rfl Tryd.underlying9 cellsE cells9
  obtain ⟨a0, s0, hs, _⟩ := laid_sentinel h5 g0 g0t Tryd.underlying63 rowE Tryd.underlying120 Tryd.underlying122 rfl rfl Tryd.underlying9 cellsE cells9
  have ht : Lib.TabIs Tryd.prog W "internal/strconv.uint64pow10" .u64 Lib.pow10Tab := Lib.tabIs_of_head g2 g2t Tryd.underlying117 Tryd.underlying34 cells34 cells117 h2
  obtain ⟨m, hm⟩ := cell_of_shapedOpen_int (P := Tryd.prog) (g := 3) (t := 3) (zero := #[.int .i64 0]) hS (by rw [nglob]; omega) (by kernel_rfl) rfl (by kernel_rfl) (by kernel_rfl) Tryd.underlying3
  refine ⟨ht, ⟨_, _, hs⟩, ⟨_, _, hr⟩, ⟨m, hm⟩, ?_⟩
  have h7 : ∃ cs, W.heap[7]? = some (.cells cs (((begin Tryd.prog (fun _ _ => 0) default).world.heap[7]?).bind Obj.row? |>.map (·.2) |>.getD 0)) := by
    cases hz : ((begin Tryd.prog (fun _ _ => 0) default).world.heap[7]?).bind Obj.row? with
    | none => have := row7; rw [hz] at this; cases this
    | some p =>
      obtain ⟨cs, hh, _⟩ := hS.1 7 p.1 p.2 (by rw [nglob]; omega) hz
      exact ⟨cs, hh⟩
  obtain ⟨cs, hh⟩ := h7
  rcases Nat.lt_or_ge 7 W.heap.size with hlt | hge
  · omega
  · rw [Array.getElem?_eq_none hge] at hh; cases hh
end Go.Proofs.YtgbnmokajaehhaaDoor
