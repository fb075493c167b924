/- Contract: the reference's Pad. -/
import Derived.Test.YtbhebkjadgajeaaO7
import Derived.Lib.BufferWrite
namespace Go.Proofs.Ytbhebkjadgajeaa
open Go.RowKit
theorem BRow.cells (w : World) (C : Array Value) (l : List UInt8) (h : C.toList = l.map fun b => Value.int .u8 (b.toNat : Int)) : BRow (w.alloc (.cells C 5)) w.heap.size l := by
  intro j hj
  have hg : (w.alloc (.cells C 5)).heap[w.heap.size]? = some (.cells C 5 (0, 0)) := by
    show (w.heap.push _)[w.heap.size]? = _
    simp
  constructor
  · rw [cell_of_row _ _ j _ _ _ hg, ← Array.getElem?_toList, h, List.getElem?_map, List.getElem?_eq_getElem hj]
    rfl
  · unfold World.frozen?
    simp only [hg]
    simp
theorem copy5 (w : World) (n : Nat) (s : ByteArray) (h : s.size ≤ n) :
    ∃ C, (Builtin.copy_ #[78, 9] 3 #[.slice (some ⟨w.heap.size, 0, none⟩) n n, .string s]).run Try.prog (w.alloc (.cells (Array.replicate n (.int .u8 0)) 5)) = .ok (goInt s.size) (w.alloc (.cells C 5)) ∧
      BRow (w.alloc (.cells C 5)) w.heap.size (s.data.toList ++ List.replicate (n - s.size) 0) := by
  have hg : (w.alloc (.cells (Array.replicate n (.int .u8 0)) 5)).heap[w.heap.size]? = some (.cells (Array.replicate n (.int .u8 0)) 5 (0, 0)) := by
    show (w.heap.push _)[w.heap.size]? = _
    simp
  have := Lib.run_copy_row_string (P := Try.prog) _ 78 9 3 5 w.heap.size 0 n n s _ 5 Try.underlying78 (by kernel_rfl) hg h (by simpa using h)
  rw [World.setRow_alloc_new] at this
  refine ⟨_, this, BRow.cells _ _ _ ?_⟩
  simp [Lib.byteCells]
end Go.Proofs.Ytbhebkjadgajeaa
