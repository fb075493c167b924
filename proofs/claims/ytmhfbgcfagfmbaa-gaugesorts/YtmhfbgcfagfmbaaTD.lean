/- Counts in memory, carried along. -/
import Derived.Test.YtmhfbgcfagfmbaaTC
namespace Go.Proofs.Ytmhfbgcfagfmbaa
open Go.RowKit

/-- Block b holds the count (x, y), also behind one more new block. -/
structure Has (w : World) (b : Nat) (x y : Int) : Prop where
  c0 : w.cell? ⟨b, 0, none⟩ = some (.int .i64 x)
  c1 : w.cell? ⟨b, 1, none⟩ = some (.int .i64 y)
theorem Has.lt {w : World} {b : Nat} {x y : Int} (h : Has w b x y) : b < w.heap.size := World.block_lt_of_cell? w _ h.c0
theorem Has.later {w w2 : World} {b : Nat} {x y : Int} (h : Has w b x y) (B : Below w.heap.size w w2) : Has w2 b x y :=
  ⟨(B.cell (p := ⟨b, 0, none⟩) h.lt).trans h.c0, (B.cell (p := ⟨b, 1, none⟩) h.lt).trans h.c1⟩
theorem Has.alloc {w : World} {b : Nat} {x y : Int} (h : Has w b x y) (o : Obj) : Has (w.alloc o) b x y := h.later below1
theorem Has.new (w : World) (n : Nat) (t : TypeId) (x y : Int) (hn : n = w.heap.size) : Has (w.alloc (.cells #[.int .i64 x, .int .i64 y] t)) n x y := by
  subst hn; exact ⟨by simp [go_sem], by simp [go_sem]⟩
end Go.Proofs.Ytmhfbgcfagfmbaa
