/- Contracts: the reference's reader: Raw, End. -/
import Derived.Test.YtbhebkjadgajeaaO8
namespace Go.Proofs.Ytbhebkjadgajeaa
open Go.RowKit
/-- The reference's reader, by value. -/
def rdV (s : ByteArray) (e : Int) : Value := .agg #[.string s, .int .i64 e]
theorem Rd.two (w : World) (o : Obj) (s : ByteArray) (e : Int) (t : TypeId) : Rd ((w.alloc o).alloc (.cells #[.string s, .int .i64 e] t)) (w.heap.size + 1) s e := ⟨by simp [go_sem], by simp [go_sem], by simp [go_sem], by simp [go_sem]⟩
theorem Rd.one (w : World) (o : Obj) (s : ByteArray) (e : Int) (t : TypeId) : Rd ((w.alloc (.cells #[.string s, .int .i64 e] t)).alloc o) w.heap.size s e := ⟨by simp [go_sem], by simp [go_sem], by simp [go_sem], by simp [go_sem]⟩
theorem below_two (w : World) (o p : Obj) : Below w.heap.size w ((w.alloc o).alloc p) := ((Below.refl _ _).alloc (Nat.le_refl _) _).alloc (by simp) _
theorem below_two_to {w w1 : World} {o p : Obj} (h : Below ((w.alloc o).alloc p).heap.size ((w.alloc o).alloc p) w1) : Below w.heap.size w w1 := (below_two w o p).trans (h.mono (by simp; omega))
/-- How the reference's read ends. -/
def RReads (w : World) (t : ByteArray) (y : Int) (v : Value) (x : Ending) (w' : World) : Prop := x = .returned (.tuple #[.agg #[.string t, .int .i64 y], v]) ∧ Below w.heap.size w w'
end Go.Proofs.Ytbhebkjadgajeaa
