/- Contracts: OfHome, the program's and the reference's. -/
import Derived.Test.YtbhebkjadgajeaaA9
namespace Go.Proofs.Ytbhebkjadgajeaa
open Go.RowKit
/-- The sector is this page's at home. -/
def isHome (k e n a m : Nat) (pg : Int) : Prop := k = 4 ∧ e = 0 ∧ n = 0 ∧ (a : Int) = pg ∧ m = 0
theorem bne_of {α : Type} [BEq α] {x y : α} (h : (x == y) = false) : (x != y) = true := by simp [bne, h]
end Go.Proofs.Ytbhebkjadgajeaa
