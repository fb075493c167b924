/- Contract: the reference's Open. -/
import Derived.Test.YtbhebkjadgajeaaA5
namespace Go.Proofs.Ytbhebkjadgajeaa
open Go.RowKit
theorem SecW.drew {w : World} {b : Nat} {k : Int} {e n : Nat} {a m : Int} {p : ByteArray} (h : SecW w b k e n a m p) : SecW w.drew b k e n a m p := h.below ((Below.refl _ _).drew)
end Go.Proofs.Ytbhebkjadgajeaa
