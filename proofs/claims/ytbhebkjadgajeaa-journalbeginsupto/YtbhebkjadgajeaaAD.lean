/- The examples of the sectors hold. -/
import Derived.Test.YtbhebkjadgajeaaAC
namespace Go.Proofs.Ytbhebkjadgajeaa
open Go.RowKit
end Go.Proofs.Ytbhebkjadgajeaa
