/- Contract: the reference's Seal. -/
import Derived.Test.YtbhebkjadgajeaaA2
namespace Go.Proofs.Ytbhebkjadgajeaa
open Go.RowKit
end Go.Proofs.Ytbhebkjadgajeaa
