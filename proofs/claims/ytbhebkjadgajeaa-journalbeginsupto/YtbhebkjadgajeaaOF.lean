/- Contracts: the reference's reader: Num, Text; the number of eight bytes. -/
import Derived.Test.YtbhebkjadgajeaaOE
namespace Go.Proofs.Ytbhebkjadgajeaa
open Go.RowKit
end Go.Proofs.Ytbhebkjadgajeaa
