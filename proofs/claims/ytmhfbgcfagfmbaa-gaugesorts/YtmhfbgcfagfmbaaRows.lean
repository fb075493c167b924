/-
  No cell of these rows narrows 'for every input' (looked for: loops, veiled, ifaces, maps, wideKeys, modest, calm, conditions, laid).
  DERIVED. THE GIVEN ROWS OF THIS SEAT. 11 by the template 'for every input the law returns true; each argument reads behind the call as it read before'; 0 by the template 'total and deterministic' (their statements: YtmhfbgcfagfmbaaTotals.lean).
  GIVEN WITH THE SEED: the statements are not yours to turn. If you find one false, say at which input.
  Laid BY PROGRAM, IN A SANDBOX (cutbox-rows.mjs): the forced cells as the released guide's own fill.sh prints them over the translation dadcff692349a807… (all of the seat's roots in one cut). By AI agents, Wed Nov 11 2026. No macro, syntax, notation, axiom, sorry.
-/
import Derived.Test.YtmhfbgcfagfmbaaChecked
import GoSem.Claim
import GoSem.ClaimJoined
import GoSem.ClaimMapViews
import Derived.JoinedTies
import Derived.KernelRfl
namespace Go.Proofs.Ytmhfbgcfagfmbaa
/- THE CELL 'sum', in the pinned program and in every row, IS THE sha256 OF THE DUMP (.gsa) THAT YtmhfbgcfagfmbaaProg.lean LOADS. Nothing in Lean hashes anything: it is a label: what it is worth is what the hold of that sum in a sandbox is worth. -/
noncomputable def Try.pinned : Pinned := { name := "ytmhfbgcfagfmbaa", sum := "dadcff692349a807d4e1f47fa3a76ad1f48cb473d0f814590255fc8d30646f13", checked := Try.checked }
namespace Rows
def none {H : Type} : Left H := { results := [], args := [] }

/-- 'wharfagelaw01.TallyAdds': WHATEVER THE INPUT: true; the input reads as it did. -/
def tallyAddsSpec : ChangeSpec := { name := "tallyAdds", fn := fun _ => fun
  | [d1, d2] => { results := [.lit (.bool true)], args := [d1, d2] }
  | _ => none }
def tallyAddsRow : OpenClaim := { program := "ytmhfbgcfagfmbaa", sum := "dadcff692349a807d4e1f47fa3a76ad1f48cb473d0f814590255fc8d30646f13", func := "wharfage/wharfagelaw01.TallyAdds", spec := "tallyAdds", apart := false }
def TallyAddsSaid : Prop := tallyAddsRow.holds Try.pinned (OpenSpec.ofChange tallyAddsSpec)

/-- ITS FALSE NEIGHBOUR: 'it returns false'. Refute it at one input. -/
def tallyAddsWrong : ChangeSpec := { name := "tallyAdds", fn := fun _ => fun
  | [d1, d2] => { results := [.lit (.bool false)], args := [d1, d2] }
  | _ => none }
def TallyAddsWrongFalsely : Prop := tallyAddsRow.holds Try.pinned (OpenSpec.ofChange tallyAddsWrong)

/-- 'wharfagelaw01.TallySums': WHATEVER THE INPUT: true; the input reads as it did. -/
def tallySumsSpec : ChangeSpec := { name := "tallySums", fn := fun _ => fun
  | [d1, d2] => { results := [.lit (.bool true)], args := [d1, d2] }
  | _ => none }
def tallySumsRow : OpenClaim := { program := "ytmhfbgcfagfmbaa", sum := "dadcff692349a807d4e1f47fa3a76ad1f48cb473d0f814590255fc8d30646f13", func := "wharfage/wharfagelaw01.TallySums", spec := "tallySums", apart := false }
def TallySumsSaid : Prop := tallySumsRow.holds Try.pinned (OpenSpec.ofChange tallySumsSpec)

/-- ITS FALSE NEIGHBOUR: 'it returns false'. Refute it at one input. -/
def tallySumsWrong : ChangeSpec := { name := "tallySums", fn := fun _ => fun
  | [d1, d2] => { results := [.lit (.bool false)], args := [d1, d2] }
  | _ => none }
def TallySumsWrongFalsely : Prop := tallySumsRow.holds Try.pinned (OpenSpec.ofChange tallySumsWrong)

/-- 'wharfagelaw01.TallyCounts': WHATEVER THE INPUT: true; the input reads as it did. -/
def tallyCountsSpec : ChangeSpec := { name := "tallyCounts", fn := fun _ => fun
  | [d1, d2, d3] => { results := [.lit (.bool true)], args := [d1, d2, d3] }
  | _ => none }
def tallyCountsRow : OpenClaim := { program := "ytmhfbgcfagfmbaa", sum := "dadcff692349a807d4e1f47fa3a76ad1f48cb473d0f814590255fc8d30646f13", func := "wharfage/wharfagelaw01.TallyCounts", spec := "tallyCounts", apart := false }
def TallyCountsSaid : Prop := tallyCountsRow.holds Try.pinned (OpenSpec.ofChange tallyCountsSpec)

/-- ITS FALSE NEIGHBOUR: 'it returns false'. Refute it at one input. -/
def tallyCountsWrong : ChangeSpec := { name := "tallyCounts", fn := fun _ => fun
  | [d1, d2, d3] => { results := [.lit (.bool false)], args := [d1, d2, d3] }
  | _ => none }
def TallyCountsWrongFalsely : Prop := tallyCountsRow.holds Try.pinned (OpenSpec.ofChange tallyCountsWrong)

/-- 'wharfagelaw01.TallyBack': WHATEVER THE INPUT: true; the input reads as it did. -/
def tallyBackSpec : ChangeSpec := { name := "tallyBack", fn := fun _ => fun
  | [d1, d2, d3, d4] => { results := [.lit (.bool true)], args := [d1, d2, d3, d4] }
  | _ => none }
def tallyBackRow : OpenClaim := { program := "ytmhfbgcfagfmbaa", sum := "dadcff692349a807d4e1f47fa3a76ad1f48cb473d0f814590255fc8d30646f13", func := "wharfage/wharfagelaw01.TallyBack", spec := "tallyBack", apart := false }
def TallyBackSaid : Prop := tallyBackRow.holds Try.pinned (OpenSpec.ofChange tallyBackSpec)

/-- ITS FALSE NEIGHBOUR: 'it returns false'. Refute it at one input. -/
def tallyBackWrong : ChangeSpec := { name := "tallyBack", fn := fun _ => fun
  | [d1, d2, d3, d4] => { results := [.lit (.bool false)], args := [d1, d2, d3, d4] }
  | _ => none }
def TallyBackWrongFalsely : Prop := tallyBackRow.holds Try.pinned (OpenSpec.ofChange tallyBackWrong)

/-- 'wharfagelaw01.TallyNever': WHATEVER THE INPUT: true; the input reads as it did. -/
def tallyNeverSpec : ChangeSpec := { name := "tallyNever", fn := fun _ => fun
  | [d1, d2, d3, d4] => { results := [.lit (.bool true)], args := [d1, d2, d3, d4] }
  | _ => none }
def tallyNeverRow : OpenClaim := { program := "ytmhfbgcfagfmbaa", sum := "dadcff692349a807d4e1f47fa3a76ad1f48cb473d0f814590255fc8d30646f13", func := "wharfage/wharfagelaw01.TallyNever", spec := "tallyNever", apart := false }
def TallyNeverSaid : Prop := tallyNeverRow.holds Try.pinned (OpenSpec.ofChange tallyNeverSpec)

/-- ITS FALSE NEIGHBOUR: 'it returns false'. Refute it at one input. -/
def tallyNeverWrong : ChangeSpec := { name := "tallyNever", fn := fun _ => fun
  | [d1, d2, d3, d4] => { results := [.lit (.bool false)], args := [d1, d2, d3, d4] }
  | _ => none }
def TallyNeverWrongFalsely : Prop := tallyNeverRow.holds Try.pinned (OpenSpec.ofChange tallyNeverWrong)

/-- 'wharfagelaw02.GaugeOf': WHATEVER THE INPUT: true; the input reads as it did. -/
def gaugeOfSpec : ChangeSpec := { name := "gaugeOf", fn := fun _ => fun
  | [d1, d2, d3, d4, d5] => { results := [.lit (.bool true)], args := [d1, d2, d3, d4, d5] }
  | _ => none }
def gaugeOfRow : OpenClaim := { program := "ytmhfbgcfagfmbaa", sum := "dadcff692349a807d4e1f47fa3a76ad1f48cb473d0f814590255fc8d30646f13", func := "wharfage/wharfagelaw02.GaugeOf", spec := "gaugeOf", inPlace := ["math.Float64bits", "math.Float64frombits", "math.archFloor", "math.archTrunc"], apart := false }
def GaugeOfSaid : Prop := gaugeOfRow.holds Try.pinned (OpenSpec.ofChange gaugeOfSpec)

/-- ITS FALSE NEIGHBOUR: 'it returns false'. Refute it at one input. -/
def gaugeOfWrong : ChangeSpec := { name := "gaugeOf", fn := fun _ => fun
  | [d1, d2, d3, d4, d5] => { results := [.lit (.bool false)], args := [d1, d2, d3, d4, d5] }
  | _ => none }
def GaugeOfWrongFalsely : Prop := gaugeOfRow.holds Try.pinned (OpenSpec.ofChange gaugeOfWrong)

/-- 'wharfagelaw02.GaugeSorts': WHATEVER THE INPUT: true; the input reads as it did. -/
def gaugeSortsSpec : ChangeSpec := { name := "gaugeSorts", fn := fun _ => fun
  | [d] => { results := [.lit (.bool true)], args := [d] }
  | _ => none }
def gaugeSortsRow : OpenClaim := { program := "ytmhfbgcfagfmbaa", sum := "dadcff692349a807d4e1f47fa3a76ad1f48cb473d0f814590255fc8d30646f13", func := "wharfage/wharfagelaw02.GaugeSorts", spec := "gaugeSorts", inPlace := ["math.Float64bits", "math.Float64frombits", "math.archFloor", "math.archTrunc"], unfollowed := true, recurses := true, apart := false }
def GaugeSortsSaid : Prop := gaugeSortsRow.holds Try.pinned (OpenSpec.ofChange gaugeSortsSpec)

/-- ITS FALSE NEIGHBOUR: 'it returns false'. Refute it at one input. -/
def gaugeSortsWrong : ChangeSpec := { name := "gaugeSorts", fn := fun _ => fun
  | [d] => { results := [.lit (.bool false)], args := [d] }
  | _ => none }
def GaugeSortsWrongFalsely : Prop := gaugeSortsRow.holds Try.pinned (OpenSpec.ofChange gaugeSortsWrong)

/-- 'wharfagelaw02.GaugeRow': WHATEVER THE INPUT: true; the input reads as it did. -/
def gaugeRowSpec : ChangeSpec := { name := "gaugeRow", fn := fun _ => fun
  | [d1, d2, d3] => { results := [.lit (.bool true)], args := [d1, d2, d3] }
  | _ => none }
def gaugeRowRow : OpenClaim := { program := "ytmhfbgcfagfmbaa", sum := "dadcff692349a807d4e1f47fa3a76ad1f48cb473d0f814590255fc8d30646f13", func := "wharfage/wharfagelaw02.GaugeRow", spec := "gaugeRow", inPlace := ["math.Float64bits", "math.Float64frombits", "math.archFloor", "math.archTrunc"], apart := false }
def GaugeRowSaid : Prop := gaugeRowRow.holds Try.pinned (OpenSpec.ofChange gaugeRowSpec)

/-- ITS FALSE NEIGHBOUR: 'it returns false'. Refute it at one input. -/
def gaugeRowWrong : ChangeSpec := { name := "gaugeRow", fn := fun _ => fun
  | [d1, d2, d3] => { results := [.lit (.bool false)], args := [d1, d2, d3] }
  | _ => none }
def GaugeRowWrongFalsely : Prop := gaugeRowRow.holds Try.pinned (OpenSpec.ofChange gaugeRowWrong)

/-- 'wharfagelaw02.GaugeFuller': WHATEVER THE INPUT: true; the input reads as it did. -/
def gaugeFullerSpec : ChangeSpec := { name := "gaugeFuller", fn := fun _ => fun
  | [d1, d2, d3, d4] => { results := [.lit (.bool true)], args := [d1, d2, d3, d4] }
  | _ => none }
def gaugeFullerRow : OpenClaim := { program := "ytmhfbgcfagfmbaa", sum := "dadcff692349a807d4e1f47fa3a76ad1f48cb473d0f814590255fc8d30646f13", func := "wharfage/wharfagelaw02.GaugeFuller", spec := "gaugeFuller", inPlace := ["math.Float64bits", "math.Float64frombits", "math.archFloor", "math.archTrunc"], apart := false }
def GaugeFullerSaid : Prop := gaugeFullerRow.holds Try.pinned (OpenSpec.ofChange gaugeFullerSpec)

/-- ITS FALSE NEIGHBOUR: 'it returns false'. Refute it at one input. -/
def gaugeFullerWrong : ChangeSpec := { name := "gaugeFuller", fn := fun _ => fun
  | [d1, d2, d3, d4] => { results := [.lit (.bool false)], args := [d1, d2, d3, d4] }
  | _ => none }
def GaugeFullerWrongFalsely : Prop := gaugeFullerRow.holds Try.pinned (OpenSpec.ofChange gaugeFullerWrong)

/-- 'wharfagelaw02.GaugeMeans': WHATEVER THE INPUT: true; the input reads as it did. -/
def gaugeMeansSpec : ChangeSpec := { name := "gaugeMeans", fn := fun _ => fun
  | [d1, d2, d3] => { results := [.lit (.bool true)], args := [d1, d2, d3] }
  | _ => none }
def gaugeMeansRow : OpenClaim := { program := "ytmhfbgcfagfmbaa", sum := "dadcff692349a807d4e1f47fa3a76ad1f48cb473d0f814590255fc8d30646f13", func := "wharfage/wharfagelaw02.GaugeMeans", spec := "gaugeMeans", inPlace := ["math.Float64bits", "math.Float64frombits", "math.archFloor", "math.archTrunc"], apart := false }
def GaugeMeansSaid : Prop := gaugeMeansRow.holds Try.pinned (OpenSpec.ofChange gaugeMeansSpec)

/-- ITS FALSE NEIGHBOUR: 'it returns false'. Refute it at one input. -/
def gaugeMeansWrong : ChangeSpec := { name := "gaugeMeans", fn := fun _ => fun
  | [d1, d2, d3] => { results := [.lit (.bool false)], args := [d1, d2, d3] }
  | _ => none }
def GaugeMeansWrongFalsely : Prop := gaugeMeansRow.holds Try.pinned (OpenSpec.ofChange gaugeMeansWrong)

/-- 'wharfagetop.TopFull': WHATEVER THE INPUT: true; the input reads as it did. -/
def topFullSpec : ChangeSpec := { name := "topFull", fn := fun _ => fun
  | [d1, d2, d3] => { results := [.lit (.bool true)], args := [d1, d2, d3] }
  | _ => none }
def topFullRow : OpenClaim := { program := "ytmhfbgcfagfmbaa", sum := "dadcff692349a807d4e1f47fa3a76ad1f48cb473d0f814590255fc8d30646f13", func := "wharfage/wharfagetop.TopFull", spec := "topFull", inPlace := ["math.Float64bits", "math.Float64frombits", "math.archFloor", "math.archTrunc"], apart := false }
def TopFullSaid : Prop := topFullRow.holds Try.pinned (OpenSpec.ofChange topFullSpec)

/-- ITS FALSE NEIGHBOUR: 'it returns false'. Refute it at one input. -/
def topFullWrong : ChangeSpec := { name := "topFull", fn := fun _ => fun
  | [d1, d2, d3] => { results := [.lit (.bool false)], args := [d1, d2, d3] }
  | _ => none }
def TopFullWrongFalsely : Prop := topFullRow.holds Try.pinned (OpenSpec.ofChange topFullWrong)

/- THE SECOND FORM. 'bulk': how many values and letters a reading holds, each counted each time it is reached (what is shared counts as often as it is met; a slice's spare places count too). A statement '..UptoSaid' is the law's where the arguments, and the package variables that the reading takes, are together of bulk at most 1048576: NARROWER than '..Said'. Prove '..Said' where nothing that the law and all that it calls make is longer than what came in: it says more and counts as full. Else prove '..UptoSaid'. A law counts once. -/
mutual
def uptoBulk {H : Type} : DataW H → Nat
  | .lit (.string bytes) => bytes.length + 1
  | .lit _ => 1
  | .nil => 1
  | .ptr d => uptoBulk d + 1
  | .slice elems spare => uptoBulkAll elems + uptoBulkAll spare + 1
  | .agg parts => uptoBulkAll parts + 1
  | .iface _ d => uptoBulk d + 1
  | .map entries => uptoBulkEntries entries + 1
  | .held _ => 1
def uptoBulkAll {H : Type} : List (DataW H) → Nat
  | [] => 0
  | d :: r => uptoBulk d + uptoBulkAll r
def uptoBulkEntries {H : Type} : List (Lit × DataW H) → Nat
  | [] => 0
  | x :: r => uptoBulkEntry x + uptoBulkEntries r
def uptoBulkEntry {H : Type} : Lit × DataW H → Nat
  | (.string bytes, d) => bytes.length + uptoBulk d + 1
  | (_, d) => uptoBulk d + 1
 end
def uptoSmall : (H : Type) → List (DataW H) → Bool := fun _ ds => decide (uptoBulkAll ds ≤ 1048576)
def OpenSpec.upto (s : _root_.Go.ChangeSpec) : _root_.Go.OpenSpec := { _root_.Go.OpenSpec.ofChange s with cond := some uptoSmall }

/-- 'wharfagelaw01.TallyAdds', WHERE WHAT IT READS IS OF BULK AT MOST 1048576: true; the input reads as it did. -/
def tallyAddsUptoRow : OpenClaim := { program := "ytmhfbgcfagfmbaa", sum := "dadcff692349a807d4e1f47fa3a76ad1f48cb473d0f814590255fc8d30646f13", func := "wharfage/wharfagelaw01.TallyAdds", spec := "tallyAdds", apart := false, narrowed := true }
def TallyAddsUptoSaid : Prop := tallyAddsUptoRow.holds Try.pinned (OpenSpec.upto tallyAddsSpec)

/-- 'wharfagelaw01.TallySums', WHERE WHAT IT READS IS OF BULK AT MOST 1048576: true; the input reads as it did. -/
def tallySumsUptoRow : OpenClaim := { program := "ytmhfbgcfagfmbaa", sum := "dadcff692349a807d4e1f47fa3a76ad1f48cb473d0f814590255fc8d30646f13", func := "wharfage/wharfagelaw01.TallySums", spec := "tallySums", apart := false, narrowed := true }
def TallySumsUptoSaid : Prop := tallySumsUptoRow.holds Try.pinned (OpenSpec.upto tallySumsSpec)

/-- 'wharfagelaw01.TallyCounts', WHERE WHAT IT READS IS OF BULK AT MOST 1048576: true; the input reads as it did. -/
def tallyCountsUptoRow : OpenClaim := { program := "ytmhfbgcfagfmbaa", sum := "dadcff692349a807d4e1f47fa3a76ad1f48cb473d0f814590255fc8d30646f13", func := "wharfage/wharfagelaw01.TallyCounts", spec := "tallyCounts", apart := false, narrowed := true }
def TallyCountsUptoSaid : Prop := tallyCountsUptoRow.holds Try.pinned (OpenSpec.upto tallyCountsSpec)

/-- 'wharfagelaw01.TallyBack', WHERE WHAT IT READS IS OF BULK AT MOST 1048576: true; the input reads as it did. -/
def tallyBackUptoRow : OpenClaim := { program := "ytmhfbgcfagfmbaa", sum := "dadcff692349a807d4e1f47fa3a76ad1f48cb473d0f814590255fc8d30646f13", func := "wharfage/wharfagelaw01.TallyBack", spec := "tallyBack", apart := false, narrowed := true }
def TallyBackUptoSaid : Prop := tallyBackUptoRow.holds Try.pinned (OpenSpec.upto tallyBackSpec)

/-- 'wharfagelaw01.TallyNever', WHERE WHAT IT READS IS OF BULK AT MOST 1048576: true; the input reads as it did. -/
def tallyNeverUptoRow : OpenClaim := { program := "ytmhfbgcfagfmbaa", sum := "dadcff692349a807d4e1f47fa3a76ad1f48cb473d0f814590255fc8d30646f13", func := "wharfage/wharfagelaw01.TallyNever", spec := "tallyNever", apart := false, narrowed := true }
def TallyNeverUptoSaid : Prop := tallyNeverUptoRow.holds Try.pinned (OpenSpec.upto tallyNeverSpec)

/-- 'wharfagelaw02.GaugeOf', WHERE WHAT IT READS IS OF BULK AT MOST 1048576: true; the input reads as it did. -/
def gaugeOfUptoRow : OpenClaim := { program := "ytmhfbgcfagfmbaa", sum := "dadcff692349a807d4e1f47fa3a76ad1f48cb473d0f814590255fc8d30646f13", func := "wharfage/wharfagelaw02.GaugeOf", spec := "gaugeOf", inPlace := ["math.Float64bits", "math.Float64frombits", "math.archFloor", "math.archTrunc"], apart := false, narrowed := true }
def GaugeOfUptoSaid : Prop := gaugeOfUptoRow.holds Try.pinned (OpenSpec.upto gaugeOfSpec)

/-- 'wharfagelaw02.GaugeSorts', WHERE WHAT IT READS IS OF BULK AT MOST 1048576: true; the input reads as it did. -/
def gaugeSortsUptoRow : OpenClaim := { program := "ytmhfbgcfagfmbaa", sum := "dadcff692349a807d4e1f47fa3a76ad1f48cb473d0f814590255fc8d30646f13", func := "wharfage/wharfagelaw02.GaugeSorts", spec := "gaugeSorts", inPlace := ["math.Float64bits", "math.Float64frombits", "math.archFloor", "math.archTrunc"], unfollowed := true, recurses := true, apart := false, narrowed := true }
def GaugeSortsUptoSaid : Prop := gaugeSortsUptoRow.holds Try.pinned (OpenSpec.upto gaugeSortsSpec)

/-- 'wharfagelaw02.GaugeRow', WHERE WHAT IT READS IS OF BULK AT MOST 1048576: true; the input reads as it did. -/
def gaugeRowUptoRow : OpenClaim := { program := "ytmhfbgcfagfmbaa", sum := "dadcff692349a807d4e1f47fa3a76ad1f48cb473d0f814590255fc8d30646f13", func := "wharfage/wharfagelaw02.GaugeRow", spec := "gaugeRow", inPlace := ["math.Float64bits", "math.Float64frombits", "math.archFloor", "math.archTrunc"], apart := false, narrowed := true }
def GaugeRowUptoSaid : Prop := gaugeRowUptoRow.holds Try.pinned (OpenSpec.upto gaugeRowSpec)

/-- 'wharfagelaw02.GaugeFuller', WHERE WHAT IT READS IS OF BULK AT MOST 1048576: true; the input reads as it did. -/
def gaugeFullerUptoRow : OpenClaim := { program := "ytmhfbgcfagfmbaa", sum := "dadcff692349a807d4e1f47fa3a76ad1f48cb473d0f814590255fc8d30646f13", func := "wharfage/wharfagelaw02.GaugeFuller", spec := "gaugeFuller", inPlace := ["math.Float64bits", "math.Float64frombits", "math.archFloor", "math.archTrunc"], apart := false, narrowed := true }
def GaugeFullerUptoSaid : Prop := gaugeFullerUptoRow.holds Try.pinned (OpenSpec.upto gaugeFullerSpec)

/-- 'wharfagelaw02.GaugeMeans', WHERE WHAT IT READS IS OF BULK AT MOST 1048576: true; the input reads as it did. -/
def gaugeMeansUptoRow : OpenClaim := { program := "ytmhfbgcfagfmbaa", sum := "dadcff692349a807d4e1f47fa3a76ad1f48cb473d0f814590255fc8d30646f13", func := "wharfage/wharfagelaw02.GaugeMeans", spec := "gaugeMeans", inPlace := ["math.Float64bits", "math.Float64frombits", "math.archFloor", "math.archTrunc"], apart := false, narrowed := true }
def GaugeMeansUptoSaid : Prop := gaugeMeansUptoRow.holds Try.pinned (OpenSpec.upto gaugeMeansSpec)

/-- 'wharfagetop.TopFull', WHERE WHAT IT READS IS OF BULK AT MOST 1048576: true; the input reads as it did. -/
def topFullUptoRow : OpenClaim := { program := "ytmhfbgcfagfmbaa", sum := "dadcff692349a807d4e1f47fa3a76ad1f48cb473d0f814590255fc8d30646f13", func := "wharfage/wharfagetop.TopFull", spec := "topFull", inPlace := ["math.Float64bits", "math.Float64frombits", "math.archFloor", "math.archTrunc"], apart := false, narrowed := true }
def TopFullUptoSaid : Prop := topFullUptoRow.holds Try.pinned (OpenSpec.upto topFullSpec)

end Rows
end Go.Proofs.Ytmhfbgcfagfmbaa
