/- The walk of TallyCounts: its four ways together. -/
import Derived.Test.YtmhfbgcfagfmbaaLD00
import Derived.Test.YtmhfbgcfagfmbaaLD01
import Derived.Test.YtmhfbgcfagfmbaaLD10
import Derived.Test.YtmhfbgcfagfmbaaLD11
namespace Go.Proofs.Ytmhfbgcfagfmbaa.tallyCounts
open Go.RowKit

theorem tallyCounts_walk (a b : Int) (wa : (Lit.int .i64 a).wf = true) (wb : (Lit.int .i64 b).wf = true) (c d : Int) (wc : (Lit.int .i64 c).wf = true) (wd : (Lit.int .i64 d).wf = true)
    (l m : Int) (wl : (Lit.int .i64 l).wf = true) (wm : (Lit.int .i64 m).wf = true) (w : World) :
    Calls Try.prog 5 #[.agg #[.int .i64 a, .int .i64 b], .agg #[.int .i64 c, .int .i64 d], .agg #[.int .i64 l, .int .i64 m]] w fun e w' => e = .returned (.bool true) ∧ Below w.heap.size w w' := by
  rcases h1 : okB a b <;> rcases h2 : limB a b
  · exact walk00 a b wa wb c d wc wd l m wl wm w h1 h2
  · exact walk01 a b wa wb c d wc wd l m wl wm w h1 h2
  · exact walk10 a b wa wb c d wc wd l m wl wm w h1 h2
  · exact walk11 a b wa wb c d wc wd l m wl wm w h1 h2
end Go.Proofs.Ytmhfbgcfagfmbaa.tallyCounts
