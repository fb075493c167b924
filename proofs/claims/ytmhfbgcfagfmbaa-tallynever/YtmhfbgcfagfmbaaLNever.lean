/- The walk of TallyNever: its ways together. -/
import Derived.Test.YtmhfbgcfagfmbaaLN0
import Derived.Test.YtmhfbgcfagfmbaaLN1
import Derived.Test.YtmhfbgcfagfmbaaLN2
import Derived.Test.YtmhfbgcfagfmbaaLN3
import Derived.Test.YtmhfbgcfagfmbaaLN4
namespace Go.Proofs.Ytmhfbgcfagfmbaa.tallyNever
open Go.RowKit

theorem tallyNever_walk (o0 o1 : Int) (_ : (Lit.int .i64 o0).wf = true) (_ : (Lit.int .i64 o1).wf = true) (n0 n1 : Int) (_ : (Lit.int .i64 n0).wf = true) (_ : (Lit.int .i64 n1).wf = true) (l0 l1 : Int) (_ : (Lit.int .i64 l0).wf = true) (_ : (Lit.int .i64 l1).wf = true) (m0 m1 : Int) (_ : (Lit.int .i64 m0).wf = true) (_ : (Lit.int .i64 m1).wf = true) (w : World) :
    Calls Try.prog 7 #[.agg #[.int .i64 o0, .int .i64 o1], .agg #[.int .i64 n0, .int .i64 n1], .agg #[.int .i64 l0, .int .i64 l1], .agg #[.int .i64 m0, .int .i64 m1]] w fun e w' => e = .returned (.bool true) ∧ Below w.heap.size w w' := by
  rcases ho : okB o0 o1
  · exact bad_o o0 o1 n0 n1 l0 l1 m0 m1 w ho
  rcases hn : okB n0 n1
  · exact bad_n o0 o1 n0 n1 l0 l1 m0 m1 w ho hn
  rcases hl : limB l0 l1
  · exact bad_l o0 o1 n0 n1 l0 l1 m0 m1 w ho hn hl
  rcases h1 : outB o0 n0 l0
  · rcases h2 : outB o1 n1 l1
    · rcases outB_false h1 (limB_bd hl).1 with q | ⟨q, q2⟩ | ⟨q, q2, q3⟩
      · rcases outB_false h2 (limB_bd hl).2 with r | ⟨r, r2⟩ | ⟨r, r2, r3⟩
        · exact fits_00 o0 o1 n0 n1 l0 l1 m0 m1 w ho hn hl h1 h2 q r
        · exact fits_01 o0 o1 n0 n1 l0 l1 m0 m1 w ho hn hl h1 h2 q r r2
        · exact fits_02 o0 o1 n0 n1 l0 l1 m0 m1 w ho hn hl h1 h2 q r r2 r3
      · rcases outB_false h2 (limB_bd hl).2 with r | ⟨r, r2⟩ | ⟨r, r2, r3⟩
        · exact fits_10 o0 o1 n0 n1 l0 l1 m0 m1 w ho hn hl h1 h2 q q2 r
        · exact fits_11 o0 o1 n0 n1 l0 l1 m0 m1 w ho hn hl h1 h2 q q2 r r2
        · exact fits_12 o0 o1 n0 n1 l0 l1 m0 m1 w ho hn hl h1 h2 q q2 r r2 r3
      · rcases outB_false h2 (limB_bd hl).2 with r | ⟨r, r2⟩ | ⟨r, r2, r3⟩
        · exact fits_20 o0 o1 n0 n1 l0 l1 m0 m1 w ho hn hl h1 h2 q q2 q3 r
        · exact fits_21 o0 o1 n0 n1 l0 l1 m0 m1 w ho hn hl h1 h2 q q2 q3 r r2
        · exact fits_22 o0 o1 n0 n1 l0 l1 m0 m1 w ho hn hl h1 h2 q q2 q3 r r2 r3
    · exact quota_2 o0 o1 n0 n1 l0 l1 m0 m1 w ho hn hl h2
  · exact quota_1 o0 o1 n0 n1 l0 l1 m0 m1 w ho hn hl h1
end Go.Proofs.Ytmhfbgcfagfmbaa.tallyNever
