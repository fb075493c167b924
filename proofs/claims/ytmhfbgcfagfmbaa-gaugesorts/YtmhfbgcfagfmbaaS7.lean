/- slices.symMergeCmpFunc at float64, all ways. -/
import Derived.Test.YtmhfbgcfagfmbaaS3
import Derived.Test.YtmhfbgcfagfmbaaS4
import Derived.Test.YtmhfbgcfagfmbaaS6A
import Derived.Test.YtmhfbgcfagfmbaaS6B
namespace Go.Proofs.Ytmhfbgcfagfmbaa
open Go.Shelf Go.RowKit Go.Lib Go.Sort

theorem symMerge_all (g : Nat) (cb : Array Value) (cf : F64 → F64 → Int) (hO : SWO (ltOf cf)) (blk off cap len : Nat) (d0 : Array F64) (w0 : World) (R : Row1 encF w0 blk off d0) (h0 : d0.size = len)
    (eg : ∀ args w, (callFunc g args).run Try.prog w = .ok (.enter g args) w) (hcmp : CmpLays1 Try.prog g cb encF cf blk off d0.size w0) (hsz : len < 4611686018427387904) : ∀ N, MergeOK g cb cf blk off cap len w0 N := by
  intro N
  induction N with
  | zero => intro a m b d w h; omega
  | succ N ih =>
    intro a m b d w hN hd S ham hmb hb hl hr
    have ih' : MergeOK g cb cf blk off cap len w0 (b - a) := fun a' m' b' d' w' h => ih a' m' b' d' w' (by omega)
    by_cases e1 : m = a + 1
    · subst e1
      exact (symMerge_one g cb cf hO blk off cap a b len d0 d w0 w R hd (by omega) S eg hcmp hmb (by omega) (by omega) hr).mono fun _ _ h => h
    · by_cases e2 : b = m + 1
      · subst e2
        exact (symMerge_last g cb cf hO blk off cap a m len d0 d w0 w R hd (by omega) S eg hcmp (by omega) (by omega) (by omega) hl).mono fun _ _ h => h
      · by_cases e3 : (a + b) / 2 < m
        · exact symMerge_A g cb cf hO blk off cap a m b ((a + b) / 2) len d0 d w0 w R hd (by omega) S eg hcmp ih' (by omega) (by omega) (by omega) (by omega) rfl e3 hl hr
        · exact symMerge_B g cb cf hO blk off cap a m b ((a + b) / 2) len d0 d w0 w R hd (by omega) S eg hcmp ih' (by omega) (by omega) (by omega) (by omega) rfl (by omega) hl hr

end Go.Proofs.Ytmhfbgcfagfmbaa
