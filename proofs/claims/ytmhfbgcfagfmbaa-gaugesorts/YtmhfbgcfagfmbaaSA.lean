/- slices.SortStableFunc at float64 with gauge.Order. -/
import Derived.Test.YtmhfbgcfagfmbaaS9
namespace Go.Proofs.Ytmhfbgcfagfmbaa
open Go.Shelf Go.RowKit Go.Lib Go.Sort

def cfO (x y : F64) : Int := cmp3 (tk x.1) (tk y.1)
theorem ltO (x y : F64) : ltOf cfO x y = decide (tk x.1 < tk y.1) := by
  unfold ltOf cfO cmp3
  by_cases h : tk x.1 < tk y.1
  · simp [h]
  · by_cases h2 : tk y.1 < tk x.1 <;> simp [h, h2]
theorem swoO : SWO (ltOf cfO) where
  irrefl x := by rw [ltO]; simp
  trans x y z h1 h2 := by rw [ltO] at *; simp at *; omega
  ntrans x y z h1 h2 := by rw [ltO] at *; simp at *; omega
theorem cmpO (blk off size : Nat) (w : World) : CmpLays1 Try.prog 53 #[] encF cfO blk off size w := fun m os dk _ x y =>
  (order_any x.1 y.1 x.2 y.2 (sortWorld encF w blk off m dk os)).mono fun _ _ ⟨he, hw⟩ => ⟨he, 0, #[], by rw [grow_empty, ← hw]; rfl⟩

set_option maxHeartbeats 4000000 in
set_option maxRecDepth 1000000 in
theorem sortStable_any (blk off cap n : Nat) (d : Array F64) (w : World) (hH : Holds encF w blk off d) (hblk : blk < w.heap.size) (hn : d.size = n) (hsz : n < 1152921504606846976) :
    Calls Try.prog 71 #[.slice (some ⟨blk, off, none⟩) n cap, .func (.func 53) #[] #[]] w (MergePost cfO blk off w 0 n d) := by
  have HH : Hid (Holds encF w blk off d) := hH
  have HN : Hid (d.size = n) := hn
  clear hH hn
  go_enter Try.func71, Try.ntmps71
  go_wp2_with fail
  refine (stable_any 53 #[] cfO swoO blk off cap n d w ⟨oneF, HH.out, hblk⟩ HN.out (SW.start HH.out) (enters_of Try.func53 (by kernel_rfl) rfl) (cmpO _ _ _ _) hsz).mono ?_
  rintro _ w1 ⟨rfl, d1, P1, Q1, S1⟩
  go_wp2
  go_end0
  exact ⟨rfl, d1, P1, Q1, S1⟩

end Go.Proofs.Ytmhfbgcfagfmbaa
