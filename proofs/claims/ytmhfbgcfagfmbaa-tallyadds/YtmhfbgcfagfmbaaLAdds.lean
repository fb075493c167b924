/- The walk of TallyAdds. -/
import Derived.Test.YtmhfbgcfagfmbaaTB
namespace Go.Proofs.Ytmhfbgcfagfmbaa.tallyAdds
open Go.RowKit

set_option maxHeartbeats 1000000 in
theorem tallyAdds_walk (a : Int) (_ : (Lit.int .i64 a).wf = true) (b : Int) (_ : (Lit.int .i64 b).wf = true) (w : World) :
    Calls Try.prog 3 #[.int .i64 a, .int .i64 b] w fun e w' => e = .returned (.bool true) ∧ Below w.heap.size w w' := by
  obtain ⟨⟨s, s'⟩, hs⟩ : ∃ R, R = addF a b := ⟨_, rfl⟩
  obtain ⟨⟨d, d'⟩, hd⟩ : ∃ R, R = subF a b := ⟨_, rfl⟩
  have HS := Lib.hid hs.symm
  have HD := Lib.hid hd.symm
  clear hs hd
  go_enter Try.func3, Try.ntmps3
  go_wp2_with fail
  refine (add_any a b _).mono ?_
  rintro e w1 ⟨rfl, B1⟩
  rw [HS.out]; unfold two; dsimp only
  go_wp2_with fail
  refine (radd_any a b _).mono ?_
  rintro e w2 ⟨rfl, rfl⟩
  rw [HS.out]; unfold two; dsimp only
  go_wp2_with fail
  refine (sub_any a b _).mono ?_
  rintro e w2 ⟨rfl, rfl⟩
  rw [HD.out]; unfold two; dsimp only
  go_wp2_with fail
  refine (rsub_any a b _).mono ?_
  rintro e w2 ⟨rfl, rfl⟩
  rw [HD.out]; unfold two; dsimp only
  go_wp2_with fail
  refine (lives1_any _).mono ?_
  rintro e w2 ⟨rfl, b2⟩
  have B2 := B1.trans (b2.mono B1.size)
  clear b2
  go_wp2_with fail
  refine (left_any a b _).mono ?_
  rintro e w3 ⟨rfl, rfl⟩
  go_wp2_with fail
  refine (rleft_any a b _).mono ?_
  rintro e w3 ⟨rfl, rfl⟩
  go_wp2
  go_ret
  exact ⟨rfl, B2⟩
end Go.Proofs.Ytmhfbgcfagfmbaa.tallyAdds
