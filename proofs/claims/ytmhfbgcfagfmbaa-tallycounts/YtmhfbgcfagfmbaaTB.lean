/- The contract of the statements' own examples (lives, package 1). -/
import Derived.Test.YtmhfbgcfagfmbaaTA
namespace Go.Proofs.Ytmhfbgcfagfmbaa
open Go.RowKit

theorem lv1 : addF 1125899906842623 1 = (1125899906842624, 0) := by simp [addF, inRB]
theorem lv2 : addF 1125899906842624 1 = (0, 15) := by simp [addF, inRB]
theorem lv3 : subF 1 2 = (0, 15) := by simp [subF, inRB]
theorem lv4 : addF (-1) 2 = (0, 18) := by simp [addF, inRB]
theorem lv5 : sumF [1, 2, 4] = (7, 0) := by simp [sumF, inRB]
theorem lv6 : totF [(1, 2), (5, 0)] = ((6, 2), 0) := by
  have h : [((1 : Int), (2 : Int)), (5, 0)].all okC = true := by simp [okC, okB, inRB]
  unfold totF; rw [if_pos h]; simp only [List.map_cons, List.map_nil, List.sum_cons, List.sum_nil]
  rw [show min ((1 : Int) + (5 + 0)) 1125899906842625 = 6 by omega, show min ((2 : Int) + (0 + 0)) 1125899906842625 = 2 by omega]
  simp [resF, okB, inRB]
theorem lv7 : growsF 5 0 6 0 5 (-1) = 12 := by simp [growsF, okB, inRB, limB, outB]
theorem lv8 : growsF 9 1 8 2 5 (-1) = 0 := by simp [growsF, okB, inRB, limB, outB]
theorem lv9 : leftF 3 5 = 2 := by simp [leftF, inRB]

set_option maxHeartbeats 1000000 in
theorem lives1_any (w : World) :
    Calls Try.prog 18 #[] w fun e w' => e = .returned (.bool true) ∧ Below w.heap.size w w' := by
  go_enter Try.func18, Try.ntmps18
  go_wp2_with fail
  refine (add_any 1125899906842623 1 _).mono ?_
  rintro e w1 ⟨rfl, B1⟩
  rw [lv1]; unfold two; dsimp only
  go_wp2_with fail
  refine (add_any 1125899906842624 1 _).mono ?_
  rintro e w2 ⟨rfl, b2⟩
  have B2 := B1.trans (b2.mono B1.size)
  clear b2 B1
  rw [lv2]; unfold two; dsimp only
  go_wp2_with fail
  refine (sub_any 1 2 _).mono ?_
  rintro e w3 ⟨rfl, rfl⟩
  rw [lv3]; unfold two; dsimp only
  go_wp2_with fail
  refine (add_any (-1) 2 _).mono ?_
  rintro e w4 ⟨rfl, b4⟩
  have B4 := B2.trans (b4.mono B2.size)
  clear b4 B2
  rw [lv4]; unfold two; dsimp only
  go_wp2_with fail
  refine (sum_any _ 3 3 [1, 2, 4] _ (by omega) (ints_new w4 [1, 2, 4])).mono ?_
  rintro e w5 ⟨rfl, rfl⟩
  have B5 := B4.alloc (o := .cells #[.int .i64 1, .int .i64 2, .int .i64 4] 2) B4.size
  rw [lv5]; unfold two; dsimp only
  go_wp2_with fail
  refine (plus_any 1 2 5 0 _).mono ?_
  rintro e w6 ⟨rfl, b6⟩
  have B6 := B5.trans (b6.mono B5.size)
  clear b6 B5 B4
  rw [lv6]; unfold three; dsimp only
  go_wp2_with fail
  refine (grows_any 5 0 6 0 5 (-1) _).mono ?_
  rintro e w7 ⟨rfl, B7⟩
  rw [lv7]
  go_wp2_with fail
  refine (grows_any 9 1 8 2 5 (-1) _).mono ?_
  rintro e w8 ⟨rfl, b8⟩
  have B8 := B7.trans (b8.mono B7.size)
  clear b8 B7
  rw [lv8]
  obtain ⟨hc, hf⟩ := bcell B8
  go_wp2_with fail
  refine (left_any 3 5 _).mono ?_
  rintro e w9 ⟨rfl, rfl⟩
  rw [lv9]
  go_wp2
  go_ret
  exact ⟨rfl, (B6.alloc B6.size _).trans (B8.mono (by have := B6.size; simp; omega))⟩
end Go.Proofs.Ytmhfbgcfagfmbaa
