/- Contract: the law's lives, the walk. -/
import Derived.Test.YtgbnmokajaehhaaDoorNA
namespace Go.Proofs.YtgbnmokajaehhaaDoor
open Go.RowKit Go.Sort
set_option linter.unusedVariables false
theorem liveD (w : World) : Calls Tryd.prog 11 #[.string ⟨#[]⟩] w fun e w' => e = .returned (.string ⟨#[37]⟩) ∧ w = w' := word_nil w
theorem liveE (w : World) : Calls Tryd.prog 16 #[.slice (some ⟨w.heap.size, 0, none⟩) 2 2] (w.alloc (.cells #[.string ⟨#[97]⟩, .string ⟨#[98]⟩] 9)) fun e w' => e = .returned (.string ⟨#[97, 32, 98]⟩) ∧ Below w.heap.size w w' :=
  (line_two ⟨#[97]⟩ ⟨#[98]⟩ w.heap.size (w.alloc (.cells #[.string ⟨#[97]⟩, .string ⟨#[98]⟩] 9)) (by decide) (by simp) (by simp [go_sem]) (by simp [go_sem])).mono fun e w' h =>
    ⟨h.1.trans (by rw [show bs (Lib.join [(ByteArray.mk #[97]).data.toList, (ByteArray.mk #[98]).data.toList] [32]) = ⟨#[97, 32, 98]⟩ by decide +kernel]), below_to ((Below.refl _ _).alloc (Nat.le_refl _) _) h.2⟩
set_option maxRecDepth 20000 in
set_option maxHeartbeats 2000000 in
theorem lives_any (w : World) (hE : Env w) : Calls Tryd.prog 7 #[] w fun e w' => e = .returned (.bool true) ∧ Below w.heap.size w w' := by
  go_enter Tryd.func7, Tryd.ntmps7
  go_wp2_with fail
  refine (live1 _).mono ?_
  rintro e w1 ⟨rfl, B1⟩
  go_wp2_with fail
  refine (live2 _).mono ?_
  rintro e w2 ⟨rfl, b⟩
  have B2 := below_to B1 b
  clear b B1
  go_wp2_with fail
  refine (live3 _ (hE.below B2)).mono ?_
  rintro e w3 ⟨rfl, b⟩
  have B3 := below_to B2 b
  clear b B2
  go_wp2_with fail
  refine (live4 _ (hE.below B3)).mono ?_
  rintro e w4 ⟨rfl, b⟩
  have B4 := below_to B3 b
  clear b B3
  go_wp2_with fail
  refine (live5 _ (hE.below B4)).mono ?_
  rintro e w5 ⟨rfl, b⟩
  have B5 := below_to B4 b
  clear b B4
  go_wp2_with fail
  refine (live6 _ (hE.below B5)).mono ?_
  rintro e w6 ⟨rfl, b⟩
  have B6 := below_to B5 b
  clear b B5
  go_wp2_with fail
  refine (live7 _ (hE.below B6)).mono ?_
  rintro e w7 ⟨rfl, hc, b, hsz⟩
  have B7 := below_to B6 b
  clear b B6
  generalize w6.heap.size = x at *
  go_wp2_with fail
  refine (live8 _).mono ?_
  rintro e w8 ⟨rfl, b⟩
  have B8 := below_to B7 b
  have hc8 := (b.cell (p := ⟨x, 1, none⟩) hsz).trans hc
  clear b B7 hc hsz
  go_wp2_with fail
  refine (liveD _).mono ?_
  rintro e w8' ⟨rfl, rfl⟩
  go_wp2_with fail
  refine (live9 _).mono ?_
  rintro e w9 ⟨rfl, b⟩
  have B9 := below_to B8 b
  clear b B8 hc8
  go_wp2_with fail
  refine (liveA _).mono ?_
  rintro e wA ⟨rfl, b⟩
  have BA := below_to B9 b
  clear b B9
  go_wp2_with fail
  refine (liveB _).mono ?_
  rintro e wB ⟨rfl, b⟩
  have BB := below_to BA b
  clear b BA
  go_wp2_with fail
  refine (liveC _).mono ?_
  rintro e wC ⟨rfl, b⟩
  have BC := below_to BB b
  clear b BB
  go_wp2_with fail
  refine (prefix_nil _).mono ?_
  rintro e wC' ⟨rfl, rfl⟩
  go_wp2_with fail
  refine (liveE _).mono ?_
  rintro e wE ⟨rfl, b⟩
  have BE := below_to BC b
  clear b BC
  go_wp2
  go_ret
  exact ⟨rfl, BE⟩
end Go.Proofs.YtgbnmokajaehhaaDoor
