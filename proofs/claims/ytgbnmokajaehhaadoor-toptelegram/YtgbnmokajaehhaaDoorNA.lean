/- Contract: the law's lives. -/
import Derived.Test.YtgbnmokajaehhaaDoorN9
namespace Go.Proofs.YtgbnmokajaehhaaDoor
open Go.RowKit Go.Sort
set_option linter.unusedVariables false
theorem live1 (w : World) : Calls Tryd.prog 8 #[.string ⟨#[97, 37, 50, 48, 37, 50, 53]⟩] w fun e w' => e = .returned (.tuple #[.string ⟨#[97, 32, 37]⟩, .int .i64 0]) ∧ Below w.heap.size w w' :=
  (unword_yes ⟨#[97, 37, 50, 48, 37, 50, 53]⟩ (by decide) (by decide) (by decide +kernel) (by decide +kernel) w).mono fun e w' h => ⟨h.1.trans (by rw [show bs (unescL (ByteArray.mk #[97, 37, 50, 48, 37, 50, 53]).data.toList) = ⟨#[97, 32, 37]⟩ by decide +kernel]; rfl), h.2⟩
theorem live2 (w : World) : Calls Tryd.prog 8 #[.string ⟨#[97, 37, 50]⟩] w fun e w' => e = .returned (.tuple #[.string ⟨#[]⟩, .int .i64 19]) ∧ Below w.heap.size w w' :=
  (unword_no ⟨#[97, 37, 50]⟩ (by decide) (by decide) (by decide +kernel) (by decide +kernel) w).mono fun e w' h => ⟨h.1, h.2⟩
theorem live3 (w : World) (hE : Env w) : Calls Tryd.prog 18 #[.string ⟨#[49, 56, 52, 52, 54, 55, 52, 52, 48, 55, 51, 55, 48, 57, 53, 53, 49, 54, 49, 53]⟩] w fun e w' => e = .returned (.tuple #[.int .u64 18446744073709551615, .int .i64 0]) ∧ Below w.heap.size w w' :=
  (number_any ⟨#[49, 56, 52, 52, 54, 55, 52, 52, 48, 55, 51, 55, 48, 57, 53, 53, 49, 54, 49, 53]⟩ (by decide) w hE).mono fun e w' h => ⟨h.1.trans (by rw [show numN (ByteArray.mk #[49, 56, 52, 52, 54, 55, 52, 52, 48, 55, 51, 55, 48, 57, 53, 53, 49, 54, 49, 53]).data.toList = some 18446744073709551615 by decide +kernel]; rfl), h.2⟩
theorem live4 (w : World) (hE : Env w) : Calls Tryd.prog 18 #[.string ⟨#[48, 53]⟩] w fun e w' => e = .returned (.tuple #[.int .u64 0, .int .i64 19]) ∧ Below w.heap.size w w' :=
  (number_any ⟨#[48, 53]⟩ (by decide) w hE).mono fun e w' h => ⟨h.1.trans (by rw [show numN (ByteArray.mk #[48, 53]).data.toList = none by decide +kernel]; rfl), h.2⟩
theorem live5 (w : World) (hE : Env w) : Calls Tryd.prog 20 #[.string ⟨#[45, 57, 50, 50, 51, 51, 55, 50, 48, 51, 54, 56, 53, 52, 55, 55, 53, 56, 48, 56]⟩] w fun e w' => e = .returned (.tuple #[.int .i64 (-9223372036854775808), .int .i64 0]) ∧ Below w.heap.size w w' :=
  (whole_any ⟨#[45, 57, 50, 50, 51, 51, 55, 50, 48, 51, 54, 56, 53, 52, 55, 55, 53, 56, 48, 56]⟩ (by decide) w hE).mono fun e w' h => ⟨h.1.trans (by rw [show intN (ByteArray.mk #[45, 57, 50, 50, 51, 51, 55, 50, 48, 51, 54, 56, 53, 52, 55, 55, 53, 56, 48, 56]).data.toList = some (-9223372036854775808) by decide +kernel]; rfl), h.2⟩
theorem live6 (w : World) (hE : Env w) : Calls Tryd.prog 20 #[.string ⟨#[45, 48]⟩] w fun e w' => e = .returned (.tuple #[.int .i64 0, .int .i64 19]) ∧ Below w.heap.size w w' :=
  (whole_any ⟨#[45, 48]⟩ (by decide) w hE).mono fun e w' h => ⟨h.1.trans (by rw [show intN (ByteArray.mk #[45, 48]).data.toList = none by decide +kernel]; rfl), h.2⟩
theorem live7 (w : World) (hE : Env w) : Calls Tryd.prog 14 #[.string ⟨#[97, 32, 32, 98]⟩] w fun e w' => e = .returned (.slice (some ⟨w.heap.size, 0, none⟩) 3 3) ∧ w'.cell? ⟨w.heap.size, 1, none⟩ = some (.string ⟨#[]⟩) ∧ Below w.heap.size w w' ∧ w.heap.size < w'.heap.size :=
  (words_any ⟨#[97, 32, 32, 98]⟩ (by decide) w hE).mono fun e w' h => ⟨h.1.trans (by rw [show Lib.countB (ByteArray.mk #[97, 32, 32, 98]) ⟨#[32]⟩ = 2 by decide +kernel]), by
    rw [h.2, show Lib.countB (ByteArray.mk #[97, 32, 32, 98]) ⟨#[32]⟩ = 2 by decide +kernel, show Lib.splitB ⟨#[32]⟩ 0 2 (ByteArray.mk #[97, 32, 32, 98]) = [⟨#[97]⟩, ⟨#[]⟩, ⟨#[98]⟩] by decide +kernel]; simp [go_sem], by rw [h.2]; exact (Below.refl _ _).alloc (Nat.le_refl _) _, by rw [h.2]; simp⟩
theorem live8 (w : World) : Calls Tryd.prog 11 #[.string ⟨#[97, 32, 37]⟩] w fun e w' => e = .returned (.string ⟨#[97, 37, 50, 48, 37, 50, 53]⟩) ∧ Below w.heap.size w w' :=
  (word_any ⟨#[97, 32, 37]⟩ (by decide) (by decide) w).mono fun e w' h => ⟨h.1.trans (by rw [show bs (wordL (ByteArray.mk #[97, 32, 37]).data.toList) = ⟨#[97, 37, 50, 48, 37, 50, 53]⟩ by decide +kernel]), h.2⟩
theorem live9 (w : World) : Calls Tryd.prog 38 #[.string ⟨#[97, 45, 49]⟩] w fun e w' => e = .returned (.int .i64 0) ∧ Below w.heap.size w w' :=
  (bucket_any ⟨#[97, 45, 49]⟩ (by decide) w).mono fun e w' h => ⟨h.1.trans (ret_int (by decide +kernel)), h.2⟩
theorem liveA (w : World) : Calls Tryd.prog 38 #[.string ⟨#[45, 97]⟩] w fun e w' => e = .returned (.int .i64 18) ∧ Below w.heap.size w w' :=
  (bucket_any ⟨#[45, 97]⟩ (by decide) w).mono fun e w' h => ⟨h.1.trans (ret_int (by decide +kernel)), h.2⟩
theorem liveB (w : World) : Calls Tryd.prog 39 #[.string ⟨#[]⟩] w fun e w' => e = .returned (.int .i64 18) ∧ Below w.heap.size w w' :=
  (key_any ⟨#[]⟩ (by decide) w).mono fun e w' h => ⟨h.1.trans (ret_int (by decide +kernel)), h.2⟩
theorem liveC (w : World) : Calls Tryd.prog 39 #[.string ⟨#[255]⟩] w fun e w' => e = .returned (.int .i64 0) ∧ Below w.heap.size w w' :=
  (key_any ⟨#[255]⟩ (by decide) w).mono fun e w' h => ⟨h.1.trans (ret_int (by decide +kernel)), h.2⟩
end Go.Proofs.YtgbnmokajaehhaaDoor
