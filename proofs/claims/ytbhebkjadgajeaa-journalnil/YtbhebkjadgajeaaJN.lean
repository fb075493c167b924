/- JournalNil, walked. -/
import Derived.Test.YtbhebkjadgajeaaJD
import Derived.Test.YtbhebkjadgajeaaOpen
namespace Go.Proofs.Ytbhebkjadgajeaa
open Go.RowKit
theorem puts1 (w : World) (q : PutR) (T : TypeId) : Puts (w.alloc (.cells #[.int .i64 q.page, .int .u8 (q.byte.toNat : Int), .bool q.short] T)) (some ⟨w.heap.size, 0, none⟩) 1 [q] := by
  refine ⟨rfl, .inr ⟨w.heap.size, 0, rfl, by simp, fun j hj => ?_⟩⟩
  match j, hj with
  | 0, _ => exact ⟨by simp [go_sem], by simp [go_sem], by simp [go_sem]⟩
set_option maxRecDepth 100000 in
set_option maxHeartbeats 4000000 in
theorem journalNil_walk (size : Int) (_ : (Lit.int .i64 size).wf = true) (ep : Nat) (_ : ep < 18446744073709551616) (q : PutR) (_ : (Lit.int .i64 q.page).wf = true) (w : World) : Calls Try.prog 4 #[.int .i64 size, .int .u64 (ep : Int), .agg #[.int .i64 q.page, .int .u8 (q.byte.toNat : Int), .bool q.short]] w fun e w' => e = .returned (.bool true) ∧ Below w.heap.size w w' := by
  have B := (Below.refl w.heap.size w).alloc (Nat.le_refl _) (.cells #[.int .i64 q.page, .int .u8 (q.byte.toNat : Int), .bool q.short] 51)
  go_enter Try.func4, Try.ntmps4
  go_wp2_with fail
  refine (jopen_nil size ep _).mono ?_
  rintro e w' ⟨rfl, rfl⟩
  go_wp2_with fail
  refine (scan_nil size ep _).mono ?_
  rintro e w' ⟨rfl, rfl⟩
  go_wp2_with fail
  have hp := puts1 (w.alloc (.cells #[.int .i64 q.page, .int .u8 (q.byte.toNat : Int), .bool q.short] 51)) q 51
  replace B := below_to B ((Below.refl _ _).alloc (Nat.le_refl _) (.cells #[.int .i64 q.page, .int .u8 (q.byte.toNat : Int), .bool q.short] 51))
  refine (images_any _ 1 _ [q] _ (by omega) (by simpa using hp)).mono ?_
  rintro e w1 ⟨v, rfl, hR⟩
  replace B := below_to B hR.below
  go_wp2_with fail
  refine (ours_any v [q.img] _ (by simp) hR.sl).mono ?_
  rintro e w2 ⟨v2, rfl, hR2⟩
  replace B := below_to B hR2.below
  obtain ⟨a2, c2, rfl⟩ := hR2.form0
  go_wp2_with fail
  refine (append_nil _ _ _ _).mono ?_
  rintro e w' ⟨rfl, rfl⟩
  go_wp2_with fail
  refine (room_nil _).mono ?_
  rintro e w' ⟨rfl, rfl⟩
  go_wp2_with fail
  refine (number_nil _).mono ?_
  rintro e w' ⟨rfl, rfl⟩
  go_wp2_with fail
  refine (epoch_nil _).mono ?_
  rintro e w' ⟨rfl, rfl⟩
  go_wp2_with fail
  refine (lives8 _).mono ?_
  rintro e w3 ⟨rfl, hb⟩
  replace B := below_to B hb
  go_wp2_with fail
  go_ret
  exact ⟨rfl, B⟩
end Go.Proofs.Ytbhebkjadgajeaa
