/- DiskNil, walked. -/
import Derived.Test.YtplngodilalbhaaE1
namespace Go.Proofs.Ytplngodilalbhaa
open Go.RowKit Go.Shelf
set_option maxHeartbeats 1000000 in
theorem diskNil_walk (i : Int) (s : ByteArray) (w : World) : Calls Try.prog 8 #[.int .i64 i, .string s] w fun e w' => e = .returned (.bool true) ∧ Below w.heap.size w w' := by
  go_enter Try.func8, Try.ntmps8
  go_wp2_with fail
  refine (arm_nil i _).mono ?_
  rintro e w' ⟨rfl, rfl⟩
  go_wp2_with fail
  refine (read_nil i _).mono ?_
  rintro e w1 ⟨rfl, B⟩
  go_wp2_with fail
  refine (write_nil i s _).mono ?_
  rintro e w' ⟨rfl, rfl⟩
  go_wp2_with fail
  refine (flush_nil _).mono ?_
  rintro e w' ⟨rfl, rfl⟩
  go_wp2_with fail
  refine (down_nil _).mono ?_
  rintro e w' ⟨rfl, rfl⟩
  go_wp2_with fail
  replace B := below_to B ((Below.refl w1.heap.size w1).alloc (Nat.le_refl _) (.cells #[.bool true] 4))
  refine (up_nil _ _ _ _).mono ?_
  rintro e w2 ⟨rfl, hb⟩
  replace B := below_to B hb
  clear hb
  go_wp2_with fail
  refine (len_nil _).mono ?_
  rintro e w' ⟨rfl, rfl⟩
  go_wp2_with fail
  refine (pending_nil _).mono ?_
  rintro e w' ⟨rfl, rfl⟩
  go_wp2_with fail
  refine (ops_nil _).mono ?_
  rintro e w' ⟨rfl, rfl⟩
  go_wp2_with fail
  refine (safe_nil _).mono ?_
  rintro e w' ⟨rfl, rfl⟩
  go_wp2_with fail
  refine (copy_nil _).mono ?_
  rintro e w' ⟨rfl, rfl⟩
  go_wp2_with fail
  refine (lives7 _).mono ?_
  rintro e w3 ⟨rfl, hb⟩
  replace B := below_to B hb
  go_wp2_with fail
  go_ret
  exact ⟨rfl, B⟩
end Go.Proofs.Ytplngodilalbhaa
