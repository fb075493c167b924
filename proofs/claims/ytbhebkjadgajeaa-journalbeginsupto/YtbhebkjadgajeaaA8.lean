/- Contracts: pages of one byte; sealed, home, Blank. -/
import Derived.Test.YtbhebkjadgajeaaA7
namespace Go.Proofs.Ytbhebkjadgajeaa
open Go.RowKit
theorem fill_one (n k : Nat) (c : UInt8) (h : k < n) : (List.replicate k c ++ List.replicate (n - k) 0).set k c = List.replicate (k + 1) c ++ List.replicate (n - (k + 1)) 0 := by
  rw [List.set_append_right _ _ (by simp)]
  simp only [List.length_replicate, Nat.sub_self]
  rw [show n - k = (n - (k + 1)) + 1 by omega, List.replicate_succ, List.set_cons_zero, List.replicate_succ' (n := k)]
  simp
theorem blank_any (z : ByteArray) (hz : bs (List.replicate 512 0) = z) (w : World) : Calls Try.prog 24 #[] w fun x w' => x = .returned (.string z) ∧ Below w.heap.size w w' := by
  have n1 := Lib.hid (fun w => zeros_lit 512 512 z rfl hz w (by omega) (by omega))
  clear hz
  go_enter Try.func24, Try.ntmps24
  go_wp2_with fail
  refine (n1.out _).mono ?_
  rintro x w1 ⟨rfl, hb⟩
  go_wp2_with fail
  go_ret
  exact ⟨rfl, hb⟩
end Go.Proofs.Ytbhebkjadgajeaa
