/- What the program and the reference answer alike. -/
import Derived.Test.YtbhebkjadgajeaaAA
namespace Go.Proofs.Ytbhebkjadgajeaa
open Go.RowKit
theorem okS_nat {k a m : Int} {n : Nat} (h : okS k a m n) : ∃ K A M : Nat, k = K ∧ a = A ∧ m = M := by
  obtain ⟨h1, h2, h3, h4, h5, h6, h7⟩ := h
  exact ⟨k.toNat, a.toNat, m.toNat, by omega, by omega, by omega⟩
theorem nb (x y : Nat) (h : x ≠ y) : ((x : Int) == (y : Int)) = false := by rw [beq_eq_false_iff_ne]; omega
theorem seal_not_blank (k e n a m : Nat) (p : ByteArray) (h1 : 1 ≤ k) (h2 : k ≤ 4) : sealB k e n a m p ≠ z512 := by
  intro h
  have hl := congrArg (fun b : ByteArray => b.data.toList) h
  simp only [seal_list, bs_toList] at hl
  rw [show numL 1 k = [UInt8.ofNat (k % 256)] by simp [numL], Nat.mod_eq_of_lt (by omega)] at hl
  have hr : List.replicate 512 (0 : UInt8) = 0 :: List.replicate 511 0 := List.replicate_succ
  rw [hr] at hl
  have h0 : UInt8.ofNat k = 0 := (List.cons.inj hl).1
  have := congrArg UInt8.toNat h0
  simp at this
  omega
end Go.Proofs.Ytbhebkjadgajeaa
