/- The examples of the sectors. -/
import Derived.Test.YtbhebkjadgajeaaAB
namespace Go.Proofs.Ytbhebkjadgajeaa
open Go.RowKit
theorem at_list (b : ByteArray) (i : Nat) (h : i < b.size) (L R : List UInt8) (c : UInt8) (hb : b.data.toList = L ++ c :: R) (hl : L.length = i) : ((b[i]'h).toNat : Int) = (c.toNat : Int) := by
  subst hl
  have q : b.data.toList[L.length]? = some c := by rw [hb]; simp
  have q2 : b.data.toList[L.length]? = some (b[L.length]'h) := by
    rw [Array.getElem?_toList, Array.getElem?_eq_getElem (by exact h)]; rfl
  rw [q2] at q
  rw [Option.some.inj q]
/-- The example's bytes. -/
structure ExB (b : ByteArray) (P : ByteArray) : Prop where
  sz : b.size = 512
  op : Opens b 2 3 258 7 1 P
  b0 : ∀ h : 0 < b.size, ((b[0]'h).toNat : Int) = 2
  b3 : ∀ h : 3 < b.size, ((b[3]'h).toNat : Int) = 7
  b5 : ∀ h : 5 < b.size, ((b[5]'h).toNat : Int) = 1
  b15 : ∀ h : 15 < b.size, ((b[15]'h).toNat : Int) = 3
  b22 : ∀ h : 22 < b.size, ((b[22]'h).toNat : Int) = 1
  b23 : ∀ h : 23 < b.size, ((b[23]'h).toNat : Int) = 2
  b32 : ∀ h : 32 < b.size, ((b[32]'h).toNat : Int) = 9
theorem nl1 : numL 1 2 = [2] := by decide
theorem nl2 : numL 2 7 = [0, 7] := by decide
theorem nl3 : numL 2 1 = [0, 1] := by decide
theorem nl4 : numL 8 3 = [0, 0, 0, 0, 0, 0, 0, 3] := by decide
theorem nl5 : numL 8 258 = [0, 0, 0, 0, 0, 0, 1, 2] := by decide
theorem exB (P : ByteArray) (R : List UInt8) (hP : P.data.toList = 9 :: R) (hps : P.size = 480) : ExB (sealB 2 3 258 7 1 P) P := by
  obtain ⟨z, hl, hz⟩ : ∃ z : List UInt8, (sealB 2 3 258 7 1 P).data.toList = [2, 0, 0, 7, 0, 1, 0, 0, 0, 0, 0, 0, 0, 0, 0, 3, 0, 0, 0, 0, 0, 0, 1, 2, 0, 0, 0, 0] ++ (z ++ 9 :: R) ∧ z.length = 4 := by
    refine ⟨numL 4 (sumN (frontB 2 3 258 7 1 ++ P).data.toList), ?_, numL_length _ _⟩
    rw [seal_list]
    unfold tl1 tl2 tl3 tl4 tl5 tl6 tl7
    generalize numL 4 _ = z
    rw [hP, nl1, nl2, nl3, nl4, nl5]
    simp
  have hok : okS (2 : Nat) (7 : Nat) (1 : Nat) P.size := ⟨by decide, by decide, by decide, by decide, by decide, by decide, hps⟩
  refine ⟨by rw [sealB_size, hps], ⟨hok, by omega, by omega, rfl⟩, ?_, ?_, ?_, ?_, ?_, ?_, ?_⟩
  all_goals generalize sealB 2 3 258 7 1 P = b at hl ⊢
  · exact fun h => at_list b 0 h [] _ 2 hl rfl
  · exact fun h => at_list b 3 h [2, 0, 0] _ 7 hl rfl
  · exact fun h => at_list b 5 h [2, 0, 0, 7, 0] _ 1 hl rfl
  · exact fun h => at_list b 15 h [2, 0, 0, 7, 0, 1, 0, 0, 0, 0, 0, 0, 0, 0, 0] _ 3 hl rfl
  · exact fun h => at_list b 22 h [2, 0, 0, 7, 0, 1, 0, 0, 0, 0, 0, 0, 0, 0, 0, 3, 0, 0, 0, 0, 0, 0] _ 1 hl rfl
  · exact fun h => at_list b 23 h [2, 0, 0, 7, 0, 1, 0, 0, 0, 0, 0, 0, 0, 0, 0, 3, 0, 0, 0, 0, 0, 0, 1] _ 2 hl rfl
  · exact fun h => at_list b 32 h ([2, 0, 0, 7, 0, 1, 0, 0, 0, 0, 0, 0, 0, 0, 0, 3, 0, 0, 0, 0, 0, 0, 1, 2, 0, 0, 0, 0] ++ z) R 9 (by rw [hl]; simp) (by simp [hz])
theorem allZ_rep (n : Nat) : allZ (List.replicate n 0) = true := by
  unfold allZ
  rw [List.all_eq_true]
  intro x hx
  rw [List.eq_of_mem_replicate hx]; rfl
theorem rep_size (n : Nat) (c : UInt8) : (bs (List.replicate n c)).size = n := by rw [bs_size, List.length_replicate]
theorem rep_cons (n : Nat) (c : UInt8) : (bs (List.replicate (n + 1) c)).data.toList = c :: List.replicate n c := by rw [bs_toList, List.replicate_succ]
end Go.Proofs.Ytbhebkjadgajeaa
