/- The examples of the sectors. -/
import Derived.Test.YtplngodilalbhaaAB
namespace Go.Proofs.Ytplngodilalbhaa
open Go.RowKit
theorem page_lit (C : Int) (c : UInt8) (hC : C = (c.toNat : Int)) (t : ByteArray) (h : bs (List.replicate 480 c) = t) (w : World) : Calls Try.prog 42 #[.int .u8 C] w fun e w' => e = .returned (.string t) ∧ Below w.heap.size w w' := by
  subst hC h; exact page6_any c w
theorem at_list (b : ByteArray) (i : Nat) (h : i < b.size) (L R : List UInt8) (c : UInt8) (hb : b.data.toList = L ++ c :: R) (hl : L.length = i) : ((b[i]'h).toNat : Int) = (c.toNat : Int) := by
  subst hl
  have q : b.data.toList[L.length]? = some c := by rw [hb]; simp
  have q2 : b.data.toList[L.length]? = some (b[L.length]'h) := by
    rw [Array.getElem?_toList, Array.getElem?_eq_getElem (by exact h)]; rfl
  rw [q2] at q
  rw [Option.some.inj q]
/-- The example's bytes. -/
structure ExB (b : ByteArray) (P : ByteArray) : Prop where
  sz : b.size = 512
  op : Opens b 2 3 258 7 1 P
  b0 : ∀ h : 0 < b.size, ((b[0]'h).toNat : Int) = 2
  b3 : ∀ h : 3 < b.size, ((b[3]'h).toNat : Int) = 7
  b5 : ∀ h : 5 < b.size, ((b[5]'h).toNat : Int) = 1
  b15 : ∀ h : 15 < b.size, ((b[15]'h).toNat : Int) = 3
  b22 : ∀ h : 22 < b.size, ((b[22]'h).toNat : Int) = 1
  b23 : ∀ h : 23 < b.size, ((b[23]'h).toNat : Int) = 2
  b32 : ∀ h : 32 < b.size, ((b[32]'h).toNat : Int) = 9
theorem nl1 : numL 1 2 = [2] := by decide
theorem nl2 : numL 2 7 = [0, 7] := by decide
theorem nl3 : numL 2 1 = [0, 1] := by decide
theorem nl4 : numL 8 3 = [0, 0, 0, 0, 0, 0, 0, 3] := by decide
theorem nl5 : numL 8 258 = [0, 0, 0, 0, 0, 0, 1, 2] := by decide
theorem exB (P : ByteArray) (R : List UInt8) (hP : P.data.toList = 9 :: R) (hps : P.size = 480) : ExB (sealB 2 3 258 7 1 P) P := by
  obtain ⟨z, hl, hz⟩ : ∃ z : List UInt8, (sealB 2 3 258 7 1 P).data.toList = [2, 0, 0, 7, 0, 1, 0, 0, 0, 0, 0, 0, 0, 0, 0, 3, 0, 0, 0, 0, 0, 0, 1, 2, 0, 0, 0, 0] ++ (z ++ 9 :: R) ∧ z.length = 4 := by
    refine ⟨numL 4 (sumN (frontB 2 3 258 7 1 ++ P).data.toList), ?_, numL_length _ _⟩
    rw [seal_list]
    unfold tl1 tl2 tl3 tl4 tl5 tl6 tl7
    generalize numL 4 _ = z
    rw [hP, nl1, nl2, nl3, nl4, nl5]
    simp
  have hok : okS (2 : Nat) (7 : Nat) (1 : Nat) P.size := ⟨by decide, by decide, by decide, by decide, by decide, by decide, hps⟩
  refine ⟨by rw [sealB_size, hps], ⟨hok, by omega, by omega, rfl⟩, ?_, ?_, ?_, ?_, ?_, ?_, ?_⟩
  all_goals generalize sealB 2 3 258 7 1 P = b at hl ⊢
  · exact fun h => at_list b 0 h [] _ 2 hl rfl
  · exact fun h => at_list b 3 h [2, 0, 0] _ 7 hl rfl
  · exact fun h => at_list b 5 h [2, 0, 0, 7, 0] _ 1 hl rfl
  · exact fun h => at_list b 15 h [2, 0, 0, 7, 0, 1, 0, 0, 0, 0, 0, 0, 0, 0, 0] _ 3 hl rfl
  · exact fun h => at_list b 22 h [2, 0, 0, 7, 0, 1, 0, 0, 0, 0, 0, 0, 0, 0, 0, 3, 0, 0, 0, 0, 0, 0] _ 1 hl rfl
  · exact fun h => at_list b 23 h [2, 0, 0, 7, 0, 1, 0, 0, 0, 0, 0, 0, 0, 0, 0, 3, 0, 0, 0, 0, 0, 0, 1] _ 2 hl rfl
  · exact fun h => at_list b 32 h ([2, 0, 0, 7, 0, 1, 0, 0, 0, 0, 0, 0, 0, 0, 0, 3, 0, 0, 0, 0, 0, 0, 1, 2, 0, 0, 0, 0] ++ z) R 9 (by rw [hl]; simp) (by simp [hz])
/-- The examples' strings and what is answered at them. -/
structure Ex (P b h z Z : ByteArray) : Prop where
  eb : ExB b P
  zz : z512 = Z
  zs : Z.size = 512
  ps : P.size = 480
  n1 : ∀ w, Calls Try.prog 42 #[.int .u8 9] w fun e w' => e = .returned (.string P) ∧ Below w.heap.size w w'
  n2 : ∀ w, Calls Try.prog 11 #[.agg #[.int .i64 2, .int .u64 3, .int .u64 258, .int .i64 7, .int .i64 1, .string P]] w fun x w' => x = strErr b 0 ∧ Below w.heap.size w w'
  n3 : ∀ w, Calls Try.prog 14 #[.string b] w fun x w' => x = secErr 2 3 258 7 1 P 0 ∧ Below w.heap.size w w'
  n4 : ∀ w, Calls Try.prog 11 #[.agg #[.int .i64 5, .int .u64 0, .int .u64 0, .int .i64 0, .int .i64 0, .string P]] w fun x w' => x = strErr ByteArray.empty 18 ∧ Below w.heap.size w w'
  n5 : ∀ w, Calls Try.prog 18 #[.int .i64 5, .string P] w fun x w' => x = strErr h 0 ∧ Below w.heap.size w w'
  n6 : ∀ w, Calls Try.prog 20 #[.string h, .int .i64 5] w fun x w' => x = strErr P 0 ∧ Below w.heap.size w w'
  n7 : ∀ w, Calls Try.prog 20 #[.string h, .int .i64 6] w fun x w' => x = strErr ByteArray.empty 19 ∧ Below w.heap.size w w'
  n8 : ∀ w, Calls Try.prog 42 #[.int .u8 0] w fun e w' => e = .returned (.string z) ∧ Below w.heap.size w w'
  n9 : ∀ w, Calls Try.prog 18 #[.int .i64 5, .string z] w fun x w' => x = strErr Z 0 ∧ Below w.heap.size w w'
theorem allZ_rep (n : Nat) : allZ (List.replicate n 0) = true := by
  unfold allZ
  rw [List.all_eq_true]
  intro x hx
  rw [List.eq_of_mem_replicate hx]; rfl
theorem rep_size (n : Nat) (c : UInt8) : (bs (List.replicate n c)).size = n := by rw [bs_size, List.length_replicate]
theorem rep_cons (n : Nat) (c : UInt8) : (bs (List.replicate (n + 1) c)).data.toList = c :: List.replicate n c := by rw [bs_toList, List.replicate_succ]
theorem exHold : ∃ P b h z Z, Ex P b h z Z := by
  obtain ⟨P, R, hP, hPl, hps⟩ : ∃ P R, bs (List.replicate 480 9) = P ∧ P.data.toList = 9 :: R ∧ P.size = 480 := ⟨_, _, rfl, rep_cons 479 9, rep_size 480 9⟩
  obtain ⟨Q, hQ, hQl, hqs⟩ : ∃ Q, z480 = Q ∧ allZ Q.data.toList = true ∧ Q.size = 480 := ⟨_, rfl, by rw [bs_toList]; exact allZ_rep 480, rep_size 480 0⟩
  obtain ⟨Z, hZ, hzs⟩ : ∃ Z, z512 = Z ∧ Z.size = 512 := ⟨_, rfl, rep_size 512 0⟩
  have hok : okS (4 : Nat) (5 : Nat) (0 : Nat) P.size := ⟨by decide, by decide, by decide, by decide, by decide, by decide, hps⟩
  have hokz : okS (4 : Nat) (5 : Nat) (0 : Nat) Q.size := ⟨by decide, by decide, by decide, by decide, by decide, by decide, hqs⟩
  have hnz : allZ P.data.toList = false := by rw [hPl]; rfl
  have eb := exB P R hPl hps
  have HO : Opens (sealB 4 0 0 5 0 P) 4 0 0 5 0 P := ⟨hok, by omega, by omega, rfl⟩
  have hnb := seal_not_blank 4 0 0 5 0 P (by omega) (by omega)
  refine ⟨P, sealB 2 3 258 7 1 P, sealB 4 0 0 5 0 P, Q, Z, eb, hZ, hzs, hps, ?_, ?_, ?_, ?_, ?_, ?_, ?_, ?_, ?_⟩
  · exact fun w => page_lit 9 9 (by decide) _ hP w
  · exact fun w => seal_ok 2 3 258 7 1 _ w eb.op.ok (by omega) (by omega)
  · exact fun w => open_is eb.op w
  · exact fun w => seal_no 5 0 0 0 0 _ w (fun h => by have := h.2.1; omega)
  · exact fun w => home_seal 5 _ _ w hok hnz (fun w => seal_ok 4 0 0 5 0 _ w hok (by omega) (by omega))
  · exact fun w => (of_yes hnb HO).h1 w
  · exact fun w => (of_no hnb HO (pg := 6) (fun h => by have := h.2.2.2.1; omega)).h1 w
  · exact fun w => page_lit 0 0 (by decide) _ hQ w
  · exact fun w => home_blank 5 _ _ w hokz hQl hZ
end Go.Proofs.Ytplngodilalbhaa
