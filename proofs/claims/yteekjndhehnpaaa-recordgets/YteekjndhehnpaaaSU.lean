/- Contracts: the reference's Puts. -/
import Derived.Test.YteekjndhehnpaaaSH
import Derived.Test.YteekjndhehnpaaaSP
import Derived.Test.YteekjndhehnpaaaSK
import Derived.Test.YteekjndhehnpaaaKD
import Derived.Deep.Cut
namespace Go.Proofs.Yteekjndhehnpaaa
open Go.RowKit
set_option maxRecDepth 100000
set_option linter.unusedVariables false
set_option linter.unusedSimpArgs false
set_option maxHeartbeats 8000000
theorem eight_any (x : Int) (w : World) : Calls Try.prog 112 #[.int .i64 x] w fun e w' => e = .returned (.string (bs (numL 8 (u64N x)))) ∧ Below w.heap.size w w' := by
  have HN : Hid (∀ w, Calls Try.prog 52 #[.int .i64 8, .int .u64 ((u64N x : Nat) : Int)] w fun e w' => e = .returned (.string (bs (numL 8 (u64N x)))) ∧ Below w.heap.size w w') := Lib.hid (fun w => rnum_ok 8 (u64N x) w (by omega) (by omega) (u64N_lt x))
  have hx := u64N_wrap x
  generalize bs (numL 8 (u64N x)) = A at HN ⊢
  generalize u64N x = a at HN hx
  go_enter Try.func112, Try.ntmps112
  go_wp2_with fail
  refine (HN.out _).mono ?_
  rintro e w2 ⟨rfl, hb⟩
  go_wp2_with fail
  go_ret
  exact ⟨rfl, hb⟩
theorem bsA (l m : List UInt8) : bs l ++ bs m = bs (l ++ m) := by
  rw [← bs_of (bs l ++ bs m), ByteArray.data_append, Array.toList_append, bs_toList, bs_toList]
def InvRC_v (g0 : Nat) (g1 : Nat) (a : Int) (b : Int) (c : Int) (e : Int) (x1 : Int) (y1 : Int) (A : ByteArray) (B : ByteArray) (C : ByteArray) (E : ByteArray) (zi : Nat) : Value := ([.pointer (some ⟨g0, 0, none⟩), .int .i64 a, .int .i64 x1, .string A, .pointer (some ⟨g0, 1, none⟩), .int .i64 b, .int .i64 y1, .string B, .string (A ++ B), .pointer (some ⟨g1, 0, none⟩), .int .i64 c, .string C, .string ((A ++ B) ++ C), .pointer (some ⟨g1, 1, none⟩), .int .i64 e, .string E, .string (((A ++ B) ++ C) ++ E), .string (((A ++ B) ++ C) ++ E)] : List Value).getD zi undef
def InvRC (W1 : World) (g0 : Nat) (g1 : Nat) (a : Int) (b : Int) (c : Int) (e : Int) (x1 : Int) (y1 : Int) (A : ByteArray) (B : ByteArray) (C : ByteArray) (E : ByteArray) (a0 : Act) (D : Nat → Bool) (act : Act) (w : World) : Prop :=
  ∃ zf : Nat → Value, act = ⟨(a0.tmps.toList.take 4 ++ zf 17 :: zf 0 :: zf 1 :: zf 2 :: zf 3 :: zf 4 :: zf 5 :: zf 6 :: zf 7 :: zf 8 :: zf 9 :: zf 10 :: zf 11 :: zf 12 :: zf 13 :: zf 14 :: zf 15 :: zf 16 :: a0.tmps.toList.drop 22).toArray, []⟩ ∧ Below W1.heap.size W1 w ∧ Hid (∀ zi, D zi = true → zf zi = InvRC_v g0 g1 a b c e x1 y1 A B C E zi)
theorem rcounts_main (a b c e x1 y1 : Int) (hx : IntKind.i64.wrap (a + 1) = x1) (hy : IntKind.i64.wrap (b + 1) = y1) (A B C E : ByteArray) (hA : A.size ≤ 8) (hB8 : B.size ≤ 8) (hC : C.size ≤ 8) (hE : E.size ≤ 8)
    (H1 : Hid (∀ w, Calls Try.prog 112 #[.int .i64 x1] w fun e w' => e = .returned (.string A) ∧ Below w.heap.size w w'))
    (H2 : Hid (∀ w, Calls Try.prog 112 #[.int .i64 y1] w fun e w' => e = .returned (.string B) ∧ Below w.heap.size w w'))
    (H3 : Hid (∀ w, Calls Try.prog 112 #[.int .i64 c] w fun e w' => e = .returned (.string C) ∧ Below w.heap.size w w'))
    (H4 : Hid (∀ w, Calls Try.prog 112 #[.int .i64 e] w fun e w' => e = .returned (.string E) ∧ Below w.heap.size w w'))
    (w : World) : Calls Try.prog 68 #[.agg #[.int .i64 a, .int .i64 b], .agg #[.int .i64 c, .int .i64 e]] w fun x w' => x = .returned (.string (A ++ B ++ C ++ E)) ∧ Below w.heap.size w w' := by
  have jq0 : ¬ 9223372036854775807 < A.size + B.size := by omega
  have jz0 : ¬ (9223372036854775807 : Int) < (A.size : Int) + (B.size : Int) := by omega
  have jq1 : ¬ 9223372036854775807 < A.size + B.size + C.size := by omega
  have jz1 : ¬ (9223372036854775807 : Int) < (A.size : Int) + (B.size : Int) + (C.size : Int) := by omega
  have jq2 : ¬ 9223372036854775807 < A.size + B.size + C.size + E.size := by omega
  have jz2 : ¬ (9223372036854775807 : Int) < (A.size : Int) + (B.size : Int) + (C.size : Int) + (E.size : Int) := by omega
  have S0 := (Duo.new w (.int .i64 a) (.int .i64 b) 47).below (below_box _ (.cells #[.int .i64 c, .int .i64 e] 47))
  have S1 := Duo.new (w.alloc (.cells #[.int .i64 a, .int .i64 b] 47)) (.int .i64 c) (.int .i64 e) 47
  have hz : (w.alloc (.cells #[.int .i64 a, .int .i64 b] 47)).heap.size = w.heap.size + 1 := by simp
  rw [hz] at S1
  have BB := below_to (below_box w (.cells #[.int .i64 a, .int .i64 b] 47)) (below_box _ (.cells #[.int .i64 c, .int .i64 e] 47))
  go_enter Try.func68, Try.ntmps68
  go_upto_region 1 with (fail)
  generalize (w.alloc (.cells #[.int .i64 a, .int .i64 b] 47)).alloc (.cells #[.int .i64 c, .int .i64 e] 47) = w1 at S0 S1 BB ⊢
  generalize hg1 : w.heap.size + 1 = g1 at S1 ⊢
  obtain ⟨g0, hg0⟩ : ∃ g, w.heap.size = g := ⟨_, rfl⟩
  rw [hg0] at S0 BB ⊢
  clear hg1 hz
  replace S0 := Lib.hid S0
  replace S1 := Lib.hid S1
  refine wp_region_inv0 (InvRC w1 g0 g1 a b c e x1 y1 A B C E) (by kernel_rfl) (by decide) ?_ ?_ ?_
  · exact ⟨fun zz => cond (Nat.beq zz 17) (.string ⟨#[]⟩) (undef), rfl, (Below.refl _ _).drew, Lib.hid (fun i h => by cases h)⟩
  · refine AllI.cons ?_ (AllI.cons ?_ (AllI.cons ?_ (AllI.cons ?_ (AllI.cons ?_ (AllI.cons ?_ (AllI.cons ?_ (AllI.cons ?_ (AllI.cons ?_ (AllI.cons ?_ (AllI.cons ?_ (AllI.cons ?_ (AllI.cons ?_ (AllI.cons ?_ (AllI.cons ?_ (AllI.cons ?_ (AllI.cons ?_ (AllI.cons ?_ AllI.nil)))))))))))))))))
    · intro D aa wx HI hD hdep KK hKK
      obtain ⟨zf, rfl, hB, HF⟩ := HI
      simp only [Act.put, List.toList_toArray, List.take_succ_cons, List.take_zero, List.drop_succ_cons, List.drop_zero, List.cons_append, List.nil_append, List.setIfInBounds_toArray, List.set_cons_zero, List.set_cons_succ]
      go_simp
      exact hKK _ _ ⟨fun zz => cond (Nat.beq zz 0) (.pointer (some ⟨g0, 0, none⟩)) (zf zz), rfl, hB, Lib.hid (upd_fact (i := 0) (v := .pointer (some ⟨g0, 0, none⟩)) HF.out rfl)⟩
    · intro D aa wx HI hD hdep KK hKK
      obtain ⟨zf, rfl, hB, HF⟩ := HI
      simp [Region.binds] at hdep
      have E0 : zf 0 = .pointer (some ⟨g0, 0, none⟩) := HF.out 0 (by simp [hdep])
      obtain ⟨c0, c1⟩ := S0.out.below hB
      obtain ⟨d0, d1⟩ := S1.out.below hB
      simp only [E0, Act.put, List.toList_toArray, List.take_succ_cons, List.take_zero, List.drop_succ_cons, List.drop_zero, List.cons_append, List.nil_append, List.setIfInBounds_toArray, List.set_cons_zero, List.set_cons_succ]
      go_simp
      exact hKK _ _ ⟨fun zz => cond (Nat.beq zz 1) (.int .i64 a) (cond (Nat.beq zz 0) (.pointer (some ⟨g0, 0, none⟩)) (zf zz)), rfl, hB, Lib.hid (upd_fact (i := 1) (v := .int .i64 a) (cond_fact (j := 0) (v := .pointer (some ⟨g0, 0, none⟩)) HF.out rfl) rfl)⟩
    · intro D aa wx HI hD hdep KK hKK
      obtain ⟨zf, rfl, hB, HF⟩ := HI
      simp [Region.binds] at hdep
      have E1 : zf 1 = .int .i64 a := HF.out 1 (by simp [hdep])
      simp only [E1, Act.put, List.toList_toArray, List.take_succ_cons, List.take_zero, List.drop_succ_cons, List.drop_zero, List.cons_append, List.nil_append, List.setIfInBounds_toArray, List.set_cons_zero, List.set_cons_succ]
      go_simp
      exact hKK _ _ ⟨fun zz => cond (Nat.beq zz 2) (.int .i64 x1) (cond (Nat.beq zz 1) (.int .i64 a) (zf zz)), rfl, hB, Lib.hid (upd_fact (i := 2) (v := .int .i64 x1) (cond_fact (j := 1) (v := .int .i64 a) HF.out rfl) rfl)⟩
    · intro D aa wx HI hD hdep KK hKK
      obtain ⟨zf, rfl, hB, HF⟩ := HI
      simp [Region.binds] at hdep
      have E2 : zf 2 = .int .i64 x1 := HF.out 2 (by simp [hdep])
      simp only [E2, Act.put, List.toList_toArray, List.take_succ_cons, List.take_zero, List.drop_succ_cons, List.drop_zero, List.cons_append, List.nil_append, List.setIfInBounds_toArray, List.set_cons_zero, List.set_cons_succ]
      go_simp
      refine (H1.out _).mono ?_
      rintro e w5 ⟨rfl, hb⟩
      exact hKK _ _ ⟨fun zz => cond (Nat.beq zz 3) (.string A) (cond (Nat.beq zz 2) (.int .i64 x1) (zf zz)), rfl, below_to hB hb, Lib.hid (upd_fact (i := 3) (v := .string A) (cond_fact (j := 2) (v := .int .i64 x1) HF.out rfl) rfl)⟩
    · intro D aa wx HI hD hdep KK hKK
      obtain ⟨zf, rfl, hB, HF⟩ := HI
      simp only [Act.put, List.toList_toArray, List.take_succ_cons, List.take_zero, List.drop_succ_cons, List.drop_zero, List.cons_append, List.nil_append, List.setIfInBounds_toArray, List.set_cons_zero, List.set_cons_succ]
      go_simp
      exact hKK _ _ ⟨fun zz => cond (Nat.beq zz 4) (.pointer (some ⟨g0, 1, none⟩)) (zf zz), rfl, hB, Lib.hid (upd_fact (i := 4) (v := .pointer (some ⟨g0, 1, none⟩)) HF.out rfl)⟩
    · intro D aa wx HI hD hdep KK hKK
      obtain ⟨zf, rfl, hB, HF⟩ := HI
      simp [Region.binds] at hdep
      have E4 : zf 4 = .pointer (some ⟨g0, 1, none⟩) := HF.out 4 (by simp [hdep])
      obtain ⟨c0, c1⟩ := S0.out.below hB
      obtain ⟨d0, d1⟩ := S1.out.below hB
      simp only [E4, Act.put, List.toList_toArray, List.take_succ_cons, List.take_zero, List.drop_succ_cons, List.drop_zero, List.cons_append, List.nil_append, List.setIfInBounds_toArray, List.set_cons_zero, List.set_cons_succ]
      go_simp
      exact hKK _ _ ⟨fun zz => cond (Nat.beq zz 5) (.int .i64 b) (cond (Nat.beq zz 4) (.pointer (some ⟨g0, 1, none⟩)) (zf zz)), rfl, hB, Lib.hid (upd_fact (i := 5) (v := .int .i64 b) (cond_fact (j := 4) (v := .pointer (some ⟨g0, 1, none⟩)) HF.out rfl) rfl)⟩
    · intro D aa wx HI hD hdep KK hKK
      obtain ⟨zf, rfl, hB, HF⟩ := HI
      simp [Region.binds] at hdep
      have E5 : zf 5 = .int .i64 b := HF.out 5 (by simp [hdep])
      simp only [E5, Act.put, List.toList_toArray, List.take_succ_cons, List.take_zero, List.drop_succ_cons, List.drop_zero, List.cons_append, List.nil_append, List.setIfInBounds_toArray, List.set_cons_zero, List.set_cons_succ]
      go_simp
      exact hKK _ _ ⟨fun zz => cond (Nat.beq zz 6) (.int .i64 y1) (cond (Nat.beq zz 5) (.int .i64 b) (zf zz)), rfl, hB, Lib.hid (upd_fact (i := 6) (v := .int .i64 y1) (cond_fact (j := 5) (v := .int .i64 b) HF.out rfl) rfl)⟩
    · intro D aa wx HI hD hdep KK hKK
      obtain ⟨zf, rfl, hB, HF⟩ := HI
      simp [Region.binds] at hdep
      have E6 : zf 6 = .int .i64 y1 := HF.out 6 (by simp [hdep])
      simp only [E6, Act.put, List.toList_toArray, List.take_succ_cons, List.take_zero, List.drop_succ_cons, List.drop_zero, List.cons_append, List.nil_append, List.setIfInBounds_toArray, List.set_cons_zero, List.set_cons_succ]
      go_simp
      refine (H2.out _).mono ?_
      rintro e w5 ⟨rfl, hb⟩
      exact hKK _ _ ⟨fun zz => cond (Nat.beq zz 7) (.string B) (cond (Nat.beq zz 6) (.int .i64 y1) (zf zz)), rfl, below_to hB hb, Lib.hid (upd_fact (i := 7) (v := .string B) (cond_fact (j := 6) (v := .int .i64 y1) HF.out rfl) rfl)⟩
    · intro D aa wx HI hD hdep KK hKK
      obtain ⟨zf, rfl, hB, HF⟩ := HI
      simp [Region.binds] at hdep
      have E3 : zf 3 = .string A := HF.out 3 (by simp [hdep])
      have E7 : zf 7 = .string B := HF.out 7 (by simp [hdep])
      simp only [E3, E7, Act.put, List.toList_toArray, List.take_succ_cons, List.take_zero, List.drop_succ_cons, List.drop_zero, List.cons_append, List.nil_append, List.setIfInBounds_toArray, List.set_cons_zero, List.set_cons_succ]
      go_simp
      exact hKK _ _ ⟨fun zz => cond (Nat.beq zz 8) (.string (A ++ B)) (cond (Nat.beq zz 7) (.string B) (cond (Nat.beq zz 3) (.string A) (zf zz))), rfl, hB, Lib.hid (upd_fact (i := 8) (v := .string (A ++ B)) (cond_fact (j := 7) (v := .string B) (cond_fact (j := 3) (v := .string A) HF.out rfl) rfl) rfl)⟩
    · intro D aa wx HI hD hdep KK hKK
      obtain ⟨zf, rfl, hB, HF⟩ := HI
      simp only [Act.put, List.toList_toArray, List.take_succ_cons, List.take_zero, List.drop_succ_cons, List.drop_zero, List.cons_append, List.nil_append, List.setIfInBounds_toArray, List.set_cons_zero, List.set_cons_succ]
      go_simp
      exact hKK _ _ ⟨fun zz => cond (Nat.beq zz 9) (.pointer (some ⟨g1, 0, none⟩)) (zf zz), rfl, hB, Lib.hid (upd_fact (i := 9) (v := .pointer (some ⟨g1, 0, none⟩)) HF.out rfl)⟩
    · intro D aa wx HI hD hdep KK hKK
      obtain ⟨zf, rfl, hB, HF⟩ := HI
      simp [Region.binds] at hdep
      have E9 : zf 9 = .pointer (some ⟨g1, 0, none⟩) := HF.out 9 (by simp [hdep])
      obtain ⟨c0, c1⟩ := S0.out.below hB
      obtain ⟨d0, d1⟩ := S1.out.below hB
      simp only [E9, Act.put, List.toList_toArray, List.take_succ_cons, List.take_zero, List.drop_succ_cons, List.drop_zero, List.cons_append, List.nil_append, List.setIfInBounds_toArray, List.set_cons_zero, List.set_cons_succ]
      go_simp
      exact hKK _ _ ⟨fun zz => cond (Nat.beq zz 10) (.int .i64 c) (cond (Nat.beq zz 9) (.pointer (some ⟨g1, 0, none⟩)) (zf zz)), rfl, hB, Lib.hid (upd_fact (i := 10) (v := .int .i64 c) (cond_fact (j := 9) (v := .pointer (some ⟨g1, 0, none⟩)) HF.out rfl) rfl)⟩
    · intro D aa wx HI hD hdep KK hKK
      obtain ⟨zf, rfl, hB, HF⟩ := HI
      simp [Region.binds] at hdep
      have E10 : zf 10 = .int .i64 c := HF.out 10 (by simp [hdep])
      simp only [E10, Act.put, List.toList_toArray, List.take_succ_cons, List.take_zero, List.drop_succ_cons, List.drop_zero, List.cons_append, List.nil_append, List.setIfInBounds_toArray, List.set_cons_zero, List.set_cons_succ]
      go_simp
      refine (H3.out _).mono ?_
      rintro e w5 ⟨rfl, hb⟩
      exact hKK _ _ ⟨fun zz => cond (Nat.beq zz 11) (.string C) (cond (Nat.beq zz 10) (.int .i64 c) (zf zz)), rfl, below_to hB hb, Lib.hid (upd_fact (i := 11) (v := .string C) (cond_fact (j := 10) (v := .int .i64 c) HF.out rfl) rfl)⟩
    · intro D aa wx HI hD hdep KK hKK
      obtain ⟨zf, rfl, hB, HF⟩ := HI
      simp [Region.binds] at hdep
      have E8 : zf 8 = .string (A ++ B) := HF.out 8 (by simp [hdep])
      have E11 : zf 11 = .string C := HF.out 11 (by simp [hdep])
      simp only [E8, E11, Act.put, List.toList_toArray, List.take_succ_cons, List.take_zero, List.drop_succ_cons, List.drop_zero, List.cons_append, List.nil_append, List.setIfInBounds_toArray, List.set_cons_zero, List.set_cons_succ]
      go_simp
      exact hKK _ _ ⟨fun zz => cond (Nat.beq zz 12) (.string ((A ++ B) ++ C)) (cond (Nat.beq zz 11) (.string C) (cond (Nat.beq zz 8) (.string (A ++ B)) (zf zz))), rfl, hB, Lib.hid (upd_fact (i := 12) (v := .string ((A ++ B) ++ C)) (cond_fact (j := 11) (v := .string C) (cond_fact (j := 8) (v := .string (A ++ B)) HF.out rfl) rfl) rfl)⟩
    · intro D aa wx HI hD hdep KK hKK
      obtain ⟨zf, rfl, hB, HF⟩ := HI
      simp only [Act.put, List.toList_toArray, List.take_succ_cons, List.take_zero, List.drop_succ_cons, List.drop_zero, List.cons_append, List.nil_append, List.setIfInBounds_toArray, List.set_cons_zero, List.set_cons_succ]
      go_simp
      exact hKK _ _ ⟨fun zz => cond (Nat.beq zz 13) (.pointer (some ⟨g1, 1, none⟩)) (zf zz), rfl, hB, Lib.hid (upd_fact (i := 13) (v := .pointer (some ⟨g1, 1, none⟩)) HF.out rfl)⟩
    · intro D aa wx HI hD hdep KK hKK
      obtain ⟨zf, rfl, hB, HF⟩ := HI
      simp [Region.binds] at hdep
      have E13 : zf 13 = .pointer (some ⟨g1, 1, none⟩) := HF.out 13 (by simp [hdep])
      obtain ⟨c0, c1⟩ := S0.out.below hB
      obtain ⟨d0, d1⟩ := S1.out.below hB
      simp only [E13, Act.put, List.toList_toArray, List.take_succ_cons, List.take_zero, List.drop_succ_cons, List.drop_zero, List.cons_append, List.nil_append, List.setIfInBounds_toArray, List.set_cons_zero, List.set_cons_succ]
      go_simp
      exact hKK _ _ ⟨fun zz => cond (Nat.beq zz 14) (.int .i64 e) (cond (Nat.beq zz 13) (.pointer (some ⟨g1, 1, none⟩)) (zf zz)), rfl, hB, Lib.hid (upd_fact (i := 14) (v := .int .i64 e) (cond_fact (j := 13) (v := .pointer (some ⟨g1, 1, none⟩)) HF.out rfl) rfl)⟩
    · intro D aa wx HI hD hdep KK hKK
      obtain ⟨zf, rfl, hB, HF⟩ := HI
      simp [Region.binds] at hdep
      have E14 : zf 14 = .int .i64 e := HF.out 14 (by simp [hdep])
      simp only [E14, Act.put, List.toList_toArray, List.take_succ_cons, List.take_zero, List.drop_succ_cons, List.drop_zero, List.cons_append, List.nil_append, List.setIfInBounds_toArray, List.set_cons_zero, List.set_cons_succ]
      go_simp
      refine (H4.out _).mono ?_
      rintro e w5 ⟨rfl, hb⟩
      exact hKK _ _ ⟨fun zz => cond (Nat.beq zz 15) (.string E) (cond (Nat.beq zz 14) (.int .i64 e) (zf zz)), rfl, below_to hB hb, Lib.hid (upd_fact (i := 15) (v := .string E) (cond_fact (j := 14) (v := .int .i64 e) HF.out rfl) rfl)⟩
    · intro D aa wx HI hD hdep KK hKK
      obtain ⟨zf, rfl, hB, HF⟩ := HI
      simp [Region.binds] at hdep
      have E12 : zf 12 = .string ((A ++ B) ++ C) := HF.out 12 (by simp [hdep])
      have E15 : zf 15 = .string E := HF.out 15 (by simp [hdep])
      simp only [E12, E15, Act.put, List.toList_toArray, List.take_succ_cons, List.take_zero, List.drop_succ_cons, List.drop_zero, List.cons_append, List.nil_append, List.setIfInBounds_toArray, List.set_cons_zero, List.set_cons_succ]
      go_simp
      exact hKK _ _ ⟨fun zz => cond (Nat.beq zz 16) (.string (((A ++ B) ++ C) ++ E)) (cond (Nat.beq zz 15) (.string E) (cond (Nat.beq zz 12) (.string ((A ++ B) ++ C)) (zf zz))), rfl, hB, Lib.hid (upd_fact (i := 16) (v := .string (((A ++ B) ++ C) ++ E)) (cond_fact (j := 15) (v := .string E) (cond_fact (j := 12) (v := .string ((A ++ B) ++ C)) HF.out rfl) rfl) rfl)⟩
    · intro D aa wx HI hD hdep KK hKK
      obtain ⟨zf, rfl, hB, HF⟩ := HI
      simp [Region.binds] at hdep
      have E16 : zf 16 = .string (((A ++ B) ++ C) ++ E) := HF.out 16 (by simp [hdep])
      simp only [E16, Act.put, List.toList_toArray, List.take_succ_cons, List.take_zero, List.drop_succ_cons, List.drop_zero, List.cons_append, List.nil_append, List.setIfInBounds_toArray, List.set_cons_zero, List.set_cons_succ]
      go_simp
      exact hKK _ _ ⟨fun zz => cond (Nat.beq zz 17) (.string (((A ++ B) ++ C) ++ E)) (cond (Nat.beq zz 16) (.string (((A ++ B) ++ C) ++ E)) (zf zz)), rfl, hB, Lib.hid (upd_fact (i := 17) (v := .string (((A ++ B) ++ C) ++ E)) (cond_fact (j := 16) (v := .string (((A ++ B) ++ C) ++ E)) HF.out rfl) rfl)⟩
  intro D aa w7 HI hD
  obtain ⟨zf, rfl, hB, HF⟩ := HI
  have e9 : zf 17 = .string (((A ++ B) ++ C) ++ E) := HF.out 17 (hD 17 (by simp))
  simp only [e9, Act.put, List.toList_toArray, List.take_succ_cons, List.take_zero, List.drop_succ_cons, List.drop_zero, List.cons_append, List.nil_append]
  clear HF hD
  go_wp2_with fail
  go_ret
  exact ⟨rfl, BB.trans (hB.mono (by have := BB.size; omega))⟩
theorem rcounts_any (a b c e : Int) (w : World) : Calls Try.prog 68 #[.agg #[.int .i64 a, .int .i64 b], .agg #[.int .i64 c, .int .i64 e]] w fun x w' => x = .returned (.string (joinB [pairS 8 (IntKind.i64.wrap (a + 1)) (IntKind.i64.wrap (b + 1)), pairS 8 c e])) ∧ Below w.heap.size w w' := by
  have := rcounts_main a b c e _ _ rfl rfl _ _ _ _ (by rw [bs_size, numL_length]; omega) (by rw [bs_size, numL_length]; omega) (by rw [bs_size, numL_length]; omega) (by rw [bs_size, numL_length]; omega) (Lib.hid (eight_any _)) (Lib.hid (eight_any _)) (Lib.hid (eight_any c)) (Lib.hid (eight_any e)) w
  rw [bsA, bsA, bsA] at this
  rw [joinB_list]
  simp only [List.map_cons, List.map_nil, pairS_list, List.flatten_cons, List.flatten_nil, List.append_nil]
  simpa [List.append_assoc] using this
def InvRB_v (g : Nat) (n : Nat) (f : Int) (z : Int) (uf : Nat) (uz : Nat) (A : ByteArray) (B : ByteArray) (C : ByteArray) (zi : Nat) : Value := ([.int .u32 (n : Int), .int .u64 (n : Int), .string A, .pointer (some ⟨g, 0, none⟩), .int .i64 f, .int .u64 (uf : Int), .string B, .string (A ++ B), .pointer (some ⟨g, 1, none⟩), .int .i64 z, .int .u64 (uz : Int), .string C, .string ((A ++ B) ++ C), .string ((A ++ B) ++ C)] : List Value).getD zi undef
def InvRB (W1 : World) (g : Nat) (n : Nat) (f : Int) (z : Int) (uf : Nat) (uz : Nat) (A : ByteArray) (B : ByteArray) (C : ByteArray) (a0 : Act) (D : Nat → Bool) (act : Act) (w : World) : Prop :=
  ∃ zf : Nat → Value, act = ⟨(a0.tmps.toList.take 4 ++ zf 13 :: zf 0 :: zf 1 :: zf 2 :: zf 3 :: zf 4 :: zf 5 :: zf 6 :: zf 7 :: zf 8 :: zf 9 :: zf 10 :: zf 11 :: zf 12 :: a0.tmps.toList.drop 18).toArray, []⟩ ∧ Below W1.heap.size W1 w ∧ Hid (∀ zi, D zi = true → zf zi = InvRB_v g n f z uf uz A B C zi)
theorem rbody_main (n : Nat) (hn : IntKind.u64.wrap (n : Int) = (n : Int)) (f z : Int) (uf uz : Nat) (hf : IntKind.u64.wrap f = (uf : Int)) (hz : IntKind.u64.wrap z = (uz : Int)) (A B C : ByteArray) (hA : A.size ≤ 8) (hB8 : B.size ≤ 8) (hC : C.size ≤ 8)
    (H1 : Hid (∀ w, Calls Try.prog 52 #[.int .i64 4, .int .u64 (n : Int)] w fun e w' => e = .returned (.string A) ∧ Below w.heap.size w w'))
    (H2 : Hid (∀ w, Calls Try.prog 52 #[.int .i64 2, .int .u64 (uf : Int)] w fun e w' => e = .returned (.string B) ∧ Below w.heap.size w w'))
    (H3 : Hid (∀ w, Calls Try.prog 52 #[.int .i64 2, .int .u64 (uz : Int)] w fun e w' => e = .returned (.string C) ∧ Below w.heap.size w w'))
    (w : World) : Calls Try.prog 73 #[.int .u32 (n : Int), .agg #[.int .i64 f, .int .i64 z]] w fun x w' => x = .returned (.string (A ++ B ++ C)) ∧ Below w.heap.size w w' := by
  have jq0 : ¬ 9223372036854775807 < A.size + B.size := by omega
  have jz0 : ¬ (9223372036854775807 : Int) < (A.size : Int) + (B.size : Int) := by omega
  have jq1 : ¬ 9223372036854775807 < A.size + B.size + C.size := by omega
  have jz1 : ¬ (9223372036854775807 : Int) < (A.size : Int) + (B.size : Int) + (C.size : Int) := by omega
  have S := Duo.new w (.int .i64 f) (.int .i64 z) 54
  have BB := below_box w (.cells #[.int .i64 f, .int .i64 z] 54)
  go_enter Try.func73, Try.ntmps73
  go_upto_region 1 with (fail)
  generalize w.alloc (.cells #[.int .i64 f, .int .i64 z] 54) = w1 at S BB ⊢
  replace S := Lib.hid S
  refine wp_region_inv0 (InvRB w1 w.heap.size n f z uf uz A B C) (by kernel_rfl) (by decide) ?_ ?_ ?_
  · exact ⟨fun zz => cond (Nat.beq zz 13) (.string ⟨#[]⟩) (undef), rfl, (Below.refl _ _).drew, Lib.hid (fun i h => by cases h)⟩
  · refine AllI.cons ?_ (AllI.cons ?_ (AllI.cons ?_ (AllI.cons ?_ (AllI.cons ?_ (AllI.cons ?_ (AllI.cons ?_ (AllI.cons ?_ (AllI.cons ?_ (AllI.cons ?_ (AllI.cons ?_ (AllI.cons ?_ (AllI.cons ?_ (AllI.cons ?_ AllI.nil)))))))))))))
    · intro D aa wx HI hD hdep KK hKK
      obtain ⟨zf, rfl, hB, HF⟩ := HI
      simp only [Act.put, List.toList_toArray, List.take_succ_cons, List.take_zero, List.drop_succ_cons, List.drop_zero, List.cons_append, List.nil_append, List.setIfInBounds_toArray, List.set_cons_zero, List.set_cons_succ]
      go_simp
      exact hKK _ _ ⟨fun zz => cond (Nat.beq zz 0) (.int .u32 (n : Int)) (zf zz), rfl, hB, Lib.hid (upd_fact (i := 0) (v := .int .u32 (n : Int)) HF.out rfl)⟩
    · intro D aa wx HI hD hdep KK hKK
      obtain ⟨zf, rfl, hB, HF⟩ := HI
      simp [Region.binds] at hdep
      have E0 : zf 0 = .int .u32 (n : Int) := HF.out 0 (by simp [hdep])
      simp only [E0, Act.put, List.toList_toArray, List.take_succ_cons, List.take_zero, List.drop_succ_cons, List.drop_zero, List.cons_append, List.nil_append, List.setIfInBounds_toArray, List.set_cons_zero, List.set_cons_succ]
      go_simp
      exact hKK _ _ ⟨fun zz => cond (Nat.beq zz 1) (.int .u64 (n : Int)) (cond (Nat.beq zz 0) (.int .u32 (n : Int)) (zf zz)), rfl, hB, Lib.hid (upd_fact (i := 1) (v := .int .u64 (n : Int)) (cond_fact (j := 0) (v := .int .u32 (n : Int)) HF.out rfl) rfl)⟩
    · intro D aa wx HI hD hdep KK hKK
      obtain ⟨zf, rfl, hB, HF⟩ := HI
      simp [Region.binds] at hdep
      have E1 : zf 1 = .int .u64 (n : Int) := HF.out 1 (by simp [hdep])
      simp only [E1, Act.put, List.toList_toArray, List.take_succ_cons, List.take_zero, List.drop_succ_cons, List.drop_zero, List.cons_append, List.nil_append, List.setIfInBounds_toArray, List.set_cons_zero, List.set_cons_succ]
      go_simp
      refine (H1.out _).mono ?_
      rintro e w5 ⟨rfl, hb⟩
      exact hKK _ _ ⟨fun zz => cond (Nat.beq zz 2) (.string A) (cond (Nat.beq zz 1) (.int .u64 (n : Int)) (zf zz)), rfl, below_to hB hb, Lib.hid (upd_fact (i := 2) (v := .string A) (cond_fact (j := 1) (v := .int .u64 (n : Int)) HF.out rfl) rfl)⟩
    · intro D aa wx HI hD hdep KK hKK
      obtain ⟨zf, rfl, hB, HF⟩ := HI
      simp only [Act.put, List.toList_toArray, List.take_succ_cons, List.take_zero, List.drop_succ_cons, List.drop_zero, List.cons_append, List.nil_append, List.setIfInBounds_toArray, List.set_cons_zero, List.set_cons_succ]
      go_simp
      exact hKK _ _ ⟨fun zz => cond (Nat.beq zz 3) (.pointer (some ⟨w.heap.size, 0, none⟩)) (zf zz), rfl, hB, Lib.hid (upd_fact (i := 3) (v := .pointer (some ⟨w.heap.size, 0, none⟩)) HF.out rfl)⟩
    · intro D aa wx HI hD hdep KK hKK
      obtain ⟨zf, rfl, hB, HF⟩ := HI
      simp [Region.binds] at hdep
      have E3 : zf 3 = .pointer (some ⟨w.heap.size, 0, none⟩) := HF.out 3 (by simp [hdep])
      obtain ⟨c0, c1⟩ := S.out.below hB
      simp only [E3, Act.put, List.toList_toArray, List.take_succ_cons, List.take_zero, List.drop_succ_cons, List.drop_zero, List.cons_append, List.nil_append, List.setIfInBounds_toArray, List.set_cons_zero, List.set_cons_succ]
      go_simp
      exact hKK _ _ ⟨fun zz => cond (Nat.beq zz 4) (.int .i64 f) (cond (Nat.beq zz 3) (.pointer (some ⟨w.heap.size, 0, none⟩)) (zf zz)), rfl, hB, Lib.hid (upd_fact (i := 4) (v := .int .i64 f) (cond_fact (j := 3) (v := .pointer (some ⟨w.heap.size, 0, none⟩)) HF.out rfl) rfl)⟩
    · intro D aa wx HI hD hdep KK hKK
      obtain ⟨zf, rfl, hB, HF⟩ := HI
      simp [Region.binds] at hdep
      have E4 : zf 4 = .int .i64 f := HF.out 4 (by simp [hdep])
      simp only [E4, Act.put, List.toList_toArray, List.take_succ_cons, List.take_zero, List.drop_succ_cons, List.drop_zero, List.cons_append, List.nil_append, List.setIfInBounds_toArray, List.set_cons_zero, List.set_cons_succ]
      go_simp
      exact hKK _ _ ⟨fun zz => cond (Nat.beq zz 5) (.int .u64 (uf : Int)) (cond (Nat.beq zz 4) (.int .i64 f) (zf zz)), rfl, hB, Lib.hid (upd_fact (i := 5) (v := .int .u64 (uf : Int)) (cond_fact (j := 4) (v := .int .i64 f) HF.out rfl) rfl)⟩
    · intro D aa wx HI hD hdep KK hKK
      obtain ⟨zf, rfl, hB, HF⟩ := HI
      simp [Region.binds] at hdep
      have E5 : zf 5 = .int .u64 (uf : Int) := HF.out 5 (by simp [hdep])
      simp only [E5, Act.put, List.toList_toArray, List.take_succ_cons, List.take_zero, List.drop_succ_cons, List.drop_zero, List.cons_append, List.nil_append, List.setIfInBounds_toArray, List.set_cons_zero, List.set_cons_succ]
      go_simp
      refine (H2.out _).mono ?_
      rintro e w5 ⟨rfl, hb⟩
      exact hKK _ _ ⟨fun zz => cond (Nat.beq zz 6) (.string B) (cond (Nat.beq zz 5) (.int .u64 (uf : Int)) (zf zz)), rfl, below_to hB hb, Lib.hid (upd_fact (i := 6) (v := .string B) (cond_fact (j := 5) (v := .int .u64 (uf : Int)) HF.out rfl) rfl)⟩
    · intro D aa wx HI hD hdep KK hKK
      obtain ⟨zf, rfl, hB, HF⟩ := HI
      simp [Region.binds] at hdep
      have E2 : zf 2 = .string A := HF.out 2 (by simp [hdep])
      have E6 : zf 6 = .string B := HF.out 6 (by simp [hdep])
      simp only [E2, E6, Act.put, List.toList_toArray, List.take_succ_cons, List.take_zero, List.drop_succ_cons, List.drop_zero, List.cons_append, List.nil_append, List.setIfInBounds_toArray, List.set_cons_zero, List.set_cons_succ]
      go_simp
      exact hKK _ _ ⟨fun zz => cond (Nat.beq zz 7) (.string (A ++ B)) (cond (Nat.beq zz 6) (.string B) (cond (Nat.beq zz 2) (.string A) (zf zz))), rfl, hB, Lib.hid (upd_fact (i := 7) (v := .string (A ++ B)) (cond_fact (j := 6) (v := .string B) (cond_fact (j := 2) (v := .string A) HF.out rfl) rfl) rfl)⟩
    · intro D aa wx HI hD hdep KK hKK
      obtain ⟨zf, rfl, hB, HF⟩ := HI
      simp only [Act.put, List.toList_toArray, List.take_succ_cons, List.take_zero, List.drop_succ_cons, List.drop_zero, List.cons_append, List.nil_append, List.setIfInBounds_toArray, List.set_cons_zero, List.set_cons_succ]
      go_simp
      exact hKK _ _ ⟨fun zz => cond (Nat.beq zz 8) (.pointer (some ⟨w.heap.size, 1, none⟩)) (zf zz), rfl, hB, Lib.hid (upd_fact (i := 8) (v := .pointer (some ⟨w.heap.size, 1, none⟩)) HF.out rfl)⟩
    · intro D aa wx HI hD hdep KK hKK
      obtain ⟨zf, rfl, hB, HF⟩ := HI
      simp [Region.binds] at hdep
      have E8 : zf 8 = .pointer (some ⟨w.heap.size, 1, none⟩) := HF.out 8 (by simp [hdep])
      obtain ⟨c0, c1⟩ := S.out.below hB
      simp only [E8, Act.put, List.toList_toArray, List.take_succ_cons, List.take_zero, List.drop_succ_cons, List.drop_zero, List.cons_append, List.nil_append, List.setIfInBounds_toArray, List.set_cons_zero, List.set_cons_succ]
      go_simp
      exact hKK _ _ ⟨fun zz => cond (Nat.beq zz 9) (.int .i64 z) (cond (Nat.beq zz 8) (.pointer (some ⟨w.heap.size, 1, none⟩)) (zf zz)), rfl, hB, Lib.hid (upd_fact (i := 9) (v := .int .i64 z) (cond_fact (j := 8) (v := .pointer (some ⟨w.heap.size, 1, none⟩)) HF.out rfl) rfl)⟩
    · intro D aa wx HI hD hdep KK hKK
      obtain ⟨zf, rfl, hB, HF⟩ := HI
      simp [Region.binds] at hdep
      have E9 : zf 9 = .int .i64 z := HF.out 9 (by simp [hdep])
      simp only [E9, Act.put, List.toList_toArray, List.take_succ_cons, List.take_zero, List.drop_succ_cons, List.drop_zero, List.cons_append, List.nil_append, List.setIfInBounds_toArray, List.set_cons_zero, List.set_cons_succ]
      go_simp
      exact hKK _ _ ⟨fun zz => cond (Nat.beq zz 10) (.int .u64 (uz : Int)) (cond (Nat.beq zz 9) (.int .i64 z) (zf zz)), rfl, hB, Lib.hid (upd_fact (i := 10) (v := .int .u64 (uz : Int)) (cond_fact (j := 9) (v := .int .i64 z) HF.out rfl) rfl)⟩
    · intro D aa wx HI hD hdep KK hKK
      obtain ⟨zf, rfl, hB, HF⟩ := HI
      simp [Region.binds] at hdep
      have E10 : zf 10 = .int .u64 (uz : Int) := HF.out 10 (by simp [hdep])
      simp only [E10, Act.put, List.toList_toArray, List.take_succ_cons, List.take_zero, List.drop_succ_cons, List.drop_zero, List.cons_append, List.nil_append, List.setIfInBounds_toArray, List.set_cons_zero, List.set_cons_succ]
      go_simp
      refine (H3.out _).mono ?_
      rintro e w5 ⟨rfl, hb⟩
      exact hKK _ _ ⟨fun zz => cond (Nat.beq zz 11) (.string C) (cond (Nat.beq zz 10) (.int .u64 (uz : Int)) (zf zz)), rfl, below_to hB hb, Lib.hid (upd_fact (i := 11) (v := .string C) (cond_fact (j := 10) (v := .int .u64 (uz : Int)) HF.out rfl) rfl)⟩
    · intro D aa wx HI hD hdep KK hKK
      obtain ⟨zf, rfl, hB, HF⟩ := HI
      simp [Region.binds] at hdep
      have E7 : zf 7 = .string (A ++ B) := HF.out 7 (by simp [hdep])
      have E11 : zf 11 = .string C := HF.out 11 (by simp [hdep])
      simp only [E7, E11, Act.put, List.toList_toArray, List.take_succ_cons, List.take_zero, List.drop_succ_cons, List.drop_zero, List.cons_append, List.nil_append, List.setIfInBounds_toArray, List.set_cons_zero, List.set_cons_succ]
      go_simp
      exact hKK _ _ ⟨fun zz => cond (Nat.beq zz 12) (.string ((A ++ B) ++ C)) (cond (Nat.beq zz 11) (.string C) (cond (Nat.beq zz 7) (.string (A ++ B)) (zf zz))), rfl, hB, Lib.hid (upd_fact (i := 12) (v := .string ((A ++ B) ++ C)) (cond_fact (j := 11) (v := .string C) (cond_fact (j := 7) (v := .string (A ++ B)) HF.out rfl) rfl) rfl)⟩
    · intro D aa wx HI hD hdep KK hKK
      obtain ⟨zf, rfl, hB, HF⟩ := HI
      simp [Region.binds] at hdep
      have E12 : zf 12 = .string ((A ++ B) ++ C) := HF.out 12 (by simp [hdep])
      simp only [E12, Act.put, List.toList_toArray, List.take_succ_cons, List.take_zero, List.drop_succ_cons, List.drop_zero, List.cons_append, List.nil_append, List.setIfInBounds_toArray, List.set_cons_zero, List.set_cons_succ]
      go_simp
      exact hKK _ _ ⟨fun zz => cond (Nat.beq zz 13) (.string ((A ++ B) ++ C)) (cond (Nat.beq zz 12) (.string ((A ++ B) ++ C)) (zf zz)), rfl, hB, Lib.hid (upd_fact (i := 13) (v := .string ((A ++ B) ++ C)) (cond_fact (j := 12) (v := .string ((A ++ B) ++ C)) HF.out rfl) rfl)⟩
  intro D aa w7 HI hD
  obtain ⟨zf, rfl, hB, HF⟩ := HI
  have e9 : zf 13 = .string ((A ++ B) ++ C) := HF.out 13 (hD 13 (by simp))
  simp only [e9, Act.put, List.toList_toArray, List.take_succ_cons, List.take_zero, List.drop_succ_cons, List.drop_zero, List.cons_append, List.nil_append]
  clear HF hD
  go_wp2_with fail
  go_ret
  exact ⟨rfl, below_to BB hB⟩
theorem rbody_any (n : Nat) (hn : n < 4294967296) (f z : Int) (w : World) : Calls Try.prog 73 #[.int .u32 (n : Int), .agg #[.int .i64 f, .int .i64 z]] w fun x w' => x = .returned (.string (joinB [bs (numL 4 n), pairS 2 f z])) ∧ Below w.heap.size w w' := by
  have := rbody_main n (by rw [IntKind.wrap_u64]; omega) f z _ _ (u64N_wrap f) (u64N_wrap z) _ _ _ (by rw [bs_size, numL_length]; omega) (by rw [bs_size, numL_length]; omega) (by rw [bs_size, numL_length]; omega) (Lib.hid (fun w => rnum_ok 4 n w (by omega) (by omega) (by omega))) (Lib.hid (fun w => rnum_ok 2 (u64N f) w (by omega) (by omega) (u64N_lt f))) (Lib.hid (fun w => rnum_ok 2 (u64N z) w (by omega) (by omega) (u64N_lt z))) w
  rw [bsA, bsA] at this
  rw [joinB_list]
  simp only [List.map_cons, List.map_nil, pairS_list, bs_toList, List.flatten_cons, List.flatten_nil, List.append_nil]
  simpa [List.append_assoc] using this
theorem rBlob_any (f z : Int) (w : World) : Calls Try.prog 72 #[.agg #[.int .i64 f, .int .i64 z]] w fun x w' => x = .returned (.bool (okBl f z)) ∧ Below w.heap.size w w' := by
  have hB : ∀ b : Bool, (okBl f z = b) → Hid (.returned (.bool b) = (.returned (.bool (okBl f z)) : Ending)) := fun b h => Lib.hid (by rw [h])
  by_cases h1 : f = 0
  · by_cases h2 : z = 0
    · have hR := hB true (by unfold okBl; simp [h1, h2])
      rw [← hR.out]
      subst h1 h2
      clear hB hR
      go_enter Try.func72, Try.ntmps72
      go_wp2_with fail
      go_ret
      exact ⟨rfl, below_box _ _⟩
    · have hR := hB false (by unfold okBl; simp [h1, h2])
      rw [← hR.out]
      subst h1
      clear hB hR
      go_enter Try.func72, Try.ntmps72
      go_wp2_with fail
      go_ret
      exact ⟨rfl, below_box _ _⟩
  · by_cases h3 : 2 ≤ f ∧ f ≤ 3839 ∧ 1 ≤ z ∧ z ≤ 4096
    · have hR := hB true (by unfold okBl; simp [h1]; omega)
      rw [← hR.out]
      obtain ⟨h4, h5, h6, h7⟩ := h3
      clear hB hR
      go_enter Try.func72, Try.ntmps72
      go_wp2_with fail
      go_ret
      exact ⟨rfl, below_box _ _⟩
    · have hR := hB false (by unfold okBl; simp [h1]; omega)
      rw [← hR.out]
      clear hB hR
      by_cases h4 : 2 ≤ f
      · by_cases h5 : f ≤ 3839
        · by_cases h6 : 1 ≤ z
          · by_cases h7 : z ≤ 4096
            · exact absurd ⟨h4, h5, h6, h7⟩ h3
            · clear h3
              go_enter Try.func72, Try.ntmps72
              go_wp2_with fail
              go_ret
              exact ⟨rfl, below_box _ _⟩
          · clear h3
            go_enter Try.func72, Try.ntmps72
            go_wp2_with fail
            go_ret
            exact ⟨rfl, below_box _ _⟩
        · clear h3
          go_enter Try.func72, Try.ntmps72
          go_wp2_with fail
          go_ret
          exact ⟨rfl, below_box _ _⟩
      · clear h3
        go_enter Try.func72, Try.ntmps72
        go_wp2_with fail
        go_ret
        exact ⟨rfl, below_box _ _⟩
end Go.Proofs.Yteekjndhehnpaaa
