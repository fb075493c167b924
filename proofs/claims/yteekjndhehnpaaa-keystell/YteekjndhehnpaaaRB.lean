/- Contracts: the reference's Make. -/
import Derived.Test.YteekjndhehnpaaaRA
import Derived.Test.YteekjndhehnpaaaRI
import Derived.Deep.Cut
namespace Go.Proofs.Yteekjndhehnpaaa
open Go.RowKit
set_option maxRecDepth 100000
set_option linter.unusedVariables false
set_option linter.unusedSimpArgs false
set_option maxHeartbeats 8000000
theorem rmake_bad (kind t : Int) (b n : ByteArray) (u : Nat) (p : Int) (w : World) (HR : Hid (∀ w, Calls Try.prog 17 #[.agg #[.int .i64 kind, .int .i64 t, .string b, .string n, .int .u64 (u : Int), .int .i64 p]] w fun e w' => e = .returned (.bool false) ∧ Below w.heap.size w w')) :
    Calls Try.prog 13 #[.agg #[.int .i64 kind, .int .i64 t, .string b, .string n, .int .u64 (u : Int), .int .i64 p]] w fun e w' => e = strErr ⟨#[]⟩ 18 ∧ Below w.heap.size w w' := by
  go_enter Try.func13, Try.ntmps13
  go_wp2_with fail
  refine (HR.out _).mono ?_
  rintro e w2 ⟨rfl, hb⟩
  go_wp2_with fail
  go_ret2
  exact ⟨rfl, below_alloc_to hb⟩
def InvR1 (W1 : World) (gg : Nat) (m : Nat) (b : ByteArray) (T1 : ByteArray) (a0 : Act) (D : Nat → Bool) (act : Act) (w : World) : Prop :=
  ∃ x4 x8 x9 x10 x11 x12 x13 x14 x15 x16 x17 x18 x19 x20 x21, act = ⟨(a0.tmps.toList.take 4 ++ x4 :: ((a0.tmps.toList.drop 5).take 3 ++ x8 :: x9 :: x10 :: x11 :: x12 :: x13 :: x14 :: x15 :: x16 :: x17 :: x18 :: x19 :: x20 :: x21 :: a0.tmps.toList.drop 22)).toArray, []⟩ ∧ Below W1.heap.size W1 w ∧ Hid ((D 0 = true → x8 = .pointer (some ⟨gg, 0, none⟩)) ∧ (D 1 = true → x9 = .int .i64 1) ∧ (D 2 = true → x10 = .int .i64 0) ∧ (D 3 = true → x11 = .pointer (some ⟨gg, 0, none⟩)) ∧ (D 4 = true → x12 = .int .i64 1) ∧ (D 5 = true → x13 = .string ⟨#[84]⟩) ∧ (D 6 = true → x14 = .pointer (some ⟨gg, 1, none⟩)) ∧ (D 7 = true → x15 = .int .i64 (m : Int)) ∧ (D 8 = true → x16 = .int .u64 (m : Int)) ∧ (D 9 = true → x17 = .string T1) ∧ (D 10 = true → x18 = .string (⟨#[84]⟩ ++ T1)) ∧ (D 11 = true → x19 = .pointer (some ⟨gg, 2, none⟩)) ∧ (D 12 = true → x20 = .string b) ∧ (D 13 = true → x21 = .string (⟨#[84]⟩ ++ T1 ++ b)) ∧ (D 14 = true → x4 = .string (⟨#[84]⟩ ++ T1 ++ b)))
theorem rmake1 (m : Nat) (b n : ByteArray) (u : Nat) (p : Int) (T1 C E : ByteArray) (hm : m < 8) (hT : T1.size ≤ 1) (hb12 : b.size ≤ 12) (H1 : Hid (∀ w, Calls Try.prog 52 #[.int .i64 1, .int .u64 (m : Int)] w fun e w' => e = .returned (.string T1) ∧ Below w.heap.size w w')) (HR : Hid (∀ w, Calls Try.prog 17 #[.agg #[.int .i64 1, .int .i64 (m : Int), .string b, .string n, .int .u64 (u : Int), .int .i64 p]] w fun e w' => e = .returned (.bool true) ∧ Below w.heap.size w w')) (w : World) :
    Calls Try.prog 13 #[.agg #[.int .i64 1, .int .i64 (m : Int), .string b, .string n, .int .u64 (u : Int), .int .i64 p]] w fun e w' => e = strErr (⟨#[84]⟩ ++ T1 ++ b) 0 ∧ Below w.heap.size w w' := by
  have hw : IntKind.u64.wrap (m : Int) = (m : Int) := by rw [IntKind.wrap_u64]; omega
  have q1 : ¬ 9223372036854775807 < 1 + T1.size := by omega
  have q2 : ¬ (9223372036854775807 : Int) < 1 + (T1.size : Int) := by omega
  have q3 : ¬ 9223372036854775807 < 1 + T1.size + b.size := by omega
  have q4 : ¬ (9223372036854775807 : Int) < 1 + (T1.size : Int) + (b.size : Int) := by omega
  go_enter Try.func13, Try.ntmps13
  go_wp2_with fail
  refine (HR.out _).mono ?_
  rintro e w2 ⟨rfl, hb⟩
  have S := Lib.hid ((Six.new w _ _ _ _ _ _ 24).below hb)
  have BB := below_alloc_to hb
  clear hb
  go_wp2_with fail
  refine wp_region_inv0 (InvR1 w2 w.heap.size m b T1) (by kernel_rfl) (by decide) ?_ ?_ ?_
  · exact ⟨_, _, _, _, _, _, _, _, _, _, _, _, _, _, _, rfl, (Below.refl _ _).drew, Lib.hid ⟨(by intro h; cases h), (by intro h; cases h), (by intro h; cases h), (by intro h; cases h), (by intro h; cases h), (by intro h; cases h), (by intro h; cases h), (by intro h; cases h), (by intro h; cases h), (by intro h; cases h), (by intro h; cases h), (by intro h; cases h), (by intro h; cases h), (by intro h; cases h), (by intro h; cases h)⟩⟩
  · refine AllI.cons ?_ (AllI.cons ?_ (AllI.cons ?_ (AllI.cons ?_ (AllI.cons ?_ (AllI.cons ?_ (AllI.cons ?_ (AllI.cons ?_ (AllI.cons ?_ (AllI.cons ?_ (AllI.cons ?_ (AllI.cons ?_ (AllI.cons ?_ (AllI.cons ?_ (AllI.cons ?_ AllI.nil))))))))))))))
    · rintro D aa wx ⟨x4, x8, x9, x10, x11, x12, x13, x14, x15, x16, x17, x18, x19, x20, x21, rfl, hB, HF⟩ hD hdep KK hKK
      simp only [Act.put, List.toList_toArray, List.take_succ_cons, List.take_zero, List.drop_succ_cons, List.drop_zero, List.cons_append, List.nil_append, List.setIfInBounds_toArray, List.set_cons_zero, List.set_cons_succ]
      go_simp
      exact hKK _ _ ⟨_, _, _, _, _, _, _, _, _, _, _, _, _, _, _, rfl, hB, Lib.hid (by obtain ⟨f0, f1, f2, f3, f4, f5, f6, f7, f8, f9, f10, f11, f12, f13, f14⟩ := HF.out; exact ⟨fun _ => rfl, f1, f2, f3, f4, f5, f6, f7, f8, f9, f10, f11, f12, f13, f14⟩)⟩
    · rintro D aa wx ⟨x4, x8, x9, x10, x11, x12, x13, x14, x15, x16, x17, x18, x19, x20, x21, rfl, hB, HF⟩ hD hdep KK hKK
      simp [Region.binds] at hdep
      have h0 : D 0 = true := by simp [hdep]
      have HE := Lib.hid (show x8 = .pointer (some ⟨w.heap.size, 0, none⟩) by obtain ⟨f0, f1, f2, f3, f4, f5, f6, f7, f8, f9, f10, f11, f12, f13, f14⟩ := HF.out; exact f0 h0)
      obtain rfl := HE.out
      clear HE
      obtain ⟨c0, c1, c2, c3, c4, c5, f0, f1, f2, f3, f4, f5⟩ := S.out.below hB
      clear f0 f1 f2 f3 f4 f5
      simp only [Act.put, List.toList_toArray, List.take_succ_cons, List.take_zero, List.drop_succ_cons, List.drop_zero, List.cons_append, List.nil_append, List.setIfInBounds_toArray, List.set_cons_zero, List.set_cons_succ]
      go_simp
      exact hKK _ _ ⟨_, _, _, _, _, _, _, _, _, _, _, _, _, _, _, rfl, hB, Lib.hid (by obtain ⟨f0, f1, f2, f3, f4, f5, f6, f7, f8, f9, f10, f11, f12, f13, f14⟩ := HF.out; exact ⟨fun _ => rfl, fun _ => rfl, f2, f3, f4, f5, f6, f7, f8, f9, f10, f11, f12, f13, f14⟩)⟩
    · rintro D aa wx ⟨x4, x8, x9, x10, x11, x12, x13, x14, x15, x16, x17, x18, x19, x20, x21, rfl, hB, HF⟩ hD hdep KK hKK
      simp [Region.binds] at hdep
      have h1 : D 1 = true := by simp [hdep]
      have HE := Lib.hid (show x9 = .int .i64 1 by obtain ⟨f0, f1, f2, f3, f4, f5, f6, f7, f8, f9, f10, f11, f12, f13, f14⟩ := HF.out; exact f1 h1)
      obtain rfl := HE.out
      clear HE
      simp only [Act.put, List.toList_toArray, List.take_succ_cons, List.take_zero, List.drop_succ_cons, List.drop_zero, List.cons_append, List.nil_append, List.setIfInBounds_toArray, List.set_cons_zero, List.set_cons_succ]
      go_simp
      exact hKK _ _ ⟨_, _, _, _, _, _, _, _, _, _, _, _, _, _, _, rfl, hB, Lib.hid (by obtain ⟨f0, f1, f2, f3, f4, f5, f6, f7, f8, f9, f10, f11, f12, f13, f14⟩ := HF.out; exact ⟨f0, fun _ => rfl, fun _ => rfl, f3, f4, f5, f6, f7, f8, f9, f10, f11, f12, f13, f14⟩)⟩
    · rintro D aa wx ⟨x4, x8, x9, x10, x11, x12, x13, x14, x15, x16, x17, x18, x19, x20, x21, rfl, hB, HF⟩ hD hdep KK hKK
      simp only [Act.put, List.toList_toArray, List.take_succ_cons, List.take_zero, List.drop_succ_cons, List.drop_zero, List.cons_append, List.nil_append, List.setIfInBounds_toArray, List.set_cons_zero, List.set_cons_succ]
      go_simp
      exact hKK _ _ ⟨_, _, _, _, _, _, _, _, _, _, _, _, _, _, _, rfl, hB, Lib.hid (by obtain ⟨f0, f1, f2, f3, f4, f5, f6, f7, f8, f9, f10, f11, f12, f13, f14⟩ := HF.out; exact ⟨f0, f1, f2, fun _ => rfl, f4, f5, f6, f7, f8, f9, f10, f11, f12, f13, f14⟩)⟩
    · rintro D aa wx ⟨x4, x8, x9, x10, x11, x12, x13, x14, x15, x16, x17, x18, x19, x20, x21, rfl, hB, HF⟩ hD hdep KK hKK
      simp [Region.binds] at hdep
      have h3 : D 3 = true := by simp [hdep]
      have HE := Lib.hid (show x11 = .pointer (some ⟨w.heap.size, 0, none⟩) by obtain ⟨f0, f1, f2, f3, f4, f5, f6, f7, f8, f9, f10, f11, f12, f13, f14⟩ := HF.out; exact f3 h3)
      obtain rfl := HE.out
      clear HE
      obtain ⟨c0, c1, c2, c3, c4, c5, f0, f1, f2, f3, f4, f5⟩ := S.out.below hB
      clear f0 f1 f2 f3 f4 f5
      simp only [Act.put, List.toList_toArray, List.take_succ_cons, List.take_zero, List.drop_succ_cons, List.drop_zero, List.cons_append, List.nil_append, List.setIfInBounds_toArray, List.set_cons_zero, List.set_cons_succ]
      go_simp
      exact hKK _ _ ⟨_, _, _, _, _, _, _, _, _, _, _, _, _, _, _, rfl, hB, Lib.hid (by obtain ⟨f0, f1, f2, f3, f4, f5, f6, f7, f8, f9, f10, f11, f12, f13, f14⟩ := HF.out; exact ⟨f0, f1, f2, fun _ => rfl, fun _ => rfl, f5, f6, f7, f8, f9, f10, f11, f12, f13, f14⟩)⟩
    · rintro D aa wx ⟨x4, x8, x9, x10, x11, x12, x13, x14, x15, x16, x17, x18, x19, x20, x21, rfl, hB, HF⟩ hD hdep KK hKK
      simp [Region.binds] at hdep
      have h2 : D 2 = true := by simp [hdep]
      have h4 : D 4 = true := by simp [hdep]
      have HE := Lib.hid (show x10 = .int .i64 0 ∧ x12 = .int .i64 1 by obtain ⟨f0, f1, f2, f3, f4, f5, f6, f7, f8, f9, f10, f11, f12, f13, f14⟩ := HF.out; exact ⟨f2 h2, f4 h4⟩)
      obtain ⟨rfl, rfl⟩ := HE.out
      clear HE
      simp only [Act.put, List.toList_toArray, List.take_succ_cons, List.take_zero, List.drop_succ_cons, List.drop_zero, List.cons_append, List.nil_append, List.setIfInBounds_toArray, List.set_cons_zero, List.set_cons_succ]
      go_simp
      exact hKK _ _ ⟨_, _, _, _, _, _, _, _, _, _, _, _, _, _, _, rfl, hB, Lib.hid (by obtain ⟨f0, f1, f2, f3, f4, f5, f6, f7, f8, f9, f10, f11, f12, f13, f14⟩ := HF.out; exact ⟨f0, f1, fun _ => rfl, f3, fun _ => rfl, fun _ => rfl, f6, f7, f8, f9, f10, f11, f12, f13, f14⟩)⟩
    · rintro D aa wx ⟨x4, x8, x9, x10, x11, x12, x13, x14, x15, x16, x17, x18, x19, x20, x21, rfl, hB, HF⟩ hD hdep KK hKK
      simp only [Act.put, List.toList_toArray, List.take_succ_cons, List.take_zero, List.drop_succ_cons, List.drop_zero, List.cons_append, List.nil_append, List.setIfInBounds_toArray, List.set_cons_zero, List.set_cons_succ]
      go_simp
      exact hKK _ _ ⟨_, _, _, _, _, _, _, _, _, _, _, _, _, _, _, rfl, hB, Lib.hid (by obtain ⟨f0, f1, f2, f3, f4, f5, f6, f7, f8, f9, f10, f11, f12, f13, f14⟩ := HF.out; exact ⟨f0, f1, f2, f3, f4, f5, fun _ => rfl, f7, f8, f9, f10, f11, f12, f13, f14⟩)⟩
    · rintro D aa wx ⟨x4, x8, x9, x10, x11, x12, x13, x14, x15, x16, x17, x18, x19, x20, x21, rfl, hB, HF⟩ hD hdep KK hKK
      simp [Region.binds] at hdep
      have h6 : D 6 = true := by simp [hdep]
      have HE := Lib.hid (show x14 = .pointer (some ⟨w.heap.size, 1, none⟩) by obtain ⟨f0, f1, f2, f3, f4, f5, f6, f7, f8, f9, f10, f11, f12, f13, f14⟩ := HF.out; exact f6 h6)
      obtain rfl := HE.out
      clear HE
      obtain ⟨c0, c1, c2, c3, c4, c5, f0, f1, f2, f3, f4, f5⟩ := S.out.below hB
      clear f0 f1 f2 f3 f4 f5
      simp only [Act.put, List.toList_toArray, List.take_succ_cons, List.take_zero, List.drop_succ_cons, List.drop_zero, List.cons_append, List.nil_append, List.setIfInBounds_toArray, List.set_cons_zero, List.set_cons_succ]
      go_simp
      exact hKK _ _ ⟨_, _, _, _, _, _, _, _, _, _, _, _, _, _, _, rfl, hB, Lib.hid (by obtain ⟨f0, f1, f2, f3, f4, f5, f6, f7, f8, f9, f10, f11, f12, f13, f14⟩ := HF.out; exact ⟨f0, f1, f2, f3, f4, f5, fun _ => rfl, fun _ => rfl, f8, f9, f10, f11, f12, f13, f14⟩)⟩
    · rintro D aa wx ⟨x4, x8, x9, x10, x11, x12, x13, x14, x15, x16, x17, x18, x19, x20, x21, rfl, hB, HF⟩ hD hdep KK hKK
      simp [Region.binds] at hdep
      have h7 : D 7 = true := by simp [hdep]
      have HE := Lib.hid (show x15 = .int .i64 (m : Int) by obtain ⟨f0, f1, f2, f3, f4, f5, f6, f7, f8, f9, f10, f11, f12, f13, f14⟩ := HF.out; exact f7 h7)
      obtain rfl := HE.out
      clear HE
      simp only [Act.put, List.toList_toArray, List.take_succ_cons, List.take_zero, List.drop_succ_cons, List.drop_zero, List.cons_append, List.nil_append, List.setIfInBounds_toArray, List.set_cons_zero, List.set_cons_succ]
      go_simp
      exact hKK _ _ ⟨_, _, _, _, _, _, _, _, _, _, _, _, _, _, _, rfl, hB, Lib.hid (by obtain ⟨f0, f1, f2, f3, f4, f5, f6, f7, f8, f9, f10, f11, f12, f13, f14⟩ := HF.out; exact ⟨f0, f1, f2, f3, f4, f5, f6, fun _ => rfl, fun _ => rfl, f9, f10, f11, f12, f13, f14⟩)⟩
    · rintro D aa wx ⟨x4, x8, x9, x10, x11, x12, x13, x14, x15, x16, x17, x18, x19, x20, x21, rfl, hB, HF⟩ hD hdep KK hKK
      simp [Region.binds] at hdep
      have h8 : D 8 = true := by simp [hdep]
      have HE := Lib.hid (show x16 = .int .u64 (m : Int) by obtain ⟨f0, f1, f2, f3, f4, f5, f6, f7, f8, f9, f10, f11, f12, f13, f14⟩ := HF.out; exact f8 h8)
      obtain rfl := HE.out
      clear HE
      simp only [Act.put, List.toList_toArray, List.take_succ_cons, List.take_zero, List.drop_succ_cons, List.drop_zero, List.cons_append, List.nil_append, List.setIfInBounds_toArray, List.set_cons_zero, List.set_cons_succ]
      go_simp
      refine (H1.out _).mono ?_
      rintro e w5 ⟨rfl, hb⟩
      exact hKK _ _ ⟨_, _, _, _, _, _, _, _, _, _, _, _, _, _, _, rfl, below_to hB hb, Lib.hid (by obtain ⟨f0, f1, f2, f3, f4, f5, f6, f7, f8, f9, f10, f11, f12, f13, f14⟩ := HF.out; exact ⟨f0, f1, f2, f3, f4, f5, f6, f7, fun _ => rfl, fun _ => rfl, f10, f11, f12, f13, f14⟩)⟩
    · rintro D aa wx ⟨x4, x8, x9, x10, x11, x12, x13, x14, x15, x16, x17, x18, x19, x20, x21, rfl, hB, HF⟩ hD hdep KK hKK
      simp [Region.binds] at hdep
      have h5 : D 5 = true := by simp [hdep]
      have h9 : D 9 = true := by simp [hdep]
      have HE := Lib.hid (show x13 = .string ⟨#[84]⟩ ∧ x17 = .string T1 by obtain ⟨f0, f1, f2, f3, f4, f5, f6, f7, f8, f9, f10, f11, f12, f13, f14⟩ := HF.out; exact ⟨f5 h5, f9 h9⟩)
      obtain ⟨rfl, rfl⟩ := HE.out
      clear HE
      simp only [Act.put, List.toList_toArray, List.take_succ_cons, List.take_zero, List.drop_succ_cons, List.drop_zero, List.cons_append, List.nil_append, List.setIfInBounds_toArray, List.set_cons_zero, List.set_cons_succ]
      go_simp
      exact hKK _ _ ⟨_, _, _, _, _, _, _, _, _, _, _, _, _, _, _, rfl, hB, Lib.hid (by obtain ⟨f0, f1, f2, f3, f4, f5, f6, f7, f8, f9, f10, f11, f12, f13, f14⟩ := HF.out; exact ⟨f0, f1, f2, f3, f4, fun _ => rfl, f6, f7, f8, fun _ => rfl, fun _ => rfl, f11, f12, f13, f14⟩)⟩
    · rintro D aa wx ⟨x4, x8, x9, x10, x11, x12, x13, x14, x15, x16, x17, x18, x19, x20, x21, rfl, hB, HF⟩ hD hdep KK hKK
      simp only [Act.put, List.toList_toArray, List.take_succ_cons, List.take_zero, List.drop_succ_cons, List.drop_zero, List.cons_append, List.nil_append, List.setIfInBounds_toArray, List.set_cons_zero, List.set_cons_succ]
      go_simp
      exact hKK _ _ ⟨_, _, _, _, _, _, _, _, _, _, _, _, _, _, _, rfl, hB, Lib.hid (by obtain ⟨f0, f1, f2, f3, f4, f5, f6, f7, f8, f9, f10, f11, f12, f13, f14⟩ := HF.out; exact ⟨f0, f1, f2, f3, f4, f5, f6, f7, f8, f9, f10, fun _ => rfl, f12, f13, f14⟩)⟩
    · rintro D aa wx ⟨x4, x8, x9, x10, x11, x12, x13, x14, x15, x16, x17, x18, x19, x20, x21, rfl, hB, HF⟩ hD hdep KK hKK
      simp [Region.binds] at hdep
      have h11 : D 11 = true := by simp [hdep]
      have HE := Lib.hid (show x19 = .pointer (some ⟨w.heap.size, 2, none⟩) by obtain ⟨f0, f1, f2, f3, f4, f5, f6, f7, f8, f9, f10, f11, f12, f13, f14⟩ := HF.out; exact f11 h11)
      obtain rfl := HE.out
      clear HE
      obtain ⟨c0, c1, c2, c3, c4, c5, f0, f1, f2, f3, f4, f5⟩ := S.out.below hB
      clear f0 f1 f2 f3 f4 f5
      simp only [Act.put, List.toList_toArray, List.take_succ_cons, List.take_zero, List.drop_succ_cons, List.drop_zero, List.cons_append, List.nil_append, List.setIfInBounds_toArray, List.set_cons_zero, List.set_cons_succ]
      go_simp
      exact hKK _ _ ⟨_, _, _, _, _, _, _, _, _, _, _, _, _, _, _, rfl, hB, Lib.hid (by obtain ⟨f0, f1, f2, f3, f4, f5, f6, f7, f8, f9, f10, f11, f12, f13, f14⟩ := HF.out; exact ⟨f0, f1, f2, f3, f4, f5, f6, f7, f8, f9, f10, fun _ => rfl, fun _ => rfl, f13, f14⟩)⟩
    · rintro D aa wx ⟨x4, x8, x9, x10, x11, x12, x13, x14, x15, x16, x17, x18, x19, x20, x21, rfl, hB, HF⟩ hD hdep KK hKK
      simp [Region.binds] at hdep
      have h10 : D 10 = true := by simp [hdep]
      have h12 : D 12 = true := by simp [hdep]
      have HE := Lib.hid (show x18 = .string (⟨#[84]⟩ ++ T1) ∧ x20 = .string b by obtain ⟨f0, f1, f2, f3, f4, f5, f6, f7, f8, f9, f10, f11, f12, f13, f14⟩ := HF.out; exact ⟨f10 h10, f12 h12⟩)
      obtain ⟨rfl, rfl⟩ := HE.out
      clear HE
      simp only [Act.put, List.toList_toArray, List.take_succ_cons, List.take_zero, List.drop_succ_cons, List.drop_zero, List.cons_append, List.nil_append, List.setIfInBounds_toArray, List.set_cons_zero, List.set_cons_succ]
      go_simp
      exact hKK _ _ ⟨_, _, _, _, _, _, _, _, _, _, _, _, _, _, _, rfl, hB, Lib.hid (by obtain ⟨f0, f1, f2, f3, f4, f5, f6, f7, f8, f9, f10, f11, f12, f13, f14⟩ := HF.out; exact ⟨f0, f1, f2, f3, f4, f5, f6, f7, f8, f9, fun _ => rfl, f11, fun _ => rfl, fun _ => rfl, f14⟩)⟩
    · rintro D aa wx ⟨x4, x8, x9, x10, x11, x12, x13, x14, x15, x16, x17, x18, x19, x20, x21, rfl, hB, HF⟩ hD hdep KK hKK
      simp [Region.binds] at hdep
      have h13 : D 13 = true := by simp [hdep]
      have HE := Lib.hid (show x21 = .string (⟨#[84]⟩ ++ T1 ++ b) by obtain ⟨f0, f1, f2, f3, f4, f5, f6, f7, f8, f9, f10, f11, f12, f13, f14⟩ := HF.out; exact f13 h13)
      obtain rfl := HE.out
      clear HE
      simp only [Act.put, List.toList_toArray, List.take_succ_cons, List.take_zero, List.drop_succ_cons, List.drop_zero, List.cons_append, List.nil_append, List.setIfInBounds_toArray, List.set_cons_zero, List.set_cons_succ]
      go_simp
      exact hKK _ _ ⟨_, _, _, _, _, _, _, _, _, _, _, _, _, _, _, rfl, hB, Lib.hid (by obtain ⟨f0, f1, f2, f3, f4, f5, f6, f7, f8, f9, f10, f11, f12, f13, f14⟩ := HF.out; exact ⟨f0, f1, f2, f3, f4, f5, f6, f7, f8, f9, f10, f11, f12, fun _ => rfl, fun _ => rfl⟩)⟩
  rintro D aa w3 ⟨x4, x8, x9, x10, x11, x12, x13, x14, x15, x16, x17, x18, x19, x20, x21, rfl, hB, HF⟩ hD
  obtain e14 : x4 = .string (⟨#[84]⟩ ++ T1 ++ b) := by obtain ⟨f0, f1, f2, f3, f4, f5, f6, f7, f8, f9, f10, f11, f12, f13, f14⟩ := HF.out; exact f14 (hD 14 (by simp))
  subst e14
  simp only [Act.put, List.toList_toArray, List.take_succ_cons, List.take_zero, List.drop_succ_cons, List.drop_zero, List.cons_append, List.nil_append]
  clear HF hD
  replace S := S.out.below hB
  replace BB := below_to BB hB
  clear hB q1 q2 q3 q4
  obtain ⟨X, hX⟩ : ∃ X : ByteArray, ⟨#[84]⟩ ++ T1 ++ b = X := ⟨_, rfl⟩
  have hXs : X.size ≤ 14 := by rw [← hX, ByteArray.size_append, ByteArray.size_append]; have : (⟨#[84]⟩ : ByteArray).size = 1 := rfl; omega
  rw [hX]
  have HX := Lib.hid hX
  clear hX hT
  have c0 := S.c0
  have c1 := S.c1
  have c2 := S.c2
  have c3 := S.c3
  have c4 := S.c4
  have c5 := S.c5
  go_wp2_with fail
  go_ret2
  exact ⟨by first | rfl | (unfold strErr; rw [HX.out]; rfl) | (unfold strErr; rw [HX.out, HY.out]; rfl), BB⟩
def InvR2 (W1 : World) (gg : Nat) (m : Nat) (b : ByteArray) (T1 : ByteArray) (a0 : Act) (D : Nat → Bool) (act : Act) (w : World) : Prop :=
  ∃ x4 x8 x9 x10 x11 x12 x13 x14 x15 x16 x17 x18 x19 x20 x21, act = ⟨(a0.tmps.toList.take 4 ++ x4 :: ((a0.tmps.toList.drop 5).take 3 ++ x8 :: x9 :: x10 :: x11 :: x12 :: x13 :: x14 :: x15 :: x16 :: x17 :: x18 :: x19 :: x20 :: x21 :: a0.tmps.toList.drop 22)).toArray, []⟩ ∧ Below W1.heap.size W1 w ∧ Hid ((D 0 = true → x8 = .pointer (some ⟨gg, 0, none⟩)) ∧ (D 1 = true → x9 = .int .i64 2) ∧ (D 2 = true → x10 = .int .i64 1) ∧ (D 3 = true → x11 = .pointer (some ⟨gg, 0, none⟩)) ∧ (D 4 = true → x12 = .int .i64 2) ∧ (D 5 = true → x13 = .string ⟨#[66]⟩) ∧ (D 6 = true → x14 = .pointer (some ⟨gg, 1, none⟩)) ∧ (D 7 = true → x15 = .int .i64 (m : Int)) ∧ (D 8 = true → x16 = .int .u64 (m : Int)) ∧ (D 9 = true → x17 = .string T1) ∧ (D 10 = true → x18 = .string (⟨#[66]⟩ ++ T1)) ∧ (D 11 = true → x19 = .pointer (some ⟨gg, 2, none⟩)) ∧ (D 12 = true → x20 = .string b) ∧ (D 13 = true → x21 = .string (⟨#[66]⟩ ++ T1 ++ b)) ∧ (D 14 = true → x4 = .string (⟨#[66]⟩ ++ T1 ++ b)))
theorem rmake2 (m : Nat) (b n : ByteArray) (u : Nat) (p : Int) (T1 C E : ByteArray) (hm : m < 8) (hT : T1.size ≤ 1) (hb12 : b.size ≤ 12) (H1 : Hid (∀ w, Calls Try.prog 52 #[.int .i64 1, .int .u64 (m : Int)] w fun e w' => e = .returned (.string T1) ∧ Below w.heap.size w w')) (HR : Hid (∀ w, Calls Try.prog 17 #[.agg #[.int .i64 2, .int .i64 (m : Int), .string b, .string n, .int .u64 (u : Int), .int .i64 p]] w fun e w' => e = .returned (.bool true) ∧ Below w.heap.size w w')) (w : World) :
    Calls Try.prog 13 #[.agg #[.int .i64 2, .int .i64 (m : Int), .string b, .string n, .int .u64 (u : Int), .int .i64 p]] w fun e w' => e = strErr (⟨#[66]⟩ ++ T1 ++ b) 0 ∧ Below w.heap.size w w' := by
  have hw : IntKind.u64.wrap (m : Int) = (m : Int) := by rw [IntKind.wrap_u64]; omega
  have q1 : ¬ 9223372036854775807 < 1 + T1.size := by omega
  have q2 : ¬ (9223372036854775807 : Int) < 1 + (T1.size : Int) := by omega
  have q3 : ¬ 9223372036854775807 < 1 + T1.size + b.size := by omega
  have q4 : ¬ (9223372036854775807 : Int) < 1 + (T1.size : Int) + (b.size : Int) := by omega
  go_enter Try.func13, Try.ntmps13
  go_wp2_with fail
  refine (HR.out _).mono ?_
  rintro e w2 ⟨rfl, hb⟩
  have S := Lib.hid ((Six.new w _ _ _ _ _ _ 24).below hb)
  have BB := below_alloc_to hb
  clear hb
  go_wp2_with fail
  refine wp_region_inv0 (InvR2 w2 w.heap.size m b T1) (by kernel_rfl) (by decide) ?_ ?_ ?_
  · exact ⟨_, _, _, _, _, _, _, _, _, _, _, _, _, _, _, rfl, (Below.refl _ _).drew, Lib.hid ⟨(by intro h; cases h), (by intro h; cases h), (by intro h; cases h), (by intro h; cases h), (by intro h; cases h), (by intro h; cases h), (by intro h; cases h), (by intro h; cases h), (by intro h; cases h), (by intro h; cases h), (by intro h; cases h), (by intro h; cases h), (by intro h; cases h), (by intro h; cases h), (by intro h; cases h)⟩⟩
  · refine AllI.cons ?_ (AllI.cons ?_ (AllI.cons ?_ (AllI.cons ?_ (AllI.cons ?_ (AllI.cons ?_ (AllI.cons ?_ (AllI.cons ?_ (AllI.cons ?_ (AllI.cons ?_ (AllI.cons ?_ (AllI.cons ?_ (AllI.cons ?_ (AllI.cons ?_ (AllI.cons ?_ AllI.nil))))))))))))))
    · rintro D aa wx ⟨x4, x8, x9, x10, x11, x12, x13, x14, x15, x16, x17, x18, x19, x20, x21, rfl, hB, HF⟩ hD hdep KK hKK
      simp only [Act.put, List.toList_toArray, List.take_succ_cons, List.take_zero, List.drop_succ_cons, List.drop_zero, List.cons_append, List.nil_append, List.setIfInBounds_toArray, List.set_cons_zero, List.set_cons_succ]
      go_simp
      exact hKK _ _ ⟨_, _, _, _, _, _, _, _, _, _, _, _, _, _, _, rfl, hB, Lib.hid (by obtain ⟨f0, f1, f2, f3, f4, f5, f6, f7, f8, f9, f10, f11, f12, f13, f14⟩ := HF.out; exact ⟨fun _ => rfl, f1, f2, f3, f4, f5, f6, f7, f8, f9, f10, f11, f12, f13, f14⟩)⟩
    · rintro D aa wx ⟨x4, x8, x9, x10, x11, x12, x13, x14, x15, x16, x17, x18, x19, x20, x21, rfl, hB, HF⟩ hD hdep KK hKK
      simp [Region.binds] at hdep
      have h0 : D 0 = true := by simp [hdep]
      have HE := Lib.hid (show x8 = .pointer (some ⟨w.heap.size, 0, none⟩) by obtain ⟨f0, f1, f2, f3, f4, f5, f6, f7, f8, f9, f10, f11, f12, f13, f14⟩ := HF.out; exact f0 h0)
      obtain rfl := HE.out
      clear HE
      obtain ⟨c0, c1, c2, c3, c4, c5, f0, f1, f2, f3, f4, f5⟩ := S.out.below hB
      clear f0 f1 f2 f3 f4 f5
      simp only [Act.put, List.toList_toArray, List.take_succ_cons, List.take_zero, List.drop_succ_cons, List.drop_zero, List.cons_append, List.nil_append, List.setIfInBounds_toArray, List.set_cons_zero, List.set_cons_succ]
      go_simp
      exact hKK _ _ ⟨_, _, _, _, _, _, _, _, _, _, _, _, _, _, _, rfl, hB, Lib.hid (by obtain ⟨f0, f1, f2, f3, f4, f5, f6, f7, f8, f9, f10, f11, f12, f13, f14⟩ := HF.out; exact ⟨fun _ => rfl, fun _ => rfl, f2, f3, f4, f5, f6, f7, f8, f9, f10, f11, f12, f13, f14⟩)⟩
    · rintro D aa wx ⟨x4, x8, x9, x10, x11, x12, x13, x14, x15, x16, x17, x18, x19, x20, x21, rfl, hB, HF⟩ hD hdep KK hKK
      simp [Region.binds] at hdep
      have h1 : D 1 = true := by simp [hdep]
      have HE := Lib.hid (show x9 = .int .i64 2 by obtain ⟨f0, f1, f2, f3, f4, f5, f6, f7, f8, f9, f10, f11, f12, f13, f14⟩ := HF.out; exact f1 h1)
      obtain rfl := HE.out
      clear HE
      simp only [Act.put, List.toList_toArray, List.take_succ_cons, List.take_zero, List.drop_succ_cons, List.drop_zero, List.cons_append, List.nil_append, List.setIfInBounds_toArray, List.set_cons_zero, List.set_cons_succ]
      go_simp
      exact hKK _ _ ⟨_, _, _, _, _, _, _, _, _, _, _, _, _, _, _, rfl, hB, Lib.hid (by obtain ⟨f0, f1, f2, f3, f4, f5, f6, f7, f8, f9, f10, f11, f12, f13, f14⟩ := HF.out; exact ⟨f0, fun _ => rfl, fun _ => rfl, f3, f4, f5, f6, f7, f8, f9, f10, f11, f12, f13, f14⟩)⟩
    · rintro D aa wx ⟨x4, x8, x9, x10, x11, x12, x13, x14, x15, x16, x17, x18, x19, x20, x21, rfl, hB, HF⟩ hD hdep KK hKK
      simp only [Act.put, List.toList_toArray, List.take_succ_cons, List.take_zero, List.drop_succ_cons, List.drop_zero, List.cons_append, List.nil_append, List.setIfInBounds_toArray, List.set_cons_zero, List.set_cons_succ]
      go_simp
      exact hKK _ _ ⟨_, _, _, _, _, _, _, _, _, _, _, _, _, _, _, rfl, hB, Lib.hid (by obtain ⟨f0, f1, f2, f3, f4, f5, f6, f7, f8, f9, f10, f11, f12, f13, f14⟩ := HF.out; exact ⟨f0, f1, f2, fun _ => rfl, f4, f5, f6, f7, f8, f9, f10, f11, f12, f13, f14⟩)⟩
    · rintro D aa wx ⟨x4, x8, x9, x10, x11, x12, x13, x14, x15, x16, x17, x18, x19, x20, x21, rfl, hB, HF⟩ hD hdep KK hKK
      simp [Region.binds] at hdep
      have h3 : D 3 = true := by simp [hdep]
      have HE := Lib.hid (show x11 = .pointer (some ⟨w.heap.size, 0, none⟩) by obtain ⟨f0, f1, f2, f3, f4, f5, f6, f7, f8, f9, f10, f11, f12, f13, f14⟩ := HF.out; exact f3 h3)
      obtain rfl := HE.out
      clear HE
      obtain ⟨c0, c1, c2, c3, c4, c5, f0, f1, f2, f3, f4, f5⟩ := S.out.below hB
      clear f0 f1 f2 f3 f4 f5
      simp only [Act.put, List.toList_toArray, List.take_succ_cons, List.take_zero, List.drop_succ_cons, List.drop_zero, List.cons_append, List.nil_append, List.setIfInBounds_toArray, List.set_cons_zero, List.set_cons_succ]
      go_simp
      exact hKK _ _ ⟨_, _, _, _, _, _, _, _, _, _, _, _, _, _, _, rfl, hB, Lib.hid (by obtain ⟨f0, f1, f2, f3, f4, f5, f6, f7, f8, f9, f10, f11, f12, f13, f14⟩ := HF.out; exact ⟨f0, f1, f2, fun _ => rfl, fun _ => rfl, f5, f6, f7, f8, f9, f10, f11, f12, f13, f14⟩)⟩
    · rintro D aa wx ⟨x4, x8, x9, x10, x11, x12, x13, x14, x15, x16, x17, x18, x19, x20, x21, rfl, hB, HF⟩ hD hdep KK hKK
      simp [Region.binds] at hdep
      have h2 : D 2 = true := by simp [hdep]
      have h4 : D 4 = true := by simp [hdep]
      have HE := Lib.hid (show x10 = .int .i64 1 ∧ x12 = .int .i64 2 by obtain ⟨f0, f1, f2, f3, f4, f5, f6, f7, f8, f9, f10, f11, f12, f13, f14⟩ := HF.out; exact ⟨f2 h2, f4 h4⟩)
      obtain ⟨rfl, rfl⟩ := HE.out
      clear HE
      simp only [Act.put, List.toList_toArray, List.take_succ_cons, List.take_zero, List.drop_succ_cons, List.drop_zero, List.cons_append, List.nil_append, List.setIfInBounds_toArray, List.set_cons_zero, List.set_cons_succ]
      go_simp
      exact hKK _ _ ⟨_, _, _, _, _, _, _, _, _, _, _, _, _, _, _, rfl, hB, Lib.hid (by obtain ⟨f0, f1, f2, f3, f4, f5, f6, f7, f8, f9, f10, f11, f12, f13, f14⟩ := HF.out; exact ⟨f0, f1, fun _ => rfl, f3, fun _ => rfl, fun _ => rfl, f6, f7, f8, f9, f10, f11, f12, f13, f14⟩)⟩
    · rintro D aa wx ⟨x4, x8, x9, x10, x11, x12, x13, x14, x15, x16, x17, x18, x19, x20, x21, rfl, hB, HF⟩ hD hdep KK hKK
      simp only [Act.put, List.toList_toArray, List.take_succ_cons, List.take_zero, List.drop_succ_cons, List.drop_zero, List.cons_append, List.nil_append, List.setIfInBounds_toArray, List.set_cons_zero, List.set_cons_succ]
      go_simp
      exact hKK _ _ ⟨_, _, _, _, _, _, _, _, _, _, _, _, _, _, _, rfl, hB, Lib.hid (by obtain ⟨f0, f1, f2, f3, f4, f5, f6, f7, f8, f9, f10, f11, f12, f13, f14⟩ := HF.out; exact ⟨f0, f1, f2, f3, f4, f5, fun _ => rfl, f7, f8, f9, f10, f11, f12, f13, f14⟩)⟩
    · rintro D aa wx ⟨x4, x8, x9, x10, x11, x12, x13, x14, x15, x16, x17, x18, x19, x20, x21, rfl, hB, HF⟩ hD hdep KK hKK
      simp [Region.binds] at hdep
      have h6 : D 6 = true := by simp [hdep]
      have HE := Lib.hid (show x14 = .pointer (some ⟨w.heap.size, 1, none⟩) by obtain ⟨f0, f1, f2, f3, f4, f5, f6, f7, f8, f9, f10, f11, f12, f13, f14⟩ := HF.out; exact f6 h6)
      obtain rfl := HE.out
      clear HE
      obtain ⟨c0, c1, c2, c3, c4, c5, f0, f1, f2, f3, f4, f5⟩ := S.out.below hB
      clear f0 f1 f2 f3 f4 f5
      simp only [Act.put, List.toList_toArray, List.take_succ_cons, List.take_zero, List.drop_succ_cons, List.drop_zero, List.cons_append, List.nil_append, List.setIfInBounds_toArray, List.set_cons_zero, List.set_cons_succ]
      go_simp
      exact hKK _ _ ⟨_, _, _, _, _, _, _, _, _, _, _, _, _, _, _, rfl, hB, Lib.hid (by obtain ⟨f0, f1, f2, f3, f4, f5, f6, f7, f8, f9, f10, f11, f12, f13, f14⟩ := HF.out; exact ⟨f0, f1, f2, f3, f4, f5, fun _ => rfl, fun _ => rfl, f8, f9, f10, f11, f12, f13, f14⟩)⟩
    · rintro D aa wx ⟨x4, x8, x9, x10, x11, x12, x13, x14, x15, x16, x17, x18, x19, x20, x21, rfl, hB, HF⟩ hD hdep KK hKK
      simp [Region.binds] at hdep
      have h7 : D 7 = true := by simp [hdep]
      have HE := Lib.hid (show x15 = .int .i64 (m : Int) by obtain ⟨f0, f1, f2, f3, f4, f5, f6, f7, f8, f9, f10, f11, f12, f13, f14⟩ := HF.out; exact f7 h7)
      obtain rfl := HE.out
      clear HE
      simp only [Act.put, List.toList_toArray, List.take_succ_cons, List.take_zero, List.drop_succ_cons, List.drop_zero, List.cons_append, List.nil_append, List.setIfInBounds_toArray, List.set_cons_zero, List.set_cons_succ]
      go_simp
      exact hKK _ _ ⟨_, _, _, _, _, _, _, _, _, _, _, _, _, _, _, rfl, hB, Lib.hid (by obtain ⟨f0, f1, f2, f3, f4, f5, f6, f7, f8, f9, f10, f11, f12, f13, f14⟩ := HF.out; exact ⟨f0, f1, f2, f3, f4, f5, f6, fun _ => rfl, fun _ => rfl, f9, f10, f11, f12, f13, f14⟩)⟩
    · rintro D aa wx ⟨x4, x8, x9, x10, x11, x12, x13, x14, x15, x16, x17, x18, x19, x20, x21, rfl, hB, HF⟩ hD hdep KK hKK
      simp [Region.binds] at hdep
      have h8 : D 8 = true := by simp [hdep]
      have HE := Lib.hid (show x16 = .int .u64 (m : Int) by obtain ⟨f0, f1, f2, f3, f4, f5, f6, f7, f8, f9, f10, f11, f12, f13, f14⟩ := HF.out; exact f8 h8)
      obtain rfl := HE.out
      clear HE
      simp only [Act.put, List.toList_toArray, List.take_succ_cons, List.take_zero, List.drop_succ_cons, List.drop_zero, List.cons_append, List.nil_append, List.setIfInBounds_toArray, List.set_cons_zero, List.set_cons_succ]
      go_simp
      refine (H1.out _).mono ?_
      rintro e w5 ⟨rfl, hb⟩
      exact hKK _ _ ⟨_, _, _, _, _, _, _, _, _, _, _, _, _, _, _, rfl, below_to hB hb, Lib.hid (by obtain ⟨f0, f1, f2, f3, f4, f5, f6, f7, f8, f9, f10, f11, f12, f13, f14⟩ := HF.out; exact ⟨f0, f1, f2, f3, f4, f5, f6, f7, fun _ => rfl, fun _ => rfl, f10, f11, f12, f13, f14⟩)⟩
    · rintro D aa wx ⟨x4, x8, x9, x10, x11, x12, x13, x14, x15, x16, x17, x18, x19, x20, x21, rfl, hB, HF⟩ hD hdep KK hKK
      simp [Region.binds] at hdep
      have h5 : D 5 = true := by simp [hdep]
      have h9 : D 9 = true := by simp [hdep]
      have HE := Lib.hid (show x13 = .string ⟨#[66]⟩ ∧ x17 = .string T1 by obtain ⟨f0, f1, f2, f3, f4, f5, f6, f7, f8, f9, f10, f11, f12, f13, f14⟩ := HF.out; exact ⟨f5 h5, f9 h9⟩)
      obtain ⟨rfl, rfl⟩ := HE.out
      clear HE
      simp only [Act.put, List.toList_toArray, List.take_succ_cons, List.take_zero, List.drop_succ_cons, List.drop_zero, List.cons_append, List.nil_append, List.setIfInBounds_toArray, List.set_cons_zero, List.set_cons_succ]
      go_simp
      exact hKK _ _ ⟨_, _, _, _, _, _, _, _, _, _, _, _, _, _, _, rfl, hB, Lib.hid (by obtain ⟨f0, f1, f2, f3, f4, f5, f6, f7, f8, f9, f10, f11, f12, f13, f14⟩ := HF.out; exact ⟨f0, f1, f2, f3, f4, fun _ => rfl, f6, f7, f8, fun _ => rfl, fun _ => rfl, f11, f12, f13, f14⟩)⟩
    · rintro D aa wx ⟨x4, x8, x9, x10, x11, x12, x13, x14, x15, x16, x17, x18, x19, x20, x21, rfl, hB, HF⟩ hD hdep KK hKK
      simp only [Act.put, List.toList_toArray, List.take_succ_cons, List.take_zero, List.drop_succ_cons, List.drop_zero, List.cons_append, List.nil_append, List.setIfInBounds_toArray, List.set_cons_zero, List.set_cons_succ]
      go_simp
      exact hKK _ _ ⟨_, _, _, _, _, _, _, _, _, _, _, _, _, _, _, rfl, hB, Lib.hid (by obtain ⟨f0, f1, f2, f3, f4, f5, f6, f7, f8, f9, f10, f11, f12, f13, f14⟩ := HF.out; exact ⟨f0, f1, f2, f3, f4, f5, f6, f7, f8, f9, f10, fun _ => rfl, f12, f13, f14⟩)⟩
    · rintro D aa wx ⟨x4, x8, x9, x10, x11, x12, x13, x14, x15, x16, x17, x18, x19, x20, x21, rfl, hB, HF⟩ hD hdep KK hKK
      simp [Region.binds] at hdep
      have h11 : D 11 = true := by simp [hdep]
      have HE := Lib.hid (show x19 = .pointer (some ⟨w.heap.size, 2, none⟩) by obtain ⟨f0, f1, f2, f3, f4, f5, f6, f7, f8, f9, f10, f11, f12, f13, f14⟩ := HF.out; exact f11 h11)
      obtain rfl := HE.out
      clear HE
      obtain ⟨c0, c1, c2, c3, c4, c5, f0, f1, f2, f3, f4, f5⟩ := S.out.below hB
      clear f0 f1 f2 f3 f4 f5
      simp only [Act.put, List.toList_toArray, List.take_succ_cons, List.take_zero, List.drop_succ_cons, List.drop_zero, List.cons_append, List.nil_append, List.setIfInBounds_toArray, List.set_cons_zero, List.set_cons_succ]
      go_simp
      exact hKK _ _ ⟨_, _, _, _, _, _, _, _, _, _, _, _, _, _, _, rfl, hB, Lib.hid (by obtain ⟨f0, f1, f2, f3, f4, f5, f6, f7, f8, f9, f10, f11, f12, f13, f14⟩ := HF.out; exact ⟨f0, f1, f2, f3, f4, f5, f6, f7, f8, f9, f10, fun _ => rfl, fun _ => rfl, f13, f14⟩)⟩
    · rintro D aa wx ⟨x4, x8, x9, x10, x11, x12, x13, x14, x15, x16, x17, x18, x19, x20, x21, rfl, hB, HF⟩ hD hdep KK hKK
      simp [Region.binds] at hdep
      have h10 : D 10 = true := by simp [hdep]
      have h12 : D 12 = true := by simp [hdep]
      have HE := Lib.hid (show x18 = .string (⟨#[66]⟩ ++ T1) ∧ x20 = .string b by obtain ⟨f0, f1, f2, f3, f4, f5, f6, f7, f8, f9, f10, f11, f12, f13, f14⟩ := HF.out; exact ⟨f10 h10, f12 h12⟩)
      obtain ⟨rfl, rfl⟩ := HE.out
      clear HE
      simp only [Act.put, List.toList_toArray, List.take_succ_cons, List.take_zero, List.drop_succ_cons, List.drop_zero, List.cons_append, List.nil_append, List.setIfInBounds_toArray, List.set_cons_zero, List.set_cons_succ]
      go_simp
      exact hKK _ _ ⟨_, _, _, _, _, _, _, _, _, _, _, _, _, _, _, rfl, hB, Lib.hid (by obtain ⟨f0, f1, f2, f3, f4, f5, f6, f7, f8, f9, f10, f11, f12, f13, f14⟩ := HF.out; exact ⟨f0, f1, f2, f3, f4, f5, f6, f7, f8, f9, fun _ => rfl, f11, fun _ => rfl, fun _ => rfl, f14⟩)⟩
    · rintro D aa wx ⟨x4, x8, x9, x10, x11, x12, x13, x14, x15, x16, x17, x18, x19, x20, x21, rfl, hB, HF⟩ hD hdep KK hKK
      simp [Region.binds] at hdep
      have h13 : D 13 = true := by simp [hdep]
      have HE := Lib.hid (show x21 = .string (⟨#[66]⟩ ++ T1 ++ b) by obtain ⟨f0, f1, f2, f3, f4, f5, f6, f7, f8, f9, f10, f11, f12, f13, f14⟩ := HF.out; exact f13 h13)
      obtain rfl := HE.out
      clear HE
      simp only [Act.put, List.toList_toArray, List.take_succ_cons, List.take_zero, List.drop_succ_cons, List.drop_zero, List.cons_append, List.nil_append, List.setIfInBounds_toArray, List.set_cons_zero, List.set_cons_succ]
      go_simp
      exact hKK _ _ ⟨_, _, _, _, _, _, _, _, _, _, _, _, _, _, _, rfl, hB, Lib.hid (by obtain ⟨f0, f1, f2, f3, f4, f5, f6, f7, f8, f9, f10, f11, f12, f13, f14⟩ := HF.out; exact ⟨f0, f1, f2, f3, f4, f5, f6, f7, f8, f9, f10, f11, f12, fun _ => rfl, fun _ => rfl⟩)⟩
  rintro D aa w3 ⟨x4, x8, x9, x10, x11, x12, x13, x14, x15, x16, x17, x18, x19, x20, x21, rfl, hB, HF⟩ hD
  obtain e14 : x4 = .string (⟨#[66]⟩ ++ T1 ++ b) := by obtain ⟨f0, f1, f2, f3, f4, f5, f6, f7, f8, f9, f10, f11, f12, f13, f14⟩ := HF.out; exact f14 (hD 14 (by simp))
  subst e14
  simp only [Act.put, List.toList_toArray, List.take_succ_cons, List.take_zero, List.drop_succ_cons, List.drop_zero, List.cons_append, List.nil_append]
  clear HF hD
  replace S := S.out.below hB
  replace BB := below_to BB hB
  clear hB q1 q2 q3 q4
  obtain ⟨X, hX⟩ : ∃ X : ByteArray, ⟨#[66]⟩ ++ T1 ++ b = X := ⟨_, rfl⟩
  have hXs : X.size ≤ 14 := by rw [← hX, ByteArray.size_append, ByteArray.size_append]; have : (⟨#[66]⟩ : ByteArray).size = 1 := rfl; omega
  rw [hX]
  have HX := Lib.hid hX
  clear hX hT
  have c0 := S.c0
  have c1 := S.c1
  have c2 := S.c2
  have c3 := S.c3
  have c4 := S.c4
  have c5 := S.c5
  go_wp2_with fail
  go_ret2
  exact ⟨by first | rfl | (unfold strErr; rw [HX.out]; rfl) | (unfold strErr; rw [HX.out, HY.out]; rfl), BB⟩
def InvR3 (W1 : World) (gg : Nat) (m : Nat) (b : ByteArray) (T1 : ByteArray) (a0 : Act) (D : Nat → Bool) (act : Act) (w : World) : Prop :=
  ∃ x4 x8 x9 x10 x11 x12 x13 x14 x15 x16 x17 x18 x19 x20 x21, act = ⟨(a0.tmps.toList.take 4 ++ x4 :: ((a0.tmps.toList.drop 5).take 3 ++ x8 :: x9 :: x10 :: x11 :: x12 :: x13 :: x14 :: x15 :: x16 :: x17 :: x18 :: x19 :: x20 :: x21 :: a0.tmps.toList.drop 22)).toArray, []⟩ ∧ Below W1.heap.size W1 w ∧ Hid ((D 0 = true → x8 = .pointer (some ⟨gg, 0, none⟩)) ∧ (D 1 = true → x9 = .int .i64 3) ∧ (D 2 = true → x10 = .int .i64 2) ∧ (D 3 = true → x11 = .pointer (some ⟨gg, 0, none⟩)) ∧ (D 4 = true → x12 = .int .i64 3) ∧ (D 5 = true → x13 = .string ⟨#[86]⟩) ∧ (D 6 = true → x14 = .pointer (some ⟨gg, 1, none⟩)) ∧ (D 7 = true → x15 = .int .i64 (m : Int)) ∧ (D 8 = true → x16 = .int .u64 (m : Int)) ∧ (D 9 = true → x17 = .string T1) ∧ (D 10 = true → x18 = .string (⟨#[86]⟩ ++ T1)) ∧ (D 11 = true → x19 = .pointer (some ⟨gg, 2, none⟩)) ∧ (D 12 = true → x20 = .string b) ∧ (D 13 = true → x21 = .string (⟨#[86]⟩ ++ T1 ++ b)) ∧ (D 14 = true → x4 = .string (⟨#[86]⟩ ++ T1 ++ b)))
def InvR7 (W1 : World) (gg : Nat) (u : Nat) (f : Nat) (n : ByteArray) (Y : ByteArray) (C : ByteArray) (a0 : Act) (D : Nat → Bool) (act : Act) (w : World) : Prop :=
  ∃ x4 x30 x31 x32 x33 x34 x35 x36 x37 x38 x39, act = ⟨(a0.tmps.toList.take 4 ++ x4 :: ((a0.tmps.toList.drop 5).take 25 ++ x30 :: x31 :: x32 :: x33 :: x34 :: x35 :: x36 :: x37 :: x38 :: x39 :: a0.tmps.toList.drop 40)).toArray, []⟩ ∧ Below W1.heap.size W1 w ∧ Hid ((D 0 = true → x30 = .string Y) ∧ (D 1 = true → x31 = .pointer (some ⟨gg, 3, none⟩)) ∧ (D 2 = true → x32 = .string n) ∧ (D 3 = true → x33 = .string (Y ++ n)) ∧ (D 4 = true → x34 = .string (Y ++ n ++ ⟨#[0]⟩)) ∧ (D 5 = true → x35 = .pointer (some ⟨gg, 4, none⟩)) ∧ (D 6 = true → x36 = .int .u64 (u : Int)) ∧ (D 7 = true → x37 = .int .u64 (f : Int)) ∧ (D 8 = true → x38 = .string C) ∧ (D 9 = true → x39 = .string (Y ++ n ++ ⟨#[0]⟩ ++ C)) ∧ (D 10 = true → x4 = .string (Y ++ n ++ ⟨#[0]⟩ ++ C)) ∧ (D 0 = false → x4 = .string Y))
theorem rmake3 (m : Nat) (b n : ByteArray) (u : Nat) (p : Int) (T1 C E : ByteArray) (hm : m < 8) (hT : T1.size ≤ 1) (hb12 : b.size ≤ 12) (H1 : Hid (∀ w, Calls Try.prog 52 #[.int .i64 1, .int .u64 (m : Int)] w fun e w' => e = .returned (.string T1) ∧ Below w.heap.size w w')) (f : Nat) (hf : IntKind.u64.wrap (18446744073709551615 - (u : Int)) = (f : Int)) (H8 : Hid (∀ w, Calls Try.prog 52 #[.int .i64 8, .int .u64 (f : Int)] w fun e w' => e = .returned (.string C) ∧ Below w.heap.size w w')) (hC : C.size ≤ 8) (hn : n.size ≤ 24) (HR : Hid (∀ w, Calls Try.prog 17 #[.agg #[.int .i64 3, .int .i64 (m : Int), .string b, .string n, .int .u64 (u : Int), .int .i64 p]] w fun e w' => e = .returned (.bool true) ∧ Below w.heap.size w w')) (w : World) :
    Calls Try.prog 13 #[.agg #[.int .i64 3, .int .i64 (m : Int), .string b, .string n, .int .u64 (u : Int), .int .i64 p]] w fun e w' => e = strErr (((⟨#[86]⟩ ++ T1 ++ b) ++ ⟨#[0]⟩) ++ n ++ ⟨#[0]⟩ ++ C) 0 ∧ Below w.heap.size w w' := by
  have hw : IntKind.u64.wrap (m : Int) = (m : Int) := by rw [IntKind.wrap_u64]; omega
  have q1 : ¬ 9223372036854775807 < 1 + T1.size := by omega
  have q2 : ¬ (9223372036854775807 : Int) < 1 + (T1.size : Int) := by omega
  have q3 : ¬ 9223372036854775807 < 1 + T1.size + b.size := by omega
  have q4 : ¬ (9223372036854775807 : Int) < 1 + (T1.size : Int) + (b.size : Int) := by omega
  go_enter Try.func13, Try.ntmps13
  go_wp2_with fail
  refine (HR.out _).mono ?_
  rintro e w2 ⟨rfl, hb⟩
  have S := Lib.hid ((Six.new w _ _ _ _ _ _ 24).below hb)
  have BB := below_alloc_to hb
  clear hb
  go_wp2_with fail
  refine wp_region_inv0 (InvR3 w2 w.heap.size m b T1) (by kernel_rfl) (by decide) ?_ ?_ ?_
  · exact ⟨_, _, _, _, _, _, _, _, _, _, _, _, _, _, _, rfl, (Below.refl _ _).drew, Lib.hid ⟨(by intro h; cases h), (by intro h; cases h), (by intro h; cases h), (by intro h; cases h), (by intro h; cases h), (by intro h; cases h), (by intro h; cases h), (by intro h; cases h), (by intro h; cases h), (by intro h; cases h), (by intro h; cases h), (by intro h; cases h), (by intro h; cases h), (by intro h; cases h), (by intro h; cases h)⟩⟩
  · refine AllI.cons ?_ (AllI.cons ?_ (AllI.cons ?_ (AllI.cons ?_ (AllI.cons ?_ (AllI.cons ?_ (AllI.cons ?_ (AllI.cons ?_ (AllI.cons ?_ (AllI.cons ?_ (AllI.cons ?_ (AllI.cons ?_ (AllI.cons ?_ (AllI.cons ?_ (AllI.cons ?_ AllI.nil))))))))))))))
    · rintro D aa wx ⟨x4, x8, x9, x10, x11, x12, x13, x14, x15, x16, x17, x18, x19, x20, x21, rfl, hB, HF⟩ hD hdep KK hKK
      simp only [Act.put, List.toList_toArray, List.take_succ_cons, List.take_zero, List.drop_succ_cons, List.drop_zero, List.cons_append, List.nil_append, List.setIfInBounds_toArray, List.set_cons_zero, List.set_cons_succ]
      go_simp
      exact hKK _ _ ⟨_, _, _, _, _, _, _, _, _, _, _, _, _, _, _, rfl, hB, Lib.hid (by obtain ⟨f0, f1, f2, f3, f4, f5, f6, f7, f8, f9, f10, f11, f12, f13, f14⟩ := HF.out; exact ⟨fun _ => rfl, f1, f2, f3, f4, f5, f6, f7, f8, f9, f10, f11, f12, f13, f14⟩)⟩
    · rintro D aa wx ⟨x4, x8, x9, x10, x11, x12, x13, x14, x15, x16, x17, x18, x19, x20, x21, rfl, hB, HF⟩ hD hdep KK hKK
      simp [Region.binds] at hdep
      have h0 : D 0 = true := by simp [hdep]
      have HE := Lib.hid (show x8 = .pointer (some ⟨w.heap.size, 0, none⟩) by obtain ⟨f0, f1, f2, f3, f4, f5, f6, f7, f8, f9, f10, f11, f12, f13, f14⟩ := HF.out; exact f0 h0)
      obtain rfl := HE.out
      clear HE
      obtain ⟨c0, c1, c2, c3, c4, c5, f0, f1, f2, f3, f4, f5⟩ := S.out.below hB
      clear f0 f1 f2 f3 f4 f5
      simp only [Act.put, List.toList_toArray, List.take_succ_cons, List.take_zero, List.drop_succ_cons, List.drop_zero, List.cons_append, List.nil_append, List.setIfInBounds_toArray, List.set_cons_zero, List.set_cons_succ]
      go_simp
      exact hKK _ _ ⟨_, _, _, _, _, _, _, _, _, _, _, _, _, _, _, rfl, hB, Lib.hid (by obtain ⟨f0, f1, f2, f3, f4, f5, f6, f7, f8, f9, f10, f11, f12, f13, f14⟩ := HF.out; exact ⟨fun _ => rfl, fun _ => rfl, f2, f3, f4, f5, f6, f7, f8, f9, f10, f11, f12, f13, f14⟩)⟩
    · rintro D aa wx ⟨x4, x8, x9, x10, x11, x12, x13, x14, x15, x16, x17, x18, x19, x20, x21, rfl, hB, HF⟩ hD hdep KK hKK
      simp [Region.binds] at hdep
      have h1 : D 1 = true := by simp [hdep]
      have HE := Lib.hid (show x9 = .int .i64 3 by obtain ⟨f0, f1, f2, f3, f4, f5, f6, f7, f8, f9, f10, f11, f12, f13, f14⟩ := HF.out; exact f1 h1)
      obtain rfl := HE.out
      clear HE
      simp only [Act.put, List.toList_toArray, List.take_succ_cons, List.take_zero, List.drop_succ_cons, List.drop_zero, List.cons_append, List.nil_append, List.setIfInBounds_toArray, List.set_cons_zero, List.set_cons_succ]
      go_simp
      exact hKK _ _ ⟨_, _, _, _, _, _, _, _, _, _, _, _, _, _, _, rfl, hB, Lib.hid (by obtain ⟨f0, f1, f2, f3, f4, f5, f6, f7, f8, f9, f10, f11, f12, f13, f14⟩ := HF.out; exact ⟨f0, fun _ => rfl, fun _ => rfl, f3, f4, f5, f6, f7, f8, f9, f10, f11, f12, f13, f14⟩)⟩
    · rintro D aa wx ⟨x4, x8, x9, x10, x11, x12, x13, x14, x15, x16, x17, x18, x19, x20, x21, rfl, hB, HF⟩ hD hdep KK hKK
      simp only [Act.put, List.toList_toArray, List.take_succ_cons, List.take_zero, List.drop_succ_cons, List.drop_zero, List.cons_append, List.nil_append, List.setIfInBounds_toArray, List.set_cons_zero, List.set_cons_succ]
      go_simp
      exact hKK _ _ ⟨_, _, _, _, _, _, _, _, _, _, _, _, _, _, _, rfl, hB, Lib.hid (by obtain ⟨f0, f1, f2, f3, f4, f5, f6, f7, f8, f9, f10, f11, f12, f13, f14⟩ := HF.out; exact ⟨f0, f1, f2, fun _ => rfl, f4, f5, f6, f7, f8, f9, f10, f11, f12, f13, f14⟩)⟩
    · rintro D aa wx ⟨x4, x8, x9, x10, x11, x12, x13, x14, x15, x16, x17, x18, x19, x20, x21, rfl, hB, HF⟩ hD hdep KK hKK
      simp [Region.binds] at hdep
      have h3 : D 3 = true := by simp [hdep]
      have HE := Lib.hid (show x11 = .pointer (some ⟨w.heap.size, 0, none⟩) by obtain ⟨f0, f1, f2, f3, f4, f5, f6, f7, f8, f9, f10, f11, f12, f13, f14⟩ := HF.out; exact f3 h3)
      obtain rfl := HE.out
      clear HE
      obtain ⟨c0, c1, c2, c3, c4, c5, f0, f1, f2, f3, f4, f5⟩ := S.out.below hB
      clear f0 f1 f2 f3 f4 f5
      simp only [Act.put, List.toList_toArray, List.take_succ_cons, List.take_zero, List.drop_succ_cons, List.drop_zero, List.cons_append, List.nil_append, List.setIfInBounds_toArray, List.set_cons_zero, List.set_cons_succ]
      go_simp
      exact hKK _ _ ⟨_, _, _, _, _, _, _, _, _, _, _, _, _, _, _, rfl, hB, Lib.hid (by obtain ⟨f0, f1, f2, f3, f4, f5, f6, f7, f8, f9, f10, f11, f12, f13, f14⟩ := HF.out; exact ⟨f0, f1, f2, fun _ => rfl, fun _ => rfl, f5, f6, f7, f8, f9, f10, f11, f12, f13, f14⟩)⟩
    · rintro D aa wx ⟨x4, x8, x9, x10, x11, x12, x13, x14, x15, x16, x17, x18, x19, x20, x21, rfl, hB, HF⟩ hD hdep KK hKK
      simp [Region.binds] at hdep
      have h2 : D 2 = true := by simp [hdep]
      have h4 : D 4 = true := by simp [hdep]
      have HE := Lib.hid (show x10 = .int .i64 2 ∧ x12 = .int .i64 3 by obtain ⟨f0, f1, f2, f3, f4, f5, f6, f7, f8, f9, f10, f11, f12, f13, f14⟩ := HF.out; exact ⟨f2 h2, f4 h4⟩)
      obtain ⟨rfl, rfl⟩ := HE.out
      clear HE
      simp only [Act.put, List.toList_toArray, List.take_succ_cons, List.take_zero, List.drop_succ_cons, List.drop_zero, List.cons_append, List.nil_append, List.setIfInBounds_toArray, List.set_cons_zero, List.set_cons_succ]
      go_simp
      exact hKK _ _ ⟨_, _, _, _, _, _, _, _, _, _, _, _, _, _, _, rfl, hB, Lib.hid (by obtain ⟨f0, f1, f2, f3, f4, f5, f6, f7, f8, f9, f10, f11, f12, f13, f14⟩ := HF.out; exact ⟨f0, f1, fun _ => rfl, f3, fun _ => rfl, fun _ => rfl, f6, f7, f8, f9, f10, f11, f12, f13, f14⟩)⟩
    · rintro D aa wx ⟨x4, x8, x9, x10, x11, x12, x13, x14, x15, x16, x17, x18, x19, x20, x21, rfl, hB, HF⟩ hD hdep KK hKK
      simp only [Act.put, List.toList_toArray, List.take_succ_cons, List.take_zero, List.drop_succ_cons, List.drop_zero, List.cons_append, List.nil_append, List.setIfInBounds_toArray, List.set_cons_zero, List.set_cons_succ]
      go_simp
      exact hKK _ _ ⟨_, _, _, _, _, _, _, _, _, _, _, _, _, _, _, rfl, hB, Lib.hid (by obtain ⟨f0, f1, f2, f3, f4, f5, f6, f7, f8, f9, f10, f11, f12, f13, f14⟩ := HF.out; exact ⟨f0, f1, f2, f3, f4, f5, fun _ => rfl, f7, f8, f9, f10, f11, f12, f13, f14⟩)⟩
    · rintro D aa wx ⟨x4, x8, x9, x10, x11, x12, x13, x14, x15, x16, x17, x18, x19, x20, x21, rfl, hB, HF⟩ hD hdep KK hKK
      simp [Region.binds] at hdep
      have h6 : D 6 = true := by simp [hdep]
      have HE := Lib.hid (show x14 = .pointer (some ⟨w.heap.size, 1, none⟩) by obtain ⟨f0, f1, f2, f3, f4, f5, f6, f7, f8, f9, f10, f11, f12, f13, f14⟩ := HF.out; exact f6 h6)
      obtain rfl := HE.out
      clear HE
      obtain ⟨c0, c1, c2, c3, c4, c5, f0, f1, f2, f3, f4, f5⟩ := S.out.below hB
      clear f0 f1 f2 f3 f4 f5
      simp only [Act.put, List.toList_toArray, List.take_succ_cons, List.take_zero, List.drop_succ_cons, List.drop_zero, List.cons_append, List.nil_append, List.setIfInBounds_toArray, List.set_cons_zero, List.set_cons_succ]
      go_simp
      exact hKK _ _ ⟨_, _, _, _, _, _, _, _, _, _, _, _, _, _, _, rfl, hB, Lib.hid (by obtain ⟨f0, f1, f2, f3, f4, f5, f6, f7, f8, f9, f10, f11, f12, f13, f14⟩ := HF.out; exact ⟨f0, f1, f2, f3, f4, f5, fun _ => rfl, fun _ => rfl, f8, f9, f10, f11, f12, f13, f14⟩)⟩
    · rintro D aa wx ⟨x4, x8, x9, x10, x11, x12, x13, x14, x15, x16, x17, x18, x19, x20, x21, rfl, hB, HF⟩ hD hdep KK hKK
      simp [Region.binds] at hdep
      have h7 : D 7 = true := by simp [hdep]
      have HE := Lib.hid (show x15 = .int .i64 (m : Int) by obtain ⟨f0, f1, f2, f3, f4, f5, f6, f7, f8, f9, f10, f11, f12, f13, f14⟩ := HF.out; exact f7 h7)
      obtain rfl := HE.out
      clear HE
      simp only [Act.put, List.toList_toArray, List.take_succ_cons, List.take_zero, List.drop_succ_cons, List.drop_zero, List.cons_append, List.nil_append, List.setIfInBounds_toArray, List.set_cons_zero, List.set_cons_succ]
      go_simp
      exact hKK _ _ ⟨_, _, _, _, _, _, _, _, _, _, _, _, _, _, _, rfl, hB, Lib.hid (by obtain ⟨f0, f1, f2, f3, f4, f5, f6, f7, f8, f9, f10, f11, f12, f13, f14⟩ := HF.out; exact ⟨f0, f1, f2, f3, f4, f5, f6, fun _ => rfl, fun _ => rfl, f9, f10, f11, f12, f13, f14⟩)⟩
    · rintro D aa wx ⟨x4, x8, x9, x10, x11, x12, x13, x14, x15, x16, x17, x18, x19, x20, x21, rfl, hB, HF⟩ hD hdep KK hKK
      simp [Region.binds] at hdep
      have h8 : D 8 = true := by simp [hdep]
      have HE := Lib.hid (show x16 = .int .u64 (m : Int) by obtain ⟨f0, f1, f2, f3, f4, f5, f6, f7, f8, f9, f10, f11, f12, f13, f14⟩ := HF.out; exact f8 h8)
      obtain rfl := HE.out
      clear HE
      simp only [Act.put, List.toList_toArray, List.take_succ_cons, List.take_zero, List.drop_succ_cons, List.drop_zero, List.cons_append, List.nil_append, List.setIfInBounds_toArray, List.set_cons_zero, List.set_cons_succ]
      go_simp
      refine (H1.out _).mono ?_
      rintro e w5 ⟨rfl, hb⟩
      exact hKK _ _ ⟨_, _, _, _, _, _, _, _, _, _, _, _, _, _, _, rfl, below_to hB hb, Lib.hid (by obtain ⟨f0, f1, f2, f3, f4, f5, f6, f7, f8, f9, f10, f11, f12, f13, f14⟩ := HF.out; exact ⟨f0, f1, f2, f3, f4, f5, f6, f7, fun _ => rfl, fun _ => rfl, f10, f11, f12, f13, f14⟩)⟩
    · rintro D aa wx ⟨x4, x8, x9, x10, x11, x12, x13, x14, x15, x16, x17, x18, x19, x20, x21, rfl, hB, HF⟩ hD hdep KK hKK
      simp [Region.binds] at hdep
      have h5 : D 5 = true := by simp [hdep]
      have h9 : D 9 = true := by simp [hdep]
      have HE := Lib.hid (show x13 = .string ⟨#[86]⟩ ∧ x17 = .string T1 by obtain ⟨f0, f1, f2, f3, f4, f5, f6, f7, f8, f9, f10, f11, f12, f13, f14⟩ := HF.out; exact ⟨f5 h5, f9 h9⟩)
      obtain ⟨rfl, rfl⟩ := HE.out
      clear HE
      simp only [Act.put, List.toList_toArray, List.take_succ_cons, List.take_zero, List.drop_succ_cons, List.drop_zero, List.cons_append, List.nil_append, List.setIfInBounds_toArray, List.set_cons_zero, List.set_cons_succ]
      go_simp
      exact hKK _ _ ⟨_, _, _, _, _, _, _, _, _, _, _, _, _, _, _, rfl, hB, Lib.hid (by obtain ⟨f0, f1, f2, f3, f4, f5, f6, f7, f8, f9, f10, f11, f12, f13, f14⟩ := HF.out; exact ⟨f0, f1, f2, f3, f4, fun _ => rfl, f6, f7, f8, fun _ => rfl, fun _ => rfl, f11, f12, f13, f14⟩)⟩
    · rintro D aa wx ⟨x4, x8, x9, x10, x11, x12, x13, x14, x15, x16, x17, x18, x19, x20, x21, rfl, hB, HF⟩ hD hdep KK hKK
      simp only [Act.put, List.toList_toArray, List.take_succ_cons, List.take_zero, List.drop_succ_cons, List.drop_zero, List.cons_append, List.nil_append, List.setIfInBounds_toArray, List.set_cons_zero, List.set_cons_succ]
      go_simp
      exact hKK _ _ ⟨_, _, _, _, _, _, _, _, _, _, _, _, _, _, _, rfl, hB, Lib.hid (by obtain ⟨f0, f1, f2, f3, f4, f5, f6, f7, f8, f9, f10, f11, f12, f13, f14⟩ := HF.out; exact ⟨f0, f1, f2, f3, f4, f5, f6, f7, f8, f9, f10, fun _ => rfl, f12, f13, f14⟩)⟩
    · rintro D aa wx ⟨x4, x8, x9, x10, x11, x12, x13, x14, x15, x16, x17, x18, x19, x20, x21, rfl, hB, HF⟩ hD hdep KK hKK
      simp [Region.binds] at hdep
      have h11 : D 11 = true := by simp [hdep]
      have HE := Lib.hid (show x19 = .pointer (some ⟨w.heap.size, 2, none⟩) by obtain ⟨f0, f1, f2, f3, f4, f5, f6, f7, f8, f9, f10, f11, f12, f13, f14⟩ := HF.out; exact f11 h11)
      obtain rfl := HE.out
      clear HE
      obtain ⟨c0, c1, c2, c3, c4, c5, f0, f1, f2, f3, f4, f5⟩ := S.out.below hB
      clear f0 f1 f2 f3 f4 f5
      simp only [Act.put, List.toList_toArray, List.take_succ_cons, List.take_zero, List.drop_succ_cons, List.drop_zero, List.cons_append, List.nil_append, List.setIfInBounds_toArray, List.set_cons_zero, List.set_cons_succ]
      go_simp
      exact hKK _ _ ⟨_, _, _, _, _, _, _, _, _, _, _, _, _, _, _, rfl, hB, Lib.hid (by obtain ⟨f0, f1, f2, f3, f4, f5, f6, f7, f8, f9, f10, f11, f12, f13, f14⟩ := HF.out; exact ⟨f0, f1, f2, f3, f4, f5, f6, f7, f8, f9, f10, fun _ => rfl, fun _ => rfl, f13, f14⟩)⟩
    · rintro D aa wx ⟨x4, x8, x9, x10, x11, x12, x13, x14, x15, x16, x17, x18, x19, x20, x21, rfl, hB, HF⟩ hD hdep KK hKK
      simp [Region.binds] at hdep
      have h10 : D 10 = true := by simp [hdep]
      have h12 : D 12 = true := by simp [hdep]
      have HE := Lib.hid (show x18 = .string (⟨#[86]⟩ ++ T1) ∧ x20 = .string b by obtain ⟨f0, f1, f2, f3, f4, f5, f6, f7, f8, f9, f10, f11, f12, f13, f14⟩ := HF.out; exact ⟨f10 h10, f12 h12⟩)
      obtain ⟨rfl, rfl⟩ := HE.out
      clear HE
      simp only [Act.put, List.toList_toArray, List.take_succ_cons, List.take_zero, List.drop_succ_cons, List.drop_zero, List.cons_append, List.nil_append, List.setIfInBounds_toArray, List.set_cons_zero, List.set_cons_succ]
      go_simp
      exact hKK _ _ ⟨_, _, _, _, _, _, _, _, _, _, _, _, _, _, _, rfl, hB, Lib.hid (by obtain ⟨f0, f1, f2, f3, f4, f5, f6, f7, f8, f9, f10, f11, f12, f13, f14⟩ := HF.out; exact ⟨f0, f1, f2, f3, f4, f5, f6, f7, f8, f9, fun _ => rfl, f11, fun _ => rfl, fun _ => rfl, f14⟩)⟩
    · rintro D aa wx ⟨x4, x8, x9, x10, x11, x12, x13, x14, x15, x16, x17, x18, x19, x20, x21, rfl, hB, HF⟩ hD hdep KK hKK
      simp [Region.binds] at hdep
      have h13 : D 13 = true := by simp [hdep]
      have HE := Lib.hid (show x21 = .string (⟨#[86]⟩ ++ T1 ++ b) by obtain ⟨f0, f1, f2, f3, f4, f5, f6, f7, f8, f9, f10, f11, f12, f13, f14⟩ := HF.out; exact f13 h13)
      obtain rfl := HE.out
      clear HE
      simp only [Act.put, List.toList_toArray, List.take_succ_cons, List.take_zero, List.drop_succ_cons, List.drop_zero, List.cons_append, List.nil_append, List.setIfInBounds_toArray, List.set_cons_zero, List.set_cons_succ]
      go_simp
      exact hKK _ _ ⟨_, _, _, _, _, _, _, _, _, _, _, _, _, _, _, rfl, hB, Lib.hid (by obtain ⟨f0, f1, f2, f3, f4, f5, f6, f7, f8, f9, f10, f11, f12, f13, f14⟩ := HF.out; exact ⟨f0, f1, f2, f3, f4, f5, f6, f7, f8, f9, f10, f11, f12, fun _ => rfl, fun _ => rfl⟩)⟩
  rintro D aa w3 ⟨x4, x8, x9, x10, x11, x12, x13, x14, x15, x16, x17, x18, x19, x20, x21, rfl, hB, HF⟩ hD
  obtain e14 : x4 = .string (⟨#[86]⟩ ++ T1 ++ b) := by obtain ⟨f0, f1, f2, f3, f4, f5, f6, f7, f8, f9, f10, f11, f12, f13, f14⟩ := HF.out; exact f14 (hD 14 (by simp))
  subst e14
  simp only [Act.put, List.toList_toArray, List.take_succ_cons, List.take_zero, List.drop_succ_cons, List.drop_zero, List.cons_append, List.nil_append]
  clear HF hD
  replace S := S.out.below hB
  replace BB := below_to BB hB
  clear hB q1 q2 q3 q4
  obtain ⟨X, hX⟩ : ∃ X : ByteArray, ⟨#[86]⟩ ++ T1 ++ b = X := ⟨_, rfl⟩
  have hXs : X.size ≤ 14 := by rw [← hX, ByteArray.size_append, ByteArray.size_append]; have : (⟨#[86]⟩ : ByteArray).size = 1 := rfl; omega
  rw [hX]
  have HX := Lib.hid hX
  clear hX hT
  have c0 := S.c0
  have c1 := S.c1
  have c2 := S.c2
  have c3 := S.c3
  have c4 := S.c4
  have c5 := S.c5
  go_upto_region 7 with (fail)
  have hYs : (X ++ ⟨#[0]⟩).size ≤ 15 := by rw [ByteArray.size_append]; have : (⟨#[0]⟩ : ByteArray).size = 1 := rfl; omega
  obtain ⟨Y, hY⟩ : ∃ Y, X ++ ⟨#[0]⟩ = Y := ⟨_, rfl⟩
  rw [hY] at hYs ⊢
  have HY := Lib.hid hY
  clear hY
  have q1 : ¬ 9223372036854775807 < Y.size + n.size := by omega
  have q2 : ¬ (9223372036854775807 : Int) < (Y.size : Int) + (n.size : Int) := by omega
  have q3 : ¬ 9223372036854775807 < Y.size + n.size + 1 := by omega
  have q4 : ¬ (9223372036854775807 : Int) < (Y.size : Int) + (n.size : Int) + 1 := by omega
  have q5 : ¬ 9223372036854775807 < Y.size + n.size + 1 + C.size := by omega
  have q6 : ¬ (9223372036854775807 : Int) < (Y.size : Int) + (n.size : Int) + 1 + (C.size : Int) := by omega
  clear c0 c1 c2 c3 c4 c5
  replace S := Lib.hid S
  refine wp_region_inv0 (InvR7 w3 w.heap.size u f n Y C) (by kernel_rfl) (by decide) ?_ ?_ ?_
  · exact ⟨_, _, _, _, _, _, _, _, _, _, _, rfl, (Below.refl _ _).drew, Lib.hid ⟨(by intro h; cases h), (by intro h; cases h), (by intro h; cases h), (by intro h; cases h), (by intro h; cases h), (by intro h; cases h), (by intro h; cases h), (by intro h; cases h), (by intro h; cases h), (by intro h; cases h), (by intro h; cases h), (fun _ => rfl)⟩⟩
  · refine AllI.cons ?_ (AllI.cons ?_ (AllI.cons ?_ (AllI.cons ?_ (AllI.cons ?_ (AllI.cons ?_ (AllI.cons ?_ (AllI.cons ?_ (AllI.cons ?_ (AllI.cons ?_ (AllI.cons ?_ AllI.nil))))))))))
    · rintro D aa wx ⟨x4, x30, x31, x32, x33, x34, x35, x36, x37, x38, x39, rfl, hB, HF⟩ hD hdep KK hKK
      have hx4 : x4 = .string Y := by obtain ⟨f0, f1, f2, f3, f4, f5, f6, f7, f8, f9, f10, fe⟩ := HF.out; exact fe hD
      subst hx4
      simp only [Act.put, List.toList_toArray, List.take_succ_cons, List.take_zero, List.drop_succ_cons, List.drop_zero, List.cons_append, List.nil_append, List.setIfInBounds_toArray, List.set_cons_zero, List.set_cons_succ]
      go_simp
      exact hKK _ _ ⟨_, _, _, _, _, _, _, _, _, _, _, rfl, hB, Lib.hid (by obtain ⟨f0, f1, f2, f3, f4, f5, f6, f7, f8, f9, f10, fe⟩ := HF.out; exact ⟨fun _ => rfl, f1, f2, f3, f4, f5, f6, f7, f8, f9, f10, (fun h => by simp [upd] at h)⟩)⟩
    · rintro D aa wx ⟨x4, x30, x31, x32, x33, x34, x35, x36, x37, x38, x39, rfl, hB, HF⟩ hD hdep KK hKK
      simp only [Act.put, List.toList_toArray, List.take_succ_cons, List.take_zero, List.drop_succ_cons, List.drop_zero, List.cons_append, List.nil_append, List.setIfInBounds_toArray, List.set_cons_zero, List.set_cons_succ]
      go_simp
      exact hKK _ _ ⟨_, _, _, _, _, _, _, _, _, _, _, rfl, hB, Lib.hid (by obtain ⟨f0, f1, f2, f3, f4, f5, f6, f7, f8, f9, f10, fe⟩ := HF.out; exact ⟨f0, fun _ => rfl, f2, f3, f4, f5, f6, f7, f8, f9, f10, fe⟩)⟩
    · rintro D aa wx ⟨x4, x30, x31, x32, x33, x34, x35, x36, x37, x38, x39, rfl, hB, HF⟩ hD hdep KK hKK
      simp [Region.binds] at hdep
      have h1 : D 1 = true := by simp [hdep]
      have HE := Lib.hid (show x31 = .pointer (some ⟨w.heap.size, 3, none⟩) by obtain ⟨f0, f1, f2, f3, f4, f5, f6, f7, f8, f9, f10, fe⟩ := HF.out; exact f1 h1)
      obtain rfl := HE.out
      clear HE
      obtain ⟨c0, c1, c2, c3, c4, c5, f0, f1, f2, f3, f4, f5⟩ := S.out.below hB
      clear f0 f1 f2 f3 f4 f5
      simp only [Act.put, List.toList_toArray, List.take_succ_cons, List.take_zero, List.drop_succ_cons, List.drop_zero, List.cons_append, List.nil_append, List.setIfInBounds_toArray, List.set_cons_zero, List.set_cons_succ]
      go_simp
      exact hKK _ _ ⟨_, _, _, _, _, _, _, _, _, _, _, rfl, hB, Lib.hid (by obtain ⟨f0, f1, f2, f3, f4, f5, f6, f7, f8, f9, f10, fe⟩ := HF.out; exact ⟨f0, fun _ => rfl, fun _ => rfl, f3, f4, f5, f6, f7, f8, f9, f10, fe⟩)⟩
    · rintro D aa wx ⟨x4, x30, x31, x32, x33, x34, x35, x36, x37, x38, x39, rfl, hB, HF⟩ hD hdep KK hKK
      simp [Region.binds] at hdep
      have h0 : D 0 = true := by simp [hdep]
      have h2 : D 2 = true := by simp [hdep]
      have HE := Lib.hid (show x30 = .string Y ∧ x32 = .string n by obtain ⟨f0, f1, f2, f3, f4, f5, f6, f7, f8, f9, f10, fe⟩ := HF.out; exact ⟨f0 h0, f2 h2⟩)
      obtain ⟨rfl, rfl⟩ := HE.out
      clear HE
      simp only [Act.put, List.toList_toArray, List.take_succ_cons, List.take_zero, List.drop_succ_cons, List.drop_zero, List.cons_append, List.nil_append, List.setIfInBounds_toArray, List.set_cons_zero, List.set_cons_succ]
      go_simp
      exact hKK _ _ ⟨_, _, _, _, _, _, _, _, _, _, _, rfl, hB, Lib.hid (by obtain ⟨f0, f1, f2, f3, f4, f5, f6, f7, f8, f9, f10, fe⟩ := HF.out; exact ⟨fun _ => rfl, f1, fun _ => rfl, fun _ => rfl, f4, f5, f6, f7, f8, f9, f10, fe⟩)⟩
    · rintro D aa wx ⟨x4, x30, x31, x32, x33, x34, x35, x36, x37, x38, x39, rfl, hB, HF⟩ hD hdep KK hKK
      simp [Region.binds] at hdep
      have h3 : D 3 = true := by simp [hdep]
      have HE := Lib.hid (show x33 = .string (Y ++ n) by obtain ⟨f0, f1, f2, f3, f4, f5, f6, f7, f8, f9, f10, fe⟩ := HF.out; exact f3 h3)
      obtain rfl := HE.out
      clear HE
      simp only [Act.put, List.toList_toArray, List.take_succ_cons, List.take_zero, List.drop_succ_cons, List.drop_zero, List.cons_append, List.nil_append, List.setIfInBounds_toArray, List.set_cons_zero, List.set_cons_succ]
      go_simp
      exact hKK _ _ ⟨_, _, _, _, _, _, _, _, _, _, _, rfl, hB, Lib.hid (by obtain ⟨f0, f1, f2, f3, f4, f5, f6, f7, f8, f9, f10, fe⟩ := HF.out; exact ⟨f0, f1, f2, fun _ => rfl, fun _ => rfl, f5, f6, f7, f8, f9, f10, fe⟩)⟩
    · rintro D aa wx ⟨x4, x30, x31, x32, x33, x34, x35, x36, x37, x38, x39, rfl, hB, HF⟩ hD hdep KK hKK
      simp only [Act.put, List.toList_toArray, List.take_succ_cons, List.take_zero, List.drop_succ_cons, List.drop_zero, List.cons_append, List.nil_append, List.setIfInBounds_toArray, List.set_cons_zero, List.set_cons_succ]
      go_simp
      exact hKK _ _ ⟨_, _, _, _, _, _, _, _, _, _, _, rfl, hB, Lib.hid (by obtain ⟨f0, f1, f2, f3, f4, f5, f6, f7, f8, f9, f10, fe⟩ := HF.out; exact ⟨f0, f1, f2, f3, f4, fun _ => rfl, f6, f7, f8, f9, f10, fe⟩)⟩
    · rintro D aa wx ⟨x4, x30, x31, x32, x33, x34, x35, x36, x37, x38, x39, rfl, hB, HF⟩ hD hdep KK hKK
      simp [Region.binds] at hdep
      have h5 : D 5 = true := by simp [hdep]
      have HE := Lib.hid (show x35 = .pointer (some ⟨w.heap.size, 4, none⟩) by obtain ⟨f0, f1, f2, f3, f4, f5, f6, f7, f8, f9, f10, fe⟩ := HF.out; exact f5 h5)
      obtain rfl := HE.out
      clear HE
      obtain ⟨c0, c1, c2, c3, c4, c5, f0, f1, f2, f3, f4, f5⟩ := S.out.below hB
      clear f0 f1 f2 f3 f4 f5
      simp only [Act.put, List.toList_toArray, List.take_succ_cons, List.take_zero, List.drop_succ_cons, List.drop_zero, List.cons_append, List.nil_append, List.setIfInBounds_toArray, List.set_cons_zero, List.set_cons_succ]
      go_simp
      exact hKK _ _ ⟨_, _, _, _, _, _, _, _, _, _, _, rfl, hB, Lib.hid (by obtain ⟨f0, f1, f2, f3, f4, f5, f6, f7, f8, f9, f10, fe⟩ := HF.out; exact ⟨f0, f1, f2, f3, f4, fun _ => rfl, fun _ => rfl, f7, f8, f9, f10, fe⟩)⟩
    · rintro D aa wx ⟨x4, x30, x31, x32, x33, x34, x35, x36, x37, x38, x39, rfl, hB, HF⟩ hD hdep KK hKK
      simp [Region.binds] at hdep
      have h6 : D 6 = true := by simp [hdep]
      have HE := Lib.hid (show x36 = .int .u64 (u : Int) by obtain ⟨f0, f1, f2, f3, f4, f5, f6, f7, f8, f9, f10, fe⟩ := HF.out; exact f6 h6)
      obtain rfl := HE.out
      clear HE
      simp only [Act.put, List.toList_toArray, List.take_succ_cons, List.take_zero, List.drop_succ_cons, List.drop_zero, List.cons_append, List.nil_append, List.setIfInBounds_toArray, List.set_cons_zero, List.set_cons_succ]
      go_simp
      exact hKK _ _ ⟨_, _, _, _, _, _, _, _, _, _, _, rfl, hB, Lib.hid (by obtain ⟨f0, f1, f2, f3, f4, f5, f6, f7, f8, f9, f10, fe⟩ := HF.out; exact ⟨f0, f1, f2, f3, f4, f5, fun _ => rfl, fun _ => rfl, f8, f9, f10, fe⟩)⟩
    · rintro D aa wx ⟨x4, x30, x31, x32, x33, x34, x35, x36, x37, x38, x39, rfl, hB, HF⟩ hD hdep KK hKK
      simp [Region.binds] at hdep
      have h7 : D 7 = true := by simp [hdep]
      have HE := Lib.hid (show x37 = .int .u64 (f : Int) by obtain ⟨f0, f1, f2, f3, f4, f5, f6, f7, f8, f9, f10, fe⟩ := HF.out; exact f7 h7)
      obtain rfl := HE.out
      clear HE
      simp only [Act.put, List.toList_toArray, List.take_succ_cons, List.take_zero, List.drop_succ_cons, List.drop_zero, List.cons_append, List.nil_append, List.setIfInBounds_toArray, List.set_cons_zero, List.set_cons_succ]
      go_simp
      refine (H8.out _).mono ?_
      rintro e w5 ⟨rfl, hb⟩
      exact hKK _ _ ⟨_, _, _, _, _, _, _, _, _, _, _, rfl, below_to hB hb, Lib.hid (by obtain ⟨f0, f1, f2, f3, f4, f5, f6, f7, f8, f9, f10, fe⟩ := HF.out; exact ⟨f0, f1, f2, f3, f4, f5, f6, fun _ => rfl, fun _ => rfl, f9, f10, fe⟩)⟩
    · rintro D aa wx ⟨x4, x30, x31, x32, x33, x34, x35, x36, x37, x38, x39, rfl, hB, HF⟩ hD hdep KK hKK
      simp [Region.binds] at hdep
      have h4 : D 4 = true := by simp [hdep]
      have h8 : D 8 = true := by simp [hdep]
      have HE := Lib.hid (show x34 = .string (Y ++ n ++ ⟨#[0]⟩) ∧ x38 = .string C by obtain ⟨f0, f1, f2, f3, f4, f5, f6, f7, f8, f9, f10, fe⟩ := HF.out; exact ⟨f4 h4, f8 h8⟩)
      obtain ⟨rfl, rfl⟩ := HE.out
      clear HE
      simp only [Act.put, List.toList_toArray, List.take_succ_cons, List.take_zero, List.drop_succ_cons, List.drop_zero, List.cons_append, List.nil_append, List.setIfInBounds_toArray, List.set_cons_zero, List.set_cons_succ]
      go_simp
      exact hKK _ _ ⟨_, _, _, _, _, _, _, _, _, _, _, rfl, hB, Lib.hid (by obtain ⟨f0, f1, f2, f3, f4, f5, f6, f7, f8, f9, f10, fe⟩ := HF.out; exact ⟨f0, f1, f2, f3, fun _ => rfl, f5, f6, f7, fun _ => rfl, fun _ => rfl, f10, fe⟩)⟩
    · rintro D aa wx ⟨x4, x30, x31, x32, x33, x34, x35, x36, x37, x38, x39, rfl, hB, HF⟩ hD hdep KK hKK
      simp [Region.binds] at hdep
      have h9 : D 9 = true := by simp [hdep]
      have HE := Lib.hid (show x39 = .string (Y ++ n ++ ⟨#[0]⟩ ++ C) by obtain ⟨f0, f1, f2, f3, f4, f5, f6, f7, f8, f9, f10, fe⟩ := HF.out; exact f9 h9)
      obtain rfl := HE.out
      clear HE
      have h0 : D 0 = true := by simp [hdep]
      simp only [Act.put, List.toList_toArray, List.take_succ_cons, List.take_zero, List.drop_succ_cons, List.drop_zero, List.cons_append, List.nil_append, List.setIfInBounds_toArray, List.set_cons_zero, List.set_cons_succ]
      go_simp
      exact hKK _ _ ⟨_, _, _, _, _, _, _, _, _, _, _, rfl, hB, Lib.hid (by obtain ⟨f0, f1, f2, f3, f4, f5, f6, f7, f8, f9, f10, fe⟩ := HF.out; exact ⟨f0, f1, f2, f3, f4, f5, f6, f7, f8, fun _ => rfl, fun _ => rfl, (fun h => by have := h0; simp [upd, this] at h)⟩)⟩
  rintro D aa w4 ⟨x4, x30, x31, x32, x33, x34, x35, x36, x37, x38, x39, rfl, hB, HF⟩ hD
  obtain e10 : x4 = .string (Y ++ n ++ ⟨#[0]⟩ ++ C) := by obtain ⟨f0, f1, f2, f3, f4, f5, f6, f7, f8, f9, f10, fe⟩ := HF.out; exact f10 (hD 10 (by simp))
  subst e10
  simp only [Act.put, List.toList_toArray, List.take_succ_cons, List.take_zero, List.drop_succ_cons, List.drop_zero, List.cons_append, List.nil_append]
  clear HF hD
  replace S := S.out.below hB
  replace BB := below_to BB hB
  clear hB q1 q2 q3 q4 q5 q6
  have c0 := S.c0
  go_wp2_with fail
  go_ret2
  exact ⟨by first | rfl | (unfold strErr; rw [HX.out]; rfl) | (unfold strErr; rw [HX.out, HY.out]; rfl), BB⟩
def InvR4 (W1 : World) (gg : Nat) (m : Nat) (b : ByteArray) (T1 : ByteArray) (a0 : Act) (D : Nat → Bool) (act : Act) (w : World) : Prop :=
  ∃ x4 x8 x9 x10 x11 x12 x13 x14 x15 x16 x17 x18 x19 x20 x21, act = ⟨(a0.tmps.toList.take 4 ++ x4 :: ((a0.tmps.toList.drop 5).take 3 ++ x8 :: x9 :: x10 :: x11 :: x12 :: x13 :: x14 :: x15 :: x16 :: x17 :: x18 :: x19 :: x20 :: x21 :: a0.tmps.toList.drop 22)).toArray, []⟩ ∧ Below W1.heap.size W1 w ∧ Hid ((D 0 = true → x8 = .pointer (some ⟨gg, 0, none⟩)) ∧ (D 1 = true → x9 = .int .i64 4) ∧ (D 2 = true → x10 = .int .i64 3) ∧ (D 3 = true → x11 = .pointer (some ⟨gg, 0, none⟩)) ∧ (D 4 = true → x12 = .int .i64 4) ∧ (D 5 = true → x13 = .string ⟨#[85]⟩) ∧ (D 6 = true → x14 = .pointer (some ⟨gg, 1, none⟩)) ∧ (D 7 = true → x15 = .int .i64 (m : Int)) ∧ (D 8 = true → x16 = .int .u64 (m : Int)) ∧ (D 9 = true → x17 = .string T1) ∧ (D 10 = true → x18 = .string (⟨#[85]⟩ ++ T1)) ∧ (D 11 = true → x19 = .pointer (some ⟨gg, 2, none⟩)) ∧ (D 12 = true → x20 = .string b) ∧ (D 13 = true → x21 = .string (⟨#[85]⟩ ++ T1 ++ b)) ∧ (D 14 = true → x4 = .string (⟨#[85]⟩ ++ T1 ++ b)))
theorem rmake4 (m : Nat) (b n : ByteArray) (u : Nat) (p : Int) (T1 C E : ByteArray) (hm : m < 8) (hT : T1.size ≤ 1) (hb12 : b.size ≤ 12) (H1 : Hid (∀ w, Calls Try.prog 52 #[.int .i64 1, .int .u64 (m : Int)] w fun e w' => e = .returned (.string T1) ∧ Below w.heap.size w w')) (H8 : Hid (∀ w, Calls Try.prog 52 #[.int .i64 8, .int .u64 (u : Int)] w fun e w' => e = .returned (.string C) ∧ Below w.heap.size w w')) (hC : C.size ≤ 8) (HR : Hid (∀ w, Calls Try.prog 17 #[.agg #[.int .i64 4, .int .i64 (m : Int), .string b, .string n, .int .u64 (u : Int), .int .i64 p]] w fun e w' => e = .returned (.bool true) ∧ Below w.heap.size w w')) (w : World) :
    Calls Try.prog 13 #[.agg #[.int .i64 4, .int .i64 (m : Int), .string b, .string n, .int .u64 (u : Int), .int .i64 p]] w fun e w' => e = strErr ((((⟨#[85]⟩ ++ T1 ++ b) ++ ⟨#[0]⟩) ++ C)) 0 ∧ Below w.heap.size w w' := by
  have hw : IntKind.u64.wrap (m : Int) = (m : Int) := by rw [IntKind.wrap_u64]; omega
  have q1 : ¬ 9223372036854775807 < 1 + T1.size := by omega
  have q2 : ¬ (9223372036854775807 : Int) < 1 + (T1.size : Int) := by omega
  have q3 : ¬ 9223372036854775807 < 1 + T1.size + b.size := by omega
  have q4 : ¬ (9223372036854775807 : Int) < 1 + (T1.size : Int) + (b.size : Int) := by omega
  go_enter Try.func13, Try.ntmps13
  go_wp2_with fail
  refine (HR.out _).mono ?_
  rintro e w2 ⟨rfl, hb⟩
  have S := Lib.hid ((Six.new w _ _ _ _ _ _ 24).below hb)
  have BB := below_alloc_to hb
  clear hb
  go_wp2_with fail
  refine wp_region_inv0 (InvR4 w2 w.heap.size m b T1) (by kernel_rfl) (by decide) ?_ ?_ ?_
  · exact ⟨_, _, _, _, _, _, _, _, _, _, _, _, _, _, _, rfl, (Below.refl _ _).drew, Lib.hid ⟨(by intro h; cases h), (by intro h; cases h), (by intro h; cases h), (by intro h; cases h), (by intro h; cases h), (by intro h; cases h), (by intro h; cases h), (by intro h; cases h), (by intro h; cases h), (by intro h; cases h), (by intro h; cases h), (by intro h; cases h), (by intro h; cases h), (by intro h; cases h), (by intro h; cases h)⟩⟩
  · refine AllI.cons ?_ (AllI.cons ?_ (AllI.cons ?_ (AllI.cons ?_ (AllI.cons ?_ (AllI.cons ?_ (AllI.cons ?_ (AllI.cons ?_ (AllI.cons ?_ (AllI.cons ?_ (AllI.cons ?_ (AllI.cons ?_ (AllI.cons ?_ (AllI.cons ?_ (AllI.cons ?_ AllI.nil))))))))))))))
    · rintro D aa wx ⟨x4, x8, x9, x10, x11, x12, x13, x14, x15, x16, x17, x18, x19, x20, x21, rfl, hB, HF⟩ hD hdep KK hKK
      simp only [Act.put, List.toList_toArray, List.take_succ_cons, List.take_zero, List.drop_succ_cons, List.drop_zero, List.cons_append, List.nil_append, List.setIfInBounds_toArray, List.set_cons_zero, List.set_cons_succ]
      go_simp
      exact hKK _ _ ⟨_, _, _, _, _, _, _, _, _, _, _, _, _, _, _, rfl, hB, Lib.hid (by obtain ⟨f0, f1, f2, f3, f4, f5, f6, f7, f8, f9, f10, f11, f12, f13, f14⟩ := HF.out; exact ⟨fun _ => rfl, f1, f2, f3, f4, f5, f6, f7, f8, f9, f10, f11, f12, f13, f14⟩)⟩
    · rintro D aa wx ⟨x4, x8, x9, x10, x11, x12, x13, x14, x15, x16, x17, x18, x19, x20, x21, rfl, hB, HF⟩ hD hdep KK hKK
      simp [Region.binds] at hdep
      have h0 : D 0 = true := by simp [hdep]
      have HE := Lib.hid (show x8 = .pointer (some ⟨w.heap.size, 0, none⟩) by obtain ⟨f0, f1, f2, f3, f4, f5, f6, f7, f8, f9, f10, f11, f12, f13, f14⟩ := HF.out; exact f0 h0)
      obtain rfl := HE.out
      clear HE
      obtain ⟨c0, c1, c2, c3, c4, c5, f0, f1, f2, f3, f4, f5⟩ := S.out.below hB
      clear f0 f1 f2 f3 f4 f5
      simp only [Act.put, List.toList_toArray, List.take_succ_cons, List.take_zero, List.drop_succ_cons, List.drop_zero, List.cons_append, List.nil_append, List.setIfInBounds_toArray, List.set_cons_zero, List.set_cons_succ]
      go_simp
      exact hKK _ _ ⟨_, _, _, _, _, _, _, _, _, _, _, _, _, _, _, rfl, hB, Lib.hid (by obtain ⟨f0, f1, f2, f3, f4, f5, f6, f7, f8, f9, f10, f11, f12, f13, f14⟩ := HF.out; exact ⟨fun _ => rfl, fun _ => rfl, f2, f3, f4, f5, f6, f7, f8, f9, f10, f11, f12, f13, f14⟩)⟩
    · rintro D aa wx ⟨x4, x8, x9, x10, x11, x12, x13, x14, x15, x16, x17, x18, x19, x20, x21, rfl, hB, HF⟩ hD hdep KK hKK
      simp [Region.binds] at hdep
      have h1 : D 1 = true := by simp [hdep]
      have HE := Lib.hid (show x9 = .int .i64 4 by obtain ⟨f0, f1, f2, f3, f4, f5, f6, f7, f8, f9, f10, f11, f12, f13, f14⟩ := HF.out; exact f1 h1)
      obtain rfl := HE.out
      clear HE
      simp only [Act.put, List.toList_toArray, List.take_succ_cons, List.take_zero, List.drop_succ_cons, List.drop_zero, List.cons_append, List.nil_append, List.setIfInBounds_toArray, List.set_cons_zero, List.set_cons_succ]
      go_simp
      exact hKK _ _ ⟨_, _, _, _, _, _, _, _, _, _, _, _, _, _, _, rfl, hB, Lib.hid (by obtain ⟨f0, f1, f2, f3, f4, f5, f6, f7, f8, f9, f10, f11, f12, f13, f14⟩ := HF.out; exact ⟨f0, fun _ => rfl, fun _ => rfl, f3, f4, f5, f6, f7, f8, f9, f10, f11, f12, f13, f14⟩)⟩
    · rintro D aa wx ⟨x4, x8, x9, x10, x11, x12, x13, x14, x15, x16, x17, x18, x19, x20, x21, rfl, hB, HF⟩ hD hdep KK hKK
      simp only [Act.put, List.toList_toArray, List.take_succ_cons, List.take_zero, List.drop_succ_cons, List.drop_zero, List.cons_append, List.nil_append, List.setIfInBounds_toArray, List.set_cons_zero, List.set_cons_succ]
      go_simp
      exact hKK _ _ ⟨_, _, _, _, _, _, _, _, _, _, _, _, _, _, _, rfl, hB, Lib.hid (by obtain ⟨f0, f1, f2, f3, f4, f5, f6, f7, f8, f9, f10, f11, f12, f13, f14⟩ := HF.out; exact ⟨f0, f1, f2, fun _ => rfl, f4, f5, f6, f7, f8, f9, f10, f11, f12, f13, f14⟩)⟩
    · rintro D aa wx ⟨x4, x8, x9, x10, x11, x12, x13, x14, x15, x16, x17, x18, x19, x20, x21, rfl, hB, HF⟩ hD hdep KK hKK
      simp [Region.binds] at hdep
      have h3 : D 3 = true := by simp [hdep]
      have HE := Lib.hid (show x11 = .pointer (some ⟨w.heap.size, 0, none⟩) by obtain ⟨f0, f1, f2, f3, f4, f5, f6, f7, f8, f9, f10, f11, f12, f13, f14⟩ := HF.out; exact f3 h3)
      obtain rfl := HE.out
      clear HE
      obtain ⟨c0, c1, c2, c3, c4, c5, f0, f1, f2, f3, f4, f5⟩ := S.out.below hB
      clear f0 f1 f2 f3 f4 f5
      simp only [Act.put, List.toList_toArray, List.take_succ_cons, List.take_zero, List.drop_succ_cons, List.drop_zero, List.cons_append, List.nil_append, List.setIfInBounds_toArray, List.set_cons_zero, List.set_cons_succ]
      go_simp
      exact hKK _ _ ⟨_, _, _, _, _, _, _, _, _, _, _, _, _, _, _, rfl, hB, Lib.hid (by obtain ⟨f0, f1, f2, f3, f4, f5, f6, f7, f8, f9, f10, f11, f12, f13, f14⟩ := HF.out; exact ⟨f0, f1, f2, fun _ => rfl, fun _ => rfl, f5, f6, f7, f8, f9, f10, f11, f12, f13, f14⟩)⟩
    · rintro D aa wx ⟨x4, x8, x9, x10, x11, x12, x13, x14, x15, x16, x17, x18, x19, x20, x21, rfl, hB, HF⟩ hD hdep KK hKK
      simp [Region.binds] at hdep
      have h2 : D 2 = true := by simp [hdep]
      have h4 : D 4 = true := by simp [hdep]
      have HE := Lib.hid (show x10 = .int .i64 3 ∧ x12 = .int .i64 4 by obtain ⟨f0, f1, f2, f3, f4, f5, f6, f7, f8, f9, f10, f11, f12, f13, f14⟩ := HF.out; exact ⟨f2 h2, f4 h4⟩)
      obtain ⟨rfl, rfl⟩ := HE.out
      clear HE
      simp only [Act.put, List.toList_toArray, List.take_succ_cons, List.take_zero, List.drop_succ_cons, List.drop_zero, List.cons_append, List.nil_append, List.setIfInBounds_toArray, List.set_cons_zero, List.set_cons_succ]
      go_simp
      exact hKK _ _ ⟨_, _, _, _, _, _, _, _, _, _, _, _, _, _, _, rfl, hB, Lib.hid (by obtain ⟨f0, f1, f2, f3, f4, f5, f6, f7, f8, f9, f10, f11, f12, f13, f14⟩ := HF.out; exact ⟨f0, f1, fun _ => rfl, f3, fun _ => rfl, fun _ => rfl, f6, f7, f8, f9, f10, f11, f12, f13, f14⟩)⟩
    · rintro D aa wx ⟨x4, x8, x9, x10, x11, x12, x13, x14, x15, x16, x17, x18, x19, x20, x21, rfl, hB, HF⟩ hD hdep KK hKK
      simp only [Act.put, List.toList_toArray, List.take_succ_cons, List.take_zero, List.drop_succ_cons, List.drop_zero, List.cons_append, List.nil_append, List.setIfInBounds_toArray, List.set_cons_zero, List.set_cons_succ]
      go_simp
      exact hKK _ _ ⟨_, _, _, _, _, _, _, _, _, _, _, _, _, _, _, rfl, hB, Lib.hid (by obtain ⟨f0, f1, f2, f3, f4, f5, f6, f7, f8, f9, f10, f11, f12, f13, f14⟩ := HF.out; exact ⟨f0, f1, f2, f3, f4, f5, fun _ => rfl, f7, f8, f9, f10, f11, f12, f13, f14⟩)⟩
    · rintro D aa wx ⟨x4, x8, x9, x10, x11, x12, x13, x14, x15, x16, x17, x18, x19, x20, x21, rfl, hB, HF⟩ hD hdep KK hKK
      simp [Region.binds] at hdep
      have h6 : D 6 = true := by simp [hdep]
      have HE := Lib.hid (show x14 = .pointer (some ⟨w.heap.size, 1, none⟩) by obtain ⟨f0, f1, f2, f3, f4, f5, f6, f7, f8, f9, f10, f11, f12, f13, f14⟩ := HF.out; exact f6 h6)
      obtain rfl := HE.out
      clear HE
      obtain ⟨c0, c1, c2, c3, c4, c5, f0, f1, f2, f3, f4, f5⟩ := S.out.below hB
      clear f0 f1 f2 f3 f4 f5
      simp only [Act.put, List.toList_toArray, List.take_succ_cons, List.take_zero, List.drop_succ_cons, List.drop_zero, List.cons_append, List.nil_append, List.setIfInBounds_toArray, List.set_cons_zero, List.set_cons_succ]
      go_simp
      exact hKK _ _ ⟨_, _, _, _, _, _, _, _, _, _, _, _, _, _, _, rfl, hB, Lib.hid (by obtain ⟨f0, f1, f2, f3, f4, f5, f6, f7, f8, f9, f10, f11, f12, f13, f14⟩ := HF.out; exact ⟨f0, f1, f2, f3, f4, f5, fun _ => rfl, fun _ => rfl, f8, f9, f10, f11, f12, f13, f14⟩)⟩
    · rintro D aa wx ⟨x4, x8, x9, x10, x11, x12, x13, x14, x15, x16, x17, x18, x19, x20, x21, rfl, hB, HF⟩ hD hdep KK hKK
      simp [Region.binds] at hdep
      have h7 : D 7 = true := by simp [hdep]
      have HE := Lib.hid (show x15 = .int .i64 (m : Int) by obtain ⟨f0, f1, f2, f3, f4, f5, f6, f7, f8, f9, f10, f11, f12, f13, f14⟩ := HF.out; exact f7 h7)
      obtain rfl := HE.out
      clear HE
      simp only [Act.put, List.toList_toArray, List.take_succ_cons, List.take_zero, List.drop_succ_cons, List.drop_zero, List.cons_append, List.nil_append, List.setIfInBounds_toArray, List.set_cons_zero, List.set_cons_succ]
      go_simp
      exact hKK _ _ ⟨_, _, _, _, _, _, _, _, _, _, _, _, _, _, _, rfl, hB, Lib.hid (by obtain ⟨f0, f1, f2, f3, f4, f5, f6, f7, f8, f9, f10, f11, f12, f13, f14⟩ := HF.out; exact ⟨f0, f1, f2, f3, f4, f5, f6, fun _ => rfl, fun _ => rfl, f9, f10, f11, f12, f13, f14⟩)⟩
    · rintro D aa wx ⟨x4, x8, x9, x10, x11, x12, x13, x14, x15, x16, x17, x18, x19, x20, x21, rfl, hB, HF⟩ hD hdep KK hKK
      simp [Region.binds] at hdep
      have h8 : D 8 = true := by simp [hdep]
      have HE := Lib.hid (show x16 = .int .u64 (m : Int) by obtain ⟨f0, f1, f2, f3, f4, f5, f6, f7, f8, f9, f10, f11, f12, f13, f14⟩ := HF.out; exact f8 h8)
      obtain rfl := HE.out
      clear HE
      simp only [Act.put, List.toList_toArray, List.take_succ_cons, List.take_zero, List.drop_succ_cons, List.drop_zero, List.cons_append, List.nil_append, List.setIfInBounds_toArray, List.set_cons_zero, List.set_cons_succ]
      go_simp
      refine (H1.out _).mono ?_
      rintro e w5 ⟨rfl, hb⟩
      exact hKK _ _ ⟨_, _, _, _, _, _, _, _, _, _, _, _, _, _, _, rfl, below_to hB hb, Lib.hid (by obtain ⟨f0, f1, f2, f3, f4, f5, f6, f7, f8, f9, f10, f11, f12, f13, f14⟩ := HF.out; exact ⟨f0, f1, f2, f3, f4, f5, f6, f7, fun _ => rfl, fun _ => rfl, f10, f11, f12, f13, f14⟩)⟩
    · rintro D aa wx ⟨x4, x8, x9, x10, x11, x12, x13, x14, x15, x16, x17, x18, x19, x20, x21, rfl, hB, HF⟩ hD hdep KK hKK
      simp [Region.binds] at hdep
      have h5 : D 5 = true := by simp [hdep]
      have h9 : D 9 = true := by simp [hdep]
      have HE := Lib.hid (show x13 = .string ⟨#[85]⟩ ∧ x17 = .string T1 by obtain ⟨f0, f1, f2, f3, f4, f5, f6, f7, f8, f9, f10, f11, f12, f13, f14⟩ := HF.out; exact ⟨f5 h5, f9 h9⟩)
      obtain ⟨rfl, rfl⟩ := HE.out
      clear HE
      simp only [Act.put, List.toList_toArray, List.take_succ_cons, List.take_zero, List.drop_succ_cons, List.drop_zero, List.cons_append, List.nil_append, List.setIfInBounds_toArray, List.set_cons_zero, List.set_cons_succ]
      go_simp
      exact hKK _ _ ⟨_, _, _, _, _, _, _, _, _, _, _, _, _, _, _, rfl, hB, Lib.hid (by obtain ⟨f0, f1, f2, f3, f4, f5, f6, f7, f8, f9, f10, f11, f12, f13, f14⟩ := HF.out; exact ⟨f0, f1, f2, f3, f4, fun _ => rfl, f6, f7, f8, fun _ => rfl, fun _ => rfl, f11, f12, f13, f14⟩)⟩
    · rintro D aa wx ⟨x4, x8, x9, x10, x11, x12, x13, x14, x15, x16, x17, x18, x19, x20, x21, rfl, hB, HF⟩ hD hdep KK hKK
      simp only [Act.put, List.toList_toArray, List.take_succ_cons, List.take_zero, List.drop_succ_cons, List.drop_zero, List.cons_append, List.nil_append, List.setIfInBounds_toArray, List.set_cons_zero, List.set_cons_succ]
      go_simp
      exact hKK _ _ ⟨_, _, _, _, _, _, _, _, _, _, _, _, _, _, _, rfl, hB, Lib.hid (by obtain ⟨f0, f1, f2, f3, f4, f5, f6, f7, f8, f9, f10, f11, f12, f13, f14⟩ := HF.out; exact ⟨f0, f1, f2, f3, f4, f5, f6, f7, f8, f9, f10, fun _ => rfl, f12, f13, f14⟩)⟩
    · rintro D aa wx ⟨x4, x8, x9, x10, x11, x12, x13, x14, x15, x16, x17, x18, x19, x20, x21, rfl, hB, HF⟩ hD hdep KK hKK
      simp [Region.binds] at hdep
      have h11 : D 11 = true := by simp [hdep]
      have HE := Lib.hid (show x19 = .pointer (some ⟨w.heap.size, 2, none⟩) by obtain ⟨f0, f1, f2, f3, f4, f5, f6, f7, f8, f9, f10, f11, f12, f13, f14⟩ := HF.out; exact f11 h11)
      obtain rfl := HE.out
      clear HE
      obtain ⟨c0, c1, c2, c3, c4, c5, f0, f1, f2, f3, f4, f5⟩ := S.out.below hB
      clear f0 f1 f2 f3 f4 f5
      simp only [Act.put, List.toList_toArray, List.take_succ_cons, List.take_zero, List.drop_succ_cons, List.drop_zero, List.cons_append, List.nil_append, List.setIfInBounds_toArray, List.set_cons_zero, List.set_cons_succ]
      go_simp
      exact hKK _ _ ⟨_, _, _, _, _, _, _, _, _, _, _, _, _, _, _, rfl, hB, Lib.hid (by obtain ⟨f0, f1, f2, f3, f4, f5, f6, f7, f8, f9, f10, f11, f12, f13, f14⟩ := HF.out; exact ⟨f0, f1, f2, f3, f4, f5, f6, f7, f8, f9, f10, fun _ => rfl, fun _ => rfl, f13, f14⟩)⟩
    · rintro D aa wx ⟨x4, x8, x9, x10, x11, x12, x13, x14, x15, x16, x17, x18, x19, x20, x21, rfl, hB, HF⟩ hD hdep KK hKK
      simp [Region.binds] at hdep
      have h10 : D 10 = true := by simp [hdep]
      have h12 : D 12 = true := by simp [hdep]
      have HE := Lib.hid (show x18 = .string (⟨#[85]⟩ ++ T1) ∧ x20 = .string b by obtain ⟨f0, f1, f2, f3, f4, f5, f6, f7, f8, f9, f10, f11, f12, f13, f14⟩ := HF.out; exact ⟨f10 h10, f12 h12⟩)
      obtain ⟨rfl, rfl⟩ := HE.out
      clear HE
      simp only [Act.put, List.toList_toArray, List.take_succ_cons, List.take_zero, List.drop_succ_cons, List.drop_zero, List.cons_append, List.nil_append, List.setIfInBounds_toArray, List.set_cons_zero, List.set_cons_succ]
      go_simp
      exact hKK _ _ ⟨_, _, _, _, _, _, _, _, _, _, _, _, _, _, _, rfl, hB, Lib.hid (by obtain ⟨f0, f1, f2, f3, f4, f5, f6, f7, f8, f9, f10, f11, f12, f13, f14⟩ := HF.out; exact ⟨f0, f1, f2, f3, f4, f5, f6, f7, f8, f9, fun _ => rfl, f11, fun _ => rfl, fun _ => rfl, f14⟩)⟩
    · rintro D aa wx ⟨x4, x8, x9, x10, x11, x12, x13, x14, x15, x16, x17, x18, x19, x20, x21, rfl, hB, HF⟩ hD hdep KK hKK
      simp [Region.binds] at hdep
      have h13 : D 13 = true := by simp [hdep]
      have HE := Lib.hid (show x21 = .string (⟨#[85]⟩ ++ T1 ++ b) by obtain ⟨f0, f1, f2, f3, f4, f5, f6, f7, f8, f9, f10, f11, f12, f13, f14⟩ := HF.out; exact f13 h13)
      obtain rfl := HE.out
      clear HE
      simp only [Act.put, List.toList_toArray, List.take_succ_cons, List.take_zero, List.drop_succ_cons, List.drop_zero, List.cons_append, List.nil_append, List.setIfInBounds_toArray, List.set_cons_zero, List.set_cons_succ]
      go_simp
      exact hKK _ _ ⟨_, _, _, _, _, _, _, _, _, _, _, _, _, _, _, rfl, hB, Lib.hid (by obtain ⟨f0, f1, f2, f3, f4, f5, f6, f7, f8, f9, f10, f11, f12, f13, f14⟩ := HF.out; exact ⟨f0, f1, f2, f3, f4, f5, f6, f7, f8, f9, f10, f11, f12, fun _ => rfl, fun _ => rfl⟩)⟩
  rintro D aa w3 ⟨x4, x8, x9, x10, x11, x12, x13, x14, x15, x16, x17, x18, x19, x20, x21, rfl, hB, HF⟩ hD
  obtain e14 : x4 = .string (⟨#[85]⟩ ++ T1 ++ b) := by obtain ⟨f0, f1, f2, f3, f4, f5, f6, f7, f8, f9, f10, f11, f12, f13, f14⟩ := HF.out; exact f14 (hD 14 (by simp))
  subst e14
  simp only [Act.put, List.toList_toArray, List.take_succ_cons, List.take_zero, List.drop_succ_cons, List.drop_zero, List.cons_append, List.nil_append]
  clear HF hD
  replace S := S.out.below hB
  replace BB := below_to BB hB
  clear hB q1 q2 q3 q4
  obtain ⟨X, hX⟩ : ∃ X : ByteArray, ⟨#[85]⟩ ++ T1 ++ b = X := ⟨_, rfl⟩
  have hXs : X.size ≤ 14 := by rw [← hX, ByteArray.size_append, ByteArray.size_append]; have : (⟨#[85]⟩ : ByteArray).size = 1 := rfl; omega
  rw [hX]
  have HX := Lib.hid hX
  clear hX hT
  have c0 := S.c0
  have c1 := S.c1
  have c2 := S.c2
  have c3 := S.c3
  have c4 := S.c4
  have c5 := S.c5
  have z1 : (⟨#[0]⟩ : ByteArray).size = 1 := rfl
  go_wp2_with fail
  refine (H8.out _).mono ?_
  rintro e wn ⟨rfl, hb⟩
  replace S := S.below hb
  replace BB := below_to BB hb
  clear hb c0 c1 c2 c3 c4 c5
  have c0 := S.c0
  have c1 := S.c1
  have c2 := S.c2
  have c3 := S.c3
  have c4 := S.c4
  have c5 := S.c5
  go_wp2_with fail
  go_ret2
  exact ⟨by first | rfl | (unfold strErr; rw [HX.out]; rfl) | (unfold strErr; rw [HX.out, HY.out]; rfl), BB⟩
def InvR5 (W1 : World) (gg : Nat) (m : Nat) (b : ByteArray) (T1 : ByteArray) (a0 : Act) (D : Nat → Bool) (act : Act) (w : World) : Prop :=
  ∃ x4 x8 x9 x10 x11 x12 x13 x14 x15 x16 x17 x18 x19 x20 x21, act = ⟨(a0.tmps.toList.take 4 ++ x4 :: ((a0.tmps.toList.drop 5).take 3 ++ x8 :: x9 :: x10 :: x11 :: x12 :: x13 :: x14 :: x15 :: x16 :: x17 :: x18 :: x19 :: x20 :: x21 :: a0.tmps.toList.drop 22)).toArray, []⟩ ∧ Below W1.heap.size W1 w ∧ Hid ((D 0 = true → x8 = .pointer (some ⟨gg, 0, none⟩)) ∧ (D 1 = true → x9 = .int .i64 5) ∧ (D 2 = true → x10 = .int .i64 4) ∧ (D 3 = true → x11 = .pointer (some ⟨gg, 0, none⟩)) ∧ (D 4 = true → x12 = .int .i64 5) ∧ (D 5 = true → x13 = .string ⟨#[80]⟩) ∧ (D 6 = true → x14 = .pointer (some ⟨gg, 1, none⟩)) ∧ (D 7 = true → x15 = .int .i64 (m : Int)) ∧ (D 8 = true → x16 = .int .u64 (m : Int)) ∧ (D 9 = true → x17 = .string T1) ∧ (D 10 = true → x18 = .string (⟨#[80]⟩ ++ T1)) ∧ (D 11 = true → x19 = .pointer (some ⟨gg, 2, none⟩)) ∧ (D 12 = true → x20 = .string b) ∧ (D 13 = true → x21 = .string (⟨#[80]⟩ ++ T1 ++ b)) ∧ (D 14 = true → x4 = .string (⟨#[80]⟩ ++ T1 ++ b)))
theorem rmake5 (m : Nat) (b n : ByteArray) (u : Nat) (p : Nat) (T1 C E : ByteArray) (hm : m < 8) (hT : T1.size ≤ 1) (hb12 : b.size ≤ 12) (H1 : Hid (∀ w, Calls Try.prog 52 #[.int .i64 1, .int .u64 (m : Int)] w fun e w' => e = .returned (.string T1) ∧ Below w.heap.size w w')) (H8 : Hid (∀ w, Calls Try.prog 52 #[.int .i64 8, .int .u64 (u : Int)] w fun e w' => e = .returned (.string C) ∧ Below w.heap.size w w')) (hC : C.size ≤ 8) (hp : p ≤ 16) (H9 : Hid (∀ w, Calls Try.prog 52 #[.int .i64 1, .int .u64 (p : Int)] w fun e w' => e = .returned (.string E) ∧ Below w.heap.size w w')) (hE : E.size ≤ 1) (HR : Hid (∀ w, Calls Try.prog 17 #[.agg #[.int .i64 5, .int .i64 (m : Int), .string b, .string n, .int .u64 (u : Int), .int .i64 (p : Int)]] w fun e w' => e = .returned (.bool true) ∧ Below w.heap.size w w')) (w : World) :
    Calls Try.prog 13 #[.agg #[.int .i64 5, .int .i64 (m : Int), .string b, .string n, .int .u64 (u : Int), .int .i64 (p : Int)]] w fun e w' => e = strErr (((((⟨#[80]⟩ ++ T1 ++ b) ++ ⟨#[0]⟩) ++ C) ++ E)) 0 ∧ Below w.heap.size w w' := by
  have hw : IntKind.u64.wrap (m : Int) = (m : Int) := by rw [IntKind.wrap_u64]; omega
  have q1 : ¬ 9223372036854775807 < 1 + T1.size := by omega
  have q2 : ¬ (9223372036854775807 : Int) < 1 + (T1.size : Int) := by omega
  have q3 : ¬ 9223372036854775807 < 1 + T1.size + b.size := by omega
  have q4 : ¬ (9223372036854775807 : Int) < 1 + (T1.size : Int) + (b.size : Int) := by omega
  have hwp : IntKind.u64.wrap (p : Int) = (p : Int) := by rw [IntKind.wrap_u64]; omega
  go_enter Try.func13, Try.ntmps13
  go_wp2_with fail
  refine (HR.out _).mono ?_
  rintro e w2 ⟨rfl, hb⟩
  have S := Lib.hid ((Six.new w _ _ _ _ _ _ 24).below hb)
  have BB := below_alloc_to hb
  clear hb
  go_wp2_with fail
  refine wp_region_inv0 (InvR5 w2 w.heap.size m b T1) (by kernel_rfl) (by decide) ?_ ?_ ?_
  · exact ⟨_, _, _, _, _, _, _, _, _, _, _, _, _, _, _, rfl, (Below.refl _ _).drew, Lib.hid ⟨(by intro h; cases h), (by intro h; cases h), (by intro h; cases h), (by intro h; cases h), (by intro h; cases h), (by intro h; cases h), (by intro h; cases h), (by intro h; cases h), (by intro h; cases h), (by intro h; cases h), (by intro h; cases h), (by intro h; cases h), (by intro h; cases h), (by intro h; cases h), (by intro h; cases h)⟩⟩
  · refine AllI.cons ?_ (AllI.cons ?_ (AllI.cons ?_ (AllI.cons ?_ (AllI.cons ?_ (AllI.cons ?_ (AllI.cons ?_ (AllI.cons ?_ (AllI.cons ?_ (AllI.cons ?_ (AllI.cons ?_ (AllI.cons ?_ (AllI.cons ?_ (AllI.cons ?_ (AllI.cons ?_ AllI.nil))))))))))))))
    · rintro D aa wx ⟨x4, x8, x9, x10, x11, x12, x13, x14, x15, x16, x17, x18, x19, x20, x21, rfl, hB, HF⟩ hD hdep KK hKK
      simp only [Act.put, List.toList_toArray, List.take_succ_cons, List.take_zero, List.drop_succ_cons, List.drop_zero, List.cons_append, List.nil_append, List.setIfInBounds_toArray, List.set_cons_zero, List.set_cons_succ]
      go_simp
      exact hKK _ _ ⟨_, _, _, _, _, _, _, _, _, _, _, _, _, _, _, rfl, hB, Lib.hid (by obtain ⟨f0, f1, f2, f3, f4, f5, f6, f7, f8, f9, f10, f11, f12, f13, f14⟩ := HF.out; exact ⟨fun _ => rfl, f1, f2, f3, f4, f5, f6, f7, f8, f9, f10, f11, f12, f13, f14⟩)⟩
    · rintro D aa wx ⟨x4, x8, x9, x10, x11, x12, x13, x14, x15, x16, x17, x18, x19, x20, x21, rfl, hB, HF⟩ hD hdep KK hKK
      simp [Region.binds] at hdep
      have h0 : D 0 = true := by simp [hdep]
      have HE := Lib.hid (show x8 = .pointer (some ⟨w.heap.size, 0, none⟩) by obtain ⟨f0, f1, f2, f3, f4, f5, f6, f7, f8, f9, f10, f11, f12, f13, f14⟩ := HF.out; exact f0 h0)
      obtain rfl := HE.out
      clear HE
      obtain ⟨c0, c1, c2, c3, c4, c5, f0, f1, f2, f3, f4, f5⟩ := S.out.below hB
      clear f0 f1 f2 f3 f4 f5
      simp only [Act.put, List.toList_toArray, List.take_succ_cons, List.take_zero, List.drop_succ_cons, List.drop_zero, List.cons_append, List.nil_append, List.setIfInBounds_toArray, List.set_cons_zero, List.set_cons_succ]
      go_simp
      exact hKK _ _ ⟨_, _, _, _, _, _, _, _, _, _, _, _, _, _, _, rfl, hB, Lib.hid (by obtain ⟨f0, f1, f2, f3, f4, f5, f6, f7, f8, f9, f10, f11, f12, f13, f14⟩ := HF.out; exact ⟨fun _ => rfl, fun _ => rfl, f2, f3, f4, f5, f6, f7, f8, f9, f10, f11, f12, f13, f14⟩)⟩
    · rintro D aa wx ⟨x4, x8, x9, x10, x11, x12, x13, x14, x15, x16, x17, x18, x19, x20, x21, rfl, hB, HF⟩ hD hdep KK hKK
      simp [Region.binds] at hdep
      have h1 : D 1 = true := by simp [hdep]
      have HE := Lib.hid (show x9 = .int .i64 5 by obtain ⟨f0, f1, f2, f3, f4, f5, f6, f7, f8, f9, f10, f11, f12, f13, f14⟩ := HF.out; exact f1 h1)
      obtain rfl := HE.out
      clear HE
      simp only [Act.put, List.toList_toArray, List.take_succ_cons, List.take_zero, List.drop_succ_cons, List.drop_zero, List.cons_append, List.nil_append, List.setIfInBounds_toArray, List.set_cons_zero, List.set_cons_succ]
      go_simp
      exact hKK _ _ ⟨_, _, _, _, _, _, _, _, _, _, _, _, _, _, _, rfl, hB, Lib.hid (by obtain ⟨f0, f1, f2, f3, f4, f5, f6, f7, f8, f9, f10, f11, f12, f13, f14⟩ := HF.out; exact ⟨f0, fun _ => rfl, fun _ => rfl, f3, f4, f5, f6, f7, f8, f9, f10, f11, f12, f13, f14⟩)⟩
    · rintro D aa wx ⟨x4, x8, x9, x10, x11, x12, x13, x14, x15, x16, x17, x18, x19, x20, x21, rfl, hB, HF⟩ hD hdep KK hKK
      simp only [Act.put, List.toList_toArray, List.take_succ_cons, List.take_zero, List.drop_succ_cons, List.drop_zero, List.cons_append, List.nil_append, List.setIfInBounds_toArray, List.set_cons_zero, List.set_cons_succ]
      go_simp
      exact hKK _ _ ⟨_, _, _, _, _, _, _, _, _, _, _, _, _, _, _, rfl, hB, Lib.hid (by obtain ⟨f0, f1, f2, f3, f4, f5, f6, f7, f8, f9, f10, f11, f12, f13, f14⟩ := HF.out; exact ⟨f0, f1, f2, fun _ => rfl, f4, f5, f6, f7, f8, f9, f10, f11, f12, f13, f14⟩)⟩
    · rintro D aa wx ⟨x4, x8, x9, x10, x11, x12, x13, x14, x15, x16, x17, x18, x19, x20, x21, rfl, hB, HF⟩ hD hdep KK hKK
      simp [Region.binds] at hdep
      have h3 : D 3 = true := by simp [hdep]
      have HE := Lib.hid (show x11 = .pointer (some ⟨w.heap.size, 0, none⟩) by obtain ⟨f0, f1, f2, f3, f4, f5, f6, f7, f8, f9, f10, f11, f12, f13, f14⟩ := HF.out; exact f3 h3)
      obtain rfl := HE.out
      clear HE
      obtain ⟨c0, c1, c2, c3, c4, c5, f0, f1, f2, f3, f4, f5⟩ := S.out.below hB
      clear f0 f1 f2 f3 f4 f5
      simp only [Act.put, List.toList_toArray, List.take_succ_cons, List.take_zero, List.drop_succ_cons, List.drop_zero, List.cons_append, List.nil_append, List.setIfInBounds_toArray, List.set_cons_zero, List.set_cons_succ]
      go_simp
      exact hKK _ _ ⟨_, _, _, _, _, _, _, _, _, _, _, _, _, _, _, rfl, hB, Lib.hid (by obtain ⟨f0, f1, f2, f3, f4, f5, f6, f7, f8, f9, f10, f11, f12, f13, f14⟩ := HF.out; exact ⟨f0, f1, f2, fun _ => rfl, fun _ => rfl, f5, f6, f7, f8, f9, f10, f11, f12, f13, f14⟩)⟩
    · rintro D aa wx ⟨x4, x8, x9, x10, x11, x12, x13, x14, x15, x16, x17, x18, x19, x20, x21, rfl, hB, HF⟩ hD hdep KK hKK
      simp [Region.binds] at hdep
      have h2 : D 2 = true := by simp [hdep]
      have h4 : D 4 = true := by simp [hdep]
      have HE := Lib.hid (show x10 = .int .i64 4 ∧ x12 = .int .i64 5 by obtain ⟨f0, f1, f2, f3, f4, f5, f6, f7, f8, f9, f10, f11, f12, f13, f14⟩ := HF.out; exact ⟨f2 h2, f4 h4⟩)
      obtain ⟨rfl, rfl⟩ := HE.out
      clear HE
      simp only [Act.put, List.toList_toArray, List.take_succ_cons, List.take_zero, List.drop_succ_cons, List.drop_zero, List.cons_append, List.nil_append, List.setIfInBounds_toArray, List.set_cons_zero, List.set_cons_succ]
      go_simp
      exact hKK _ _ ⟨_, _, _, _, _, _, _, _, _, _, _, _, _, _, _, rfl, hB, Lib.hid (by obtain ⟨f0, f1, f2, f3, f4, f5, f6, f7, f8, f9, f10, f11, f12, f13, f14⟩ := HF.out; exact ⟨f0, f1, fun _ => rfl, f3, fun _ => rfl, fun _ => rfl, f6, f7, f8, f9, f10, f11, f12, f13, f14⟩)⟩
    · rintro D aa wx ⟨x4, x8, x9, x10, x11, x12, x13, x14, x15, x16, x17, x18, x19, x20, x21, rfl, hB, HF⟩ hD hdep KK hKK
      simp only [Act.put, List.toList_toArray, List.take_succ_cons, List.take_zero, List.drop_succ_cons, List.drop_zero, List.cons_append, List.nil_append, List.setIfInBounds_toArray, List.set_cons_zero, List.set_cons_succ]
      go_simp
      exact hKK _ _ ⟨_, _, _, _, _, _, _, _, _, _, _, _, _, _, _, rfl, hB, Lib.hid (by obtain ⟨f0, f1, f2, f3, f4, f5, f6, f7, f8, f9, f10, f11, f12, f13, f14⟩ := HF.out; exact ⟨f0, f1, f2, f3, f4, f5, fun _ => rfl, f7, f8, f9, f10, f11, f12, f13, f14⟩)⟩
    · rintro D aa wx ⟨x4, x8, x9, x10, x11, x12, x13, x14, x15, x16, x17, x18, x19, x20, x21, rfl, hB, HF⟩ hD hdep KK hKK
      simp [Region.binds] at hdep
      have h6 : D 6 = true := by simp [hdep]
      have HE := Lib.hid (show x14 = .pointer (some ⟨w.heap.size, 1, none⟩) by obtain ⟨f0, f1, f2, f3, f4, f5, f6, f7, f8, f9, f10, f11, f12, f13, f14⟩ := HF.out; exact f6 h6)
      obtain rfl := HE.out
      clear HE
      obtain ⟨c0, c1, c2, c3, c4, c5, f0, f1, f2, f3, f4, f5⟩ := S.out.below hB
      clear f0 f1 f2 f3 f4 f5
      simp only [Act.put, List.toList_toArray, List.take_succ_cons, List.take_zero, List.drop_succ_cons, List.drop_zero, List.cons_append, List.nil_append, List.setIfInBounds_toArray, List.set_cons_zero, List.set_cons_succ]
      go_simp
      exact hKK _ _ ⟨_, _, _, _, _, _, _, _, _, _, _, _, _, _, _, rfl, hB, Lib.hid (by obtain ⟨f0, f1, f2, f3, f4, f5, f6, f7, f8, f9, f10, f11, f12, f13, f14⟩ := HF.out; exact ⟨f0, f1, f2, f3, f4, f5, fun _ => rfl, fun _ => rfl, f8, f9, f10, f11, f12, f13, f14⟩)⟩
    · rintro D aa wx ⟨x4, x8, x9, x10, x11, x12, x13, x14, x15, x16, x17, x18, x19, x20, x21, rfl, hB, HF⟩ hD hdep KK hKK
      simp [Region.binds] at hdep
      have h7 : D 7 = true := by simp [hdep]
      have HE := Lib.hid (show x15 = .int .i64 (m : Int) by obtain ⟨f0, f1, f2, f3, f4, f5, f6, f7, f8, f9, f10, f11, f12, f13, f14⟩ := HF.out; exact f7 h7)
      obtain rfl := HE.out
      clear HE
      simp only [Act.put, List.toList_toArray, List.take_succ_cons, List.take_zero, List.drop_succ_cons, List.drop_zero, List.cons_append, List.nil_append, List.setIfInBounds_toArray, List.set_cons_zero, List.set_cons_succ]
      go_simp
      exact hKK _ _ ⟨_, _, _, _, _, _, _, _, _, _, _, _, _, _, _, rfl, hB, Lib.hid (by obtain ⟨f0, f1, f2, f3, f4, f5, f6, f7, f8, f9, f10, f11, f12, f13, f14⟩ := HF.out; exact ⟨f0, f1, f2, f3, f4, f5, f6, fun _ => rfl, fun _ => rfl, f9, f10, f11, f12, f13, f14⟩)⟩
    · rintro D aa wx ⟨x4, x8, x9, x10, x11, x12, x13, x14, x15, x16, x17, x18, x19, x20, x21, rfl, hB, HF⟩ hD hdep KK hKK
      simp [Region.binds] at hdep
      have h8 : D 8 = true := by simp [hdep]
      have HE := Lib.hid (show x16 = .int .u64 (m : Int) by obtain ⟨f0, f1, f2, f3, f4, f5, f6, f7, f8, f9, f10, f11, f12, f13, f14⟩ := HF.out; exact f8 h8)
      obtain rfl := HE.out
      clear HE
      simp only [Act.put, List.toList_toArray, List.take_succ_cons, List.take_zero, List.drop_succ_cons, List.drop_zero, List.cons_append, List.nil_append, List.setIfInBounds_toArray, List.set_cons_zero, List.set_cons_succ]
      go_simp
      refine (H1.out _).mono ?_
      rintro e w5 ⟨rfl, hb⟩
      exact hKK _ _ ⟨_, _, _, _, _, _, _, _, _, _, _, _, _, _, _, rfl, below_to hB hb, Lib.hid (by obtain ⟨f0, f1, f2, f3, f4, f5, f6, f7, f8, f9, f10, f11, f12, f13, f14⟩ := HF.out; exact ⟨f0, f1, f2, f3, f4, f5, f6, f7, fun _ => rfl, fun _ => rfl, f10, f11, f12, f13, f14⟩)⟩
    · rintro D aa wx ⟨x4, x8, x9, x10, x11, x12, x13, x14, x15, x16, x17, x18, x19, x20, x21, rfl, hB, HF⟩ hD hdep KK hKK
      simp [Region.binds] at hdep
      have h5 : D 5 = true := by simp [hdep]
      have h9 : D 9 = true := by simp [hdep]
      have HE := Lib.hid (show x13 = .string ⟨#[80]⟩ ∧ x17 = .string T1 by obtain ⟨f0, f1, f2, f3, f4, f5, f6, f7, f8, f9, f10, f11, f12, f13, f14⟩ := HF.out; exact ⟨f5 h5, f9 h9⟩)
      obtain ⟨rfl, rfl⟩ := HE.out
      clear HE
      simp only [Act.put, List.toList_toArray, List.take_succ_cons, List.take_zero, List.drop_succ_cons, List.drop_zero, List.cons_append, List.nil_append, List.setIfInBounds_toArray, List.set_cons_zero, List.set_cons_succ]
      go_simp
      exact hKK _ _ ⟨_, _, _, _, _, _, _, _, _, _, _, _, _, _, _, rfl, hB, Lib.hid (by obtain ⟨f0, f1, f2, f3, f4, f5, f6, f7, f8, f9, f10, f11, f12, f13, f14⟩ := HF.out; exact ⟨f0, f1, f2, f3, f4, fun _ => rfl, f6, f7, f8, fun _ => rfl, fun _ => rfl, f11, f12, f13, f14⟩)⟩
    · rintro D aa wx ⟨x4, x8, x9, x10, x11, x12, x13, x14, x15, x16, x17, x18, x19, x20, x21, rfl, hB, HF⟩ hD hdep KK hKK
      simp only [Act.put, List.toList_toArray, List.take_succ_cons, List.take_zero, List.drop_succ_cons, List.drop_zero, List.cons_append, List.nil_append, List.setIfInBounds_toArray, List.set_cons_zero, List.set_cons_succ]
      go_simp
      exact hKK _ _ ⟨_, _, _, _, _, _, _, _, _, _, _, _, _, _, _, rfl, hB, Lib.hid (by obtain ⟨f0, f1, f2, f3, f4, f5, f6, f7, f8, f9, f10, f11, f12, f13, f14⟩ := HF.out; exact ⟨f0, f1, f2, f3, f4, f5, f6, f7, f8, f9, f10, fun _ => rfl, f12, f13, f14⟩)⟩
    · rintro D aa wx ⟨x4, x8, x9, x10, x11, x12, x13, x14, x15, x16, x17, x18, x19, x20, x21, rfl, hB, HF⟩ hD hdep KK hKK
      simp [Region.binds] at hdep
      have h11 : D 11 = true := by simp [hdep]
      have HE := Lib.hid (show x19 = .pointer (some ⟨w.heap.size, 2, none⟩) by obtain ⟨f0, f1, f2, f3, f4, f5, f6, f7, f8, f9, f10, f11, f12, f13, f14⟩ := HF.out; exact f11 h11)
      obtain rfl := HE.out
      clear HE
      obtain ⟨c0, c1, c2, c3, c4, c5, f0, f1, f2, f3, f4, f5⟩ := S.out.below hB
      clear f0 f1 f2 f3 f4 f5
      simp only [Act.put, List.toList_toArray, List.take_succ_cons, List.take_zero, List.drop_succ_cons, List.drop_zero, List.cons_append, List.nil_append, List.setIfInBounds_toArray, List.set_cons_zero, List.set_cons_succ]
      go_simp
      exact hKK _ _ ⟨_, _, _, _, _, _, _, _, _, _, _, _, _, _, _, rfl, hB, Lib.hid (by obtain ⟨f0, f1, f2, f3, f4, f5, f6, f7, f8, f9, f10, f11, f12, f13, f14⟩ := HF.out; exact ⟨f0, f1, f2, f3, f4, f5, f6, f7, f8, f9, f10, fun _ => rfl, fun _ => rfl, f13, f14⟩)⟩
    · rintro D aa wx ⟨x4, x8, x9, x10, x11, x12, x13, x14, x15, x16, x17, x18, x19, x20, x21, rfl, hB, HF⟩ hD hdep KK hKK
      simp [Region.binds] at hdep
      have h10 : D 10 = true := by simp [hdep]
      have h12 : D 12 = true := by simp [hdep]
      have HE := Lib.hid (show x18 = .string (⟨#[80]⟩ ++ T1) ∧ x20 = .string b by obtain ⟨f0, f1, f2, f3, f4, f5, f6, f7, f8, f9, f10, f11, f12, f13, f14⟩ := HF.out; exact ⟨f10 h10, f12 h12⟩)
      obtain ⟨rfl, rfl⟩ := HE.out
      clear HE
      simp only [Act.put, List.toList_toArray, List.take_succ_cons, List.take_zero, List.drop_succ_cons, List.drop_zero, List.cons_append, List.nil_append, List.setIfInBounds_toArray, List.set_cons_zero, List.set_cons_succ]
      go_simp
      exact hKK _ _ ⟨_, _, _, _, _, _, _, _, _, _, _, _, _, _, _, rfl, hB, Lib.hid (by obtain ⟨f0, f1, f2, f3, f4, f5, f6, f7, f8, f9, f10, f11, f12, f13, f14⟩ := HF.out; exact ⟨f0, f1, f2, f3, f4, f5, f6, f7, f8, f9, fun _ => rfl, f11, fun _ => rfl, fun _ => rfl, f14⟩)⟩
    · rintro D aa wx ⟨x4, x8, x9, x10, x11, x12, x13, x14, x15, x16, x17, x18, x19, x20, x21, rfl, hB, HF⟩ hD hdep KK hKK
      simp [Region.binds] at hdep
      have h13 : D 13 = true := by simp [hdep]
      have HE := Lib.hid (show x21 = .string (⟨#[80]⟩ ++ T1 ++ b) by obtain ⟨f0, f1, f2, f3, f4, f5, f6, f7, f8, f9, f10, f11, f12, f13, f14⟩ := HF.out; exact f13 h13)
      obtain rfl := HE.out
      clear HE
      simp only [Act.put, List.toList_toArray, List.take_succ_cons, List.take_zero, List.drop_succ_cons, List.drop_zero, List.cons_append, List.nil_append, List.setIfInBounds_toArray, List.set_cons_zero, List.set_cons_succ]
      go_simp
      exact hKK _ _ ⟨_, _, _, _, _, _, _, _, _, _, _, _, _, _, _, rfl, hB, Lib.hid (by obtain ⟨f0, f1, f2, f3, f4, f5, f6, f7, f8, f9, f10, f11, f12, f13, f14⟩ := HF.out; exact ⟨f0, f1, f2, f3, f4, f5, f6, f7, f8, f9, f10, f11, f12, fun _ => rfl, fun _ => rfl⟩)⟩
  rintro D aa w3 ⟨x4, x8, x9, x10, x11, x12, x13, x14, x15, x16, x17, x18, x19, x20, x21, rfl, hB, HF⟩ hD
  obtain e14 : x4 = .string (⟨#[80]⟩ ++ T1 ++ b) := by obtain ⟨f0, f1, f2, f3, f4, f5, f6, f7, f8, f9, f10, f11, f12, f13, f14⟩ := HF.out; exact f14 (hD 14 (by simp))
  subst e14
  simp only [Act.put, List.toList_toArray, List.take_succ_cons, List.take_zero, List.drop_succ_cons, List.drop_zero, List.cons_append, List.nil_append]
  clear HF hD
  replace S := S.out.below hB
  replace BB := below_to BB hB
  clear hB q1 q2 q3 q4
  obtain ⟨X, hX⟩ : ∃ X : ByteArray, ⟨#[80]⟩ ++ T1 ++ b = X := ⟨_, rfl⟩
  have hXs : X.size ≤ 14 := by rw [← hX, ByteArray.size_append, ByteArray.size_append]; have : (⟨#[80]⟩ : ByteArray).size = 1 := rfl; omega
  rw [hX]
  have HX := Lib.hid hX
  clear hX hT
  have c0 := S.c0
  have c1 := S.c1
  have c2 := S.c2
  have c3 := S.c3
  have c4 := S.c4
  have c5 := S.c5
  have z1 : (⟨#[0]⟩ : ByteArray).size = 1 := rfl
  go_wp2_with fail
  refine (H8.out _).mono ?_
  rintro e wn ⟨rfl, hb⟩
  replace S := S.below hb
  replace BB := below_to BB hb
  clear hb c0 c1 c2 c3 c4 c5
  have c0 := S.c0
  have c1 := S.c1
  have c2 := S.c2
  have c3 := S.c3
  have c4 := S.c4
  have c5 := S.c5
  go_wp2_with fail
  refine (H9.out _).mono ?_
  rintro e wn ⟨rfl, hb⟩
  replace S := S.below hb
  replace BB := below_to BB hb
  clear hb c0 c1 c2 c3 c4 c5
  have c0 := S.c0
  have c1 := S.c1
  have c2 := S.c2
  have c3 := S.c3
  have c4 := S.c4
  have c5 := S.c5
  go_wp2_with fail
  go_ret2
  exact ⟨by first | rfl | (unfold strErr; rw [HX.out]; rfl) | (unfold strErr; rw [HX.out, HY.out]; rfl), BB⟩
end Go.Proofs.Yteekjndhehnpaaa
