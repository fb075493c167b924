/- Contracts: how keys begin. -/
import Derived.Test.YteekjndhehnpaaaRI
namespace Go.Proofs.Yteekjndhehnpaaa
open Go.RowKit
set_option maxRecDepth 100000
set_option linter.unusedVariables false
set_option linter.unusedSimpArgs false
set_option maxHeartbeats 4000000
theorem below_to {w w1 w2 : World} (h : Below w.heap.size w w1) (h2 : Below w1.heap.size w1 w2) : Below w.heap.size w w2 := h.trans (h2.mono h.size)
theorem noDI {D : Nat → Bool} {S : Nat} (h : D S = false) {p : Prop} : D S = true → p := fun e => by rw [h] at e; cases e
theorem dSI {D : Nat → Bool} {S i : Nat} (H : D S = true → ∀ j, j < S → D j = true) (hi : i < S) (h : D i = false) : D S = false := by
  cases e : D S with
  | false => rfl
  | true => have := H e i hi; rw [h] at this; cases this
def InvB1 (W1 : World) (m : Nat) (a0 : Act) (D : Nat → Bool) (act : Act) (w : World) : Prop :=
  ∃ x4 x5 x6 x7 x8 x9 x10 x11 x12, act = ⟨(a0.tmps.toList.take 4 ++ x4 :: x5 :: x6 :: x7 :: x8 :: x9 :: x10 :: x11 :: x12 :: a0.tmps.toList.drop 13).toArray, []⟩ ∧ Below W1.heap.size W1 w ∧ Hid ((D 0 = true → x5 = .int .i64 1) ∧ (D 1 = true → x6 = .int .i64 0) ∧ (D 2 = true → x7 = .int .i64 1) ∧ (D 3 = true → x8 = .string ⟨#[84]⟩) ∧ (D 4 = true → x9 = .int .i64 (m : Int)) ∧ (D 5 = true → x10 = .int .u64 (m : Int)) ∧ (D 6 = true → x11 = .string (bs (numL 1 m))) ∧ (D 7 = true → x12 = .string (⟨#[84]⟩ ++ (bs (numL 1 m)))) ∧ (D 8 = true → x4 = .string (⟨#[84]⟩ ++ (bs (numL 1 m)))))
theorem beginning1 (m : Nat) (hm : m < 8) (w : World) : Calls Try.prog 51 #[.int .i64 1, .int .i64 (m : Int)] w fun e w' => e = .returned (.string (⟨#[84]⟩ ++ bs (numL 1 m))) ∧ Below w.heap.size w w' := by
  have HN := Lib.hid (fun w => num_ok 1 m w (by omega) (by omega) (by omega))
  have hb1 : (bs (numL 1 m)).size = 1 := by rw [bs_size, numL_length]
  have hw : IntKind.u64.wrap (m : Int) = (m : Int) := by rw [IntKind.wrap_u64]; omega
  go_enter Try.func51, Try.ntmps51
  go_wp2_with fail
  refine wp_region_inv0 (InvB1 w m) (by kernel_rfl) (by decide) ?_ ?_ ?_
  · exact ⟨_, _, _, _, _, _, _, _, _, rfl, (Below.refl _ _).drew, Lib.hid ⟨(by intro h; cases h), (by intro h; cases h), (by intro h; cases h), (by intro h; cases h), (by intro h; cases h), (by intro h; cases h), (by intro h; cases h), (by intro h; cases h), (by intro h; cases h)⟩⟩
  · refine AllI.cons ?_ (AllI.cons ?_ (AllI.cons ?_ (AllI.cons ?_ (AllI.cons ?_ (AllI.cons ?_ (AllI.cons ?_ (AllI.cons ?_ (AllI.cons ?_ AllI.nil))))))))
    · rintro D aa wx ⟨x4, x5, x6, x7, x8, x9, x10, x11, x12, rfl, hB, HF⟩ hD hdep KK hKK
      simp only [Act.put, List.toList_toArray, List.take_succ_cons, List.take_zero, List.drop_succ_cons, List.drop_zero, List.cons_append, List.nil_append, List.setIfInBounds_toArray, List.set_cons_zero, List.set_cons_succ]
      go_simp
      exact hKK _ _ ⟨_, _, _, _, _, _, _, _, _, rfl, hB, Lib.hid (by obtain ⟨f0, f1, f2, f3, f4, f5, f6, f7, f8⟩ := HF.out; exact ⟨fun _ => rfl, f1, f2, f3, f4, f5, f6, f7, f8⟩)⟩
    · rintro D aa wx ⟨x4, x5, x6, x7, x8, x9, x10, x11, x12, rfl, hB, HF⟩ hD hdep KK hKK
      simp [Region.binds] at hdep
      have h0 : D 0 = true := by simp [hdep]
      have HE := Lib.hid (show x5 = .int .i64 1 by obtain ⟨f0, f1, f2, f3, f4, f5, f6, f7, f8⟩ := HF.out; exact f0 h0)
      obtain rfl := HE.out
      clear HE
      simp only [Act.put, List.toList_toArray, List.take_succ_cons, List.take_zero, List.drop_succ_cons, List.drop_zero, List.cons_append, List.nil_append, List.setIfInBounds_toArray, List.set_cons_zero, List.set_cons_succ]
      go_simp
      exact hKK _ _ ⟨_, _, _, _, _, _, _, _, _, rfl, hB, Lib.hid (by obtain ⟨f0, f1, f2, f3, f4, f5, f6, f7, f8⟩ := HF.out; exact ⟨fun _ => rfl, fun _ => rfl, f2, f3, f4, f5, f6, f7, f8⟩)⟩
    · rintro D aa wx ⟨x4, x5, x6, x7, x8, x9, x10, x11, x12, rfl, hB, HF⟩ hD hdep KK hKK
      simp only [Act.put, List.toList_toArray, List.take_succ_cons, List.take_zero, List.drop_succ_cons, List.drop_zero, List.cons_append, List.nil_append, List.setIfInBounds_toArray, List.set_cons_zero, List.set_cons_succ]
      go_simp
      exact hKK _ _ ⟨_, _, _, _, _, _, _, _, _, rfl, hB, Lib.hid (by obtain ⟨f0, f1, f2, f3, f4, f5, f6, f7, f8⟩ := HF.out; exact ⟨f0, f1, fun _ => rfl, f3, f4, f5, f6, f7, f8⟩)⟩
    · rintro D aa wx ⟨x4, x5, x6, x7, x8, x9, x10, x11, x12, rfl, hB, HF⟩ hD hdep KK hKK
      simp [Region.binds] at hdep
      have h1 : D 1 = true := by simp [hdep]
      have h2 : D 2 = true := by simp [hdep]
      have HE := Lib.hid (show x6 = .int .i64 0 ∧ x7 = .int .i64 1 by obtain ⟨f0, f1, f2, f3, f4, f5, f6, f7, f8⟩ := HF.out; exact ⟨f1 h1, f2 h2⟩)
      obtain ⟨rfl, rfl⟩ := HE.out
      clear HE
      simp only [Act.put, List.toList_toArray, List.take_succ_cons, List.take_zero, List.drop_succ_cons, List.drop_zero, List.cons_append, List.nil_append, List.setIfInBounds_toArray, List.set_cons_zero, List.set_cons_succ]
      go_simp
      exact hKK _ _ ⟨_, _, _, _, _, _, _, _, _, rfl, hB, Lib.hid (by obtain ⟨f0, f1, f2, f3, f4, f5, f6, f7, f8⟩ := HF.out; exact ⟨f0, fun _ => rfl, fun _ => rfl, fun _ => rfl, f4, f5, f6, f7, f8⟩)⟩
    · rintro D aa wx ⟨x4, x5, x6, x7, x8, x9, x10, x11, x12, rfl, hB, HF⟩ hD hdep KK hKK
      simp only [Act.put, List.toList_toArray, List.take_succ_cons, List.take_zero, List.drop_succ_cons, List.drop_zero, List.cons_append, List.nil_append, List.setIfInBounds_toArray, List.set_cons_zero, List.set_cons_succ]
      go_simp
      exact hKK _ _ ⟨_, _, _, _, _, _, _, _, _, rfl, hB, Lib.hid (by obtain ⟨f0, f1, f2, f3, f4, f5, f6, f7, f8⟩ := HF.out; exact ⟨f0, f1, f2, f3, fun _ => rfl, f5, f6, f7, f8⟩)⟩
    · rintro D aa wx ⟨x4, x5, x6, x7, x8, x9, x10, x11, x12, rfl, hB, HF⟩ hD hdep KK hKK
      simp [Region.binds] at hdep
      have h4 : D 4 = true := by simp [hdep]
      have HE := Lib.hid (show x9 = .int .i64 (m : Int) by obtain ⟨f0, f1, f2, f3, f4, f5, f6, f7, f8⟩ := HF.out; exact f4 h4)
      obtain rfl := HE.out
      clear HE
      simp only [Act.put, List.toList_toArray, List.take_succ_cons, List.take_zero, List.drop_succ_cons, List.drop_zero, List.cons_append, List.nil_append, List.setIfInBounds_toArray, List.set_cons_zero, List.set_cons_succ]
      go_simp
      exact hKK _ _ ⟨_, _, _, _, _, _, _, _, _, rfl, hB, Lib.hid (by obtain ⟨f0, f1, f2, f3, f4, f5, f6, f7, f8⟩ := HF.out; exact ⟨f0, f1, f2, f3, fun _ => rfl, fun _ => rfl, f6, f7, f8⟩)⟩
    · rintro D aa wx ⟨x4, x5, x6, x7, x8, x9, x10, x11, x12, rfl, hB, HF⟩ hD hdep KK hKK
      simp [Region.binds] at hdep
      have h5 : D 5 = true := by simp [hdep]
      have HE := Lib.hid (show x10 = .int .u64 (m : Int) by obtain ⟨f0, f1, f2, f3, f4, f5, f6, f7, f8⟩ := HF.out; exact f5 h5)
      obtain rfl := HE.out
      clear HE
      simp only [Act.put, List.toList_toArray, List.take_succ_cons, List.take_zero, List.drop_succ_cons, List.drop_zero, List.cons_append, List.nil_append, List.setIfInBounds_toArray, List.set_cons_zero, List.set_cons_succ]
      go_simp
      refine (HN.out _).mono ?_
      rintro e w5 ⟨rfl, hb⟩
      exact hKK _ _ ⟨_, _, _, _, _, _, _, _, _, rfl, below_to hB hb, Lib.hid (by obtain ⟨f0, f1, f2, f3, f4, f5, f6, f7, f8⟩ := HF.out; exact ⟨f0, f1, f2, f3, f4, fun _ => rfl, fun _ => rfl, f7, f8⟩)⟩
    · rintro D aa wx ⟨x4, x5, x6, x7, x8, x9, x10, x11, x12, rfl, hB, HF⟩ hD hdep KK hKK
      simp [Region.binds] at hdep
      have h3 : D 3 = true := by simp [hdep]
      have h6 : D 6 = true := by simp [hdep]
      have HE := Lib.hid (show x8 = .string ⟨#[84]⟩ ∧ x11 = .string (bs (numL 1 m)) by obtain ⟨f0, f1, f2, f3, f4, f5, f6, f7, f8⟩ := HF.out; exact ⟨f3 h3, f6 h6⟩)
      obtain ⟨rfl, rfl⟩ := HE.out
      clear HE
      simp only [Act.put, List.toList_toArray, List.take_succ_cons, List.take_zero, List.drop_succ_cons, List.drop_zero, List.cons_append, List.nil_append, List.setIfInBounds_toArray, List.set_cons_zero, List.set_cons_succ]
      go_simp
      exact hKK _ _ ⟨_, _, _, _, _, _, _, _, _, rfl, hB, Lib.hid (by obtain ⟨f0, f1, f2, f3, f4, f5, f6, f7, f8⟩ := HF.out; exact ⟨f0, f1, f2, fun _ => rfl, f4, f5, fun _ => rfl, fun _ => rfl, f8⟩)⟩
    · rintro D aa wx ⟨x4, x5, x6, x7, x8, x9, x10, x11, x12, rfl, hB, HF⟩ hD hdep KK hKK
      simp [Region.binds] at hdep
      have h7 : D 7 = true := by simp [hdep]
      have HE := Lib.hid (show x12 = .string (⟨#[84]⟩ ++ (bs (numL 1 m))) by obtain ⟨f0, f1, f2, f3, f4, f5, f6, f7, f8⟩ := HF.out; exact f7 h7)
      obtain rfl := HE.out
      clear HE
      simp only [Act.put, List.toList_toArray, List.take_succ_cons, List.take_zero, List.drop_succ_cons, List.drop_zero, List.cons_append, List.nil_append, List.setIfInBounds_toArray, List.set_cons_zero, List.set_cons_succ]
      go_simp
      exact hKK _ _ ⟨_, _, _, _, _, _, _, _, _, rfl, hB, Lib.hid (by obtain ⟨f0, f1, f2, f3, f4, f5, f6, f7, f8⟩ := HF.out; exact ⟨f0, f1, f2, f3, f4, f5, f6, fun _ => rfl, fun _ => rfl⟩)⟩
  rintro D aa w9 ⟨x4, x5, x6, x7, x8, x9, x10, x11, x12, rfl, hB, HF⟩ hD
  obtain e8 : x4 = .string (⟨#[84]⟩ ++ (bs (numL 1 m))) := by obtain ⟨f0, f1, f2, f3, f4, f5, f6, f7, f8⟩ := HF.out; exact f8 (hD 8 (by simp))
  subst e8
  simp only [Act.put, List.toList_toArray, List.take_succ_cons, List.take_zero, List.drop_succ_cons, List.drop_zero, List.cons_append, List.nil_append]
  clear HF hD
  go_wp2_with fail
  go_ret
  exact ⟨rfl, hB⟩
def InvB2 (W1 : World) (m : Nat) (a0 : Act) (D : Nat → Bool) (act : Act) (w : World) : Prop :=
  ∃ x4 x5 x6 x7 x8 x9 x10 x11 x12, act = ⟨(a0.tmps.toList.take 4 ++ x4 :: x5 :: x6 :: x7 :: x8 :: x9 :: x10 :: x11 :: x12 :: a0.tmps.toList.drop 13).toArray, []⟩ ∧ Below W1.heap.size W1 w ∧ Hid ((D 0 = true → x5 = .int .i64 2) ∧ (D 1 = true → x6 = .int .i64 1) ∧ (D 2 = true → x7 = .int .i64 2) ∧ (D 3 = true → x8 = .string ⟨#[66]⟩) ∧ (D 4 = true → x9 = .int .i64 (m : Int)) ∧ (D 5 = true → x10 = .int .u64 (m : Int)) ∧ (D 6 = true → x11 = .string (bs (numL 1 m))) ∧ (D 7 = true → x12 = .string (⟨#[66]⟩ ++ (bs (numL 1 m)))) ∧ (D 8 = true → x4 = .string (⟨#[66]⟩ ++ (bs (numL 1 m)))))
theorem beginning2 (m : Nat) (hm : m < 8) (w : World) : Calls Try.prog 51 #[.int .i64 2, .int .i64 (m : Int)] w fun e w' => e = .returned (.string (⟨#[66]⟩ ++ bs (numL 1 m))) ∧ Below w.heap.size w w' := by
  have HN := Lib.hid (fun w => num_ok 1 m w (by omega) (by omega) (by omega))
  have hb1 : (bs (numL 1 m)).size = 1 := by rw [bs_size, numL_length]
  have hw : IntKind.u64.wrap (m : Int) = (m : Int) := by rw [IntKind.wrap_u64]; omega
  go_enter Try.func51, Try.ntmps51
  go_wp2_with fail
  refine wp_region_inv0 (InvB2 w m) (by kernel_rfl) (by decide) ?_ ?_ ?_
  · exact ⟨_, _, _, _, _, _, _, _, _, rfl, (Below.refl _ _).drew, Lib.hid ⟨(by intro h; cases h), (by intro h; cases h), (by intro h; cases h), (by intro h; cases h), (by intro h; cases h), (by intro h; cases h), (by intro h; cases h), (by intro h; cases h), (by intro h; cases h)⟩⟩
  · refine AllI.cons ?_ (AllI.cons ?_ (AllI.cons ?_ (AllI.cons ?_ (AllI.cons ?_ (AllI.cons ?_ (AllI.cons ?_ (AllI.cons ?_ (AllI.cons ?_ AllI.nil))))))))
    · rintro D aa wx ⟨x4, x5, x6, x7, x8, x9, x10, x11, x12, rfl, hB, HF⟩ hD hdep KK hKK
      simp only [Act.put, List.toList_toArray, List.take_succ_cons, List.take_zero, List.drop_succ_cons, List.drop_zero, List.cons_append, List.nil_append, List.setIfInBounds_toArray, List.set_cons_zero, List.set_cons_succ]
      go_simp
      exact hKK _ _ ⟨_, _, _, _, _, _, _, _, _, rfl, hB, Lib.hid (by obtain ⟨f0, f1, f2, f3, f4, f5, f6, f7, f8⟩ := HF.out; exact ⟨fun _ => rfl, f1, f2, f3, f4, f5, f6, f7, f8⟩)⟩
    · rintro D aa wx ⟨x4, x5, x6, x7, x8, x9, x10, x11, x12, rfl, hB, HF⟩ hD hdep KK hKK
      simp [Region.binds] at hdep
      have h0 : D 0 = true := by simp [hdep]
      have HE := Lib.hid (show x5 = .int .i64 2 by obtain ⟨f0, f1, f2, f3, f4, f5, f6, f7, f8⟩ := HF.out; exact f0 h0)
      obtain rfl := HE.out
      clear HE
      simp only [Act.put, List.toList_toArray, List.take_succ_cons, List.take_zero, List.drop_succ_cons, List.drop_zero, List.cons_append, List.nil_append, List.setIfInBounds_toArray, List.set_cons_zero, List.set_cons_succ]
      go_simp
      exact hKK _ _ ⟨_, _, _, _, _, _, _, _, _, rfl, hB, Lib.hid (by obtain ⟨f0, f1, f2, f3, f4, f5, f6, f7, f8⟩ := HF.out; exact ⟨fun _ => rfl, fun _ => rfl, f2, f3, f4, f5, f6, f7, f8⟩)⟩
    · rintro D aa wx ⟨x4, x5, x6, x7, x8, x9, x10, x11, x12, rfl, hB, HF⟩ hD hdep KK hKK
      simp only [Act.put, List.toList_toArray, List.take_succ_cons, List.take_zero, List.drop_succ_cons, List.drop_zero, List.cons_append, List.nil_append, List.setIfInBounds_toArray, List.set_cons_zero, List.set_cons_succ]
      go_simp
      exact hKK _ _ ⟨_, _, _, _, _, _, _, _, _, rfl, hB, Lib.hid (by obtain ⟨f0, f1, f2, f3, f4, f5, f6, f7, f8⟩ := HF.out; exact ⟨f0, f1, fun _ => rfl, f3, f4, f5, f6, f7, f8⟩)⟩
    · rintro D aa wx ⟨x4, x5, x6, x7, x8, x9, x10, x11, x12, rfl, hB, HF⟩ hD hdep KK hKK
      simp [Region.binds] at hdep
      have h1 : D 1 = true := by simp [hdep]
      have h2 : D 2 = true := by simp [hdep]
      have HE := Lib.hid (show x6 = .int .i64 1 ∧ x7 = .int .i64 2 by obtain ⟨f0, f1, f2, f3, f4, f5, f6, f7, f8⟩ := HF.out; exact ⟨f1 h1, f2 h2⟩)
      obtain ⟨rfl, rfl⟩ := HE.out
      clear HE
      simp only [Act.put, List.toList_toArray, List.take_succ_cons, List.take_zero, List.drop_succ_cons, List.drop_zero, List.cons_append, List.nil_append, List.setIfInBounds_toArray, List.set_cons_zero, List.set_cons_succ]
      go_simp
      exact hKK _ _ ⟨_, _, _, _, _, _, _, _, _, rfl, hB, Lib.hid (by obtain ⟨f0, f1, f2, f3, f4, f5, f6, f7, f8⟩ := HF.out; exact ⟨f0, fun _ => rfl, fun _ => rfl, fun _ => rfl, f4, f5, f6, f7, f8⟩)⟩
    · rintro D aa wx ⟨x4, x5, x6, x7, x8, x9, x10, x11, x12, rfl, hB, HF⟩ hD hdep KK hKK
      simp only [Act.put, List.toList_toArray, List.take_succ_cons, List.take_zero, List.drop_succ_cons, List.drop_zero, List.cons_append, List.nil_append, List.setIfInBounds_toArray, List.set_cons_zero, List.set_cons_succ]
      go_simp
      exact hKK _ _ ⟨_, _, _, _, _, _, _, _, _, rfl, hB, Lib.hid (by obtain ⟨f0, f1, f2, f3, f4, f5, f6, f7, f8⟩ := HF.out; exact ⟨f0, f1, f2, f3, fun _ => rfl, f5, f6, f7, f8⟩)⟩
    · rintro D aa wx ⟨x4, x5, x6, x7, x8, x9, x10, x11, x12, rfl, hB, HF⟩ hD hdep KK hKK
      simp [Region.binds] at hdep
      have h4 : D 4 = true := by simp [hdep]
      have HE := Lib.hid (show x9 = .int .i64 (m : Int) by obtain ⟨f0, f1, f2, f3, f4, f5, f6, f7, f8⟩ := HF.out; exact f4 h4)
      obtain rfl := HE.out
      clear HE
      simp only [Act.put, List.toList_toArray, List.take_succ_cons, List.take_zero, List.drop_succ_cons, List.drop_zero, List.cons_append, List.nil_append, List.setIfInBounds_toArray, List.set_cons_zero, List.set_cons_succ]
      go_simp
      exact hKK _ _ ⟨_, _, _, _, _, _, _, _, _, rfl, hB, Lib.hid (by obtain ⟨f0, f1, f2, f3, f4, f5, f6, f7, f8⟩ := HF.out; exact ⟨f0, f1, f2, f3, fun _ => rfl, fun _ => rfl, f6, f7, f8⟩)⟩
    · rintro D aa wx ⟨x4, x5, x6, x7, x8, x9, x10, x11, x12, rfl, hB, HF⟩ hD hdep KK hKK
      simp [Region.binds] at hdep
      have h5 : D 5 = true := by simp [hdep]
      have HE := Lib.hid (show x10 = .int .u64 (m : Int) by obtain ⟨f0, f1, f2, f3, f4, f5, f6, f7, f8⟩ := HF.out; exact f5 h5)
      obtain rfl := HE.out
      clear HE
      simp only [Act.put, List.toList_toArray, List.take_succ_cons, List.take_zero, List.drop_succ_cons, List.drop_zero, List.cons_append, List.nil_append, List.setIfInBounds_toArray, List.set_cons_zero, List.set_cons_succ]
      go_simp
      refine (HN.out _).mono ?_
      rintro e w5 ⟨rfl, hb⟩
      exact hKK _ _ ⟨_, _, _, _, _, _, _, _, _, rfl, below_to hB hb, Lib.hid (by obtain ⟨f0, f1, f2, f3, f4, f5, f6, f7, f8⟩ := HF.out; exact ⟨f0, f1, f2, f3, f4, fun _ => rfl, fun _ => rfl, f7, f8⟩)⟩
    · rintro D aa wx ⟨x4, x5, x6, x7, x8, x9, x10, x11, x12, rfl, hB, HF⟩ hD hdep KK hKK
      simp [Region.binds] at hdep
      have h3 : D 3 = true := by simp [hdep]
      have h6 : D 6 = true := by simp [hdep]
      have HE := Lib.hid (show x8 = .string ⟨#[66]⟩ ∧ x11 = .string (bs (numL 1 m)) by obtain ⟨f0, f1, f2, f3, f4, f5, f6, f7, f8⟩ := HF.out; exact ⟨f3 h3, f6 h6⟩)
      obtain ⟨rfl, rfl⟩ := HE.out
      clear HE
      simp only [Act.put, List.toList_toArray, List.take_succ_cons, List.take_zero, List.drop_succ_cons, List.drop_zero, List.cons_append, List.nil_append, List.setIfInBounds_toArray, List.set_cons_zero, List.set_cons_succ]
      go_simp
      exact hKK _ _ ⟨_, _, _, _, _, _, _, _, _, rfl, hB, Lib.hid (by obtain ⟨f0, f1, f2, f3, f4, f5, f6, f7, f8⟩ := HF.out; exact ⟨f0, f1, f2, fun _ => rfl, f4, f5, fun _ => rfl, fun _ => rfl, f8⟩)⟩
    · rintro D aa wx ⟨x4, x5, x6, x7, x8, x9, x10, x11, x12, rfl, hB, HF⟩ hD hdep KK hKK
      simp [Region.binds] at hdep
      have h7 : D 7 = true := by simp [hdep]
      have HE := Lib.hid (show x12 = .string (⟨#[66]⟩ ++ (bs (numL 1 m))) by obtain ⟨f0, f1, f2, f3, f4, f5, f6, f7, f8⟩ := HF.out; exact f7 h7)
      obtain rfl := HE.out
      clear HE
      simp only [Act.put, List.toList_toArray, List.take_succ_cons, List.take_zero, List.drop_succ_cons, List.drop_zero, List.cons_append, List.nil_append, List.setIfInBounds_toArray, List.set_cons_zero, List.set_cons_succ]
      go_simp
      exact hKK _ _ ⟨_, _, _, _, _, _, _, _, _, rfl, hB, Lib.hid (by obtain ⟨f0, f1, f2, f3, f4, f5, f6, f7, f8⟩ := HF.out; exact ⟨f0, f1, f2, f3, f4, f5, f6, fun _ => rfl, fun _ => rfl⟩)⟩
  rintro D aa w9 ⟨x4, x5, x6, x7, x8, x9, x10, x11, x12, rfl, hB, HF⟩ hD
  obtain e8 : x4 = .string (⟨#[66]⟩ ++ (bs (numL 1 m))) := by obtain ⟨f0, f1, f2, f3, f4, f5, f6, f7, f8⟩ := HF.out; exact f8 (hD 8 (by simp))
  subst e8
  simp only [Act.put, List.toList_toArray, List.take_succ_cons, List.take_zero, List.drop_succ_cons, List.drop_zero, List.cons_append, List.nil_append]
  clear HF hD
  go_wp2_with fail
  go_ret
  exact ⟨rfl, hB⟩
def InvB3 (W1 : World) (m : Nat) (a0 : Act) (D : Nat → Bool) (act : Act) (w : World) : Prop :=
  ∃ x4 x5 x6 x7 x8 x9 x10 x11 x12, act = ⟨(a0.tmps.toList.take 4 ++ x4 :: x5 :: x6 :: x7 :: x8 :: x9 :: x10 :: x11 :: x12 :: a0.tmps.toList.drop 13).toArray, []⟩ ∧ Below W1.heap.size W1 w ∧ Hid ((D 0 = true → x5 = .int .i64 3) ∧ (D 1 = true → x6 = .int .i64 2) ∧ (D 2 = true → x7 = .int .i64 3) ∧ (D 3 = true → x8 = .string ⟨#[86]⟩) ∧ (D 4 = true → x9 = .int .i64 (m : Int)) ∧ (D 5 = true → x10 = .int .u64 (m : Int)) ∧ (D 6 = true → x11 = .string (bs (numL 1 m))) ∧ (D 7 = true → x12 = .string (⟨#[86]⟩ ++ (bs (numL 1 m)))) ∧ (D 8 = true → x4 = .string (⟨#[86]⟩ ++ (bs (numL 1 m)))))
theorem beginning3 (m : Nat) (hm : m < 8) (w : World) : Calls Try.prog 51 #[.int .i64 3, .int .i64 (m : Int)] w fun e w' => e = .returned (.string (⟨#[86]⟩ ++ bs (numL 1 m))) ∧ Below w.heap.size w w' := by
  have HN := Lib.hid (fun w => num_ok 1 m w (by omega) (by omega) (by omega))
  have hb1 : (bs (numL 1 m)).size = 1 := by rw [bs_size, numL_length]
  have hw : IntKind.u64.wrap (m : Int) = (m : Int) := by rw [IntKind.wrap_u64]; omega
  go_enter Try.func51, Try.ntmps51
  go_wp2_with fail
  refine wp_region_inv0 (InvB3 w m) (by kernel_rfl) (by decide) ?_ ?_ ?_
  · exact ⟨_, _, _, _, _, _, _, _, _, rfl, (Below.refl _ _).drew, Lib.hid ⟨(by intro h; cases h), (by intro h; cases h), (by intro h; cases h), (by intro h; cases h), (by intro h; cases h), (by intro h; cases h), (by intro h; cases h), (by intro h; cases h), (by intro h; cases h)⟩⟩
  · refine AllI.cons ?_ (AllI.cons ?_ (AllI.cons ?_ (AllI.cons ?_ (AllI.cons ?_ (AllI.cons ?_ (AllI.cons ?_ (AllI.cons ?_ (AllI.cons ?_ AllI.nil))))))))
    · rintro D aa wx ⟨x4, x5, x6, x7, x8, x9, x10, x11, x12, rfl, hB, HF⟩ hD hdep KK hKK
      simp only [Act.put, List.toList_toArray, List.take_succ_cons, List.take_zero, List.drop_succ_cons, List.drop_zero, List.cons_append, List.nil_append, List.setIfInBounds_toArray, List.set_cons_zero, List.set_cons_succ]
      go_simp
      exact hKK _ _ ⟨_, _, _, _, _, _, _, _, _, rfl, hB, Lib.hid (by obtain ⟨f0, f1, f2, f3, f4, f5, f6, f7, f8⟩ := HF.out; exact ⟨fun _ => rfl, f1, f2, f3, f4, f5, f6, f7, f8⟩)⟩
    · rintro D aa wx ⟨x4, x5, x6, x7, x8, x9, x10, x11, x12, rfl, hB, HF⟩ hD hdep KK hKK
      simp [Region.binds] at hdep
      have h0 : D 0 = true := by simp [hdep]
      have HE := Lib.hid (show x5 = .int .i64 3 by obtain ⟨f0, f1, f2, f3, f4, f5, f6, f7, f8⟩ := HF.out; exact f0 h0)
      obtain rfl := HE.out
      clear HE
      simp only [Act.put, List.toList_toArray, List.take_succ_cons, List.take_zero, List.drop_succ_cons, List.drop_zero, List.cons_append, List.nil_append, List.setIfInBounds_toArray, List.set_cons_zero, List.set_cons_succ]
      go_simp
      exact hKK _ _ ⟨_, _, _, _, _, _, _, _, _, rfl, hB, Lib.hid (by obtain ⟨f0, f1, f2, f3, f4, f5, f6, f7, f8⟩ := HF.out; exact ⟨fun _ => rfl, fun _ => rfl, f2, f3, f4, f5, f6, f7, f8⟩)⟩
    · rintro D aa wx ⟨x4, x5, x6, x7, x8, x9, x10, x11, x12, rfl, hB, HF⟩ hD hdep KK hKK
      simp only [Act.put, List.toList_toArray, List.take_succ_cons, List.take_zero, List.drop_succ_cons, List.drop_zero, List.cons_append, List.nil_append, List.setIfInBounds_toArray, List.set_cons_zero, List.set_cons_succ]
      go_simp
      exact hKK _ _ ⟨_, _, _, _, _, _, _, _, _, rfl, hB, Lib.hid (by obtain ⟨f0, f1, f2, f3, f4, f5, f6, f7, f8⟩ := HF.out; exact ⟨f0, f1, fun _ => rfl, f3, f4, f5, f6, f7, f8⟩)⟩
    · rintro D aa wx ⟨x4, x5, x6, x7, x8, x9, x10, x11, x12, rfl, hB, HF⟩ hD hdep KK hKK
      simp [Region.binds] at hdep
      have h1 : D 1 = true := by simp [hdep]
      have h2 : D 2 = true := by simp [hdep]
      have HE := Lib.hid (show x6 = .int .i64 2 ∧ x7 = .int .i64 3 by obtain ⟨f0, f1, f2, f3, f4, f5, f6, f7, f8⟩ := HF.out; exact ⟨f1 h1, f2 h2⟩)
      obtain ⟨rfl, rfl⟩ := HE.out
      clear HE
      simp only [Act.put, List.toList_toArray, List.take_succ_cons, List.take_zero, List.drop_succ_cons, List.drop_zero, List.cons_append, List.nil_append, List.setIfInBounds_toArray, List.set_cons_zero, List.set_cons_succ]
      go_simp
      exact hKK _ _ ⟨_, _, _, _, _, _, _, _, _, rfl, hB, Lib.hid (by obtain ⟨f0, f1, f2, f3, f4, f5, f6, f7, f8⟩ := HF.out; exact ⟨f0, fun _ => rfl, fun _ => rfl, fun _ => rfl, f4, f5, f6, f7, f8⟩)⟩
    · rintro D aa wx ⟨x4, x5, x6, x7, x8, x9, x10, x11, x12, rfl, hB, HF⟩ hD hdep KK hKK
      simp only [Act.put, List.toList_toArray, List.take_succ_cons, List.take_zero, List.drop_succ_cons, List.drop_zero, List.cons_append, List.nil_append, List.setIfInBounds_toArray, List.set_cons_zero, List.set_cons_succ]
      go_simp
      exact hKK _ _ ⟨_, _, _, _, _, _, _, _, _, rfl, hB, Lib.hid (by obtain ⟨f0, f1, f2, f3, f4, f5, f6, f7, f8⟩ := HF.out; exact ⟨f0, f1, f2, f3, fun _ => rfl, f5, f6, f7, f8⟩)⟩
    · rintro D aa wx ⟨x4, x5, x6, x7, x8, x9, x10, x11, x12, rfl, hB, HF⟩ hD hdep KK hKK
      simp [Region.binds] at hdep
      have h4 : D 4 = true := by simp [hdep]
      have HE := Lib.hid (show x9 = .int .i64 (m : Int) by obtain ⟨f0, f1, f2, f3, f4, f5, f6, f7, f8⟩ := HF.out; exact f4 h4)
      obtain rfl := HE.out
      clear HE
      simp only [Act.put, List.toList_toArray, List.take_succ_cons, List.take_zero, List.drop_succ_cons, List.drop_zero, List.cons_append, List.nil_append, List.setIfInBounds_toArray, List.set_cons_zero, List.set_cons_succ]
      go_simp
      exact hKK _ _ ⟨_, _, _, _, _, _, _, _, _, rfl, hB, Lib.hid (by obtain ⟨f0, f1, f2, f3, f4, f5, f6, f7, f8⟩ := HF.out; exact ⟨f0, f1, f2, f3, fun _ => rfl, fun _ => rfl, f6, f7, f8⟩)⟩
    · rintro D aa wx ⟨x4, x5, x6, x7, x8, x9, x10, x11, x12, rfl, hB, HF⟩ hD hdep KK hKK
      simp [Region.binds] at hdep
      have h5 : D 5 = true := by simp [hdep]
      have HE := Lib.hid (show x10 = .int .u64 (m : Int) by obtain ⟨f0, f1, f2, f3, f4, f5, f6, f7, f8⟩ := HF.out; exact f5 h5)
      obtain rfl := HE.out
      clear HE
      simp only [Act.put, List.toList_toArray, List.take_succ_cons, List.take_zero, List.drop_succ_cons, List.drop_zero, List.cons_append, List.nil_append, List.setIfInBounds_toArray, List.set_cons_zero, List.set_cons_succ]
      go_simp
      refine (HN.out _).mono ?_
      rintro e w5 ⟨rfl, hb⟩
      exact hKK _ _ ⟨_, _, _, _, _, _, _, _, _, rfl, below_to hB hb, Lib.hid (by obtain ⟨f0, f1, f2, f3, f4, f5, f6, f7, f8⟩ := HF.out; exact ⟨f0, f1, f2, f3, f4, fun _ => rfl, fun _ => rfl, f7, f8⟩)⟩
    · rintro D aa wx ⟨x4, x5, x6, x7, x8, x9, x10, x11, x12, rfl, hB, HF⟩ hD hdep KK hKK
      simp [Region.binds] at hdep
      have h3 : D 3 = true := by simp [hdep]
      have h6 : D 6 = true := by simp [hdep]
      have HE := Lib.hid (show x8 = .string ⟨#[86]⟩ ∧ x11 = .string (bs (numL 1 m)) by obtain ⟨f0, f1, f2, f3, f4, f5, f6, f7, f8⟩ := HF.out; exact ⟨f3 h3, f6 h6⟩)
      obtain ⟨rfl, rfl⟩ := HE.out
      clear HE
      simp only [Act.put, List.toList_toArray, List.take_succ_cons, List.take_zero, List.drop_succ_cons, List.drop_zero, List.cons_append, List.nil_append, List.setIfInBounds_toArray, List.set_cons_zero, List.set_cons_succ]
      go_simp
      exact hKK _ _ ⟨_, _, _, _, _, _, _, _, _, rfl, hB, Lib.hid (by obtain ⟨f0, f1, f2, f3, f4, f5, f6, f7, f8⟩ := HF.out; exact ⟨f0, f1, f2, fun _ => rfl, f4, f5, fun _ => rfl, fun _ => rfl, f8⟩)⟩
    · rintro D aa wx ⟨x4, x5, x6, x7, x8, x9, x10, x11, x12, rfl, hB, HF⟩ hD hdep KK hKK
      simp [Region.binds] at hdep
      have h7 : D 7 = true := by simp [hdep]
      have HE := Lib.hid (show x12 = .string (⟨#[86]⟩ ++ (bs (numL 1 m))) by obtain ⟨f0, f1, f2, f3, f4, f5, f6, f7, f8⟩ := HF.out; exact f7 h7)
      obtain rfl := HE.out
      clear HE
      simp only [Act.put, List.toList_toArray, List.take_succ_cons, List.take_zero, List.drop_succ_cons, List.drop_zero, List.cons_append, List.nil_append, List.setIfInBounds_toArray, List.set_cons_zero, List.set_cons_succ]
      go_simp
      exact hKK _ _ ⟨_, _, _, _, _, _, _, _, _, rfl, hB, Lib.hid (by obtain ⟨f0, f1, f2, f3, f4, f5, f6, f7, f8⟩ := HF.out; exact ⟨f0, f1, f2, f3, f4, f5, f6, fun _ => rfl, fun _ => rfl⟩)⟩
  rintro D aa w9 ⟨x4, x5, x6, x7, x8, x9, x10, x11, x12, rfl, hB, HF⟩ hD
  obtain e8 : x4 = .string (⟨#[86]⟩ ++ (bs (numL 1 m))) := by obtain ⟨f0, f1, f2, f3, f4, f5, f6, f7, f8⟩ := HF.out; exact f8 (hD 8 (by simp))
  subst e8
  simp only [Act.put, List.toList_toArray, List.take_succ_cons, List.take_zero, List.drop_succ_cons, List.drop_zero, List.cons_append, List.nil_append]
  clear HF hD
  go_wp2_with fail
  go_ret
  exact ⟨rfl, hB⟩
def InvB4 (W1 : World) (m : Nat) (a0 : Act) (D : Nat → Bool) (act : Act) (w : World) : Prop :=
  ∃ x4 x5 x6 x7 x8 x9 x10 x11 x12, act = ⟨(a0.tmps.toList.take 4 ++ x4 :: x5 :: x6 :: x7 :: x8 :: x9 :: x10 :: x11 :: x12 :: a0.tmps.toList.drop 13).toArray, []⟩ ∧ Below W1.heap.size W1 w ∧ Hid ((D 0 = true → x5 = .int .i64 4) ∧ (D 1 = true → x6 = .int .i64 3) ∧ (D 2 = true → x7 = .int .i64 4) ∧ (D 3 = true → x8 = .string ⟨#[85]⟩) ∧ (D 4 = true → x9 = .int .i64 (m : Int)) ∧ (D 5 = true → x10 = .int .u64 (m : Int)) ∧ (D 6 = true → x11 = .string (bs (numL 1 m))) ∧ (D 7 = true → x12 = .string (⟨#[85]⟩ ++ (bs (numL 1 m)))) ∧ (D 8 = true → x4 = .string (⟨#[85]⟩ ++ (bs (numL 1 m)))))
theorem beginning4 (m : Nat) (hm : m < 8) (w : World) : Calls Try.prog 51 #[.int .i64 4, .int .i64 (m : Int)] w fun e w' => e = .returned (.string (⟨#[85]⟩ ++ bs (numL 1 m))) ∧ Below w.heap.size w w' := by
  have HN := Lib.hid (fun w => num_ok 1 m w (by omega) (by omega) (by omega))
  have hb1 : (bs (numL 1 m)).size = 1 := by rw [bs_size, numL_length]
  have hw : IntKind.u64.wrap (m : Int) = (m : Int) := by rw [IntKind.wrap_u64]; omega
  go_enter Try.func51, Try.ntmps51
  go_wp2_with fail
  refine wp_region_inv0 (InvB4 w m) (by kernel_rfl) (by decide) ?_ ?_ ?_
  · exact ⟨_, _, _, _, _, _, _, _, _, rfl, (Below.refl _ _).drew, Lib.hid ⟨(by intro h; cases h), (by intro h; cases h), (by intro h; cases h), (by intro h; cases h), (by intro h; cases h), (by intro h; cases h), (by intro h; cases h), (by intro h; cases h), (by intro h; cases h)⟩⟩
  · refine AllI.cons ?_ (AllI.cons ?_ (AllI.cons ?_ (AllI.cons ?_ (AllI.cons ?_ (AllI.cons ?_ (AllI.cons ?_ (AllI.cons ?_ (AllI.cons ?_ AllI.nil))))))))
    · rintro D aa wx ⟨x4, x5, x6, x7, x8, x9, x10, x11, x12, rfl, hB, HF⟩ hD hdep KK hKK
      simp only [Act.put, List.toList_toArray, List.take_succ_cons, List.take_zero, List.drop_succ_cons, List.drop_zero, List.cons_append, List.nil_append, List.setIfInBounds_toArray, List.set_cons_zero, List.set_cons_succ]
      go_simp
      exact hKK _ _ ⟨_, _, _, _, _, _, _, _, _, rfl, hB, Lib.hid (by obtain ⟨f0, f1, f2, f3, f4, f5, f6, f7, f8⟩ := HF.out; exact ⟨fun _ => rfl, f1, f2, f3, f4, f5, f6, f7, f8⟩)⟩
    · rintro D aa wx ⟨x4, x5, x6, x7, x8, x9, x10, x11, x12, rfl, hB, HF⟩ hD hdep KK hKK
      simp [Region.binds] at hdep
      have h0 : D 0 = true := by simp [hdep]
      have HE := Lib.hid (show x5 = .int .i64 4 by obtain ⟨f0, f1, f2, f3, f4, f5, f6, f7, f8⟩ := HF.out; exact f0 h0)
      obtain rfl := HE.out
      clear HE
      simp only [Act.put, List.toList_toArray, List.take_succ_cons, List.take_zero, List.drop_succ_cons, List.drop_zero, List.cons_append, List.nil_append, List.setIfInBounds_toArray, List.set_cons_zero, List.set_cons_succ]
      go_simp
      exact hKK _ _ ⟨_, _, _, _, _, _, _, _, _, rfl, hB, Lib.hid (by obtain ⟨f0, f1, f2, f3, f4, f5, f6, f7, f8⟩ := HF.out; exact ⟨fun _ => rfl, fun _ => rfl, f2, f3, f4, f5, f6, f7, f8⟩)⟩
    · rintro D aa wx ⟨x4, x5, x6, x7, x8, x9, x10, x11, x12, rfl, hB, HF⟩ hD hdep KK hKK
      simp only [Act.put, List.toList_toArray, List.take_succ_cons, List.take_zero, List.drop_succ_cons, List.drop_zero, List.cons_append, List.nil_append, List.setIfInBounds_toArray, List.set_cons_zero, List.set_cons_succ]
      go_simp
      exact hKK _ _ ⟨_, _, _, _, _, _, _, _, _, rfl, hB, Lib.hid (by obtain ⟨f0, f1, f2, f3, f4, f5, f6, f7, f8⟩ := HF.out; exact ⟨f0, f1, fun _ => rfl, f3, f4, f5, f6, f7, f8⟩)⟩
    · rintro D aa wx ⟨x4, x5, x6, x7, x8, x9, x10, x11, x12, rfl, hB, HF⟩ hD hdep KK hKK
      simp [Region.binds] at hdep
      have h1 : D 1 = true := by simp [hdep]
      have h2 : D 2 = true := by simp [hdep]
      have HE := Lib.hid (show x6 = .int .i64 3 ∧ x7 = .int .i64 4 by obtain ⟨f0, f1, f2, f3, f4, f5, f6, f7, f8⟩ := HF.out; exact ⟨f1 h1, f2 h2⟩)
      obtain ⟨rfl, rfl⟩ := HE.out
      clear HE
      simp only [Act.put, List.toList_toArray, List.take_succ_cons, List.take_zero, List.drop_succ_cons, List.drop_zero, List.cons_append, List.nil_append, List.setIfInBounds_toArray, List.set_cons_zero, List.set_cons_succ]
      go_simp
      exact hKK _ _ ⟨_, _, _, _, _, _, _, _, _, rfl, hB, Lib.hid (by obtain ⟨f0, f1, f2, f3, f4, f5, f6, f7, f8⟩ := HF.out; exact ⟨f0, fun _ => rfl, fun _ => rfl, fun _ => rfl, f4, f5, f6, f7, f8⟩)⟩
    · rintro D aa wx ⟨x4, x5, x6, x7, x8, x9, x10, x11, x12, rfl, hB, HF⟩ hD hdep KK hKK
      simp only [Act.put, List.toList_toArray, List.take_succ_cons, List.take_zero, List.drop_succ_cons, List.drop_zero, List.cons_append, List.nil_append, List.setIfInBounds_toArray, List.set_cons_zero, List.set_cons_succ]
      go_simp
      exact hKK _ _ ⟨_, _, _, _, _, _, _, _, _, rfl, hB, Lib.hid (by obtain ⟨f0, f1, f2, f3, f4, f5, f6, f7, f8⟩ := HF.out; exact ⟨f0, f1, f2, f3, fun _ => rfl, f5, f6, f7, f8⟩)⟩
    · rintro D aa wx ⟨x4, x5, x6, x7, x8, x9, x10, x11, x12, rfl, hB, HF⟩ hD hdep KK hKK
      simp [Region.binds] at hdep
      have h4 : D 4 = true := by simp [hdep]
      have HE := Lib.hid (show x9 = .int .i64 (m : Int) by obtain ⟨f0, f1, f2, f3, f4, f5, f6, f7, f8⟩ := HF.out; exact f4 h4)
      obtain rfl := HE.out
      clear HE
      simp only [Act.put, List.toList_toArray, List.take_succ_cons, List.take_zero, List.drop_succ_cons, List.drop_zero, List.cons_append, List.nil_append, List.setIfInBounds_toArray, List.set_cons_zero, List.set_cons_succ]
      go_simp
      exact hKK _ _ ⟨_, _, _, _, _, _, _, _, _, rfl, hB, Lib.hid (by obtain ⟨f0, f1, f2, f3, f4, f5, f6, f7, f8⟩ := HF.out; exact ⟨f0, f1, f2, f3, fun _ => rfl, fun _ => rfl, f6, f7, f8⟩)⟩
    · rintro D aa wx ⟨x4, x5, x6, x7, x8, x9, x10, x11, x12, rfl, hB, HF⟩ hD hdep KK hKK
      simp [Region.binds] at hdep
      have h5 : D 5 = true := by simp [hdep]
      have HE := Lib.hid (show x10 = .int .u64 (m : Int) by obtain ⟨f0, f1, f2, f3, f4, f5, f6, f7, f8⟩ := HF.out; exact f5 h5)
      obtain rfl := HE.out
      clear HE
      simp only [Act.put, List.toList_toArray, List.take_succ_cons, List.take_zero, List.drop_succ_cons, List.drop_zero, List.cons_append, List.nil_append, List.setIfInBounds_toArray, List.set_cons_zero, List.set_cons_succ]
      go_simp
      refine (HN.out _).mono ?_
      rintro e w5 ⟨rfl, hb⟩
      exact hKK _ _ ⟨_, _, _, _, _, _, _, _, _, rfl, below_to hB hb, Lib.hid (by obtain ⟨f0, f1, f2, f3, f4, f5, f6, f7, f8⟩ := HF.out; exact ⟨f0, f1, f2, f3, f4, fun _ => rfl, fun _ => rfl, f7, f8⟩)⟩
    · rintro D aa wx ⟨x4, x5, x6, x7, x8, x9, x10, x11, x12, rfl, hB, HF⟩ hD hdep KK hKK
      simp [Region.binds] at hdep
      have h3 : D 3 = true := by simp [hdep]
      have h6 : D 6 = true := by simp [hdep]
      have HE := Lib.hid (show x8 = .string ⟨#[85]⟩ ∧ x11 = .string (bs (numL 1 m)) by obtain ⟨f0, f1, f2, f3, f4, f5, f6, f7, f8⟩ := HF.out; exact ⟨f3 h3, f6 h6⟩)
      obtain ⟨rfl, rfl⟩ := HE.out
      clear HE
      simp only [Act.put, List.toList_toArray, List.take_succ_cons, List.take_zero, List.drop_succ_cons, List.drop_zero, List.cons_append, List.nil_append, List.setIfInBounds_toArray, List.set_cons_zero, List.set_cons_succ]
      go_simp
      exact hKK _ _ ⟨_, _, _, _, _, _, _, _, _, rfl, hB, Lib.hid (by obtain ⟨f0, f1, f2, f3, f4, f5, f6, f7, f8⟩ := HF.out; exact ⟨f0, f1, f2, fun _ => rfl, f4, f5, fun _ => rfl, fun _ => rfl, f8⟩)⟩
    · rintro D aa wx ⟨x4, x5, x6, x7, x8, x9, x10, x11, x12, rfl, hB, HF⟩ hD hdep KK hKK
      simp [Region.binds] at hdep
      have h7 : D 7 = true := by simp [hdep]
      have HE := Lib.hid (show x12 = .string (⟨#[85]⟩ ++ (bs (numL 1 m))) by obtain ⟨f0, f1, f2, f3, f4, f5, f6, f7, f8⟩ := HF.out; exact f7 h7)
      obtain rfl := HE.out
      clear HE
      simp only [Act.put, List.toList_toArray, List.take_succ_cons, List.take_zero, List.drop_succ_cons, List.drop_zero, List.cons_append, List.nil_append, List.setIfInBounds_toArray, List.set_cons_zero, List.set_cons_succ]
      go_simp
      exact hKK _ _ ⟨_, _, _, _, _, _, _, _, _, rfl, hB, Lib.hid (by obtain ⟨f0, f1, f2, f3, f4, f5, f6, f7, f8⟩ := HF.out; exact ⟨f0, f1, f2, f3, f4, f5, f6, fun _ => rfl, fun _ => rfl⟩)⟩
  rintro D aa w9 ⟨x4, x5, x6, x7, x8, x9, x10, x11, x12, rfl, hB, HF⟩ hD
  obtain e8 : x4 = .string (⟨#[85]⟩ ++ (bs (numL 1 m))) := by obtain ⟨f0, f1, f2, f3, f4, f5, f6, f7, f8⟩ := HF.out; exact f8 (hD 8 (by simp))
  subst e8
  simp only [Act.put, List.toList_toArray, List.take_succ_cons, List.take_zero, List.drop_succ_cons, List.drop_zero, List.cons_append, List.nil_append]
  clear HF hD
  go_wp2_with fail
  go_ret
  exact ⟨rfl, hB⟩
def InvB5 (W1 : World) (m : Nat) (a0 : Act) (D : Nat → Bool) (act : Act) (w : World) : Prop :=
  ∃ x4 x5 x6 x7 x8 x9 x10 x11 x12, act = ⟨(a0.tmps.toList.take 4 ++ x4 :: x5 :: x6 :: x7 :: x8 :: x9 :: x10 :: x11 :: x12 :: a0.tmps.toList.drop 13).toArray, []⟩ ∧ Below W1.heap.size W1 w ∧ Hid ((D 0 = true → x5 = .int .i64 5) ∧ (D 1 = true → x6 = .int .i64 4) ∧ (D 2 = true → x7 = .int .i64 5) ∧ (D 3 = true → x8 = .string ⟨#[80]⟩) ∧ (D 4 = true → x9 = .int .i64 (m : Int)) ∧ (D 5 = true → x10 = .int .u64 (m : Int)) ∧ (D 6 = true → x11 = .string (bs (numL 1 m))) ∧ (D 7 = true → x12 = .string (⟨#[80]⟩ ++ (bs (numL 1 m)))) ∧ (D 8 = true → x4 = .string (⟨#[80]⟩ ++ (bs (numL 1 m)))))
theorem beginning5 (m : Nat) (hm : m < 8) (w : World) : Calls Try.prog 51 #[.int .i64 5, .int .i64 (m : Int)] w fun e w' => e = .returned (.string (⟨#[80]⟩ ++ bs (numL 1 m))) ∧ Below w.heap.size w w' := by
  have HN := Lib.hid (fun w => num_ok 1 m w (by omega) (by omega) (by omega))
  have hb1 : (bs (numL 1 m)).size = 1 := by rw [bs_size, numL_length]
  have hw : IntKind.u64.wrap (m : Int) = (m : Int) := by rw [IntKind.wrap_u64]; omega
  go_enter Try.func51, Try.ntmps51
  go_wp2_with fail
  refine wp_region_inv0 (InvB5 w m) (by kernel_rfl) (by decide) ?_ ?_ ?_
  · exact ⟨_, _, _, _, _, _, _, _, _, rfl, (Below.refl _ _).drew, Lib.hid ⟨(by intro h; cases h), (by intro h; cases h), (by intro h; cases h), (by intro h; cases h), (by intro h; cases h), (by intro h; cases h), (by intro h; cases h), (by intro h; cases h), (by intro h; cases h)⟩⟩
  · refine AllI.cons ?_ (AllI.cons ?_ (AllI.cons ?_ (AllI.cons ?_ (AllI.cons ?_ (AllI.cons ?_ (AllI.cons ?_ (AllI.cons ?_ (AllI.cons ?_ AllI.nil))))))))
    · rintro D aa wx ⟨x4, x5, x6, x7, x8, x9, x10, x11, x12, rfl, hB, HF⟩ hD hdep KK hKK
      simp only [Act.put, List.toList_toArray, List.take_succ_cons, List.take_zero, List.drop_succ_cons, List.drop_zero, List.cons_append, List.nil_append, List.setIfInBounds_toArray, List.set_cons_zero, List.set_cons_succ]
      go_simp
      exact hKK _ _ ⟨_, _, _, _, _, _, _, _, _, rfl, hB, Lib.hid (by obtain ⟨f0, f1, f2, f3, f4, f5, f6, f7, f8⟩ := HF.out; exact ⟨fun _ => rfl, f1, f2, f3, f4, f5, f6, f7, f8⟩)⟩
    · rintro D aa wx ⟨x4, x5, x6, x7, x8, x9, x10, x11, x12, rfl, hB, HF⟩ hD hdep KK hKK
      simp [Region.binds] at hdep
      have h0 : D 0 = true := by simp [hdep]
      have HE := Lib.hid (show x5 = .int .i64 5 by obtain ⟨f0, f1, f2, f3, f4, f5, f6, f7, f8⟩ := HF.out; exact f0 h0)
      obtain rfl := HE.out
      clear HE
      simp only [Act.put, List.toList_toArray, List.take_succ_cons, List.take_zero, List.drop_succ_cons, List.drop_zero, List.cons_append, List.nil_append, List.setIfInBounds_toArray, List.set_cons_zero, List.set_cons_succ]
      go_simp
      exact hKK _ _ ⟨_, _, _, _, _, _, _, _, _, rfl, hB, Lib.hid (by obtain ⟨f0, f1, f2, f3, f4, f5, f6, f7, f8⟩ := HF.out; exact ⟨fun _ => rfl, fun _ => rfl, f2, f3, f4, f5, f6, f7, f8⟩)⟩
    · rintro D aa wx ⟨x4, x5, x6, x7, x8, x9, x10, x11, x12, rfl, hB, HF⟩ hD hdep KK hKK
      simp only [Act.put, List.toList_toArray, List.take_succ_cons, List.take_zero, List.drop_succ_cons, List.drop_zero, List.cons_append, List.nil_append, List.setIfInBounds_toArray, List.set_cons_zero, List.set_cons_succ]
      go_simp
      exact hKK _ _ ⟨_, _, _, _, _, _, _, _, _, rfl, hB, Lib.hid (by obtain ⟨f0, f1, f2, f3, f4, f5, f6, f7, f8⟩ := HF.out; exact ⟨f0, f1, fun _ => rfl, f3, f4, f5, f6, f7, f8⟩)⟩
    · rintro D aa wx ⟨x4, x5, x6, x7, x8, x9, x10, x11, x12, rfl, hB, HF⟩ hD hdep KK hKK
      simp [Region.binds] at hdep
      have h1 : D 1 = true := by simp [hdep]
      have h2 : D 2 = true := by simp [hdep]
      have HE := Lib.hid (show x6 = .int .i64 4 ∧ x7 = .int .i64 5 by obtain ⟨f0, f1, f2, f3, f4, f5, f6, f7, f8⟩ := HF.out; exact ⟨f1 h1, f2 h2⟩)
      obtain ⟨rfl, rfl⟩ := HE.out
      clear HE
      simp only [Act.put, List.toList_toArray, List.take_succ_cons, List.take_zero, List.drop_succ_cons, List.drop_zero, List.cons_append, List.nil_append, List.setIfInBounds_toArray, List.set_cons_zero, List.set_cons_succ]
      go_simp
      exact hKK _ _ ⟨_, _, _, _, _, _, _, _, _, rfl, hB, Lib.hid (by obtain ⟨f0, f1, f2, f3, f4, f5, f6, f7, f8⟩ := HF.out; exact ⟨f0, fun _ => rfl, fun _ => rfl, fun _ => rfl, f4, f5, f6, f7, f8⟩)⟩
    · rintro D aa wx ⟨x4, x5, x6, x7, x8, x9, x10, x11, x12, rfl, hB, HF⟩ hD hdep KK hKK
      simp only [Act.put, List.toList_toArray, List.take_succ_cons, List.take_zero, List.drop_succ_cons, List.drop_zero, List.cons_append, List.nil_append, List.setIfInBounds_toArray, List.set_cons_zero, List.set_cons_succ]
      go_simp
      exact hKK _ _ ⟨_, _, _, _, _, _, _, _, _, rfl, hB, Lib.hid (by obtain ⟨f0, f1, f2, f3, f4, f5, f6, f7, f8⟩ := HF.out; exact ⟨f0, f1, f2, f3, fun _ => rfl, f5, f6, f7, f8⟩)⟩
    · rintro D aa wx ⟨x4, x5, x6, x7, x8, x9, x10, x11, x12, rfl, hB, HF⟩ hD hdep KK hKK
      simp [Region.binds] at hdep
      have h4 : D 4 = true := by simp [hdep]
      have HE := Lib.hid (show x9 = .int .i64 (m : Int) by obtain ⟨f0, f1, f2, f3, f4, f5, f6, f7, f8⟩ := HF.out; exact f4 h4)
      obtain rfl := HE.out
      clear HE
      simp only [Act.put, List.toList_toArray, List.take_succ_cons, List.take_zero, List.drop_succ_cons, List.drop_zero, List.cons_append, List.nil_append, List.setIfInBounds_toArray, List.set_cons_zero, List.set_cons_succ]
      go_simp
      exact hKK _ _ ⟨_, _, _, _, _, _, _, _, _, rfl, hB, Lib.hid (by obtain ⟨f0, f1, f2, f3, f4, f5, f6, f7, f8⟩ := HF.out; exact ⟨f0, f1, f2, f3, fun _ => rfl, fun _ => rfl, f6, f7, f8⟩)⟩
    · rintro D aa wx ⟨x4, x5, x6, x7, x8, x9, x10, x11, x12, rfl, hB, HF⟩ hD hdep KK hKK
      simp [Region.binds] at hdep
      have h5 : D 5 = true := by simp [hdep]
      have HE := Lib.hid (show x10 = .int .u64 (m : Int) by obtain ⟨f0, f1, f2, f3, f4, f5, f6, f7, f8⟩ := HF.out; exact f5 h5)
      obtain rfl := HE.out
      clear HE
      simp only [Act.put, List.toList_toArray, List.take_succ_cons, List.take_zero, List.drop_succ_cons, List.drop_zero, List.cons_append, List.nil_append, List.setIfInBounds_toArray, List.set_cons_zero, List.set_cons_succ]
      go_simp
      refine (HN.out _).mono ?_
      rintro e w5 ⟨rfl, hb⟩
      exact hKK _ _ ⟨_, _, _, _, _, _, _, _, _, rfl, below_to hB hb, Lib.hid (by obtain ⟨f0, f1, f2, f3, f4, f5, f6, f7, f8⟩ := HF.out; exact ⟨f0, f1, f2, f3, f4, fun _ => rfl, fun _ => rfl, f7, f8⟩)⟩
    · rintro D aa wx ⟨x4, x5, x6, x7, x8, x9, x10, x11, x12, rfl, hB, HF⟩ hD hdep KK hKK
      simp [Region.binds] at hdep
      have h3 : D 3 = true := by simp [hdep]
      have h6 : D 6 = true := by simp [hdep]
      have HE := Lib.hid (show x8 = .string ⟨#[80]⟩ ∧ x11 = .string (bs (numL 1 m)) by obtain ⟨f0, f1, f2, f3, f4, f5, f6, f7, f8⟩ := HF.out; exact ⟨f3 h3, f6 h6⟩)
      obtain ⟨rfl, rfl⟩ := HE.out
      clear HE
      simp only [Act.put, List.toList_toArray, List.take_succ_cons, List.take_zero, List.drop_succ_cons, List.drop_zero, List.cons_append, List.nil_append, List.setIfInBounds_toArray, List.set_cons_zero, List.set_cons_succ]
      go_simp
      exact hKK _ _ ⟨_, _, _, _, _, _, _, _, _, rfl, hB, Lib.hid (by obtain ⟨f0, f1, f2, f3, f4, f5, f6, f7, f8⟩ := HF.out; exact ⟨f0, f1, f2, fun _ => rfl, f4, f5, fun _ => rfl, fun _ => rfl, f8⟩)⟩
    · rintro D aa wx ⟨x4, x5, x6, x7, x8, x9, x10, x11, x12, rfl, hB, HF⟩ hD hdep KK hKK
      simp [Region.binds] at hdep
      have h7 : D 7 = true := by simp [hdep]
      have HE := Lib.hid (show x12 = .string (⟨#[80]⟩ ++ (bs (numL 1 m))) by obtain ⟨f0, f1, f2, f3, f4, f5, f6, f7, f8⟩ := HF.out; exact f7 h7)
      obtain rfl := HE.out
      clear HE
      simp only [Act.put, List.toList_toArray, List.take_succ_cons, List.take_zero, List.drop_succ_cons, List.drop_zero, List.cons_append, List.nil_append, List.setIfInBounds_toArray, List.set_cons_zero, List.set_cons_succ]
      go_simp
      exact hKK _ _ ⟨_, _, _, _, _, _, _, _, _, rfl, hB, Lib.hid (by obtain ⟨f0, f1, f2, f3, f4, f5, f6, f7, f8⟩ := HF.out; exact ⟨f0, f1, f2, f3, f4, f5, f6, fun _ => rfl, fun _ => rfl⟩)⟩
  rintro D aa w9 ⟨x4, x5, x6, x7, x8, x9, x10, x11, x12, rfl, hB, HF⟩ hD
  obtain e8 : x4 = .string (⟨#[80]⟩ ++ (bs (numL 1 m))) := by obtain ⟨f0, f1, f2, f3, f4, f5, f6, f7, f8⟩ := HF.out; exact f8 (hD 8 (by simp))
  subst e8
  simp only [Act.put, List.toList_toArray, List.take_succ_cons, List.take_zero, List.drop_succ_cons, List.drop_zero, List.cons_append, List.nil_append]
  clear HF hD
  go_wp2_with fail
  go_ret
  exact ⟨rfl, hB⟩
theorem beginning_any (kind t : Int) (w : World) (h1 : 1 ≤ kind) (h2 : kind ≤ 5) (ht : tenB t = true) :
    Calls Try.prog 51 #[.int .i64 kind, .int .i64 t] w fun e w' => e = .returned (.string (bs (begL kind t))) ∧ Below w.heap.size w w' := by
  have ht2 : 0 ≤ t ∧ t < 8 := by unfold tenB at ht; exact of_decide_eq_true ht
  obtain ⟨m, rfl⟩ := Int.eq_ofNat_of_zero_le ht2.1
  have hm : m < 8 := by omega
  have HR : ∀ kind : Int, bs (begL kind (m : Int)) = bs [letter kind] ++ bs (numL 1 m) := fun kind => ba_ext (by rw [toList_append]; simp only [bs_toList, begL, num1, Int.toNat_natCast]; rw [Nat.mod_eq_of_lt (by omega)]; rfl)
  have : kind = 1 ∨ kind = 2 ∨ kind = 3 ∨ kind = 4 ∨ kind = 5 := by omega
  rcases this with rfl | rfl | rfl | rfl | rfl <;> rw [HR]
  · exact beginning1 m hm w
  · exact beginning2 m hm w
  · exact beginning3 m hm w
  · exact beginning4 m hm w
  · exact beginning5 m hm w
end Go.Proofs.Yteekjndhehnpaaa
