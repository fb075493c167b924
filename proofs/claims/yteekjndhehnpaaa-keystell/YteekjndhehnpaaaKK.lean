/- Contracts: a key's Check and Make. -/
import Derived.Test.YteekjndhehnpaaaKF
import Derived.Test.YteekjndhehnpaaaKG
import Derived.Test.YteekjndhehnpaaaKH
import Derived.Test.YteekjndhehnpaaaKJ
namespace Go.Proofs.Yteekjndhehnpaaa
open Go.RowKit
set_option maxRecDepth 100000
set_option linter.unusedVariables false
set_option linter.unusedSimpArgs false
set_option maxHeartbeats 4000000
theorem empty_eq : (⟨#[]⟩ : ByteArray) = ByteArray.empty := rfl
theorem check_any (k : K) (hb : k.buc.size ≤ maxLen) (hn : k.nam.size ≤ maxLen) (w : World) : Calls Try.prog 16 #[kV k] w fun e w' => e = .returned (.int .i64 (argE (okK k))) ∧ Below w.heap.size w w' := by
  obtain ⟨kind, t, b, n, u, p⟩ := k
  simp only at hb hn
  have HT := Lib.hid (isTenant_any t)
  have HB := Lib.hid (bname_any b hb)
  have HN := Lib.hid (kname_any n hn)
  by_cases h1 : kind = 1
  · subst h1
    have e : (⟨1, t, ⟨#[]⟩, ⟨#[]⟩, 0, 0⟩ : K) = ⟨1, t, b, n, u, p⟩ ↔ (b = ByteArray.empty ∧ n = ByteArray.empty ∧ u = 0 ∧ p = 0) := by
      rw [K.mk.injEq]
      constructor
      · rintro ⟨-, -, rfl, rfl, rfl, rfl⟩; exact ⟨rfl, rfl, rfl, rfl⟩
      · rintro ⟨rfl, rfl, rfl, rfl⟩; exact ⟨rfl, rfl, rfl, rfl, rfl, rfl⟩
    refine (check1 t b n u p w (tenB t) HT _ (Lib.hid (fun w => neq29 ⟨1, t, ⟨#[]⟩, ⟨#[]⟩, 0, 0⟩ ⟨1, t, b, n, u, p⟩ w))).mono ?_
    rintro e w' ⟨rfl, h⟩
    refine ⟨?_, h⟩
    congr 3
    rw [show decide ((⟨1, t, ⟨#[]⟩, ⟨#[]⟩, 0, 0⟩ : K) = ⟨1, t, b, n, u, p⟩) = decide (b = ByteArray.empty ∧ n = ByteArray.empty ∧ u = 0 ∧ p = 0) from decide_eq_decide.2 e]
    unfold okK
    rw [Bool.eq_iff_iff]
    simp
  by_cases h2 : kind = 2
  · subst h2
    have e : (⟨2, t, b, ⟨#[]⟩, 0, 0⟩ : K) = ⟨2, t, b, n, u, p⟩ ↔ (n = ByteArray.empty ∧ u = 0 ∧ p = 0) := by
      rw [K.mk.injEq]
      constructor
      · rintro ⟨-, -, -, rfl, rfl, rfl⟩; exact ⟨rfl, rfl, rfl⟩
      · rintro ⟨rfl, rfl, rfl⟩; exact ⟨rfl, rfl, rfl, rfl, rfl, rfl⟩
    refine (check2 t b n u p w (tenB t) HT _ HB _ (Lib.hid (fun w => neq29 ⟨2, t, b, ⟨#[]⟩, 0, 0⟩ ⟨2, t, b, n, u, p⟩ w))).mono ?_
    rintro e w' ⟨rfl, h⟩
    refine ⟨?_, h⟩
    congr 3
    rw [show decide ((⟨2, t, b, ⟨#[]⟩, 0, 0⟩ : K) = ⟨2, t, b, n, u, p⟩) = decide (n = ByteArray.empty ∧ u = 0 ∧ p = 0) from decide_eq_decide.2 e]
    unfold okK
    rw [Bool.eq_iff_iff]
    simp
    exact fun _ _ _ => and_comm
  by_cases h3 : kind = 3
  · subst h3
    have e : (⟨3, t, b, n, u, 0⟩ : K) = ⟨3, t, b, n, u, p⟩ ↔ (p = 0) := by
      rw [K.mk.injEq]
      constructor
      · rintro ⟨-, -, -, -, -, rfl⟩; rfl
      · rintro rfl; exact ⟨rfl, rfl, rfl, rfl, rfl, rfl⟩
    refine (check3 t b n u p w (tenB t) HT _ HB _ HN _ (Lib.hid (fun w => neq29 ⟨3, t, b, n, u, 0⟩ ⟨3, t, b, n, u, p⟩ w))).mono ?_
    rintro e w' ⟨rfl, h⟩
    refine ⟨?_, h⟩
    congr 3
    rw [show decide ((⟨3, t, b, n, u, 0⟩ : K) = ⟨3, t, b, n, u, p⟩) = decide (p = 0) from decide_eq_decide.2 e]
    unfold okK
    rw [Bool.eq_iff_iff]
    simp
  by_cases h4 : kind = 4
  · subst h4
    have e : (⟨4, t, b, ⟨#[]⟩, u, 0⟩ : K) = ⟨4, t, b, n, u, p⟩ ↔ (n = ByteArray.empty ∧ p = 0) := by
      rw [K.mk.injEq]
      constructor
      · rintro ⟨-, -, -, rfl, -, rfl⟩; exact ⟨rfl, rfl⟩
      · rintro ⟨rfl, rfl⟩; exact ⟨rfl, rfl, rfl, rfl, rfl, rfl⟩
    refine (check4 t b n u p w (tenB t) HT _ HB _ (Lib.hid (fun w => neq29 ⟨4, t, b, ⟨#[]⟩, u, 0⟩ ⟨4, t, b, n, u, p⟩ w))).mono ?_
    rintro e w' ⟨rfl, h⟩
    refine ⟨?_, h⟩
    congr 3
    rw [show decide ((⟨4, t, b, ⟨#[]⟩, u, 0⟩ : K) = ⟨4, t, b, n, u, p⟩) = decide (n = ByteArray.empty ∧ p = 0) from decide_eq_decide.2 e]
    unfold okK
    rw [Bool.eq_iff_iff]
    simp
  by_cases h5 : kind = 5
  · subst h5
    have e : (⟨5, t, b, ⟨#[]⟩, u, p⟩ : K) = ⟨5, t, b, n, u, p⟩ ↔ (n = ByteArray.empty) := by
      rw [K.mk.injEq]
      constructor
      · rintro ⟨-, -, -, rfl, -, -⟩; rfl
      · rintro rfl; exact ⟨rfl, rfl, rfl, rfl, rfl, rfl⟩
    refine (check5 t b n u p w (tenB t) HT _ HB _ (Lib.hid (fun w => neq29 ⟨5, t, b, ⟨#[]⟩, u, p⟩ ⟨5, t, b, n, u, p⟩ w))).mono ?_
    rintro e w' ⟨rfl, h⟩
    refine ⟨?_, h⟩
    congr 3
    rw [show decide ((⟨5, t, b, ⟨#[]⟩, u, p⟩ : K) = ⟨5, t, b, n, u, p⟩) = decide (n = ByteArray.empty) from decide_eq_decide.2 e]
    unfold okK
    rw [Bool.eq_iff_iff]
    simp
  refine (check_other t b n u p w kind ⟨bne_iff_ne.2 h1, by simpa using h2, by simpa using h3, by simpa using h4, by simpa using h5⟩ (tenB t) HT _ HB _ (Lib.hid (fun w => neq29 ⟨1, t, b, ⟨#[]⟩, u, 0⟩ ⟨kind, t, b, n, u, p⟩ w))).mono ?_
  rintro e w' ⟨rfl, h⟩
  refine ⟨?_, h⟩
  congr 3
  have : okK ⟨kind, t, b, n, u, p⟩ = false := by
    unfold okK
    have : ¬ (1 ≤ kind ∧ kind ≤ 5) := by omega
    simp only [decide_eq_false this, Bool.false_and]
  rw [this]
theorem make_bad (k : K) (hb : k.buc.size ≤ maxLen) (hn : k.nam.size ≤ maxLen) (hk : okK k = false) (w : World) : Calls Try.prog 11 #[kV k] w fun e w' => e = strErr ⟨#[]⟩ 18 ∧ Below w.heap.size w w' := by
  have HC := Lib.hid (check_any k hb hn)
  rw [hk] at HC
  simp only [argE] at HC
  clear hk hb hn
  obtain ⟨kind, t, b, n, u, p⟩ := k
  unfold kV at HC ⊢
  simp only at HC ⊢
  go_enter Try.func11, Try.ntmps11
  go_wp2_with fail
  refine (HC.out _).mono ?_
  rintro e w2 ⟨rfl, hb⟩
  go_wp2_with fail
  go_ret2
  exact ⟨rfl, below_alloc_to hb⟩
theorem make1 (t : Int) (b n : ByteArray) (u : Nat) (p : Int) (A : ByteArray)  (H1 : Hid (∀ w, Calls Try.prog 51 #[.int .i64 1, .int .i64 t] w fun e w' => e = .returned (.string A) ∧ Below w.heap.size w w')) (HC : Hid (∀ w, Calls Try.prog 16 #[.agg #[.int .i64 1, .int .i64 t, .string b, .string n, .int .u64 (u : Int), .int .i64 p]] w fun e w' => e = .returned (.int .i64 0) ∧ Below w.heap.size w w')) (w : World) :
    Calls Try.prog 11 #[.agg #[.int .i64 1, .int .i64 t, .string b, .string n, .int .u64 (u : Int), .int .i64 p]] w fun e w' => e = strErr (A) 0 ∧ Below w.heap.size w w' := by
  go_enter Try.func11, Try.ntmps11
  go_wp2_with fail
  refine (HC.out _).mono ?_
  rintro e w2 ⟨rfl, hb⟩
  have S1 := Lib.hid ((Six.new w _ _ _ _ _ _ 29).below hb)
  have HB := below_alloc_to hb
  clear hb
  obtain ⟨c0, c1, c2, c3, c4, c5, f0, f1, f2, f3, f4, f5⟩ := S1.out
  clear f0 f1 f2 f3 f4 f5
  go_wp2_with fail
  refine (H1.out _).mono ?_
  rintro e w3 ⟨rfl, hb3⟩
  go_wp2_with fail
  go_ret2
  exact ⟨rfl, below_to HB hb3⟩
def InvM2 (W1 : World) (gg : Nat) (t : Int) (b : ByteArray) (n : ByteArray) (u : Nat) (p : Int) (A : ByteArray) (a0 : Act) (D : Nat → Bool) (act : Act) (w : World) : Prop :=
  ∃ x2 x3 x14 x15 x16 x17 x18 x19, act = ⟨(a0.tmps.toList.take 2 ++ x2 :: x3 :: ((a0.tmps.toList.drop 4).take 10 ++ x14 :: x15 :: x16 :: x17 :: x18 :: x19 :: a0.tmps.toList.drop 20)).toArray, []⟩ ∧ Below W1.heap.size W1 w ∧ Hid ((D 0 = true → x14 = .pointer (some ⟨gg, 1, none⟩)) ∧ (D 1 = true → x15 = .int .i64 t) ∧ (D 2 = true → x16 = .string A) ∧ (D 3 = true → x17 = .pointer (some ⟨gg, 2, none⟩)) ∧ (D 4 = true → x18 = .string b) ∧ (D 5 = true → x19 = .string (A ++ b)) ∧ (D 6 = true → x2 = .string (A ++ b)) ∧ (D 7 = true → x3 = .int .i64 0))
theorem make2 (t : Int) (b n : ByteArray) (u : Nat) (p : Int) (A : ByteArray) (hA : A.size ≤ 2) (hbs : b.size ≤ 12) (H1 : Hid (∀ w, Calls Try.prog 18 #[.int .i64 t] w fun e w' => e = .returned (.string A) ∧ Below w.heap.size w w')) (HC : Hid (∀ w, Calls Try.prog 16 #[.agg #[.int .i64 2, .int .i64 t, .string b, .string n, .int .u64 (u : Int), .int .i64 p]] w fun e w' => e = .returned (.int .i64 0) ∧ Below w.heap.size w w')) (w : World) :
    Calls Try.prog 11 #[.agg #[.int .i64 2, .int .i64 t, .string b, .string n, .int .u64 (u : Int), .int .i64 p]] w fun e w' => e = strErr (A ++ b) 0 ∧ Below w.heap.size w w' := by
  go_enter Try.func11, Try.ntmps11
  go_wp2_with fail
  refine (HC.out _).mono ?_
  rintro e w2 ⟨rfl, hb⟩
  have S1 := Lib.hid ((Six.new w _ _ _ _ _ _ 29).below hb)
  have HB := below_alloc_to hb
  clear hb
  have hj1 : ¬ 9223372036854775807 < A.size + b.size := by omega
  have hj2 : ¬ (9223372036854775807 : Int) < (A.size : Int) + (b.size : Int) := by omega
  obtain ⟨c0, c1, c2, c3, c4, c5, f0, f1, f2, f3, f4, f5⟩ := S1.out
  clear f0 f1 f2 f3 f4 f5
  go_wp2_with fail
  clear c0 c1 c2 c3 c4 c5
  refine wp_region_inv0 (InvM2 w2 w.heap.size t b n u p A) (by kernel_rfl) (by decide) ?_ ?_ ?_
  · exact ⟨_, _, _, _, _, _, _, _, rfl, (Below.refl _ _).drew, Lib.hid ⟨(by intro h; cases h), (by intro h; cases h), (by intro h; cases h), (by intro h; cases h), (by intro h; cases h), (by intro h; cases h), (by intro h; cases h), (by intro h; cases h)⟩⟩
  · refine AllI.cons ?_ (AllI.cons ?_ (AllI.cons ?_ (AllI.cons ?_ (AllI.cons ?_ (AllI.cons ?_ (AllI.cons ?_ (AllI.cons ?_ AllI.nil)))))))
    · rintro D aa wx ⟨x2, x3, x14, x15, x16, x17, x18, x19, rfl, hB, HF⟩ hD hdep KK hKK
      simp only [Act.put, List.toList_toArray, List.take_succ_cons, List.take_zero, List.drop_succ_cons, List.drop_zero, List.cons_append, List.nil_append, List.setIfInBounds_toArray, List.set_cons_zero, List.set_cons_succ]
      go_simp
      exact hKK _ _ ⟨_, _, _, _, _, _, _, _, rfl, hB, Lib.hid (by obtain ⟨f0, f1, f2, f3, f4, f5, f6, f7⟩ := HF.out; exact ⟨fun _ => rfl, f1, f2, f3, f4, f5, f6, f7⟩)⟩
    · rintro D aa wx ⟨x2, x3, x14, x15, x16, x17, x18, x19, rfl, hB, HF⟩ hD hdep KK hKK
      simp [Region.binds] at hdep
      have h0 : D 0 = true := by simp [hdep]
      have HE := Lib.hid (show x14 = .pointer (some ⟨w.heap.size, 1, none⟩) by obtain ⟨f0, f1, f2, f3, f4, f5, f6, f7⟩ := HF.out; exact f0 h0)
      obtain rfl := HE.out
      clear HE
      obtain ⟨c0, c1, c2, c3, c4, c5, f0, f1, f2, f3, f4, f5⟩ := S1.out.below hB
      clear f0 f1 f2 f3 f4 f5
      simp only [Act.put, List.toList_toArray, List.take_succ_cons, List.take_zero, List.drop_succ_cons, List.drop_zero, List.cons_append, List.nil_append, List.setIfInBounds_toArray, List.set_cons_zero, List.set_cons_succ]
      go_simp
      exact hKK _ _ ⟨_, _, _, _, _, _, _, _, rfl, hB, Lib.hid (by obtain ⟨f0, f1, f2, f3, f4, f5, f6, f7⟩ := HF.out; exact ⟨fun _ => rfl, fun _ => rfl, f2, f3, f4, f5, f6, f7⟩)⟩
    · rintro D aa wx ⟨x2, x3, x14, x15, x16, x17, x18, x19, rfl, hB, HF⟩ hD hdep KK hKK
      simp [Region.binds] at hdep
      have h1 : D 1 = true := by simp [hdep]
      have HE := Lib.hid (show x15 = .int .i64 t by obtain ⟨f0, f1, f2, f3, f4, f5, f6, f7⟩ := HF.out; exact f1 h1)
      obtain rfl := HE.out
      clear HE
      simp only [Act.put, List.toList_toArray, List.take_succ_cons, List.take_zero, List.drop_succ_cons, List.drop_zero, List.cons_append, List.nil_append, List.setIfInBounds_toArray, List.set_cons_zero, List.set_cons_succ]
      go_simp
      refine (H1.out _).mono ?_
      rintro e w5 ⟨rfl, hb⟩
      exact hKK _ _ ⟨_, _, _, _, _, _, _, _, rfl, below_to hB hb, Lib.hid (by obtain ⟨f0, f1, f2, f3, f4, f5, f6, f7⟩ := HF.out; exact ⟨f0, fun _ => rfl, fun _ => rfl, f3, f4, f5, f6, f7⟩)⟩
    · rintro D aa wx ⟨x2, x3, x14, x15, x16, x17, x18, x19, rfl, hB, HF⟩ hD hdep KK hKK
      simp only [Act.put, List.toList_toArray, List.take_succ_cons, List.take_zero, List.drop_succ_cons, List.drop_zero, List.cons_append, List.nil_append, List.setIfInBounds_toArray, List.set_cons_zero, List.set_cons_succ]
      go_simp
      exact hKK _ _ ⟨_, _, _, _, _, _, _, _, rfl, hB, Lib.hid (by obtain ⟨f0, f1, f2, f3, f4, f5, f6, f7⟩ := HF.out; exact ⟨f0, f1, f2, fun _ => rfl, f4, f5, f6, f7⟩)⟩
    · rintro D aa wx ⟨x2, x3, x14, x15, x16, x17, x18, x19, rfl, hB, HF⟩ hD hdep KK hKK
      simp [Region.binds] at hdep
      have h3 : D 3 = true := by simp [hdep]
      have HE := Lib.hid (show x17 = .pointer (some ⟨w.heap.size, 2, none⟩) by obtain ⟨f0, f1, f2, f3, f4, f5, f6, f7⟩ := HF.out; exact f3 h3)
      obtain rfl := HE.out
      clear HE
      obtain ⟨c0, c1, c2, c3, c4, c5, f0, f1, f2, f3, f4, f5⟩ := S1.out.below hB
      clear f0 f1 f2 f3 f4 f5
      simp only [Act.put, List.toList_toArray, List.take_succ_cons, List.take_zero, List.drop_succ_cons, List.drop_zero, List.cons_append, List.nil_append, List.setIfInBounds_toArray, List.set_cons_zero, List.set_cons_succ]
      go_simp
      exact hKK _ _ ⟨_, _, _, _, _, _, _, _, rfl, hB, Lib.hid (by obtain ⟨f0, f1, f2, f3, f4, f5, f6, f7⟩ := HF.out; exact ⟨f0, f1, f2, fun _ => rfl, fun _ => rfl, f5, f6, f7⟩)⟩
    · rintro D aa wx ⟨x2, x3, x14, x15, x16, x17, x18, x19, rfl, hB, HF⟩ hD hdep KK hKK
      simp [Region.binds] at hdep
      have h2 : D 2 = true := by simp [hdep]
      have h4 : D 4 = true := by simp [hdep]
      have HE := Lib.hid (show x16 = .string A ∧ x18 = .string b by obtain ⟨f0, f1, f2, f3, f4, f5, f6, f7⟩ := HF.out; exact ⟨f2 h2, f4 h4⟩)
      obtain ⟨rfl, rfl⟩ := HE.out
      clear HE
      simp only [Act.put, List.toList_toArray, List.take_succ_cons, List.take_zero, List.drop_succ_cons, List.drop_zero, List.cons_append, List.nil_append, List.setIfInBounds_toArray, List.set_cons_zero, List.set_cons_succ]
      go_simp
      exact hKK _ _ ⟨_, _, _, _, _, _, _, _, rfl, hB, Lib.hid (by obtain ⟨f0, f1, f2, f3, f4, f5, f6, f7⟩ := HF.out; exact ⟨f0, f1, fun _ => rfl, f3, fun _ => rfl, fun _ => rfl, f6, f7⟩)⟩
    · rintro D aa wx ⟨x2, x3, x14, x15, x16, x17, x18, x19, rfl, hB, HF⟩ hD hdep KK hKK
      simp [Region.binds] at hdep
      have h5 : D 5 = true := by simp [hdep]
      have HE := Lib.hid (show x19 = .string (A ++ b) by obtain ⟨f0, f1, f2, f3, f4, f5, f6, f7⟩ := HF.out; exact f5 h5)
      obtain rfl := HE.out
      clear HE
      simp only [Act.put, List.toList_toArray, List.take_succ_cons, List.take_zero, List.drop_succ_cons, List.drop_zero, List.cons_append, List.nil_append, List.setIfInBounds_toArray, List.set_cons_zero, List.set_cons_succ]
      go_simp
      exact hKK _ _ ⟨_, _, _, _, _, _, _, _, rfl, hB, Lib.hid (by obtain ⟨f0, f1, f2, f3, f4, f5, f6, f7⟩ := HF.out; exact ⟨f0, f1, f2, f3, f4, fun _ => rfl, fun _ => rfl, f7⟩)⟩
    · rintro D aa wx ⟨x2, x3, x14, x15, x16, x17, x18, x19, rfl, hB, HF⟩ hD hdep KK hKK
      simp only [Act.put, List.toList_toArray, List.take_succ_cons, List.take_zero, List.drop_succ_cons, List.drop_zero, List.cons_append, List.nil_append, List.setIfInBounds_toArray, List.set_cons_zero, List.set_cons_succ]
      go_simp
      exact hKK _ _ ⟨_, _, _, _, _, _, _, _, rfl, hB, Lib.hid (by obtain ⟨f0, f1, f2, f3, f4, f5, f6, f7⟩ := HF.out; exact ⟨f0, f1, f2, f3, f4, f5, f6, fun _ => rfl⟩)⟩
  rintro D aa w9 ⟨x2, x3, x14, x15, x16, x17, x18, x19, rfl, hB, HF⟩ hD
  obtain ⟨e6, e7⟩ : x2 = .string (A ++ b) ∧ x3 = .int .i64 0 := by obtain ⟨f0, f1, f2, f3, f4, f5, f6, f7⟩ := HF.out; exact ⟨f6 (hD 6 (by simp)), f7 (hD 7 (by simp))⟩
  subst e6 e7
  simp only [Act.put, List.toList_toArray, List.take_succ_cons, List.take_zero, List.drop_succ_cons, List.drop_zero, List.cons_append, List.nil_append]
  clear HF hD
  go_wp2_with fail
  go_ret2
  exact ⟨rfl, below_to HB hB⟩
def InvM3 (W1 : World) (gg : Nat) (t : Int) (b : ByteArray) (n : ByteArray) (u : Nat) (p : Int) (A : ByteArray) (C : ByteArray) (a0 : Act) (D : Nat → Bool) (act : Act) (w : World) : Prop :=
  ∃ x2 x3 x22 x23 x24 x25 x26 x27 x28 x29 x30 x31 x32, act = ⟨(a0.tmps.toList.take 2 ++ x2 :: x3 :: ((a0.tmps.toList.drop 4).take 18 ++ x22 :: x23 :: x24 :: x25 :: x26 :: x27 :: x28 :: x29 :: x30 :: x31 :: x32 :: a0.tmps.toList.drop 33)).toArray, []⟩ ∧ Below W1.heap.size W1 w ∧ Hid ((D 0 = true → x22 = .pointer (some ⟨gg, 1, none⟩)) ∧ (D 1 = true → x23 = .int .i64 t) ∧ (D 2 = true → x24 = .pointer (some ⟨gg, 2, none⟩)) ∧ (D 3 = true → x25 = .string b) ∧ (D 4 = true → x26 = .pointer (some ⟨gg, 3, none⟩)) ∧ (D 5 = true → x27 = .string n) ∧ (D 6 = true → x28 = .string A) ∧ (D 7 = true → x29 = .pointer (some ⟨gg, 4, none⟩)) ∧ (D 8 = true → x30 = .int .u64 (u : Int)) ∧ (D 9 = true → x31 = .string C) ∧ (D 10 = true → x32 = .string (A ++ C)) ∧ (D 11 = true → x2 = .string (A ++ C)) ∧ (D 12 = true → x3 = .int .i64 0))
theorem make3 (t : Int) (b n : ByteArray) (u : Nat) (p : Int) (A : ByteArray) (C : ByteArray) (hA : A.size ≤ 100) (hC : C.size ≤ 8) (H1 : Hid (∀ w, Calls Try.prog 22 #[.int .i64 t, .string b, .string n] w fun e w' => e = .returned (.string A) ∧ Below w.heap.size w w'))(H2 : Hid (∀ w, Calls Try.prog 48 #[.int .u64 (u : Int)] w fun e w' => e = .returned (.string C) ∧ Below w.heap.size w w')) (HC : Hid (∀ w, Calls Try.prog 16 #[.agg #[.int .i64 3, .int .i64 t, .string b, .string n, .int .u64 (u : Int), .int .i64 p]] w fun e w' => e = .returned (.int .i64 0) ∧ Below w.heap.size w w')) (w : World) :
    Calls Try.prog 11 #[.agg #[.int .i64 3, .int .i64 t, .string b, .string n, .int .u64 (u : Int), .int .i64 p]] w fun e w' => e = strErr (A ++ C) 0 ∧ Below w.heap.size w w' := by
  go_enter Try.func11, Try.ntmps11
  go_wp2_with fail
  refine (HC.out _).mono ?_
  rintro e w2 ⟨rfl, hb⟩
  have S1 := Lib.hid ((Six.new w _ _ _ _ _ _ 29).below hb)
  have HB := below_alloc_to hb
  clear hb
  have hj1 : ¬ 9223372036854775807 < A.size + C.size := by omega
  have hj2 : ¬ (9223372036854775807 : Int) < (A.size : Int) + (C.size : Int) := by omega
  obtain ⟨c0, c1, c2, c3, c4, c5, f0, f1, f2, f3, f4, f5⟩ := S1.out
  clear f0 f1 f2 f3 f4 f5
  go_wp2_with fail
  clear c0 c1 c2 c3 c4 c5
  refine wp_region_inv0 (InvM3 w2 w.heap.size t b n u p A C) (by kernel_rfl) (by decide) ?_ ?_ ?_
  · exact ⟨_, _, _, _, _, _, _, _, _, _, _, _, _, rfl, (Below.refl _ _).drew, Lib.hid ⟨(by intro h; cases h), (by intro h; cases h), (by intro h; cases h), (by intro h; cases h), (by intro h; cases h), (by intro h; cases h), (by intro h; cases h), (by intro h; cases h), (by intro h; cases h), (by intro h; cases h), (by intro h; cases h), (by intro h; cases h), (by intro h; cases h)⟩⟩
  · refine AllI.cons ?_ (AllI.cons ?_ (AllI.cons ?_ (AllI.cons ?_ (AllI.cons ?_ (AllI.cons ?_ (AllI.cons ?_ (AllI.cons ?_ (AllI.cons ?_ (AllI.cons ?_ (AllI.cons ?_ (AllI.cons ?_ (AllI.cons ?_ AllI.nil))))))))))))
    · rintro D aa wx ⟨x2, x3, x22, x23, x24, x25, x26, x27, x28, x29, x30, x31, x32, rfl, hB, HF⟩ hD hdep KK hKK
      simp only [Act.put, List.toList_toArray, List.take_succ_cons, List.take_zero, List.drop_succ_cons, List.drop_zero, List.cons_append, List.nil_append, List.setIfInBounds_toArray, List.set_cons_zero, List.set_cons_succ]
      go_simp
      exact hKK _ _ ⟨_, _, _, _, _, _, _, _, _, _, _, _, _, rfl, hB, Lib.hid (by obtain ⟨f0, f1, f2, f3, f4, f5, f6, f7, f8, f9, f10, f11, f12⟩ := HF.out; exact ⟨fun _ => rfl, f1, f2, f3, f4, f5, f6, f7, f8, f9, f10, f11, f12⟩)⟩
    · rintro D aa wx ⟨x2, x3, x22, x23, x24, x25, x26, x27, x28, x29, x30, x31, x32, rfl, hB, HF⟩ hD hdep KK hKK
      simp [Region.binds] at hdep
      have h0 : D 0 = true := by simp [hdep]
      have HE := Lib.hid (show x22 = .pointer (some ⟨w.heap.size, 1, none⟩) by obtain ⟨f0, f1, f2, f3, f4, f5, f6, f7, f8, f9, f10, f11, f12⟩ := HF.out; exact f0 h0)
      obtain rfl := HE.out
      clear HE
      obtain ⟨c0, c1, c2, c3, c4, c5, f0, f1, f2, f3, f4, f5⟩ := S1.out.below hB
      clear f0 f1 f2 f3 f4 f5
      simp only [Act.put, List.toList_toArray, List.take_succ_cons, List.take_zero, List.drop_succ_cons, List.drop_zero, List.cons_append, List.nil_append, List.setIfInBounds_toArray, List.set_cons_zero, List.set_cons_succ]
      go_simp
      exact hKK _ _ ⟨_, _, _, _, _, _, _, _, _, _, _, _, _, rfl, hB, Lib.hid (by obtain ⟨f0, f1, f2, f3, f4, f5, f6, f7, f8, f9, f10, f11, f12⟩ := HF.out; exact ⟨fun _ => rfl, fun _ => rfl, f2, f3, f4, f5, f6, f7, f8, f9, f10, f11, f12⟩)⟩
    · rintro D aa wx ⟨x2, x3, x22, x23, x24, x25, x26, x27, x28, x29, x30, x31, x32, rfl, hB, HF⟩ hD hdep KK hKK
      simp only [Act.put, List.toList_toArray, List.take_succ_cons, List.take_zero, List.drop_succ_cons, List.drop_zero, List.cons_append, List.nil_append, List.setIfInBounds_toArray, List.set_cons_zero, List.set_cons_succ]
      go_simp
      exact hKK _ _ ⟨_, _, _, _, _, _, _, _, _, _, _, _, _, rfl, hB, Lib.hid (by obtain ⟨f0, f1, f2, f3, f4, f5, f6, f7, f8, f9, f10, f11, f12⟩ := HF.out; exact ⟨f0, f1, fun _ => rfl, f3, f4, f5, f6, f7, f8, f9, f10, f11, f12⟩)⟩
    · rintro D aa wx ⟨x2, x3, x22, x23, x24, x25, x26, x27, x28, x29, x30, x31, x32, rfl, hB, HF⟩ hD hdep KK hKK
      simp [Region.binds] at hdep
      have h2 : D 2 = true := by simp [hdep]
      have HE := Lib.hid (show x24 = .pointer (some ⟨w.heap.size, 2, none⟩) by obtain ⟨f0, f1, f2, f3, f4, f5, f6, f7, f8, f9, f10, f11, f12⟩ := HF.out; exact f2 h2)
      obtain rfl := HE.out
      clear HE
      obtain ⟨c0, c1, c2, c3, c4, c5, f0, f1, f2, f3, f4, f5⟩ := S1.out.below hB
      clear f0 f1 f2 f3 f4 f5
      simp only [Act.put, List.toList_toArray, List.take_succ_cons, List.take_zero, List.drop_succ_cons, List.drop_zero, List.cons_append, List.nil_append, List.setIfInBounds_toArray, List.set_cons_zero, List.set_cons_succ]
      go_simp
      exact hKK _ _ ⟨_, _, _, _, _, _, _, _, _, _, _, _, _, rfl, hB, Lib.hid (by obtain ⟨f0, f1, f2, f3, f4, f5, f6, f7, f8, f9, f10, f11, f12⟩ := HF.out; exact ⟨f0, f1, fun _ => rfl, fun _ => rfl, f4, f5, f6, f7, f8, f9, f10, f11, f12⟩)⟩
    · rintro D aa wx ⟨x2, x3, x22, x23, x24, x25, x26, x27, x28, x29, x30, x31, x32, rfl, hB, HF⟩ hD hdep KK hKK
      simp only [Act.put, List.toList_toArray, List.take_succ_cons, List.take_zero, List.drop_succ_cons, List.drop_zero, List.cons_append, List.nil_append, List.setIfInBounds_toArray, List.set_cons_zero, List.set_cons_succ]
      go_simp
      exact hKK _ _ ⟨_, _, _, _, _, _, _, _, _, _, _, _, _, rfl, hB, Lib.hid (by obtain ⟨f0, f1, f2, f3, f4, f5, f6, f7, f8, f9, f10, f11, f12⟩ := HF.out; exact ⟨f0, f1, f2, f3, fun _ => rfl, f5, f6, f7, f8, f9, f10, f11, f12⟩)⟩
    · rintro D aa wx ⟨x2, x3, x22, x23, x24, x25, x26, x27, x28, x29, x30, x31, x32, rfl, hB, HF⟩ hD hdep KK hKK
      simp [Region.binds] at hdep
      have h4 : D 4 = true := by simp [hdep]
      have HE := Lib.hid (show x26 = .pointer (some ⟨w.heap.size, 3, none⟩) by obtain ⟨f0, f1, f2, f3, f4, f5, f6, f7, f8, f9, f10, f11, f12⟩ := HF.out; exact f4 h4)
      obtain rfl := HE.out
      clear HE
      obtain ⟨c0, c1, c2, c3, c4, c5, f0, f1, f2, f3, f4, f5⟩ := S1.out.below hB
      clear f0 f1 f2 f3 f4 f5
      simp only [Act.put, List.toList_toArray, List.take_succ_cons, List.take_zero, List.drop_succ_cons, List.drop_zero, List.cons_append, List.nil_append, List.setIfInBounds_toArray, List.set_cons_zero, List.set_cons_succ]
      go_simp
      exact hKK _ _ ⟨_, _, _, _, _, _, _, _, _, _, _, _, _, rfl, hB, Lib.hid (by obtain ⟨f0, f1, f2, f3, f4, f5, f6, f7, f8, f9, f10, f11, f12⟩ := HF.out; exact ⟨f0, f1, f2, f3, fun _ => rfl, fun _ => rfl, f6, f7, f8, f9, f10, f11, f12⟩)⟩
    · rintro D aa wx ⟨x2, x3, x22, x23, x24, x25, x26, x27, x28, x29, x30, x31, x32, rfl, hB, HF⟩ hD hdep KK hKK
      simp [Region.binds] at hdep
      have h1 : D 1 = true := by simp [hdep]
      have h3 : D 3 = true := by simp [hdep]
      have h5 : D 5 = true := by simp [hdep]
      have HE := Lib.hid (show x23 = .int .i64 t ∧ x25 = .string b ∧ x27 = .string n by obtain ⟨f0, f1, f2, f3, f4, f5, f6, f7, f8, f9, f10, f11, f12⟩ := HF.out; exact ⟨f1 h1, f3 h3, f5 h5⟩)
      obtain ⟨rfl, rfl, rfl⟩ := HE.out
      clear HE
      simp only [Act.put, List.toList_toArray, List.take_succ_cons, List.take_zero, List.drop_succ_cons, List.drop_zero, List.cons_append, List.nil_append, List.setIfInBounds_toArray, List.set_cons_zero, List.set_cons_succ]
      go_simp
      refine (H1.out _).mono ?_
      rintro e w5 ⟨rfl, hb⟩
      exact hKK _ _ ⟨_, _, _, _, _, _, _, _, _, _, _, _, _, rfl, below_to hB hb, Lib.hid (by obtain ⟨f0, f1, f2, f3, f4, f5, f6, f7, f8, f9, f10, f11, f12⟩ := HF.out; exact ⟨f0, fun _ => rfl, f2, fun _ => rfl, f4, fun _ => rfl, fun _ => rfl, f7, f8, f9, f10, f11, f12⟩)⟩
    · rintro D aa wx ⟨x2, x3, x22, x23, x24, x25, x26, x27, x28, x29, x30, x31, x32, rfl, hB, HF⟩ hD hdep KK hKK
      simp only [Act.put, List.toList_toArray, List.take_succ_cons, List.take_zero, List.drop_succ_cons, List.drop_zero, List.cons_append, List.nil_append, List.setIfInBounds_toArray, List.set_cons_zero, List.set_cons_succ]
      go_simp
      exact hKK _ _ ⟨_, _, _, _, _, _, _, _, _, _, _, _, _, rfl, hB, Lib.hid (by obtain ⟨f0, f1, f2, f3, f4, f5, f6, f7, f8, f9, f10, f11, f12⟩ := HF.out; exact ⟨f0, f1, f2, f3, f4, f5, f6, fun _ => rfl, f8, f9, f10, f11, f12⟩)⟩
    · rintro D aa wx ⟨x2, x3, x22, x23, x24, x25, x26, x27, x28, x29, x30, x31, x32, rfl, hB, HF⟩ hD hdep KK hKK
      simp [Region.binds] at hdep
      have h7 : D 7 = true := by simp [hdep]
      have HE := Lib.hid (show x29 = .pointer (some ⟨w.heap.size, 4, none⟩) by obtain ⟨f0, f1, f2, f3, f4, f5, f6, f7, f8, f9, f10, f11, f12⟩ := HF.out; exact f7 h7)
      obtain rfl := HE.out
      clear HE
      obtain ⟨c0, c1, c2, c3, c4, c5, f0, f1, f2, f3, f4, f5⟩ := S1.out.below hB
      clear f0 f1 f2 f3 f4 f5
      simp only [Act.put, List.toList_toArray, List.take_succ_cons, List.take_zero, List.drop_succ_cons, List.drop_zero, List.cons_append, List.nil_append, List.setIfInBounds_toArray, List.set_cons_zero, List.set_cons_succ]
      go_simp
      exact hKK _ _ ⟨_, _, _, _, _, _, _, _, _, _, _, _, _, rfl, hB, Lib.hid (by obtain ⟨f0, f1, f2, f3, f4, f5, f6, f7, f8, f9, f10, f11, f12⟩ := HF.out; exact ⟨f0, f1, f2, f3, f4, f5, f6, fun _ => rfl, fun _ => rfl, f9, f10, f11, f12⟩)⟩
    · rintro D aa wx ⟨x2, x3, x22, x23, x24, x25, x26, x27, x28, x29, x30, x31, x32, rfl, hB, HF⟩ hD hdep KK hKK
      simp [Region.binds] at hdep
      have h8 : D 8 = true := by simp [hdep]
      have HE := Lib.hid (show x30 = .int .u64 (u : Int) by obtain ⟨f0, f1, f2, f3, f4, f5, f6, f7, f8, f9, f10, f11, f12⟩ := HF.out; exact f8 h8)
      obtain rfl := HE.out
      clear HE
      simp only [Act.put, List.toList_toArray, List.take_succ_cons, List.take_zero, List.drop_succ_cons, List.drop_zero, List.cons_append, List.nil_append, List.setIfInBounds_toArray, List.set_cons_zero, List.set_cons_succ]
      go_simp
      refine (H2.out _).mono ?_
      rintro e w5 ⟨rfl, hb⟩
      exact hKK _ _ ⟨_, _, _, _, _, _, _, _, _, _, _, _, _, rfl, below_to hB hb, Lib.hid (by obtain ⟨f0, f1, f2, f3, f4, f5, f6, f7, f8, f9, f10, f11, f12⟩ := HF.out; exact ⟨f0, f1, f2, f3, f4, f5, f6, f7, fun _ => rfl, fun _ => rfl, f10, f11, f12⟩)⟩
    · rintro D aa wx ⟨x2, x3, x22, x23, x24, x25, x26, x27, x28, x29, x30, x31, x32, rfl, hB, HF⟩ hD hdep KK hKK
      simp [Region.binds] at hdep
      have h6 : D 6 = true := by simp [hdep]
      have h9 : D 9 = true := by simp [hdep]
      have HE := Lib.hid (show x28 = .string A ∧ x31 = .string C by obtain ⟨f0, f1, f2, f3, f4, f5, f6, f7, f8, f9, f10, f11, f12⟩ := HF.out; exact ⟨f6 h6, f9 h9⟩)
      obtain ⟨rfl, rfl⟩ := HE.out
      clear HE
      simp only [Act.put, List.toList_toArray, List.take_succ_cons, List.take_zero, List.drop_succ_cons, List.drop_zero, List.cons_append, List.nil_append, List.setIfInBounds_toArray, List.set_cons_zero, List.set_cons_succ]
      go_simp
      exact hKK _ _ ⟨_, _, _, _, _, _, _, _, _, _, _, _, _, rfl, hB, Lib.hid (by obtain ⟨f0, f1, f2, f3, f4, f5, f6, f7, f8, f9, f10, f11, f12⟩ := HF.out; exact ⟨f0, f1, f2, f3, f4, f5, fun _ => rfl, f7, f8, fun _ => rfl, fun _ => rfl, f11, f12⟩)⟩
    · rintro D aa wx ⟨x2, x3, x22, x23, x24, x25, x26, x27, x28, x29, x30, x31, x32, rfl, hB, HF⟩ hD hdep KK hKK
      simp [Region.binds] at hdep
      have h10 : D 10 = true := by simp [hdep]
      have HE := Lib.hid (show x32 = .string (A ++ C) by obtain ⟨f0, f1, f2, f3, f4, f5, f6, f7, f8, f9, f10, f11, f12⟩ := HF.out; exact f10 h10)
      obtain rfl := HE.out
      clear HE
      simp only [Act.put, List.toList_toArray, List.take_succ_cons, List.take_zero, List.drop_succ_cons, List.drop_zero, List.cons_append, List.nil_append, List.setIfInBounds_toArray, List.set_cons_zero, List.set_cons_succ]
      go_simp
      exact hKK _ _ ⟨_, _, _, _, _, _, _, _, _, _, _, _, _, rfl, hB, Lib.hid (by obtain ⟨f0, f1, f2, f3, f4, f5, f6, f7, f8, f9, f10, f11, f12⟩ := HF.out; exact ⟨f0, f1, f2, f3, f4, f5, f6, f7, f8, f9, fun _ => rfl, fun _ => rfl, f12⟩)⟩
    · rintro D aa wx ⟨x2, x3, x22, x23, x24, x25, x26, x27, x28, x29, x30, x31, x32, rfl, hB, HF⟩ hD hdep KK hKK
      simp only [Act.put, List.toList_toArray, List.take_succ_cons, List.take_zero, List.drop_succ_cons, List.drop_zero, List.cons_append, List.nil_append, List.setIfInBounds_toArray, List.set_cons_zero, List.set_cons_succ]
      go_simp
      exact hKK _ _ ⟨_, _, _, _, _, _, _, _, _, _, _, _, _, rfl, hB, Lib.hid (by obtain ⟨f0, f1, f2, f3, f4, f5, f6, f7, f8, f9, f10, f11, f12⟩ := HF.out; exact ⟨f0, f1, f2, f3, f4, f5, f6, f7, f8, f9, f10, f11, fun _ => rfl⟩)⟩
  rintro D aa w9 ⟨x2, x3, x22, x23, x24, x25, x26, x27, x28, x29, x30, x31, x32, rfl, hB, HF⟩ hD
  obtain ⟨e11, e12⟩ : x2 = .string (A ++ C) ∧ x3 = .int .i64 0 := by obtain ⟨f0, f1, f2, f3, f4, f5, f6, f7, f8, f9, f10, f11, f12⟩ := HF.out; exact ⟨f11 (hD 11 (by simp)), f12 (hD 12 (by simp))⟩
  subst e11 e12
  simp only [Act.put, List.toList_toArray, List.take_succ_cons, List.take_zero, List.drop_succ_cons, List.drop_zero, List.cons_append, List.nil_append]
  clear HF hD
  go_wp2_with fail
  go_ret2
  exact ⟨rfl, below_to HB hB⟩
def InvM4 (W1 : World) (gg : Nat) (t : Int) (b : ByteArray) (n : ByteArray) (u : Nat) (p : Int) (A : ByteArray) (C : ByteArray) (a0 : Act) (D : Nat → Bool) (act : Act) (w : World) : Prop :=
  ∃ x2 x3 x35 x36 x37 x38 x39 x40 x41 x42 x43, act = ⟨(a0.tmps.toList.take 2 ++ x2 :: x3 :: ((a0.tmps.toList.drop 4).take 31 ++ x35 :: x36 :: x37 :: x38 :: x39 :: x40 :: x41 :: x42 :: x43 :: a0.tmps.toList.drop 44)).toArray, []⟩ ∧ Below W1.heap.size W1 w ∧ Hid ((D 0 = true → x35 = .pointer (some ⟨gg, 1, none⟩)) ∧ (D 1 = true → x36 = .int .i64 t) ∧ (D 2 = true → x37 = .pointer (some ⟨gg, 2, none⟩)) ∧ (D 3 = true → x38 = .string b) ∧ (D 4 = true → x39 = .string A) ∧ (D 5 = true → x40 = .pointer (some ⟨gg, 4, none⟩)) ∧ (D 6 = true → x41 = .int .u64 (u : Int)) ∧ (D 7 = true → x42 = .string C) ∧ (D 8 = true → x43 = .string (A ++ C)) ∧ (D 9 = true → x2 = .string (A ++ C)) ∧ (D 10 = true → x3 = .int .i64 0))
theorem make4 (t : Int) (b n : ByteArray) (u : Nat) (p : Int) (A : ByteArray) (C : ByteArray) (hA : A.size ≤ 100) (hC : C.size ≤ 8) (H1 : Hid (∀ w, Calls Try.prog 20 #[.int .i64 4, .int .i64 t, .string b] w fun e w' => e = .returned (.string A) ∧ Below w.heap.size w w'))(H2 : Hid (∀ w, Calls Try.prog 49 #[.int .u64 (u : Int)] w fun e w' => e = .returned (.string C) ∧ Below w.heap.size w w')) (HC : Hid (∀ w, Calls Try.prog 16 #[.agg #[.int .i64 4, .int .i64 t, .string b, .string n, .int .u64 (u : Int), .int .i64 p]] w fun e w' => e = .returned (.int .i64 0) ∧ Below w.heap.size w w')) (w : World) :
    Calls Try.prog 11 #[.agg #[.int .i64 4, .int .i64 t, .string b, .string n, .int .u64 (u : Int), .int .i64 p]] w fun e w' => e = strErr (A ++ C) 0 ∧ Below w.heap.size w w' := by
  go_enter Try.func11, Try.ntmps11
  go_wp2_with fail
  refine (HC.out _).mono ?_
  rintro e w2 ⟨rfl, hb⟩
  have S1 := Lib.hid ((Six.new w _ _ _ _ _ _ 29).below hb)
  have HB := below_alloc_to hb
  clear hb
  have hj1 : ¬ 9223372036854775807 < A.size + C.size := by omega
  have hj2 : ¬ (9223372036854775807 : Int) < (A.size : Int) + (C.size : Int) := by omega
  obtain ⟨c0, c1, c2, c3, c4, c5, f0, f1, f2, f3, f4, f5⟩ := S1.out
  clear f0 f1 f2 f3 f4 f5
  go_wp2_with fail
  clear c0 c1 c2 c3 c4 c5
  refine wp_region_inv0 (InvM4 w2 w.heap.size t b n u p A C) (by kernel_rfl) (by decide) ?_ ?_ ?_
  · exact ⟨_, _, _, _, _, _, _, _, _, _, _, rfl, (Below.refl _ _).drew, Lib.hid ⟨(by intro h; cases h), (by intro h; cases h), (by intro h; cases h), (by intro h; cases h), (by intro h; cases h), (by intro h; cases h), (by intro h; cases h), (by intro h; cases h), (by intro h; cases h), (by intro h; cases h), (by intro h; cases h)⟩⟩
  · refine AllI.cons ?_ (AllI.cons ?_ (AllI.cons ?_ (AllI.cons ?_ (AllI.cons ?_ (AllI.cons ?_ (AllI.cons ?_ (AllI.cons ?_ (AllI.cons ?_ (AllI.cons ?_ (AllI.cons ?_ AllI.nil))))))))))
    · rintro D aa wx ⟨x2, x3, x35, x36, x37, x38, x39, x40, x41, x42, x43, rfl, hB, HF⟩ hD hdep KK hKK
      simp only [Act.put, List.toList_toArray, List.take_succ_cons, List.take_zero, List.drop_succ_cons, List.drop_zero, List.cons_append, List.nil_append, List.setIfInBounds_toArray, List.set_cons_zero, List.set_cons_succ]
      go_simp
      exact hKK _ _ ⟨_, _, _, _, _, _, _, _, _, _, _, rfl, hB, Lib.hid (by obtain ⟨f0, f1, f2, f3, f4, f5, f6, f7, f8, f9, f10⟩ := HF.out; exact ⟨fun _ => rfl, f1, f2, f3, f4, f5, f6, f7, f8, f9, f10⟩)⟩
    · rintro D aa wx ⟨x2, x3, x35, x36, x37, x38, x39, x40, x41, x42, x43, rfl, hB, HF⟩ hD hdep KK hKK
      simp [Region.binds] at hdep
      have h0 : D 0 = true := by simp [hdep]
      have HE := Lib.hid (show x35 = .pointer (some ⟨w.heap.size, 1, none⟩) by obtain ⟨f0, f1, f2, f3, f4, f5, f6, f7, f8, f9, f10⟩ := HF.out; exact f0 h0)
      obtain rfl := HE.out
      clear HE
      obtain ⟨c0, c1, c2, c3, c4, c5, f0, f1, f2, f3, f4, f5⟩ := S1.out.below hB
      clear f0 f1 f2 f3 f4 f5
      simp only [Act.put, List.toList_toArray, List.take_succ_cons, List.take_zero, List.drop_succ_cons, List.drop_zero, List.cons_append, List.nil_append, List.setIfInBounds_toArray, List.set_cons_zero, List.set_cons_succ]
      go_simp
      exact hKK _ _ ⟨_, _, _, _, _, _, _, _, _, _, _, rfl, hB, Lib.hid (by obtain ⟨f0, f1, f2, f3, f4, f5, f6, f7, f8, f9, f10⟩ := HF.out; exact ⟨fun _ => rfl, fun _ => rfl, f2, f3, f4, f5, f6, f7, f8, f9, f10⟩)⟩
    · rintro D aa wx ⟨x2, x3, x35, x36, x37, x38, x39, x40, x41, x42, x43, rfl, hB, HF⟩ hD hdep KK hKK
      simp only [Act.put, List.toList_toArray, List.take_succ_cons, List.take_zero, List.drop_succ_cons, List.drop_zero, List.cons_append, List.nil_append, List.setIfInBounds_toArray, List.set_cons_zero, List.set_cons_succ]
      go_simp
      exact hKK _ _ ⟨_, _, _, _, _, _, _, _, _, _, _, rfl, hB, Lib.hid (by obtain ⟨f0, f1, f2, f3, f4, f5, f6, f7, f8, f9, f10⟩ := HF.out; exact ⟨f0, f1, fun _ => rfl, f3, f4, f5, f6, f7, f8, f9, f10⟩)⟩
    · rintro D aa wx ⟨x2, x3, x35, x36, x37, x38, x39, x40, x41, x42, x43, rfl, hB, HF⟩ hD hdep KK hKK
      simp [Region.binds] at hdep
      have h2 : D 2 = true := by simp [hdep]
      have HE := Lib.hid (show x37 = .pointer (some ⟨w.heap.size, 2, none⟩) by obtain ⟨f0, f1, f2, f3, f4, f5, f6, f7, f8, f9, f10⟩ := HF.out; exact f2 h2)
      obtain rfl := HE.out
      clear HE
      obtain ⟨c0, c1, c2, c3, c4, c5, f0, f1, f2, f3, f4, f5⟩ := S1.out.below hB
      clear f0 f1 f2 f3 f4 f5
      simp only [Act.put, List.toList_toArray, List.take_succ_cons, List.take_zero, List.drop_succ_cons, List.drop_zero, List.cons_append, List.nil_append, List.setIfInBounds_toArray, List.set_cons_zero, List.set_cons_succ]
      go_simp
      exact hKK _ _ ⟨_, _, _, _, _, _, _, _, _, _, _, rfl, hB, Lib.hid (by obtain ⟨f0, f1, f2, f3, f4, f5, f6, f7, f8, f9, f10⟩ := HF.out; exact ⟨f0, f1, fun _ => rfl, fun _ => rfl, f4, f5, f6, f7, f8, f9, f10⟩)⟩
    · rintro D aa wx ⟨x2, x3, x35, x36, x37, x38, x39, x40, x41, x42, x43, rfl, hB, HF⟩ hD hdep KK hKK
      simp [Region.binds] at hdep
      have h1 : D 1 = true := by simp [hdep]
      have h3 : D 3 = true := by simp [hdep]
      have HE := Lib.hid (show x36 = .int .i64 t ∧ x38 = .string b by obtain ⟨f0, f1, f2, f3, f4, f5, f6, f7, f8, f9, f10⟩ := HF.out; exact ⟨f1 h1, f3 h3⟩)
      obtain ⟨rfl, rfl⟩ := HE.out
      clear HE
      simp only [Act.put, List.toList_toArray, List.take_succ_cons, List.take_zero, List.drop_succ_cons, List.drop_zero, List.cons_append, List.nil_append, List.setIfInBounds_toArray, List.set_cons_zero, List.set_cons_succ]
      go_simp
      refine (H1.out _).mono ?_
      rintro e w5 ⟨rfl, hb⟩
      exact hKK _ _ ⟨_, _, _, _, _, _, _, _, _, _, _, rfl, below_to hB hb, Lib.hid (by obtain ⟨f0, f1, f2, f3, f4, f5, f6, f7, f8, f9, f10⟩ := HF.out; exact ⟨f0, fun _ => rfl, f2, fun _ => rfl, fun _ => rfl, f5, f6, f7, f8, f9, f10⟩)⟩
    · rintro D aa wx ⟨x2, x3, x35, x36, x37, x38, x39, x40, x41, x42, x43, rfl, hB, HF⟩ hD hdep KK hKK
      simp only [Act.put, List.toList_toArray, List.take_succ_cons, List.take_zero, List.drop_succ_cons, List.drop_zero, List.cons_append, List.nil_append, List.setIfInBounds_toArray, List.set_cons_zero, List.set_cons_succ]
      go_simp
      exact hKK _ _ ⟨_, _, _, _, _, _, _, _, _, _, _, rfl, hB, Lib.hid (by obtain ⟨f0, f1, f2, f3, f4, f5, f6, f7, f8, f9, f10⟩ := HF.out; exact ⟨f0, f1, f2, f3, f4, fun _ => rfl, f6, f7, f8, f9, f10⟩)⟩
    · rintro D aa wx ⟨x2, x3, x35, x36, x37, x38, x39, x40, x41, x42, x43, rfl, hB, HF⟩ hD hdep KK hKK
      simp [Region.binds] at hdep
      have h5 : D 5 = true := by simp [hdep]
      have HE := Lib.hid (show x40 = .pointer (some ⟨w.heap.size, 4, none⟩) by obtain ⟨f0, f1, f2, f3, f4, f5, f6, f7, f8, f9, f10⟩ := HF.out; exact f5 h5)
      obtain rfl := HE.out
      clear HE
      obtain ⟨c0, c1, c2, c3, c4, c5, f0, f1, f2, f3, f4, f5⟩ := S1.out.below hB
      clear f0 f1 f2 f3 f4 f5
      simp only [Act.put, List.toList_toArray, List.take_succ_cons, List.take_zero, List.drop_succ_cons, List.drop_zero, List.cons_append, List.nil_append, List.setIfInBounds_toArray, List.set_cons_zero, List.set_cons_succ]
      go_simp
      exact hKK _ _ ⟨_, _, _, _, _, _, _, _, _, _, _, rfl, hB, Lib.hid (by obtain ⟨f0, f1, f2, f3, f4, f5, f6, f7, f8, f9, f10⟩ := HF.out; exact ⟨f0, f1, f2, f3, f4, fun _ => rfl, fun _ => rfl, f7, f8, f9, f10⟩)⟩
    · rintro D aa wx ⟨x2, x3, x35, x36, x37, x38, x39, x40, x41, x42, x43, rfl, hB, HF⟩ hD hdep KK hKK
      simp [Region.binds] at hdep
      have h6 : D 6 = true := by simp [hdep]
      have HE := Lib.hid (show x41 = .int .u64 (u : Int) by obtain ⟨f0, f1, f2, f3, f4, f5, f6, f7, f8, f9, f10⟩ := HF.out; exact f6 h6)
      obtain rfl := HE.out
      clear HE
      simp only [Act.put, List.toList_toArray, List.take_succ_cons, List.take_zero, List.drop_succ_cons, List.drop_zero, List.cons_append, List.nil_append, List.setIfInBounds_toArray, List.set_cons_zero, List.set_cons_succ]
      go_simp
      refine (H2.out _).mono ?_
      rintro e w5 ⟨rfl, hb⟩
      exact hKK _ _ ⟨_, _, _, _, _, _, _, _, _, _, _, rfl, below_to hB hb, Lib.hid (by obtain ⟨f0, f1, f2, f3, f4, f5, f6, f7, f8, f9, f10⟩ := HF.out; exact ⟨f0, f1, f2, f3, f4, f5, fun _ => rfl, fun _ => rfl, f8, f9, f10⟩)⟩
    · rintro D aa wx ⟨x2, x3, x35, x36, x37, x38, x39, x40, x41, x42, x43, rfl, hB, HF⟩ hD hdep KK hKK
      simp [Region.binds] at hdep
      have h4 : D 4 = true := by simp [hdep]
      have h7 : D 7 = true := by simp [hdep]
      have HE := Lib.hid (show x39 = .string A ∧ x42 = .string C by obtain ⟨f0, f1, f2, f3, f4, f5, f6, f7, f8, f9, f10⟩ := HF.out; exact ⟨f4 h4, f7 h7⟩)
      obtain ⟨rfl, rfl⟩ := HE.out
      clear HE
      simp only [Act.put, List.toList_toArray, List.take_succ_cons, List.take_zero, List.drop_succ_cons, List.drop_zero, List.cons_append, List.nil_append, List.setIfInBounds_toArray, List.set_cons_zero, List.set_cons_succ]
      go_simp
      exact hKK _ _ ⟨_, _, _, _, _, _, _, _, _, _, _, rfl, hB, Lib.hid (by obtain ⟨f0, f1, f2, f3, f4, f5, f6, f7, f8, f9, f10⟩ := HF.out; exact ⟨f0, f1, f2, f3, fun _ => rfl, f5, f6, fun _ => rfl, fun _ => rfl, f9, f10⟩)⟩
    · rintro D aa wx ⟨x2, x3, x35, x36, x37, x38, x39, x40, x41, x42, x43, rfl, hB, HF⟩ hD hdep KK hKK
      simp [Region.binds] at hdep
      have h8 : D 8 = true := by simp [hdep]
      have HE := Lib.hid (show x43 = .string (A ++ C) by obtain ⟨f0, f1, f2, f3, f4, f5, f6, f7, f8, f9, f10⟩ := HF.out; exact f8 h8)
      obtain rfl := HE.out
      clear HE
      simp only [Act.put, List.toList_toArray, List.take_succ_cons, List.take_zero, List.drop_succ_cons, List.drop_zero, List.cons_append, List.nil_append, List.setIfInBounds_toArray, List.set_cons_zero, List.set_cons_succ]
      go_simp
      exact hKK _ _ ⟨_, _, _, _, _, _, _, _, _, _, _, rfl, hB, Lib.hid (by obtain ⟨f0, f1, f2, f3, f4, f5, f6, f7, f8, f9, f10⟩ := HF.out; exact ⟨f0, f1, f2, f3, f4, f5, f6, f7, fun _ => rfl, fun _ => rfl, f10⟩)⟩
    · rintro D aa wx ⟨x2, x3, x35, x36, x37, x38, x39, x40, x41, x42, x43, rfl, hB, HF⟩ hD hdep KK hKK
      simp only [Act.put, List.toList_toArray, List.take_succ_cons, List.take_zero, List.drop_succ_cons, List.drop_zero, List.cons_append, List.nil_append, List.setIfInBounds_toArray, List.set_cons_zero, List.set_cons_succ]
      go_simp
      exact hKK _ _ ⟨_, _, _, _, _, _, _, _, _, _, _, rfl, hB, Lib.hid (by obtain ⟨f0, f1, f2, f3, f4, f5, f6, f7, f8, f9, f10⟩ := HF.out; exact ⟨f0, f1, f2, f3, f4, f5, f6, f7, f8, f9, fun _ => rfl⟩)⟩
  rintro D aa w9 ⟨x2, x3, x35, x36, x37, x38, x39, x40, x41, x42, x43, rfl, hB, HF⟩ hD
  obtain ⟨e9, e10⟩ : x2 = .string (A ++ C) ∧ x3 = .int .i64 0 := by obtain ⟨f0, f1, f2, f3, f4, f5, f6, f7, f8, f9, f10⟩ := HF.out; exact ⟨f9 (hD 9 (by simp)), f10 (hD 10 (by simp))⟩
  subst e9 e10
  simp only [Act.put, List.toList_toArray, List.take_succ_cons, List.take_zero, List.drop_succ_cons, List.drop_zero, List.cons_append, List.nil_append]
  clear HF hD
  go_wp2_with fail
  go_ret2
  exact ⟨rfl, below_to HB hB⟩
def InvM5 (W1 : World) (gg : Nat) (t : Int) (b : ByteArray) (n : ByteArray) (u : Nat) (p : Nat) (A : ByteArray) (C : ByteArray) (a0 : Act) (D : Nat → Bool) (act : Act) (w : World) : Prop :=
  ∃ x2 x3 x46 x47 x48 x49 x50 x51 x52 x53 x54 x55 x56 x57, act = ⟨(a0.tmps.toList.take 2 ++ x2 :: x3 :: ((a0.tmps.toList.drop 4).take 42 ++ x46 :: x47 :: x48 :: x49 :: x50 :: x51 :: x52 :: x53 :: x54 :: x55 :: x56 :: x57 :: a0.tmps.toList.drop 58)).toArray, []⟩ ∧ Below W1.heap.size W1 w ∧ Hid ((D 0 = true → x46 = .pointer (some ⟨gg, 1, none⟩)) ∧ (D 1 = true → x47 = .int .i64 t) ∧ (D 2 = true → x48 = .pointer (some ⟨gg, 2, none⟩)) ∧ (D 3 = true → x49 = .string b) ∧ (D 4 = true → x50 = .pointer (some ⟨gg, 4, none⟩)) ∧ (D 5 = true → x51 = .int .u64 (u : Int)) ∧ (D 6 = true → x52 = .string A) ∧ (D 7 = true → x53 = .pointer (some ⟨gg, 5, none⟩)) ∧ (D 8 = true → x54 = .int .i64 (p : Int)) ∧ (D 9 = true → x55 = .int .u64 (p : Int)) ∧ (D 10 = true → x56 = .string C) ∧ (D 11 = true → x57 = .string (A ++ C)) ∧ (D 12 = true → x2 = .string (A ++ C)) ∧ (D 13 = true → x3 = .int .i64 0))
theorem make5 (t : Int) (b n : ByteArray) (u : Nat) (p : Nat) (A : ByteArray) (C : ByteArray) (hA : A.size ≤ 100) (hC : C.size ≤ 1) (hp : p ≤ 16) (H1 : Hid (∀ w, Calls Try.prog 24 #[.int .i64 t, .string b, .int .u64 (u : Int)] w fun e w' => e = .returned (.string A) ∧ Below w.heap.size w w'))(H2 : Hid (∀ w, Calls Try.prog 50 #[.int .i64 1, .int .u64 (p : Int)] w fun e w' => e = .returned (.string C) ∧ Below w.heap.size w w')) (HC : Hid (∀ w, Calls Try.prog 16 #[.agg #[.int .i64 5, .int .i64 t, .string b, .string n, .int .u64 (u : Int), .int .i64 (p : Int)]] w fun e w' => e = .returned (.int .i64 0) ∧ Below w.heap.size w w')) (w : World) :
    Calls Try.prog 11 #[.agg #[.int .i64 5, .int .i64 t, .string b, .string n, .int .u64 (u : Int), .int .i64 (p : Int)]] w fun e w' => e = strErr (A ++ C) 0 ∧ Below w.heap.size w w' := by
  have hw : IntKind.u64.wrap (p : Int) = (p : Int) := by rw [IntKind.wrap_u64]; omega
  go_enter Try.func11, Try.ntmps11
  go_wp2_with fail
  refine (HC.out _).mono ?_
  rintro e w2 ⟨rfl, hb⟩
  have S1 := Lib.hid ((Six.new w _ _ _ _ _ _ 29).below hb)
  have HB := below_alloc_to hb
  clear hb
  have hj1 : ¬ 9223372036854775807 < A.size + C.size := by omega
  have hj2 : ¬ (9223372036854775807 : Int) < (A.size : Int) + (C.size : Int) := by omega
  obtain ⟨c0, c1, c2, c3, c4, c5, f0, f1, f2, f3, f4, f5⟩ := S1.out
  clear f0 f1 f2 f3 f4 f5
  go_wp2_with fail
  clear c0 c1 c2 c3 c4 c5
  refine wp_region_inv0 (InvM5 w2 w.heap.size t b n u p A C) (by kernel_rfl) (by decide) ?_ ?_ ?_
  · exact ⟨_, _, _, _, _, _, _, _, _, _, _, _, _, _, rfl, (Below.refl _ _).drew, Lib.hid ⟨(by intro h; cases h), (by intro h; cases h), (by intro h; cases h), (by intro h; cases h), (by intro h; cases h), (by intro h; cases h), (by intro h; cases h), (by intro h; cases h), (by intro h; cases h), (by intro h; cases h), (by intro h; cases h), (by intro h; cases h), (by intro h; cases h), (by intro h; cases h)⟩⟩
  · refine AllI.cons ?_ (AllI.cons ?_ (AllI.cons ?_ (AllI.cons ?_ (AllI.cons ?_ (AllI.cons ?_ (AllI.cons ?_ (AllI.cons ?_ (AllI.cons ?_ (AllI.cons ?_ (AllI.cons ?_ (AllI.cons ?_ (AllI.cons ?_ (AllI.cons ?_ AllI.nil)))))))))))))
    · rintro D aa wx ⟨x2, x3, x46, x47, x48, x49, x50, x51, x52, x53, x54, x55, x56, x57, rfl, hB, HF⟩ hD hdep KK hKK
      simp only [Act.put, List.toList_toArray, List.take_succ_cons, List.take_zero, List.drop_succ_cons, List.drop_zero, List.cons_append, List.nil_append, List.setIfInBounds_toArray, List.set_cons_zero, List.set_cons_succ]
      go_simp
      exact hKK _ _ ⟨_, _, _, _, _, _, _, _, _, _, _, _, _, _, rfl, hB, Lib.hid (by obtain ⟨f0, f1, f2, f3, f4, f5, f6, f7, f8, f9, f10, f11, f12, f13⟩ := HF.out; exact ⟨fun _ => rfl, f1, f2, f3, f4, f5, f6, f7, f8, f9, f10, f11, f12, f13⟩)⟩
    · rintro D aa wx ⟨x2, x3, x46, x47, x48, x49, x50, x51, x52, x53, x54, x55, x56, x57, rfl, hB, HF⟩ hD hdep KK hKK
      simp [Region.binds] at hdep
      have h0 : D 0 = true := by simp [hdep]
      have HE := Lib.hid (show x46 = .pointer (some ⟨w.heap.size, 1, none⟩) by obtain ⟨f0, f1, f2, f3, f4, f5, f6, f7, f8, f9, f10, f11, f12, f13⟩ := HF.out; exact f0 h0)
      obtain rfl := HE.out
      clear HE
      obtain ⟨c0, c1, c2, c3, c4, c5, f0, f1, f2, f3, f4, f5⟩ := S1.out.below hB
      clear f0 f1 f2 f3 f4 f5
      simp only [Act.put, List.toList_toArray, List.take_succ_cons, List.take_zero, List.drop_succ_cons, List.drop_zero, List.cons_append, List.nil_append, List.setIfInBounds_toArray, List.set_cons_zero, List.set_cons_succ]
      go_simp
      exact hKK _ _ ⟨_, _, _, _, _, _, _, _, _, _, _, _, _, _, rfl, hB, Lib.hid (by obtain ⟨f0, f1, f2, f3, f4, f5, f6, f7, f8, f9, f10, f11, f12, f13⟩ := HF.out; exact ⟨fun _ => rfl, fun _ => rfl, f2, f3, f4, f5, f6, f7, f8, f9, f10, f11, f12, f13⟩)⟩
    · rintro D aa wx ⟨x2, x3, x46, x47, x48, x49, x50, x51, x52, x53, x54, x55, x56, x57, rfl, hB, HF⟩ hD hdep KK hKK
      simp only [Act.put, List.toList_toArray, List.take_succ_cons, List.take_zero, List.drop_succ_cons, List.drop_zero, List.cons_append, List.nil_append, List.setIfInBounds_toArray, List.set_cons_zero, List.set_cons_succ]
      go_simp
      exact hKK _ _ ⟨_, _, _, _, _, _, _, _, _, _, _, _, _, _, rfl, hB, Lib.hid (by obtain ⟨f0, f1, f2, f3, f4, f5, f6, f7, f8, f9, f10, f11, f12, f13⟩ := HF.out; exact ⟨f0, f1, fun _ => rfl, f3, f4, f5, f6, f7, f8, f9, f10, f11, f12, f13⟩)⟩
    · rintro D aa wx ⟨x2, x3, x46, x47, x48, x49, x50, x51, x52, x53, x54, x55, x56, x57, rfl, hB, HF⟩ hD hdep KK hKK
      simp [Region.binds] at hdep
      have h2 : D 2 = true := by simp [hdep]
      have HE := Lib.hid (show x48 = .pointer (some ⟨w.heap.size, 2, none⟩) by obtain ⟨f0, f1, f2, f3, f4, f5, f6, f7, f8, f9, f10, f11, f12, f13⟩ := HF.out; exact f2 h2)
      obtain rfl := HE.out
      clear HE
      obtain ⟨c0, c1, c2, c3, c4, c5, f0, f1, f2, f3, f4, f5⟩ := S1.out.below hB
      clear f0 f1 f2 f3 f4 f5
      simp only [Act.put, List.toList_toArray, List.take_succ_cons, List.take_zero, List.drop_succ_cons, List.drop_zero, List.cons_append, List.nil_append, List.setIfInBounds_toArray, List.set_cons_zero, List.set_cons_succ]
      go_simp
      exact hKK _ _ ⟨_, _, _, _, _, _, _, _, _, _, _, _, _, _, rfl, hB, Lib.hid (by obtain ⟨f0, f1, f2, f3, f4, f5, f6, f7, f8, f9, f10, f11, f12, f13⟩ := HF.out; exact ⟨f0, f1, fun _ => rfl, fun _ => rfl, f4, f5, f6, f7, f8, f9, f10, f11, f12, f13⟩)⟩
    · rintro D aa wx ⟨x2, x3, x46, x47, x48, x49, x50, x51, x52, x53, x54, x55, x56, x57, rfl, hB, HF⟩ hD hdep KK hKK
      simp only [Act.put, List.toList_toArray, List.take_succ_cons, List.take_zero, List.drop_succ_cons, List.drop_zero, List.cons_append, List.nil_append, List.setIfInBounds_toArray, List.set_cons_zero, List.set_cons_succ]
      go_simp
      exact hKK _ _ ⟨_, _, _, _, _, _, _, _, _, _, _, _, _, _, rfl, hB, Lib.hid (by obtain ⟨f0, f1, f2, f3, f4, f5, f6, f7, f8, f9, f10, f11, f12, f13⟩ := HF.out; exact ⟨f0, f1, f2, f3, fun _ => rfl, f5, f6, f7, f8, f9, f10, f11, f12, f13⟩)⟩
    · rintro D aa wx ⟨x2, x3, x46, x47, x48, x49, x50, x51, x52, x53, x54, x55, x56, x57, rfl, hB, HF⟩ hD hdep KK hKK
      simp [Region.binds] at hdep
      have h4 : D 4 = true := by simp [hdep]
      have HE := Lib.hid (show x50 = .pointer (some ⟨w.heap.size, 4, none⟩) by obtain ⟨f0, f1, f2, f3, f4, f5, f6, f7, f8, f9, f10, f11, f12, f13⟩ := HF.out; exact f4 h4)
      obtain rfl := HE.out
      clear HE
      obtain ⟨c0, c1, c2, c3, c4, c5, f0, f1, f2, f3, f4, f5⟩ := S1.out.below hB
      clear f0 f1 f2 f3 f4 f5
      simp only [Act.put, List.toList_toArray, List.take_succ_cons, List.take_zero, List.drop_succ_cons, List.drop_zero, List.cons_append, List.nil_append, List.setIfInBounds_toArray, List.set_cons_zero, List.set_cons_succ]
      go_simp
      exact hKK _ _ ⟨_, _, _, _, _, _, _, _, _, _, _, _, _, _, rfl, hB, Lib.hid (by obtain ⟨f0, f1, f2, f3, f4, f5, f6, f7, f8, f9, f10, f11, f12, f13⟩ := HF.out; exact ⟨f0, f1, f2, f3, fun _ => rfl, fun _ => rfl, f6, f7, f8, f9, f10, f11, f12, f13⟩)⟩
    · rintro D aa wx ⟨x2, x3, x46, x47, x48, x49, x50, x51, x52, x53, x54, x55, x56, x57, rfl, hB, HF⟩ hD hdep KK hKK
      simp [Region.binds] at hdep
      have h1 : D 1 = true := by simp [hdep]
      have h3 : D 3 = true := by simp [hdep]
      have h5 : D 5 = true := by simp [hdep]
      have HE := Lib.hid (show x47 = .int .i64 t ∧ x49 = .string b ∧ x51 = .int .u64 (u : Int) by obtain ⟨f0, f1, f2, f3, f4, f5, f6, f7, f8, f9, f10, f11, f12, f13⟩ := HF.out; exact ⟨f1 h1, f3 h3, f5 h5⟩)
      obtain ⟨rfl, rfl, rfl⟩ := HE.out
      clear HE
      simp only [Act.put, List.toList_toArray, List.take_succ_cons, List.take_zero, List.drop_succ_cons, List.drop_zero, List.cons_append, List.nil_append, List.setIfInBounds_toArray, List.set_cons_zero, List.set_cons_succ]
      go_simp
      refine (H1.out _).mono ?_
      rintro e w5 ⟨rfl, hb⟩
      exact hKK _ _ ⟨_, _, _, _, _, _, _, _, _, _, _, _, _, _, rfl, below_to hB hb, Lib.hid (by obtain ⟨f0, f1, f2, f3, f4, f5, f6, f7, f8, f9, f10, f11, f12, f13⟩ := HF.out; exact ⟨f0, fun _ => rfl, f2, fun _ => rfl, f4, fun _ => rfl, fun _ => rfl, f7, f8, f9, f10, f11, f12, f13⟩)⟩
    · rintro D aa wx ⟨x2, x3, x46, x47, x48, x49, x50, x51, x52, x53, x54, x55, x56, x57, rfl, hB, HF⟩ hD hdep KK hKK
      simp only [Act.put, List.toList_toArray, List.take_succ_cons, List.take_zero, List.drop_succ_cons, List.drop_zero, List.cons_append, List.nil_append, List.setIfInBounds_toArray, List.set_cons_zero, List.set_cons_succ]
      go_simp
      exact hKK _ _ ⟨_, _, _, _, _, _, _, _, _, _, _, _, _, _, rfl, hB, Lib.hid (by obtain ⟨f0, f1, f2, f3, f4, f5, f6, f7, f8, f9, f10, f11, f12, f13⟩ := HF.out; exact ⟨f0, f1, f2, f3, f4, f5, f6, fun _ => rfl, f8, f9, f10, f11, f12, f13⟩)⟩
    · rintro D aa wx ⟨x2, x3, x46, x47, x48, x49, x50, x51, x52, x53, x54, x55, x56, x57, rfl, hB, HF⟩ hD hdep KK hKK
      simp [Region.binds] at hdep
      have h7 : D 7 = true := by simp [hdep]
      have HE := Lib.hid (show x53 = .pointer (some ⟨w.heap.size, 5, none⟩) by obtain ⟨f0, f1, f2, f3, f4, f5, f6, f7, f8, f9, f10, f11, f12, f13⟩ := HF.out; exact f7 h7)
      obtain rfl := HE.out
      clear HE
      obtain ⟨c0, c1, c2, c3, c4, c5, f0, f1, f2, f3, f4, f5⟩ := S1.out.below hB
      clear f0 f1 f2 f3 f4 f5
      simp only [Act.put, List.toList_toArray, List.take_succ_cons, List.take_zero, List.drop_succ_cons, List.drop_zero, List.cons_append, List.nil_append, List.setIfInBounds_toArray, List.set_cons_zero, List.set_cons_succ]
      go_simp
      exact hKK _ _ ⟨_, _, _, _, _, _, _, _, _, _, _, _, _, _, rfl, hB, Lib.hid (by obtain ⟨f0, f1, f2, f3, f4, f5, f6, f7, f8, f9, f10, f11, f12, f13⟩ := HF.out; exact ⟨f0, f1, f2, f3, f4, f5, f6, fun _ => rfl, fun _ => rfl, f9, f10, f11, f12, f13⟩)⟩
    · rintro D aa wx ⟨x2, x3, x46, x47, x48, x49, x50, x51, x52, x53, x54, x55, x56, x57, rfl, hB, HF⟩ hD hdep KK hKK
      simp [Region.binds] at hdep
      have h8 : D 8 = true := by simp [hdep]
      have HE := Lib.hid (show x54 = .int .i64 (p : Int) by obtain ⟨f0, f1, f2, f3, f4, f5, f6, f7, f8, f9, f10, f11, f12, f13⟩ := HF.out; exact f8 h8)
      obtain rfl := HE.out
      clear HE
      simp only [Act.put, List.toList_toArray, List.take_succ_cons, List.take_zero, List.drop_succ_cons, List.drop_zero, List.cons_append, List.nil_append, List.setIfInBounds_toArray, List.set_cons_zero, List.set_cons_succ]
      go_simp
      exact hKK _ _ ⟨_, _, _, _, _, _, _, _, _, _, _, _, _, _, rfl, hB, Lib.hid (by obtain ⟨f0, f1, f2, f3, f4, f5, f6, f7, f8, f9, f10, f11, f12, f13⟩ := HF.out; exact ⟨f0, f1, f2, f3, f4, f5, f6, f7, fun _ => rfl, fun _ => rfl, f10, f11, f12, f13⟩)⟩
    · rintro D aa wx ⟨x2, x3, x46, x47, x48, x49, x50, x51, x52, x53, x54, x55, x56, x57, rfl, hB, HF⟩ hD hdep KK hKK
      simp [Region.binds] at hdep
      have h9 : D 9 = true := by simp [hdep]
      have HE := Lib.hid (show x55 = .int .u64 (p : Int) by obtain ⟨f0, f1, f2, f3, f4, f5, f6, f7, f8, f9, f10, f11, f12, f13⟩ := HF.out; exact f9 h9)
      obtain rfl := HE.out
      clear HE
      simp only [Act.put, List.toList_toArray, List.take_succ_cons, List.take_zero, List.drop_succ_cons, List.drop_zero, List.cons_append, List.nil_append, List.setIfInBounds_toArray, List.set_cons_zero, List.set_cons_succ]
      go_simp
      refine (H2.out _).mono ?_
      rintro e w5 ⟨rfl, hb⟩
      exact hKK _ _ ⟨_, _, _, _, _, _, _, _, _, _, _, _, _, _, rfl, below_to hB hb, Lib.hid (by obtain ⟨f0, f1, f2, f3, f4, f5, f6, f7, f8, f9, f10, f11, f12, f13⟩ := HF.out; exact ⟨f0, f1, f2, f3, f4, f5, f6, f7, f8, fun _ => rfl, fun _ => rfl, f11, f12, f13⟩)⟩
    · rintro D aa wx ⟨x2, x3, x46, x47, x48, x49, x50, x51, x52, x53, x54, x55, x56, x57, rfl, hB, HF⟩ hD hdep KK hKK
      simp [Region.binds] at hdep
      have h6 : D 6 = true := by simp [hdep]
      have h10 : D 10 = true := by simp [hdep]
      have HE := Lib.hid (show x52 = .string A ∧ x56 = .string C by obtain ⟨f0, f1, f2, f3, f4, f5, f6, f7, f8, f9, f10, f11, f12, f13⟩ := HF.out; exact ⟨f6 h6, f10 h10⟩)
      obtain ⟨rfl, rfl⟩ := HE.out
      clear HE
      simp only [Act.put, List.toList_toArray, List.take_succ_cons, List.take_zero, List.drop_succ_cons, List.drop_zero, List.cons_append, List.nil_append, List.setIfInBounds_toArray, List.set_cons_zero, List.set_cons_succ]
      go_simp
      exact hKK _ _ ⟨_, _, _, _, _, _, _, _, _, _, _, _, _, _, rfl, hB, Lib.hid (by obtain ⟨f0, f1, f2, f3, f4, f5, f6, f7, f8, f9, f10, f11, f12, f13⟩ := HF.out; exact ⟨f0, f1, f2, f3, f4, f5, fun _ => rfl, f7, f8, f9, fun _ => rfl, fun _ => rfl, f12, f13⟩)⟩
    · rintro D aa wx ⟨x2, x3, x46, x47, x48, x49, x50, x51, x52, x53, x54, x55, x56, x57, rfl, hB, HF⟩ hD hdep KK hKK
      simp [Region.binds] at hdep
      have h11 : D 11 = true := by simp [hdep]
      have HE := Lib.hid (show x57 = .string (A ++ C) by obtain ⟨f0, f1, f2, f3, f4, f5, f6, f7, f8, f9, f10, f11, f12, f13⟩ := HF.out; exact f11 h11)
      obtain rfl := HE.out
      clear HE
      simp only [Act.put, List.toList_toArray, List.take_succ_cons, List.take_zero, List.drop_succ_cons, List.drop_zero, List.cons_append, List.nil_append, List.setIfInBounds_toArray, List.set_cons_zero, List.set_cons_succ]
      go_simp
      exact hKK _ _ ⟨_, _, _, _, _, _, _, _, _, _, _, _, _, _, rfl, hB, Lib.hid (by obtain ⟨f0, f1, f2, f3, f4, f5, f6, f7, f8, f9, f10, f11, f12, f13⟩ := HF.out; exact ⟨f0, f1, f2, f3, f4, f5, f6, f7, f8, f9, f10, fun _ => rfl, fun _ => rfl, f13⟩)⟩
    · rintro D aa wx ⟨x2, x3, x46, x47, x48, x49, x50, x51, x52, x53, x54, x55, x56, x57, rfl, hB, HF⟩ hD hdep KK hKK
      simp only [Act.put, List.toList_toArray, List.take_succ_cons, List.take_zero, List.drop_succ_cons, List.drop_zero, List.cons_append, List.nil_append, List.setIfInBounds_toArray, List.set_cons_zero, List.set_cons_succ]
      go_simp
      exact hKK _ _ ⟨_, _, _, _, _, _, _, _, _, _, _, _, _, _, rfl, hB, Lib.hid (by obtain ⟨f0, f1, f2, f3, f4, f5, f6, f7, f8, f9, f10, f11, f12, f13⟩ := HF.out; exact ⟨f0, f1, f2, f3, f4, f5, f6, f7, f8, f9, f10, f11, f12, fun _ => rfl⟩)⟩
  rintro D aa w9 ⟨x2, x3, x46, x47, x48, x49, x50, x51, x52, x53, x54, x55, x56, x57, rfl, hB, HF⟩ hD
  obtain ⟨e12, e13⟩ : x2 = .string (A ++ C) ∧ x3 = .int .i64 0 := by obtain ⟨f0, f1, f2, f3, f4, f5, f6, f7, f8, f9, f10, f11, f12, f13⟩ := HF.out; exact ⟨f12 (hD 12 (by simp)), f13 (hD 13 (by simp))⟩
  subst e12 e13
  simp only [Act.put, List.toList_toArray, List.take_succ_cons, List.take_zero, List.drop_succ_cons, List.drop_zero, List.cons_append, List.nil_append]
  clear HF hD
  go_wp2_with fail
  go_ret2
  exact ⟨rfl, below_to HB hB⟩
end Go.Proofs.Yteekjndhehnpaaa
