/- Contracts: record's small functions. -/
import Derived.Test.YteekjndhehnpaaaSA
import Derived.Test.YteekjndhehnpaaaSJ
import Derived.Test.YteekjndhehnpaaaKI
namespace Go.Proofs.Yteekjndhehnpaaa
open Go.RowKit
set_option maxRecDepth 100000
set_option linter.unusedVariables false
set_option linter.unusedSimpArgs false
set_option maxHeartbeats 4000000
/-- Block g holds two values. -/
structure Duo (w : World) (g : Nat) (a b : Value) : Prop where
  c0 : w.cell? ⟨g, 0, none⟩ = some a
  c1 : w.cell? ⟨g, 1, none⟩ = some b
theorem Duo.lt {w : World} {g : Nat} {a b : Value} (h : Duo w g a b) : g < w.heap.size := World.block_lt_of_cell? w _ h.c0
theorem Duo.below {w w1 : World} {g : Nat} {a b : Value} (h : Duo w g a b) (B : Below w.heap.size w w1) : Duo w1 g a b :=
  ⟨(B.cell (p := ⟨g, 0, none⟩) h.lt).trans h.c0, (B.cell (p := ⟨g, 1, none⟩) h.lt).trans h.c1⟩
theorem Duo.new (w : World) (a b : Value) (T : TypeId) : Duo (w.alloc (.cells #[a, b] T)) w.heap.size a b := ⟨by simp [go_sem], by simp [go_sem]⟩
/-- A number as eight bytes' worth. -/
def u64N (x : Int) : Nat := (IntKind.u64.wrap x).toNat
theorem u64N_wrap (x : Int) : IntKind.u64.wrap x = (u64N x : Int) := by unfold u64N; rw [IntKind.wrap_u64]; omega
theorem u64N_lt (x : Int) : u64N x < 18446744073709551616 := by unfold u64N; rw [IntKind.wrap_u64]; omega
/-- Two numbers as bytes, so many each. -/
def pairS (k : Nat) (x y : Int) : ByteArray := bs (numL k (u64N x)) ++ bs (numL k (u64N y))
theorem pairS_size (k : Nat) (x y : Int) : (pairS k x y).size = k + k := by unfold pairS; rw [ByteArray.size_append, bs_size, bs_size, numL_length, numL_length]
theorem cond_fact {D : Nat → Bool} {f V : Nat → Value} {j : Nat} {v : Value} (h : ∀ k, D k = true → f k = V k) (hv : v = V j) : ∀ k, D k = true → cond (Nat.beq k j) v (f k) = V k := by
  intro k hk
  by_cases e : k = j
  · subst e; rw [Nat.beq_refl]; exact hv
  · have : Nat.beq k j = false := by
      cases h2 : Nat.beq k j with
      | false => rfl
      | true => exact absurd (Nat.eq_of_beq_eq_true h2) e
    rw [this]; exact h k hk
theorem upd_fact {D : Nat → Bool} {f V : Nat → Value} {i : Nat} {v : Value} (h : ∀ k, D k = true → f k = V k) (hv : v = V i) : ∀ k, upd D i k = true → cond (Nat.beq k i) v (f k) = V k := by
  intro k hk
  by_cases e : k = i
  · subst e; rw [Nat.beq_refl]; exact hv
  · have : Nat.beq k i = false := by
      cases h2 : Nat.beq k i with
      | false => rfl
      | true => exact absurd (Nat.eq_of_beq_eq_true h2) e
    rw [this]
    refine h k ?_
    unfold upd at hk
    rwa [if_neg e] at hk
def InvS65_v (g : Nat) (x : Int) (y : Int) (a : Nat) (b : Nat) (A : ByteArray) (B : ByteArray) (i : Nat) : Value := ([.pointer (some ⟨g, 0, none⟩), .int .i64 x, .int .u64 (a : Int), .string A, .pointer (some ⟨g, 1, none⟩), .int .i64 y, .int .u64 (b : Int), .string B, .string (A ++ B), .string (A ++ B)] : List Value).getD i undef
def InvS65 (W1 : World) (g : Nat) (x : Int) (y : Int) (a : Nat) (b : Nat) (A : ByteArray) (B : ByteArray) (a0 : Act) (D : Nat → Bool) (act : Act) (w : World) : Prop :=
  ∃ f : Nat → Value, act = ⟨(a0.tmps.toList.take 2 ++ f 9 :: f 0 :: f 1 :: f 2 :: f 3 :: f 4 :: f 5 :: f 6 :: f 7 :: f 8 :: a0.tmps.toList.drop 12).toArray, []⟩ ∧ Below W1.heap.size W1 w ∧ Hid (∀ i, D i = true → f i = InvS65_v g x y a b A B i)
theorem count_main (x y : Int) (a b : Nat) (A B : ByteArray) (ha : IntKind.u64.wrap x = (a : Int)) (hb : IntKind.u64.wrap y = (b : Int)) (hA : A.size ≤ 8) (hB8 : B.size ≤ 8)
    (H1 : Hid (∀ w, Calls Try.prog 50 #[.int .i64 8, .int .u64 (a : Int)] w fun e w' => e = .returned (.string A) ∧ Below w.heap.size w w')) (H2 : Hid (∀ w, Calls Try.prog 50 #[.int .i64 8, .int .u64 (b : Int)] w fun e w' => e = .returned (.string B) ∧ Below w.heap.size w w')) (w : World) :
    Calls Try.prog 65 #[.agg #[.int .i64 x, .int .i64 y]] w fun e w' => e = .returned (.string (A ++ B)) ∧ Below w.heap.size w w' := by
  have q1 : ¬ 9223372036854775807 < A.size + B.size := by omega
  have q2 : ¬ (9223372036854775807 : Int) < (A.size : Int) + (B.size : Int) := by omega
  go_enter Try.func65, Try.ntmps65
  go_wp2_with fail
  have S := Lib.hid (Duo.new w (.int .i64 x) (.int .i64 y) 47)
  have BB := below_box w (.cells #[.int .i64 x, .int .i64 y] 47)
  refine wp_region_inv0 (InvS65 (w.alloc (.cells #[.int .i64 x, .int .i64 y] 47)) w.heap.size x y a b A B) (by kernel_rfl) (by decide) ?_ ?_ ?_
  · exact ⟨fun zz => cond (Nat.beq zz 9) (.string ⟨#[]⟩) (undef), rfl, (Below.refl _ _).drew, Lib.hid (fun i h => by cases h)⟩
  · refine AllI.cons ?_ (AllI.cons ?_ (AllI.cons ?_ (AllI.cons ?_ (AllI.cons ?_ (AllI.cons ?_ (AllI.cons ?_ (AllI.cons ?_ (AllI.cons ?_ (AllI.cons ?_ AllI.nil)))))))))
    · intro D aa wx HI hD hdep KK hKK
      obtain ⟨f, rfl, hB, HF⟩ := HI
      simp only [Act.put, List.toList_toArray, List.take_succ_cons, List.take_zero, List.drop_succ_cons, List.drop_zero, List.cons_append, List.nil_append, List.setIfInBounds_toArray, List.set_cons_zero, List.set_cons_succ]
      go_simp
      exact hKK _ _ ⟨fun zz => cond (Nat.beq zz 0) (.pointer (some ⟨w.heap.size, 0, none⟩)) (f zz), rfl, hB, Lib.hid (upd_fact (i := 0) (v := .pointer (some ⟨w.heap.size, 0, none⟩)) HF.out rfl)⟩
    · intro D aa wx HI hD hdep KK hKK
      obtain ⟨f, rfl, hB, HF⟩ := HI
      simp [Region.binds] at hdep
      have E0 : f 0 = .pointer (some ⟨w.heap.size, 0, none⟩) := HF.out 0 (by simp [hdep])
      obtain ⟨c0, c1⟩ := S.out.below hB
      simp only [E0, Act.put, List.toList_toArray, List.take_succ_cons, List.take_zero, List.drop_succ_cons, List.drop_zero, List.cons_append, List.nil_append, List.setIfInBounds_toArray, List.set_cons_zero, List.set_cons_succ]
      go_simp
      exact hKK _ _ ⟨fun zz => cond (Nat.beq zz 1) (.int .i64 x) (cond (Nat.beq zz 0) (.pointer (some ⟨w.heap.size, 0, none⟩)) (f zz)), rfl, hB, Lib.hid (upd_fact (i := 1) (v := .int .i64 x) (cond_fact (j := 0) (v := .pointer (some ⟨w.heap.size, 0, none⟩)) HF.out rfl) rfl)⟩
    · intro D aa wx HI hD hdep KK hKK
      obtain ⟨f, rfl, hB, HF⟩ := HI
      simp [Region.binds] at hdep
      have E1 : f 1 = .int .i64 x := HF.out 1 (by simp [hdep])
      simp only [E1, Act.put, List.toList_toArray, List.take_succ_cons, List.take_zero, List.drop_succ_cons, List.drop_zero, List.cons_append, List.nil_append, List.setIfInBounds_toArray, List.set_cons_zero, List.set_cons_succ]
      go_simp
      exact hKK _ _ ⟨fun zz => cond (Nat.beq zz 2) (.int .u64 (a : Int)) (cond (Nat.beq zz 1) (.int .i64 x) (f zz)), rfl, hB, Lib.hid (upd_fact (i := 2) (v := .int .u64 (a : Int)) (cond_fact (j := 1) (v := .int .i64 x) HF.out rfl) rfl)⟩
    · intro D aa wx HI hD hdep KK hKK
      obtain ⟨f, rfl, hB, HF⟩ := HI
      simp [Region.binds] at hdep
      have E2 : f 2 = .int .u64 (a : Int) := HF.out 2 (by simp [hdep])
      simp only [E2, Act.put, List.toList_toArray, List.take_succ_cons, List.take_zero, List.drop_succ_cons, List.drop_zero, List.cons_append, List.nil_append, List.setIfInBounds_toArray, List.set_cons_zero, List.set_cons_succ]
      go_simp
      refine (H1.out _).mono ?_
      rintro e w5 ⟨rfl, hb⟩
      exact hKK _ _ ⟨fun zz => cond (Nat.beq zz 3) (.string A) (cond (Nat.beq zz 2) (.int .u64 (a : Int)) (f zz)), rfl, below_to hB hb, Lib.hid (upd_fact (i := 3) (v := .string A) (cond_fact (j := 2) (v := .int .u64 (a : Int)) HF.out rfl) rfl)⟩
    · intro D aa wx HI hD hdep KK hKK
      obtain ⟨f, rfl, hB, HF⟩ := HI
      simp only [Act.put, List.toList_toArray, List.take_succ_cons, List.take_zero, List.drop_succ_cons, List.drop_zero, List.cons_append, List.nil_append, List.setIfInBounds_toArray, List.set_cons_zero, List.set_cons_succ]
      go_simp
      exact hKK _ _ ⟨fun zz => cond (Nat.beq zz 4) (.pointer (some ⟨w.heap.size, 1, none⟩)) (f zz), rfl, hB, Lib.hid (upd_fact (i := 4) (v := .pointer (some ⟨w.heap.size, 1, none⟩)) HF.out rfl)⟩
    · intro D aa wx HI hD hdep KK hKK
      obtain ⟨f, rfl, hB, HF⟩ := HI
      simp [Region.binds] at hdep
      have E4 : f 4 = .pointer (some ⟨w.heap.size, 1, none⟩) := HF.out 4 (by simp [hdep])
      obtain ⟨c0, c1⟩ := S.out.below hB
      simp only [E4, Act.put, List.toList_toArray, List.take_succ_cons, List.take_zero, List.drop_succ_cons, List.drop_zero, List.cons_append, List.nil_append, List.setIfInBounds_toArray, List.set_cons_zero, List.set_cons_succ]
      go_simp
      exact hKK _ _ ⟨fun zz => cond (Nat.beq zz 5) (.int .i64 y) (cond (Nat.beq zz 4) (.pointer (some ⟨w.heap.size, 1, none⟩)) (f zz)), rfl, hB, Lib.hid (upd_fact (i := 5) (v := .int .i64 y) (cond_fact (j := 4) (v := .pointer (some ⟨w.heap.size, 1, none⟩)) HF.out rfl) rfl)⟩
    · intro D aa wx HI hD hdep KK hKK
      obtain ⟨f, rfl, hB, HF⟩ := HI
      simp [Region.binds] at hdep
      have E5 : f 5 = .int .i64 y := HF.out 5 (by simp [hdep])
      simp only [E5, Act.put, List.toList_toArray, List.take_succ_cons, List.take_zero, List.drop_succ_cons, List.drop_zero, List.cons_append, List.nil_append, List.setIfInBounds_toArray, List.set_cons_zero, List.set_cons_succ]
      go_simp
      exact hKK _ _ ⟨fun zz => cond (Nat.beq zz 6) (.int .u64 (b : Int)) (cond (Nat.beq zz 5) (.int .i64 y) (f zz)), rfl, hB, Lib.hid (upd_fact (i := 6) (v := .int .u64 (b : Int)) (cond_fact (j := 5) (v := .int .i64 y) HF.out rfl) rfl)⟩
    · intro D aa wx HI hD hdep KK hKK
      obtain ⟨f, rfl, hB, HF⟩ := HI
      simp [Region.binds] at hdep
      have E6 : f 6 = .int .u64 (b : Int) := HF.out 6 (by simp [hdep])
      simp only [E6, Act.put, List.toList_toArray, List.take_succ_cons, List.take_zero, List.drop_succ_cons, List.drop_zero, List.cons_append, List.nil_append, List.setIfInBounds_toArray, List.set_cons_zero, List.set_cons_succ]
      go_simp
      refine (H2.out _).mono ?_
      rintro e w5 ⟨rfl, hb⟩
      exact hKK _ _ ⟨fun zz => cond (Nat.beq zz 7) (.string B) (cond (Nat.beq zz 6) (.int .u64 (b : Int)) (f zz)), rfl, below_to hB hb, Lib.hid (upd_fact (i := 7) (v := .string B) (cond_fact (j := 6) (v := .int .u64 (b : Int)) HF.out rfl) rfl)⟩
    · intro D aa wx HI hD hdep KK hKK
      obtain ⟨f, rfl, hB, HF⟩ := HI
      simp [Region.binds] at hdep
      have E3 : f 3 = .string A := HF.out 3 (by simp [hdep])
      have E7 : f 7 = .string B := HF.out 7 (by simp [hdep])
      simp only [E3, E7, Act.put, List.toList_toArray, List.take_succ_cons, List.take_zero, List.drop_succ_cons, List.drop_zero, List.cons_append, List.nil_append, List.setIfInBounds_toArray, List.set_cons_zero, List.set_cons_succ]
      go_simp
      exact hKK _ _ ⟨fun zz => cond (Nat.beq zz 8) (.string (A ++ B)) (cond (Nat.beq zz 7) (.string B) (cond (Nat.beq zz 3) (.string A) (f zz))), rfl, hB, Lib.hid (upd_fact (i := 8) (v := .string (A ++ B)) (cond_fact (j := 7) (v := .string B) (cond_fact (j := 3) (v := .string A) HF.out rfl) rfl) rfl)⟩
    · intro D aa wx HI hD hdep KK hKK
      obtain ⟨f, rfl, hB, HF⟩ := HI
      simp [Region.binds] at hdep
      have E8 : f 8 = .string (A ++ B) := HF.out 8 (by simp [hdep])
      simp only [E8, Act.put, List.toList_toArray, List.take_succ_cons, List.take_zero, List.drop_succ_cons, List.drop_zero, List.cons_append, List.nil_append, List.setIfInBounds_toArray, List.set_cons_zero, List.set_cons_succ]
      go_simp
      exact hKK _ _ ⟨fun zz => cond (Nat.beq zz 9) (.string (A ++ B)) (cond (Nat.beq zz 8) (.string (A ++ B)) (f zz)), rfl, hB, Lib.hid (upd_fact (i := 9) (v := .string (A ++ B)) (cond_fact (j := 8) (v := .string (A ++ B)) HF.out rfl) rfl)⟩
  intro D aa w7 HI hD
  obtain ⟨f, rfl, hB, HF⟩ := HI
  have e9 : f 9 = .string (A ++ B) := HF.out 9 (hD 9 (by simp))
  simp only [e9, Act.put, List.toList_toArray, List.take_succ_cons, List.take_zero, List.drop_succ_cons, List.drop_zero, List.cons_append, List.nil_append]
  clear HF hD
  go_wp2_with fail
  go_ret
  exact ⟨rfl, below_to BB hB⟩
theorem count_any (x y : Int) (w : World) : Calls Try.prog 65 #[.agg #[.int .i64 x, .int .i64 y]] w fun e w' => e = .returned (.string (pairS 8 x y)) ∧ Below w.heap.size w w' :=
  count_main x y (u64N x) (u64N y) _ _ (u64N_wrap x) (u64N_wrap y) (by rw [bs_size, numL_length]; omega) (by rw [bs_size, numL_length]; omega) (Lib.hid (fun w => num_ok 8 (u64N x) w (by omega) (by omega) (u64N_lt x))) (Lib.hid (fun w => num_ok 8 (u64N y) w (by omega) (by omega) (u64N_lt y))) w
def InvS71_v (g : Nat) (x : Int) (y : Int) (a : Nat) (b : Nat) (A : ByteArray) (B : ByteArray) (i : Nat) : Value := ([.pointer (some ⟨g, 0, none⟩), .int .i64 x, .int .u64 (a : Int), .string A, .pointer (some ⟨g, 1, none⟩), .int .i64 y, .int .u64 (b : Int), .string B, .string (A ++ B), .string (A ++ B)] : List Value).getD i undef
def InvS71 (W1 : World) (g : Nat) (x : Int) (y : Int) (a : Nat) (b : Nat) (A : ByteArray) (B : ByteArray) (a0 : Act) (D : Nat → Bool) (act : Act) (w : World) : Prop :=
  ∃ f : Nat → Value, act = ⟨(a0.tmps.toList.take 2 ++ f 9 :: f 0 :: f 1 :: f 2 :: f 3 :: f 4 :: f 5 :: f 6 :: f 7 :: f 8 :: a0.tmps.toList.drop 12).toArray, []⟩ ∧ Below W1.heap.size W1 w ∧ Hid (∀ i, D i = true → f i = InvS71_v g x y a b A B i)
theorem blob_main (x y : Int) (a b : Nat) (A B : ByteArray) (ha : IntKind.u64.wrap x = (a : Int)) (hb : IntKind.u64.wrap y = (b : Int)) (hA : A.size ≤ 8) (hB8 : B.size ≤ 8)
    (H1 : Hid (∀ w, Calls Try.prog 50 #[.int .i64 2, .int .u64 (a : Int)] w fun e w' => e = .returned (.string A) ∧ Below w.heap.size w w')) (H2 : Hid (∀ w, Calls Try.prog 50 #[.int .i64 2, .int .u64 (b : Int)] w fun e w' => e = .returned (.string B) ∧ Below w.heap.size w w')) (w : World) :
    Calls Try.prog 71 #[.agg #[.int .i64 x, .int .i64 y]] w fun e w' => e = .returned (.string (A ++ B)) ∧ Below w.heap.size w w' := by
  have q1 : ¬ 9223372036854775807 < A.size + B.size := by omega
  have q2 : ¬ (9223372036854775807 : Int) < (A.size : Int) + (B.size : Int) := by omega
  go_enter Try.func71, Try.ntmps71
  go_wp2_with fail
  have S := Lib.hid (Duo.new w (.int .i64 x) (.int .i64 y) 54)
  have BB := below_box w (.cells #[.int .i64 x, .int .i64 y] 54)
  refine wp_region_inv0 (InvS71 (w.alloc (.cells #[.int .i64 x, .int .i64 y] 54)) w.heap.size x y a b A B) (by kernel_rfl) (by decide) ?_ ?_ ?_
  · exact ⟨fun zz => cond (Nat.beq zz 9) (.string ⟨#[]⟩) (undef), rfl, (Below.refl _ _).drew, Lib.hid (fun i h => by cases h)⟩
  · refine AllI.cons ?_ (AllI.cons ?_ (AllI.cons ?_ (AllI.cons ?_ (AllI.cons ?_ (AllI.cons ?_ (AllI.cons ?_ (AllI.cons ?_ (AllI.cons ?_ (AllI.cons ?_ AllI.nil)))))))))
    · intro D aa wx HI hD hdep KK hKK
      obtain ⟨f, rfl, hB, HF⟩ := HI
      simp only [Act.put, List.toList_toArray, List.take_succ_cons, List.take_zero, List.drop_succ_cons, List.drop_zero, List.cons_append, List.nil_append, List.setIfInBounds_toArray, List.set_cons_zero, List.set_cons_succ]
      go_simp
      exact hKK _ _ ⟨fun zz => cond (Nat.beq zz 0) (.pointer (some ⟨w.heap.size, 0, none⟩)) (f zz), rfl, hB, Lib.hid (upd_fact (i := 0) (v := .pointer (some ⟨w.heap.size, 0, none⟩)) HF.out rfl)⟩
    · intro D aa wx HI hD hdep KK hKK
      obtain ⟨f, rfl, hB, HF⟩ := HI
      simp [Region.binds] at hdep
      have E0 : f 0 = .pointer (some ⟨w.heap.size, 0, none⟩) := HF.out 0 (by simp [hdep])
      obtain ⟨c0, c1⟩ := S.out.below hB
      simp only [E0, Act.put, List.toList_toArray, List.take_succ_cons, List.take_zero, List.drop_succ_cons, List.drop_zero, List.cons_append, List.nil_append, List.setIfInBounds_toArray, List.set_cons_zero, List.set_cons_succ]
      go_simp
      exact hKK _ _ ⟨fun zz => cond (Nat.beq zz 1) (.int .i64 x) (cond (Nat.beq zz 0) (.pointer (some ⟨w.heap.size, 0, none⟩)) (f zz)), rfl, hB, Lib.hid (upd_fact (i := 1) (v := .int .i64 x) (cond_fact (j := 0) (v := .pointer (some ⟨w.heap.size, 0, none⟩)) HF.out rfl) rfl)⟩
    · intro D aa wx HI hD hdep KK hKK
      obtain ⟨f, rfl, hB, HF⟩ := HI
      simp [Region.binds] at hdep
      have E1 : f 1 = .int .i64 x := HF.out 1 (by simp [hdep])
      simp only [E1, Act.put, List.toList_toArray, List.take_succ_cons, List.take_zero, List.drop_succ_cons, List.drop_zero, List.cons_append, List.nil_append, List.setIfInBounds_toArray, List.set_cons_zero, List.set_cons_succ]
      go_simp
      exact hKK _ _ ⟨fun zz => cond (Nat.beq zz 2) (.int .u64 (a : Int)) (cond (Nat.beq zz 1) (.int .i64 x) (f zz)), rfl, hB, Lib.hid (upd_fact (i := 2) (v := .int .u64 (a : Int)) (cond_fact (j := 1) (v := .int .i64 x) HF.out rfl) rfl)⟩
    · intro D aa wx HI hD hdep KK hKK
      obtain ⟨f, rfl, hB, HF⟩ := HI
      simp [Region.binds] at hdep
      have E2 : f 2 = .int .u64 (a : Int) := HF.out 2 (by simp [hdep])
      simp only [E2, Act.put, List.toList_toArray, List.take_succ_cons, List.take_zero, List.drop_succ_cons, List.drop_zero, List.cons_append, List.nil_append, List.setIfInBounds_toArray, List.set_cons_zero, List.set_cons_succ]
      go_simp
      refine (H1.out _).mono ?_
      rintro e w5 ⟨rfl, hb⟩
      exact hKK _ _ ⟨fun zz => cond (Nat.beq zz 3) (.string A) (cond (Nat.beq zz 2) (.int .u64 (a : Int)) (f zz)), rfl, below_to hB hb, Lib.hid (upd_fact (i := 3) (v := .string A) (cond_fact (j := 2) (v := .int .u64 (a : Int)) HF.out rfl) rfl)⟩
    · intro D aa wx HI hD hdep KK hKK
      obtain ⟨f, rfl, hB, HF⟩ := HI
      simp only [Act.put, List.toList_toArray, List.take_succ_cons, List.take_zero, List.drop_succ_cons, List.drop_zero, List.cons_append, List.nil_append, List.setIfInBounds_toArray, List.set_cons_zero, List.set_cons_succ]
      go_simp
      exact hKK _ _ ⟨fun zz => cond (Nat.beq zz 4) (.pointer (some ⟨w.heap.size, 1, none⟩)) (f zz), rfl, hB, Lib.hid (upd_fact (i := 4) (v := .pointer (some ⟨w.heap.size, 1, none⟩)) HF.out rfl)⟩
    · intro D aa wx HI hD hdep KK hKK
      obtain ⟨f, rfl, hB, HF⟩ := HI
      simp [Region.binds] at hdep
      have E4 : f 4 = .pointer (some ⟨w.heap.size, 1, none⟩) := HF.out 4 (by simp [hdep])
      obtain ⟨c0, c1⟩ := S.out.below hB
      simp only [E4, Act.put, List.toList_toArray, List.take_succ_cons, List.take_zero, List.drop_succ_cons, List.drop_zero, List.cons_append, List.nil_append, List.setIfInBounds_toArray, List.set_cons_zero, List.set_cons_succ]
      go_simp
      exact hKK _ _ ⟨fun zz => cond (Nat.beq zz 5) (.int .i64 y) (cond (Nat.beq zz 4) (.pointer (some ⟨w.heap.size, 1, none⟩)) (f zz)), rfl, hB, Lib.hid (upd_fact (i := 5) (v := .int .i64 y) (cond_fact (j := 4) (v := .pointer (some ⟨w.heap.size, 1, none⟩)) HF.out rfl) rfl)⟩
    · intro D aa wx HI hD hdep KK hKK
      obtain ⟨f, rfl, hB, HF⟩ := HI
      simp [Region.binds] at hdep
      have E5 : f 5 = .int .i64 y := HF.out 5 (by simp [hdep])
      simp only [E5, Act.put, List.toList_toArray, List.take_succ_cons, List.take_zero, List.drop_succ_cons, List.drop_zero, List.cons_append, List.nil_append, List.setIfInBounds_toArray, List.set_cons_zero, List.set_cons_succ]
      go_simp
      exact hKK _ _ ⟨fun zz => cond (Nat.beq zz 6) (.int .u64 (b : Int)) (cond (Nat.beq zz 5) (.int .i64 y) (f zz)), rfl, hB, Lib.hid (upd_fact (i := 6) (v := .int .u64 (b : Int)) (cond_fact (j := 5) (v := .int .i64 y) HF.out rfl) rfl)⟩
    · intro D aa wx HI hD hdep KK hKK
      obtain ⟨f, rfl, hB, HF⟩ := HI
      simp [Region.binds] at hdep
      have E6 : f 6 = .int .u64 (b : Int) := HF.out 6 (by simp [hdep])
      simp only [E6, Act.put, List.toList_toArray, List.take_succ_cons, List.take_zero, List.drop_succ_cons, List.drop_zero, List.cons_append, List.nil_append, List.setIfInBounds_toArray, List.set_cons_zero, List.set_cons_succ]
      go_simp
      refine (H2.out _).mono ?_
      rintro e w5 ⟨rfl, hb⟩
      exact hKK _ _ ⟨fun zz => cond (Nat.beq zz 7) (.string B) (cond (Nat.beq zz 6) (.int .u64 (b : Int)) (f zz)), rfl, below_to hB hb, Lib.hid (upd_fact (i := 7) (v := .string B) (cond_fact (j := 6) (v := .int .u64 (b : Int)) HF.out rfl) rfl)⟩
    · intro D aa wx HI hD hdep KK hKK
      obtain ⟨f, rfl, hB, HF⟩ := HI
      simp [Region.binds] at hdep
      have E3 : f 3 = .string A := HF.out 3 (by simp [hdep])
      have E7 : f 7 = .string B := HF.out 7 (by simp [hdep])
      simp only [E3, E7, Act.put, List.toList_toArray, List.take_succ_cons, List.take_zero, List.drop_succ_cons, List.drop_zero, List.cons_append, List.nil_append, List.setIfInBounds_toArray, List.set_cons_zero, List.set_cons_succ]
      go_simp
      exact hKK _ _ ⟨fun zz => cond (Nat.beq zz 8) (.string (A ++ B)) (cond (Nat.beq zz 7) (.string B) (cond (Nat.beq zz 3) (.string A) (f zz))), rfl, hB, Lib.hid (upd_fact (i := 8) (v := .string (A ++ B)) (cond_fact (j := 7) (v := .string B) (cond_fact (j := 3) (v := .string A) HF.out rfl) rfl) rfl)⟩
    · intro D aa wx HI hD hdep KK hKK
      obtain ⟨f, rfl, hB, HF⟩ := HI
      simp [Region.binds] at hdep
      have E8 : f 8 = .string (A ++ B) := HF.out 8 (by simp [hdep])
      simp only [E8, Act.put, List.toList_toArray, List.take_succ_cons, List.take_zero, List.drop_succ_cons, List.drop_zero, List.cons_append, List.nil_append, List.setIfInBounds_toArray, List.set_cons_zero, List.set_cons_succ]
      go_simp
      exact hKK _ _ ⟨fun zz => cond (Nat.beq zz 9) (.string (A ++ B)) (cond (Nat.beq zz 8) (.string (A ++ B)) (f zz)), rfl, hB, Lib.hid (upd_fact (i := 9) (v := .string (A ++ B)) (cond_fact (j := 8) (v := .string (A ++ B)) HF.out rfl) rfl)⟩
  intro D aa w7 HI hD
  obtain ⟨f, rfl, hB, HF⟩ := HI
  have e9 : f 9 = .string (A ++ B) := HF.out 9 (hD 9 (by simp))
  simp only [e9, Act.put, List.toList_toArray, List.take_succ_cons, List.take_zero, List.drop_succ_cons, List.drop_zero, List.cons_append, List.nil_append]
  clear HF hD
  go_wp2_with fail
  go_ret
  exact ⟨rfl, below_to BB hB⟩
theorem blob_any (x y : Int) (w : World) : Calls Try.prog 71 #[.agg #[.int .i64 x, .int .i64 y]] w fun e w' => e = .returned (.string (pairS 2 x y)) ∧ Below w.heap.size w w' :=
  blob_main x y (u64N x) (u64N y) _ _ (u64N_wrap x) (u64N_wrap y) (by rw [bs_size, numL_length]; omega) (by rw [bs_size, numL_length]; omega) (Lib.hid (fun w => num_ok 2 (u64N x) w (by omega) (by omega) (u64N_lt x))) (Lib.hid (fun w => num_ok 2 (u64N y) w (by omega) (by omega) (u64N_lt y))) w
theorem limit_any (x y : Int) (w : World) : Calls Try.prog 64 #[.agg #[.int .i64 x, .int .i64 y]] w fun e w' => e = .returned (.string (pairS 8 (IntKind.i64.wrap (x + 1)) (IntKind.i64.wrap (y + 1)))) ∧ Below w.heap.size w w' := by
  obtain ⟨x1, hx⟩ : ∃ z, IntKind.i64.wrap (x + 1) = z := ⟨_, rfl⟩
  obtain ⟨y1, hy⟩ : ∃ z, IntKind.i64.wrap (y + 1) = z := ⟨_, rfl⟩
  rw [hx, hy]
  have HC := Lib.hid (count_any x1 y1)
  go_enter Try.func64, Try.ntmps64
  go_wp2_with fail
  refine (HC.out _).mono ?_
  rintro e w2 ⟨rfl, hb⟩
  go_wp2_with fail
  go_ret
  exact ⟨rfl, below_alloc_to hb⟩
theorem rsum_any (n : Nat) (hn : n < 4294967296) (w : World) : Calls Try.prog 70 #[.int .u32 (n : Int)] w fun e w' => e = .returned (.string (bs (numL 4 n))) ∧ Below w.heap.size w w' := by
  have HN := Lib.hid (fun w => num_ok 4 n w (by omega) (by omega) (by omega))
  have hw : IntKind.u64.wrap (n : Int) = (n : Int) := by rw [IntKind.wrap_u64]; omega
  go_enter Try.func70, Try.ntmps70
  go_wp2_with fail
  refine (HN.out _).mono ?_
  rintro e w2 ⟨rfl, hb⟩
  go_wp2_with fail
  go_ret
  exact ⟨rfl, hb⟩
/-- May a usage be? -/
theorem isUsage_any (a b c d : Int) (w : World) : Calls Try.prog 63 #[.agg #[.int .i64 a, .int .i64 b], .agg #[.int .i64 c, .int .i64 d]] w fun e w' => e = .returned (.bool (limB a b && okB c d)) ∧ Below w.heap.size w w' := by
  have H1 := Lib.hid (checkLimit_any a b)
  have H2 := Lib.hid (check_any_t c d)
  cases h1 : limB a b with
  | false =>
    rw [h1] at H1
    simp only [errOf] at H1
    clear h1
    go_enter Try.func63, Try.ntmps63
    go_wp2_with fail
    refine (H1.out _).mono ?_
    rintro e w2 ⟨rfl, hb⟩
    go_wp2_with fail
    go_ret
    exact ⟨rfl, below_two_to hb⟩
  | true =>
    rw [h1] at H1
    simp only [errOf] at H1
    clear h1
    cases h2 : okB c d <;> rw [h2] at H2 <;> simp only [errOf] at H2 <;> clear h2
    all_goals
      go_enter Try.func63, Try.ntmps63
      go_wp2_with fail
      refine (H1.out _).mono ?_
      rintro e w2 ⟨rfl, hb⟩
      have D2 := ((Duo.new (w.alloc (.cells #[.int .i64 a, .int .i64 b] 47)) (.int .i64 c) (.int .i64 d) 47)).below hb
      have hs1 : (w.alloc (.cells #[.int .i64 a, .int .i64 b] 47)).heap.size = w.heap.size + 1 := by simp
      rw [hs1] at D2
      have BB := below_two_to hb
      obtain ⟨c0, c1⟩ := D2
      clear hb hs1
      go_wp2_with fail
      refine (H2.out _).mono ?_
      rintro e w3 ⟨rfl, hb3⟩
      go_wp2_with fail
      go_ret
      exact ⟨rfl, below_to BB hb3⟩
end Go.Proofs.Yteekjndhehnpaaa
