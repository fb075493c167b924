/- KeysTell: the walk, where a key is right. -/
import Derived.Test.YteekjndhehnpaaaRG
import Derived.Test.YteekjndhehnpaaaRE
import Derived.Test.YteekjndhehnpaaaKT
import Derived.Test.YteekjndhehnpaaaRI
import Derived.Deep.Cut
namespace Go.Proofs.Yteekjndhehnpaaa.T0
open Go.RowKit
set_option maxRecDepth 100000
set_option linter.unusedVariables false
set_option linter.unusedSimpArgs false
set_option maxHeartbeats 40000000
theorem cond_fact {D : Nat → Bool} {f V : Nat → Value} {j : Nat} {v : Value} (h : ∀ k, D k = true → f k = V k) (hv : v = V j) : ∀ k, D k = true → cond (Nat.beq k j) v (f k) = V k := by
  intro k hk
  by_cases e : k = j
  · subst e; rw [Nat.beq_refl]; exact hv
  · have : Nat.beq k j = false := by
      cases h2 : Nat.beq k j with
      | false => rfl
      | true => exact absurd (Nat.eq_of_beq_eq_true h2) e
    rw [this]; exact h k hk
theorem upd_fact {D : Nat → Bool} {f V : Nat → Value} {i : Nat} {v : Value} (h : ∀ k, D k = true → f k = V k) (hv : v = V i) : ∀ k, upd D i k = true → cond (Nat.beq k i) v (f k) = V k := by
  intro k hk
  by_cases e : k = i
  · subst e; rw [Nat.beq_refl]; exact hv
  · have : Nat.beq k i = false := by
      cases h2 : Nat.beq k i with
      | false => rfl
      | true => exact absurd (Nat.eq_of_beq_eq_true h2) e
    rw [this]
    refine h k ?_
    unfold upd at hk
    rwa [if_neg e] at hk
def InvT0_v (g2 : Nat) (g9 : Nat) (g11 : Nat) (k : Int) (t : Int) (b : ByteArray) (n : ByteArray) (u : Nat) (p : Int) (k3 : Int) (t3 : Int) (b3 : ByteArray) (n3 : ByteArray) (u3 : Nat) (p3 : Int) (A : ByteArray) (ea : Int) (eo : Int) (B1 : ByteArray) (B2 : ByteArray) (B3 : ByteArray) (B4 : ByteArray) (i : Nat) : Value := ([.bool true, .bool true, .string A, .string A, .bool true, .bool true, .bool true, .int .i64 ea, .int .i64 ea, .bool true, .bool true, .bool true, .agg #[.int .i64 k3, .int .i64 t3, .string b3, .string n3, .int .u64 (u3 : Int), .int .i64 p3], .agg #[.int .i64 k3, .int .i64 t3, .string b3, .string n3, .int .u64 (u3 : Int), .int .i64 p3], (.agg #[.int .i64 k3, .int .i64 t3, .string b3, .string n3, .int .u64 (u3 : Int), .int .i64 p3]), .bool true, .bool true, .bool true, .int .i64 eo, .int .i64 eo, .bool true, .bool true, .bool true, .int .i64 0, .bool true, .agg #[.int .i64 k, .int .i64 t, .string b, .string n, .int .u64 (u : Int), .int .i64 p], .bool true, .bool true, .bool true, .bool true, .int .i64 0, .bool true, .bool true, undef, undef, .bool true, .bool true, .bool true, .pointer (some ⟨g2, 1, none⟩), .int .i64 t, .string B1, .pointer (some ⟨g2, 1, none⟩), .int .i64 t, .string B1, .bool true, .bool true, .bool true, .pointer (some ⟨g2, 0, none⟩), .int .i64 k, .pointer (some ⟨g2, 1, none⟩), .int .i64 t, .pointer (some ⟨g2, 2, none⟩), .string b, .string B2, .pointer (some ⟨g2, 0, none⟩), .int .i64 k, .pointer (some ⟨g2, 1, none⟩), .int .i64 t, .pointer (some ⟨g2, 2, none⟩), .string b, .string B2, .bool true, .bool true, .bool true, .pointer (some ⟨g2, 1, none⟩), .int .i64 t, .pointer (some ⟨g2, 2, none⟩), .string b, .pointer (some ⟨g2, 3, none⟩), .string n, .string B3, .pointer (some ⟨g2, 1, none⟩), .int .i64 t, .pointer (some ⟨g2, 2, none⟩), .string b, .pointer (some ⟨g2, 3, none⟩), .string n, .string B3, .bool true, .bool true, .bool true, .pointer (some ⟨g2, 1, none⟩), .int .i64 t, .pointer (some ⟨g2, 2, none⟩), .string b, .pointer (some ⟨g2, 4, none⟩), .int .u64 (u : Int), .string B4, .pointer (some ⟨g2, 1, none⟩), .int .i64 t, .pointer (some ⟨g2, 2, none⟩), .string b, .pointer (some ⟨g2, 4, none⟩), .int .u64 (u : Int), .string B4, .bool true, .bool true, .bool true] : List Value).getD i undef
def InvT0 (W1 : World) (g2 : Nat) (g9 : Nat) (g11 : Nat) (k : Int) (t : Int) (b : ByteArray) (n : ByteArray) (u : Nat) (p : Int) (k3 : Int) (t3 : Int) (b3 : ByteArray) (n3 : ByteArray) (u3 : Nat) (p3 : Int) (A : ByteArray) (ea : Int) (eo : Int) (B1 : ByteArray) (B2 : ByteArray) (B3 : ByteArray) (B4 : ByteArray) (a0 : Act) (D : Nat → Bool) (act : Act) (w : World) : Prop :=
  ∃ f : Nat → Value, act = ⟨(a0.tmps.toList.take 4 ++ f 97 :: ((a0.tmps.toList.drop 5).take 49 ++ f 0 :: f 1 :: f 2 :: f 3 :: f 4 :: f 5 :: f 6 :: f 7 :: f 8 :: f 9 :: f 10 :: f 11 :: f 12 :: f 13 :: f 14 :: f 15 :: f 16 :: f 17 :: f 18 :: f 19 :: f 20 :: f 21 :: f 22 :: f 23 :: f 24 :: f 25 :: f 26 :: f 27 :: f 28 :: f 29 :: f 30 :: f 31 :: f 32 :: f 33 :: f 34 :: f 35 :: f 36 :: f 37 :: f 38 :: f 39 :: f 40 :: f 41 :: f 42 :: f 43 :: f 44 :: f 45 :: f 46 :: f 47 :: f 48 :: f 49 :: f 50 :: f 51 :: f 52 :: f 53 :: f 54 :: f 55 :: f 56 :: f 57 :: f 58 :: f 59 :: f 60 :: f 61 :: f 62 :: f 63 :: f 64 :: f 65 :: f 66 :: f 67 :: f 68 :: f 69 :: f 70 :: f 71 :: f 72 :: f 73 :: f 74 :: f 75 :: f 76 :: f 77 :: f 78 :: f 79 :: f 80 :: f 81 :: f 82 :: f 83 :: f 84 :: f 85 :: f 86 :: f 87 :: f 88 :: f 89 :: f 90 :: f 91 :: f 92 :: f 93 :: f 94 :: f 95 :: f 96 :: a0.tmps.toList.drop 151)).toArray, []⟩ ∧ Below W1.heap.size W1 w ∧ Hid (∀ i, D i = true → f i = InvT0_v g2 g9 g11 k t b n u p k3 t3 b3 n3 u3 p3 A ea eo B1 B2 B3 B4 i)
theorem keysTell0 (k t : Int) (b n : ByteArray) (u : Nat) (p : Int) (s : ByteArray) (hbs : b.size ≤ 1000) (hns : n.size ≤ 1000) (hss : s.size ≤ 1000) (A : ByteArray) (ea : Int) (k3 t3 : Int) (b3 n3 : ByteArray) (u3 : Nat) (p3 : Int) (eo : Int) (B1 B2 B3 B4 : ByteArray)
    (HA : Hid (∀ w, Calls Try.prog 11 #[.agg #[.int .i64 k, .int .i64 t, .string b, .string n, .int .u64 (u : Int), .int .i64 p]] w fun x w' => x = .returned (.tuple #[.string A, .int .i64 ea]) ∧ Below w.heap.size w w'))
    (HRA : Hid (∀ w, Calls Try.prog 13 #[.agg #[.int .i64 k, .int .i64 t, .string b, .string n, .int .u64 (u : Int), .int .i64 p]] w fun x w' => x = .returned (.tuple #[.string A, .int .i64 ea]) ∧ Below w.heap.size w w'))
    (HO : Hid (∀ w, Calls Try.prog 14 #[.string s] w fun x w' => x = .returned (.tuple #[.agg #[.int .i64 k3, .int .i64 t3, .string b3, .string n3, .int .u64 (u3 : Int), .int .i64 p3], .int .i64 eo]) ∧ Below w.heap.size w w'))
    (HRO : Hid (∀ w, Calls Try.prog 15 #[.string s] w fun x w' => x = .returned (.tuple #[.agg #[.int .i64 k3, .int .i64 t3, .string b3, .string n3, .int .u64 (u3 : Int), .int .i64 p3], .int .i64 eo]) ∧ Below w.heap.size w w'))
    (HC : Hid (∀ w, Calls Try.prog 16 #[.agg #[.int .i64 k, .int .i64 t, .string b, .string n, .int .u64 (u : Int), .int .i64 p]] w fun x w' => x = .returned (.int .i64 0) ∧ Below w.heap.size w w'))
    (HR : Hid (∀ w, Calls Try.prog 17 #[.agg #[.int .i64 k, .int .i64 t, .string b, .string n, .int .u64 (u : Int), .int .i64 p]] w fun x w' => x = .returned (.bool true) ∧ Below w.heap.size w w'))
    (H18 : Hid (∀ w, Calls Try.prog 18 #[.int .i64 t] w fun x w' => x = .returned (.string B1) ∧ Below w.heap.size w w'))
    (H19 : Hid (∀ w, Calls Try.prog 19 #[.int .i64 t] w fun x w' => x = .returned (.string B1) ∧ Below w.heap.size w w'))
    (H20 : Hid (∀ w, Calls Try.prog 20 #[.int .i64 k, .int .i64 t, .string b] w fun x w' => x = .returned (.string B2) ∧ Below w.heap.size w w'))
    (H21 : Hid (∀ w, Calls Try.prog 21 #[.int .i64 k, .int .i64 t, .string b] w fun x w' => x = .returned (.string B2) ∧ Below w.heap.size w w'))
    (H22 : Hid (∀ w, Calls Try.prog 22 #[.int .i64 t, .string b, .string n] w fun x w' => x = .returned (.string B3) ∧ Below w.heap.size w w'))
    (H23 : Hid (∀ w, Calls Try.prog 23 #[.int .i64 t, .string b, .string n] w fun x w' => x = .returned (.string B3) ∧ Below w.heap.size w w'))
    (H24 : Hid (∀ w, Calls Try.prog 24 #[.int .i64 t, .string b, .int .u64 (u : Int)] w fun x w' => x = .returned (.string B4) ∧ Below w.heap.size w w'))
    (H25 : Hid (∀ w, Calls Try.prog 25 #[.int .i64 t, .string b, .int .u64 (u : Int)] w fun x w' => x = .returned (.string B4) ∧ Below w.heap.size w w'))
    (w : World) : Calls Try.prog 3 #[.agg #[.int .i64 k, .int .i64 t, .string b, .string n, .int .u64 (u : Int), .int .i64 p], .string s] w fun e w' => e = .returned (.bool true) ∧ Below w.heap.size w w' := by
  go_enter Try.func3, Try.ntmps3
  go_wp2_with fail
  have S2 := Six.new w (.int .i64 k) (.int .i64 t) (.string b) (.string n) (.int .u64 (u : Int)) (.int .i64 p) 24
  have BB := below_box w (.cells #[.int .i64 k, .int .i64 t, .string b, .string n, .int .u64 (u : Int), .int .i64 p] 24)
  refine (ours_any _ _ _ _ _ _ _).mono ?_
  rintro e wn ⟨rfl, hb⟩
  replace S2 := S2.below hb
  replace BB := below_to BB hb
  clear hb
  go_wp2_with fail
  refine (HA.out _).mono ?_
  rintro e wn ⟨rfl, hb⟩
  replace S2 := S2.below hb
  replace BB := below_to BB hb
  clear hb
  have c0 := S2.c0
  have c1 := S2.c1
  have c2 := S2.c2
  have c3 := S2.c3
  have c4 := S2.c4
  have c5 := S2.c5
  go_wp2_with fail
  clear c0 c1 c2 c3 c4 c5
  refine (HRA.out _).mono ?_
  rintro e wn ⟨rfl, hb⟩
  replace S2 := S2.below hb
  replace BB := below_to BB hb
  clear hb
  go_wp2_with fail
  refine (HO.out _).mono ?_
  rintro e wn ⟨rfl, hb⟩
  replace S2 := S2.below hb
  replace BB := below_to BB hb
  clear hb
  replace S2 := S2.below (below_box wn (.cells #[.int .i64 k3, .int .i64 t3, .string b3, .string n3, .int .u64 (u3 : Int), .int .i64 p3] 29))
  have S9 := Six.new wn (.int .i64 k3) (.int .i64 t3) (.string b3) (.string n3) (.int .u64 (u3 : Int)) (.int .i64 p3) 29
  replace BB := below_to BB (below_box wn (.cells #[.int .i64 k3, .int .i64 t3, .string b3, .string n3, .int .u64 (u3 : Int), .int .i64 p3] 29))
  obtain ⟨g9, hg9⟩ : ∃ g, wn.heap.size = g := ⟨_, rfl⟩
  rw [hg9] at S9
  go_wp2_with fail
  refine (HRO.out _).mono ?_
  rintro e wn ⟨rfl, hb⟩
  replace S2 := S2.below hb
  replace S9 := S9.below hb
  replace BB := below_to BB hb
  clear hb
  replace S2 := S2.below (below_box wn (.cells #[.int .i64 k3, .int .i64 t3, .string b3, .string n3, .int .u64 (u3 : Int), .int .i64 p3] 24))
  replace S9 := S9.below (below_box wn (.cells #[.int .i64 k3, .int .i64 t3, .string b3, .string n3, .int .u64 (u3 : Int), .int .i64 p3] 24))
  have S11 := Six.new wn (.int .i64 k3) (.int .i64 t3) (.string b3) (.string n3) (.int .u64 (u3 : Int)) (.int .i64 p3) 24
  replace BB := below_to BB (below_box wn (.cells #[.int .i64 k3, .int .i64 t3, .string b3, .string n3, .int .u64 (u3 : Int), .int .i64 p3] 24))
  obtain ⟨g11, hg11⟩ : ∃ g, wn.heap.size = g := ⟨_, rfl⟩
  rw [hg11] at S11
  go_upto_region 7 with (fail)
  try rw [hg11]
  try rw [hg9]
  generalize wn.alloc (.cells #[.int .i64 k3, .int .i64 t3, .string b3, .string n3, .int .u64 (u3 : Int), .int .i64 p3] 24) = wm at S2 S9 S11 BB ⊢
  have c0 := S2.c0
  have c1 := S2.c1
  have c2 := S2.c2
  have c3 := S2.c3
  have c4 := S2.c4
  have c5 := S2.c5
  go_wp2_with fail
  clear c0 c1 c2 c3 c4 c5
  refine (ours_any _ _ _ _ _ _ _).mono ?_
  rintro e wn ⟨rfl, hb⟩
  replace S2 := S2.below hb
  replace S9 := S9.below hb
  replace S11 := S11.below hb
  replace BB := below_to BB hb
  clear hb
  go_wp2_with fail
  refine (HC.out _).mono ?_
  rintro e wn ⟨rfl, hb⟩
  replace S2 := S2.below hb
  replace S9 := S9.below hb
  replace S11 := S11.below hb
  replace BB := below_to BB hb
  clear hb
  go_wp2_with fail
  replace S2 := Lib.hid S2
  replace S9 := Lib.hid S9
  replace S11 := Lib.hid S11
  clear HA HRA HO HRO HC
  simp only [List.append]
  refine wp_region_inv0 (InvT0 wn w.heap.size g9 g11 k t b n u p k3 t3 b3 n3 u3 p3 A ea eo B1 B2 B3 B4) (by kernel_rfl) (by decide) ?_ ?_ ?_
  · exact ⟨fun zz => cond (Nat.beq zz 97) (.bool false) (undef), rfl, (Below.refl _ _).drew, Lib.hid (fun i h => by cases h)⟩
  · refine AllI.cons ?_ (AllI.cons ?_ (AllI.cons ?_ (AllI.cons ?_ (AllI.cons ?_ (AllI.cons ?_ (AllI.cons ?_ (AllI.cons ?_ (AllI.cons ?_ (AllI.cons ?_ (AllI.cons ?_ (AllI.cons ?_ (AllI.cons ?_ (AllI.cons ?_ (AllI.cons ?_ (AllI.cons ?_ (AllI.cons ?_ (AllI.cons ?_ (AllI.cons ?_ (AllI.cons ?_ (AllI.cons ?_ (AllI.cons ?_ (AllI.cons ?_ (AllI.cons ?_ (AllI.cons ?_ (AllI.cons ?_ (AllI.cons ?_ (AllI.cons ?_ (AllI.cons ?_ (AllI.cons ?_ (AllI.cons ?_ (AllI.cons ?_ (AllI.cons ?_ (AllI.cons ?_ (AllI.cons ?_ (AllI.cons ?_ (AllI.cons ?_ (AllI.cons ?_ (AllI.cons ?_ (AllI.cons ?_ (AllI.cons ?_ (AllI.cons ?_ (AllI.cons ?_ (AllI.cons ?_ (AllI.cons ?_ (AllI.cons ?_ (AllI.cons ?_ (AllI.cons ?_ (AllI.cons ?_ (AllI.cons ?_ (AllI.cons ?_ (AllI.cons ?_ (AllI.cons ?_ (AllI.cons ?_ (AllI.cons ?_ (AllI.cons ?_ (AllI.cons ?_ (AllI.cons ?_ (AllI.cons ?_ (AllI.cons ?_ (AllI.cons ?_ (AllI.cons ?_ (AllI.cons ?_ (AllI.cons ?_ (AllI.cons ?_ (AllI.cons ?_ (AllI.cons ?_ (AllI.cons ?_ (AllI.cons ?_ (AllI.cons ?_ (AllI.cons ?_ (AllI.cons ?_ (AllI.cons ?_ (AllI.cons ?_ (AllI.cons ?_ (AllI.cons ?_ (AllI.cons ?_ (AllI.cons ?_ (AllI.cons ?_ (AllI.cons ?_ (AllI.cons ?_ (AllI.cons ?_ (AllI.cons ?_ (AllI.cons ?_ (AllI.cons ?_ (AllI.cons ?_ (AllI.cons ?_ (AllI.cons ?_ (AllI.cons ?_ (AllI.cons ?_ (AllI.cons ?_ (AllI.cons ?_ (AllI.cons ?_ (AllI.cons ?_ (AllI.cons ?_ (AllI.cons ?_ (AllI.cons ?_ (AllI.cons ?_ AllI.nil)))))))))))))))))))))))))))))))))))))))))))))))))))))))))))))))))))))))))))))))))))))))))))))))))
    · intro D aa wx HI hD hdep KK hKK
      obtain ⟨f, rfl, hB, HF⟩ := HI
      simp only [Act.put, List.toList_toArray, List.take_succ_cons, List.take_zero, List.drop_succ_cons, List.drop_zero, List.cons_append, List.nil_append, List.setIfInBounds_toArray, List.set_cons_zero, List.set_cons_succ]
      go_simp
      refine (lives_any _).mono ?_
      rintro e w5 ⟨rfl, hb⟩
      exact hKK _ _ ⟨fun zz => cond (Nat.beq zz 0) (.bool true) (f zz), rfl, below_to hB hb, Lib.hid (upd_fact (i := 0) (v := .bool true) HF.out rfl)⟩
    · intro D aa wx HI hD hdep KK hKK
      obtain ⟨f, rfl, hB, HF⟩ := HI
      simp [Region.binds] at hdep
      have E0 : f 0 = .bool true := HF.out 0 (by simp [hdep])
      simp only [E0, Act.put, List.toList_toArray, List.take_succ_cons, List.take_zero, List.drop_succ_cons, List.drop_zero, List.cons_append, List.nil_append, List.setIfInBounds_toArray, List.set_cons_zero, List.set_cons_succ]
      go_simp
      exact hKK _ _ ⟨fun zz => cond (Nat.beq zz 1) (.bool true) (cond (Nat.beq zz 0) (.bool true) (f zz)), rfl, hB, Lib.hid (upd_fact (i := 1) (v := .bool true) (cond_fact (j := 0) (v := .bool true) HF.out rfl) rfl)⟩
    · intro D aa wx HI hD hdep KK hKK
      obtain ⟨f, rfl, hB, HF⟩ := HI
      simp [Region.binds] at hdep
      have E1 : f 1 = .bool true := HF.out 1 (by simp [hdep])
      simp only [E1, Act.put, List.toList_toArray, List.take_succ_cons, List.take_zero, List.drop_succ_cons, List.drop_zero, List.cons_append, List.nil_append, List.setIfInBounds_toArray, List.set_cons_zero, List.set_cons_succ]
      go_simp
      exact hKK _ _ ⟨fun zz => cond (Nat.beq zz 2) (.string A) (cond (Nat.beq zz 1) (.bool true) (f zz)), rfl, hB, Lib.hid (upd_fact (i := 2) (v := .string A) (cond_fact (j := 1) (v := .bool true) HF.out rfl) rfl)⟩
    · intro D aa wx HI hD hdep KK hKK
      obtain ⟨f, rfl, hB, HF⟩ := HI
      simp [Region.binds] at hdep
      have E1 : f 1 = .bool true := HF.out 1 (by simp [hdep])
      simp only [E1, Act.put, List.toList_toArray, List.take_succ_cons, List.take_zero, List.drop_succ_cons, List.drop_zero, List.cons_append, List.nil_append, List.setIfInBounds_toArray, List.set_cons_zero, List.set_cons_succ]
      go_simp
      exact hKK _ _ ⟨fun zz => cond (Nat.beq zz 3) (.string A) (cond (Nat.beq zz 1) (.bool true) (f zz)), rfl, hB, Lib.hid (upd_fact (i := 3) (v := .string A) (cond_fact (j := 1) (v := .bool true) HF.out rfl) rfl)⟩
    · intro D aa wx HI hD hdep KK hKK
      obtain ⟨f, rfl, hB, HF⟩ := HI
      simp [Region.binds] at hdep
      have E1 : f 1 = .bool true := HF.out 1 (by simp [hdep])
      have E2 : f 2 = .string A := HF.out 2 (by simp [hdep])
      have E3 : f 3 = .string A := HF.out 3 (by simp [hdep])
      simp only [E1, E2, E3, Act.put, List.toList_toArray, List.take_succ_cons, List.take_zero, List.drop_succ_cons, List.drop_zero, List.cons_append, List.nil_append, List.setIfInBounds_toArray, List.set_cons_zero, List.set_cons_succ]
      go_simp
      exact hKK _ _ ⟨fun zz => cond (Nat.beq zz 4) (.bool true) (cond (Nat.beq zz 3) (.string A) (cond (Nat.beq zz 2) (.string A) (cond (Nat.beq zz 1) (.bool true) (f zz)))), rfl, hB, Lib.hid (upd_fact (i := 4) (v := .bool true) (cond_fact (j := 3) (v := .string A) (cond_fact (j := 2) (v := .string A) (cond_fact (j := 1) (v := .bool true) HF.out rfl) rfl) rfl) rfl)⟩
    · intro D aa wx HI hD hdep KK hKK
      obtain ⟨f, rfl, hB, HF⟩ := HI
      simp [Region.binds] at hdep
      have E1 : f 1 = .bool true := HF.out 1 (by simp [hdep])
      have E4 : f 4 = .bool true := HF.out 4 (by simp [hdep])
      simp only [E1, E4, Act.put, List.toList_toArray, List.take_succ_cons, List.take_zero, List.drop_succ_cons, List.drop_zero, List.cons_append, List.nil_append, List.setIfInBounds_toArray, List.set_cons_zero, List.set_cons_succ]
      go_simp
      exact hKK _ _ ⟨fun zz => cond (Nat.beq zz 5) (.bool true) (cond (Nat.beq zz 4) (.bool true) (cond (Nat.beq zz 1) (.bool true) (f zz))), rfl, hB, Lib.hid (upd_fact (i := 5) (v := .bool true) (cond_fact (j := 4) (v := .bool true) (cond_fact (j := 1) (v := .bool true) HF.out rfl) rfl) rfl)⟩
    · intro D aa wx HI hD hdep KK hKK
      obtain ⟨f, rfl, hB, HF⟩ := HI
      simp [Region.binds] at hdep
      have E5 : f 5 = .bool true := HF.out 5 (by simp [hdep])
      simp only [E5, Act.put, List.toList_toArray, List.take_succ_cons, List.take_zero, List.drop_succ_cons, List.drop_zero, List.cons_append, List.nil_append, List.setIfInBounds_toArray, List.set_cons_zero, List.set_cons_succ]
      go_simp
      exact hKK _ _ ⟨fun zz => cond (Nat.beq zz 6) (.bool true) (cond (Nat.beq zz 5) (.bool true) (f zz)), rfl, hB, Lib.hid (upd_fact (i := 6) (v := .bool true) (cond_fact (j := 5) (v := .bool true) HF.out rfl) rfl)⟩
    · intro D aa wx HI hD hdep KK hKK
      obtain ⟨f, rfl, hB, HF⟩ := HI
      simp [Region.binds] at hdep
      have E6 : f 6 = .bool true := HF.out 6 (by simp [hdep])
      simp only [E6, Act.put, List.toList_toArray, List.take_succ_cons, List.take_zero, List.drop_succ_cons, List.drop_zero, List.cons_append, List.nil_append, List.setIfInBounds_toArray, List.set_cons_zero, List.set_cons_succ]
      go_simp
      exact hKK _ _ ⟨fun zz => cond (Nat.beq zz 7) (.int .i64 ea) (cond (Nat.beq zz 6) (.bool true) (f zz)), rfl, hB, Lib.hid (upd_fact (i := 7) (v := .int .i64 ea) (cond_fact (j := 6) (v := .bool true) HF.out rfl) rfl)⟩
    · intro D aa wx HI hD hdep KK hKK
      obtain ⟨f, rfl, hB, HF⟩ := HI
      simp [Region.binds] at hdep
      have E6 : f 6 = .bool true := HF.out 6 (by simp [hdep])
      simp only [E6, Act.put, List.toList_toArray, List.take_succ_cons, List.take_zero, List.drop_succ_cons, List.drop_zero, List.cons_append, List.nil_append, List.setIfInBounds_toArray, List.set_cons_zero, List.set_cons_succ]
      go_simp
      exact hKK _ _ ⟨fun zz => cond (Nat.beq zz 8) (.int .i64 ea) (cond (Nat.beq zz 6) (.bool true) (f zz)), rfl, hB, Lib.hid (upd_fact (i := 8) (v := .int .i64 ea) (cond_fact (j := 6) (v := .bool true) HF.out rfl) rfl)⟩
    · intro D aa wx HI hD hdep KK hKK
      obtain ⟨f, rfl, hB, HF⟩ := HI
      simp [Region.binds] at hdep
      have E6 : f 6 = .bool true := HF.out 6 (by simp [hdep])
      have E7 : f 7 = .int .i64 ea := HF.out 7 (by simp [hdep])
      have E8 : f 8 = .int .i64 ea := HF.out 8 (by simp [hdep])
      simp only [E6, E7, E8, Act.put, List.toList_toArray, List.take_succ_cons, List.take_zero, List.drop_succ_cons, List.drop_zero, List.cons_append, List.nil_append, List.setIfInBounds_toArray, List.set_cons_zero, List.set_cons_succ]
      go_simp
      exact hKK _ _ ⟨fun zz => cond (Nat.beq zz 9) (.bool true) (cond (Nat.beq zz 8) (.int .i64 ea) (cond (Nat.beq zz 7) (.int .i64 ea) (cond (Nat.beq zz 6) (.bool true) (f zz)))), rfl, hB, Lib.hid (upd_fact (i := 9) (v := .bool true) (cond_fact (j := 8) (v := .int .i64 ea) (cond_fact (j := 7) (v := .int .i64 ea) (cond_fact (j := 6) (v := .bool true) HF.out rfl) rfl) rfl) rfl)⟩
    · intro D aa wx HI hD hdep KK hKK
      obtain ⟨f, rfl, hB, HF⟩ := HI
      simp [Region.binds] at hdep
      have E6 : f 6 = .bool true := HF.out 6 (by simp [hdep])
      have E9 : f 9 = .bool true := HF.out 9 (by simp [hdep])
      simp only [E6, E9, Act.put, List.toList_toArray, List.take_succ_cons, List.take_zero, List.drop_succ_cons, List.drop_zero, List.cons_append, List.nil_append, List.setIfInBounds_toArray, List.set_cons_zero, List.set_cons_succ]
      go_simp
      exact hKK _ _ ⟨fun zz => cond (Nat.beq zz 10) (.bool true) (cond (Nat.beq zz 9) (.bool true) (cond (Nat.beq zz 6) (.bool true) (f zz))), rfl, hB, Lib.hid (upd_fact (i := 10) (v := .bool true) (cond_fact (j := 9) (v := .bool true) (cond_fact (j := 6) (v := .bool true) HF.out rfl) rfl) rfl)⟩
    · intro D aa wx HI hD hdep KK hKK
      obtain ⟨f, rfl, hB, HF⟩ := HI
      simp [Region.binds] at hdep
      have E10 : f 10 = .bool true := HF.out 10 (by simp [hdep])
      simp only [E10, Act.put, List.toList_toArray, List.take_succ_cons, List.take_zero, List.drop_succ_cons, List.drop_zero, List.cons_append, List.nil_append, List.setIfInBounds_toArray, List.set_cons_zero, List.set_cons_succ]
      go_simp
      exact hKK _ _ ⟨fun zz => cond (Nat.beq zz 11) (.bool true) (cond (Nat.beq zz 10) (.bool true) (f zz)), rfl, hB, Lib.hid (upd_fact (i := 11) (v := .bool true) (cond_fact (j := 10) (v := .bool true) HF.out rfl) rfl)⟩
    · intro D aa wx HI hD hdep KK hKK
      obtain ⟨f, rfl, hB, HF⟩ := HI
      simp [Region.binds] at hdep
      have E11 : f 11 = .bool true := HF.out 11 (by simp [hdep])
      obtain ⟨c0, c1, c2, c3, c4, c5, f0, f1, f2, f3, f4, f5⟩ := S2.out.below hB
      obtain ⟨d0, d1, d2, d3, d4, d5, g0, g1, g2, g3, g4, g5⟩ := S9.out.below hB
      obtain ⟨e0, e1, e2, e3, e4, e5, h0, h1, h2, h3, h4, h5⟩ := S11.out.below hB
      clear f0 f1 f2 f3 f4 f5 g0 g1 g2 g3 g4 g5 h0 h1 h2 h3 h4 h5
      simp only [E11, Act.put, List.toList_toArray, List.take_succ_cons, List.take_zero, List.drop_succ_cons, List.drop_zero, List.cons_append, List.nil_append, List.setIfInBounds_toArray, List.set_cons_zero, List.set_cons_succ]
      go_simp
      exact hKK _ _ ⟨fun zz => cond (Nat.beq zz 12) (.agg #[.int .i64 k3, .int .i64 t3, .string b3, .string n3, .int .u64 (u3 : Int), .int .i64 p3]) (cond (Nat.beq zz 11) (.bool true) (f zz)), rfl, hB, Lib.hid (upd_fact (i := 12) (v := .agg #[.int .i64 k3, .int .i64 t3, .string b3, .string n3, .int .u64 (u3 : Int), .int .i64 p3]) (cond_fact (j := 11) (v := .bool true) HF.out rfl) rfl)⟩
    · intro D aa wx HI hD hdep KK hKK
      obtain ⟨f, rfl, hB, HF⟩ := HI
      simp [Region.binds] at hdep
      have E11 : f 11 = .bool true := HF.out 11 (by simp [hdep])
      obtain ⟨c0, c1, c2, c3, c4, c5, f0, f1, f2, f3, f4, f5⟩ := S2.out.below hB
      obtain ⟨d0, d1, d2, d3, d4, d5, g0, g1, g2, g3, g4, g5⟩ := S9.out.below hB
      obtain ⟨e0, e1, e2, e3, e4, e5, h0, h1, h2, h3, h4, h5⟩ := S11.out.below hB
      clear f0 f1 f2 f3 f4 f5 g0 g1 g2 g3 g4 g5 h0 h1 h2 h3 h4 h5
      simp only [E11, Act.put, List.toList_toArray, List.take_succ_cons, List.take_zero, List.drop_succ_cons, List.drop_zero, List.cons_append, List.nil_append, List.setIfInBounds_toArray, List.set_cons_zero, List.set_cons_succ]
      go_simp
      exact hKK _ _ ⟨fun zz => cond (Nat.beq zz 13) (.agg #[.int .i64 k3, .int .i64 t3, .string b3, .string n3, .int .u64 (u3 : Int), .int .i64 p3]) (cond (Nat.beq zz 11) (.bool true) (f zz)), rfl, hB, Lib.hid (upd_fact (i := 13) (v := .agg #[.int .i64 k3, .int .i64 t3, .string b3, .string n3, .int .u64 (u3 : Int), .int .i64 p3]) (cond_fact (j := 11) (v := .bool true) HF.out rfl) rfl)⟩
    · intro D aa wx HI hD hdep KK hKK
      obtain ⟨f, rfl, hB, HF⟩ := HI
      simp [Region.binds] at hdep
      have E11 : f 11 = .bool true := HF.out 11 (by simp [hdep])
      have E13 : f 13 = .agg #[.int .i64 k3, .int .i64 t3, .string b3, .string n3, .int .u64 (u3 : Int), .int .i64 p3] := HF.out 13 (by simp [hdep])
      simp only [E11, E13, Act.put, List.toList_toArray, List.take_succ_cons, List.take_zero, List.drop_succ_cons, List.drop_zero, List.cons_append, List.nil_append, List.setIfInBounds_toArray, List.set_cons_zero, List.set_cons_succ]
      go_simp
      refine (ours_any _ _ _ _ _ _ _).mono ?_
      rintro e w5 ⟨rfl, hb⟩
      exact hKK _ _ ⟨fun zz => cond (Nat.beq zz 14) ((.agg #[.int .i64 k3, .int .i64 t3, .string b3, .string n3, .int .u64 (u3 : Int), .int .i64 p3])) (cond (Nat.beq zz 13) (.agg #[.int .i64 k3, .int .i64 t3, .string b3, .string n3, .int .u64 (u3 : Int), .int .i64 p3]) (cond (Nat.beq zz 11) (.bool true) (f zz))), rfl, below_to hB hb, Lib.hid (upd_fact (i := 14) (v := (.agg #[.int .i64 k3, .int .i64 t3, .string b3, .string n3, .int .u64 (u3 : Int), .int .i64 p3])) (cond_fact (j := 13) (v := .agg #[.int .i64 k3, .int .i64 t3, .string b3, .string n3, .int .u64 (u3 : Int), .int .i64 p3]) (cond_fact (j := 11) (v := .bool true) HF.out rfl) rfl) rfl)⟩
    · intro D aa wx HI hD hdep KK hKK
      obtain ⟨f, rfl, hB, HF⟩ := HI
      simp [Region.binds] at hdep
      have E11 : f 11 = .bool true := HF.out 11 (by simp [hdep])
      have E12 : f 12 = .agg #[.int .i64 k3, .int .i64 t3, .string b3, .string n3, .int .u64 (u3 : Int), .int .i64 p3] := HF.out 12 (by simp [hdep])
      have E14 : f 14 = (.agg #[.int .i64 k3, .int .i64 t3, .string b3, .string n3, .int .u64 (u3 : Int), .int .i64 p3]) := HF.out 14 (by simp [hdep])
      simp only [E11, E12, E14, Act.put, List.toList_toArray, List.take_succ_cons, List.take_zero, List.drop_succ_cons, List.drop_zero, List.cons_append, List.nil_append, List.setIfInBounds_toArray, List.set_cons_zero, List.set_cons_succ]
      go_simp
      exact hKK _ _ ⟨fun zz => cond (Nat.beq zz 15) (.bool true) (cond (Nat.beq zz 14) ((.agg #[.int .i64 k3, .int .i64 t3, .string b3, .string n3, .int .u64 (u3 : Int), .int .i64 p3])) (cond (Nat.beq zz 12) (.agg #[.int .i64 k3, .int .i64 t3, .string b3, .string n3, .int .u64 (u3 : Int), .int .i64 p3]) (cond (Nat.beq zz 11) (.bool true) (f zz)))), rfl, hB, Lib.hid (upd_fact (i := 15) (v := .bool true) (cond_fact (j := 14) (v := (.agg #[.int .i64 k3, .int .i64 t3, .string b3, .string n3, .int .u64 (u3 : Int), .int .i64 p3])) (cond_fact (j := 12) (v := .agg #[.int .i64 k3, .int .i64 t3, .string b3, .string n3, .int .u64 (u3 : Int), .int .i64 p3]) (cond_fact (j := 11) (v := .bool true) HF.out rfl) rfl) rfl) rfl)⟩
    · intro D aa wx HI hD hdep KK hKK
      obtain ⟨f, rfl, hB, HF⟩ := HI
      simp [Region.binds] at hdep
      have E11 : f 11 = .bool true := HF.out 11 (by simp [hdep])
      have E15 : f 15 = .bool true := HF.out 15 (by simp [hdep])
      simp only [E11, E15, Act.put, List.toList_toArray, List.take_succ_cons, List.take_zero, List.drop_succ_cons, List.drop_zero, List.cons_append, List.nil_append, List.setIfInBounds_toArray, List.set_cons_zero, List.set_cons_succ]
      go_simp
      exact hKK _ _ ⟨fun zz => cond (Nat.beq zz 16) (.bool true) (cond (Nat.beq zz 15) (.bool true) (cond (Nat.beq zz 11) (.bool true) (f zz))), rfl, hB, Lib.hid (upd_fact (i := 16) (v := .bool true) (cond_fact (j := 15) (v := .bool true) (cond_fact (j := 11) (v := .bool true) HF.out rfl) rfl) rfl)⟩
    · intro D aa wx HI hD hdep KK hKK
      obtain ⟨f, rfl, hB, HF⟩ := HI
      simp [Region.binds] at hdep
      have E16 : f 16 = .bool true := HF.out 16 (by simp [hdep])
      simp only [E16, Act.put, List.toList_toArray, List.take_succ_cons, List.take_zero, List.drop_succ_cons, List.drop_zero, List.cons_append, List.nil_append, List.setIfInBounds_toArray, List.set_cons_zero, List.set_cons_succ]
      go_simp
      exact hKK _ _ ⟨fun zz => cond (Nat.beq zz 17) (.bool true) (cond (Nat.beq zz 16) (.bool true) (f zz)), rfl, hB, Lib.hid (upd_fact (i := 17) (v := .bool true) (cond_fact (j := 16) (v := .bool true) HF.out rfl) rfl)⟩
    · intro D aa wx HI hD hdep KK hKK
      obtain ⟨f, rfl, hB, HF⟩ := HI
      simp [Region.binds] at hdep
      have E17 : f 17 = .bool true := HF.out 17 (by simp [hdep])
      simp only [E17, Act.put, List.toList_toArray, List.take_succ_cons, List.take_zero, List.drop_succ_cons, List.drop_zero, List.cons_append, List.nil_append, List.setIfInBounds_toArray, List.set_cons_zero, List.set_cons_succ]
      go_simp
      exact hKK _ _ ⟨fun zz => cond (Nat.beq zz 18) (.int .i64 eo) (cond (Nat.beq zz 17) (.bool true) (f zz)), rfl, hB, Lib.hid (upd_fact (i := 18) (v := .int .i64 eo) (cond_fact (j := 17) (v := .bool true) HF.out rfl) rfl)⟩
    · intro D aa wx HI hD hdep KK hKK
      obtain ⟨f, rfl, hB, HF⟩ := HI
      simp [Region.binds] at hdep
      have E17 : f 17 = .bool true := HF.out 17 (by simp [hdep])
      simp only [E17, Act.put, List.toList_toArray, List.take_succ_cons, List.take_zero, List.drop_succ_cons, List.drop_zero, List.cons_append, List.nil_append, List.setIfInBounds_toArray, List.set_cons_zero, List.set_cons_succ]
      go_simp
      exact hKK _ _ ⟨fun zz => cond (Nat.beq zz 19) (.int .i64 eo) (cond (Nat.beq zz 17) (.bool true) (f zz)), rfl, hB, Lib.hid (upd_fact (i := 19) (v := .int .i64 eo) (cond_fact (j := 17) (v := .bool true) HF.out rfl) rfl)⟩
    · intro D aa wx HI hD hdep KK hKK
      obtain ⟨f, rfl, hB, HF⟩ := HI
      simp [Region.binds] at hdep
      have E17 : f 17 = .bool true := HF.out 17 (by simp [hdep])
      have E18 : f 18 = .int .i64 eo := HF.out 18 (by simp [hdep])
      have E19 : f 19 = .int .i64 eo := HF.out 19 (by simp [hdep])
      simp only [E17, E18, E19, Act.put, List.toList_toArray, List.take_succ_cons, List.take_zero, List.drop_succ_cons, List.drop_zero, List.cons_append, List.nil_append, List.setIfInBounds_toArray, List.set_cons_zero, List.set_cons_succ]
      go_simp
      exact hKK _ _ ⟨fun zz => cond (Nat.beq zz 20) (.bool true) (cond (Nat.beq zz 19) (.int .i64 eo) (cond (Nat.beq zz 18) (.int .i64 eo) (cond (Nat.beq zz 17) (.bool true) (f zz)))), rfl, hB, Lib.hid (upd_fact (i := 20) (v := .bool true) (cond_fact (j := 19) (v := .int .i64 eo) (cond_fact (j := 18) (v := .int .i64 eo) (cond_fact (j := 17) (v := .bool true) HF.out rfl) rfl) rfl) rfl)⟩
    · intro D aa wx HI hD hdep KK hKK
      obtain ⟨f, rfl, hB, HF⟩ := HI
      simp [Region.binds] at hdep
      have E17 : f 17 = .bool true := HF.out 17 (by simp [hdep])
      have E20 : f 20 = .bool true := HF.out 20 (by simp [hdep])
      simp only [E17, E20, Act.put, List.toList_toArray, List.take_succ_cons, List.take_zero, List.drop_succ_cons, List.drop_zero, List.cons_append, List.nil_append, List.setIfInBounds_toArray, List.set_cons_zero, List.set_cons_succ]
      go_simp
      exact hKK _ _ ⟨fun zz => cond (Nat.beq zz 21) (.bool true) (cond (Nat.beq zz 20) (.bool true) (cond (Nat.beq zz 17) (.bool true) (f zz))), rfl, hB, Lib.hid (upd_fact (i := 21) (v := .bool true) (cond_fact (j := 20) (v := .bool true) (cond_fact (j := 17) (v := .bool true) HF.out rfl) rfl) rfl)⟩
    · intro D aa wx HI hD hdep KK hKK
      obtain ⟨f, rfl, hB, HF⟩ := HI
      simp [Region.binds] at hdep
      have E21 : f 21 = .bool true := HF.out 21 (by simp [hdep])
      simp only [E21, Act.put, List.toList_toArray, List.take_succ_cons, List.take_zero, List.drop_succ_cons, List.drop_zero, List.cons_append, List.nil_append, List.setIfInBounds_toArray, List.set_cons_zero, List.set_cons_succ]
      go_simp
      exact hKK _ _ ⟨fun zz => cond (Nat.beq zz 22) (.bool true) (cond (Nat.beq zz 21) (.bool true) (f zz)), rfl, hB, Lib.hid (upd_fact (i := 22) (v := .bool true) (cond_fact (j := 21) (v := .bool true) HF.out rfl) rfl)⟩
    · intro D aa wx HI hD hdep KK hKK
      obtain ⟨f, rfl, hB, HF⟩ := HI
      simp [Region.binds] at hdep
      have E22 : f 22 = .bool true := HF.out 22 (by simp [hdep])
      simp only [E22, Act.put, List.toList_toArray, List.take_succ_cons, List.take_zero, List.drop_succ_cons, List.drop_zero, List.cons_append, List.nil_append, List.setIfInBounds_toArray, List.set_cons_zero, List.set_cons_succ]
      go_simp
      exact hKK _ _ ⟨fun zz => cond (Nat.beq zz 23) (.int .i64 0) (cond (Nat.beq zz 22) (.bool true) (f zz)), rfl, hB, Lib.hid (upd_fact (i := 23) (v := .int .i64 0) (cond_fact (j := 22) (v := .bool true) HF.out rfl) rfl)⟩
    · intro D aa wx HI hD hdep KK hKK
      obtain ⟨f, rfl, hB, HF⟩ := HI
      simp [Region.binds] at hdep
      have E22 : f 22 = .bool true := HF.out 22 (by simp [hdep])
      have E23 : f 23 = .int .i64 0 := HF.out 23 (by simp [hdep])
      simp only [E22, E23, Act.put, List.toList_toArray, List.take_succ_cons, List.take_zero, List.drop_succ_cons, List.drop_zero, List.cons_append, List.nil_append, List.setIfInBounds_toArray, List.set_cons_zero, List.set_cons_succ]
      go_simp
      exact hKK _ _ ⟨fun zz => cond (Nat.beq zz 24) (.bool true) (cond (Nat.beq zz 23) (.int .i64 0) (cond (Nat.beq zz 22) (.bool true) (f zz))), rfl, hB, Lib.hid (upd_fact (i := 24) (v := .bool true) (cond_fact (j := 23) (v := .int .i64 0) (cond_fact (j := 22) (v := .bool true) HF.out rfl) rfl) rfl)⟩
    · intro D aa wx HI hD hdep KK hKK
      obtain ⟨f, rfl, hB, HF⟩ := HI
      simp [Region.binds] at hdep
      have E22 : f 22 = .bool true := HF.out 22 (by simp [hdep])
      obtain ⟨c0, c1, c2, c3, c4, c5, f0, f1, f2, f3, f4, f5⟩ := S2.out.below hB
      obtain ⟨d0, d1, d2, d3, d4, d5, g0, g1, g2, g3, g4, g5⟩ := S9.out.below hB
      obtain ⟨e0, e1, e2, e3, e4, e5, h0, h1, h2, h3, h4, h5⟩ := S11.out.below hB
      clear f0 f1 f2 f3 f4 f5 g0 g1 g2 g3 g4 g5 h0 h1 h2 h3 h4 h5
      simp only [E22, Act.put, List.toList_toArray, List.take_succ_cons, List.take_zero, List.drop_succ_cons, List.drop_zero, List.cons_append, List.nil_append, List.setIfInBounds_toArray, List.set_cons_zero, List.set_cons_succ]
      go_simp
      exact hKK _ _ ⟨fun zz => cond (Nat.beq zz 25) (.agg #[.int .i64 k, .int .i64 t, .string b, .string n, .int .u64 (u : Int), .int .i64 p]) (cond (Nat.beq zz 22) (.bool true) (f zz)), rfl, hB, Lib.hid (upd_fact (i := 25) (v := .agg #[.int .i64 k, .int .i64 t, .string b, .string n, .int .u64 (u : Int), .int .i64 p]) (cond_fact (j := 22) (v := .bool true) HF.out rfl) rfl)⟩
    · intro D aa wx HI hD hdep KK hKK
      obtain ⟨f, rfl, hB, HF⟩ := HI
      simp [Region.binds] at hdep
      have E22 : f 22 = .bool true := HF.out 22 (by simp [hdep])
      have E25 : f 25 = .agg #[.int .i64 k, .int .i64 t, .string b, .string n, .int .u64 (u : Int), .int .i64 p] := HF.out 25 (by simp [hdep])
      simp only [E22, E25, Act.put, List.toList_toArray, List.take_succ_cons, List.take_zero, List.drop_succ_cons, List.drop_zero, List.cons_append, List.nil_append, List.setIfInBounds_toArray, List.set_cons_zero, List.set_cons_succ]
      go_simp
      refine (HR.out _).mono ?_
      rintro e w5 ⟨rfl, hb⟩
      exact hKK _ _ ⟨fun zz => cond (Nat.beq zz 26) (.bool true) (cond (Nat.beq zz 25) (.agg #[.int .i64 k, .int .i64 t, .string b, .string n, .int .u64 (u : Int), .int .i64 p]) (cond (Nat.beq zz 22) (.bool true) (f zz))), rfl, below_to hB hb, Lib.hid (upd_fact (i := 26) (v := .bool true) (cond_fact (j := 25) (v := .agg #[.int .i64 k, .int .i64 t, .string b, .string n, .int .u64 (u : Int), .int .i64 p]) (cond_fact (j := 22) (v := .bool true) HF.out rfl) rfl) rfl)⟩
    · intro D aa wx HI hD hdep KK hKK
      obtain ⟨f, rfl, hB, HF⟩ := HI
      simp [Region.binds] at hdep
      have E22 : f 22 = .bool true := HF.out 22 (by simp [hdep])
      have E24 : f 24 = .bool true := HF.out 24 (by simp [hdep])
      have E26 : f 26 = .bool true := HF.out 26 (by simp [hdep])
      simp only [E22, E24, E26, Act.put, List.toList_toArray, List.take_succ_cons, List.take_zero, List.drop_succ_cons, List.drop_zero, List.cons_append, List.nil_append, List.setIfInBounds_toArray, List.set_cons_zero, List.set_cons_succ]
      go_simp
      exact hKK _ _ ⟨fun zz => cond (Nat.beq zz 27) (.bool true) (cond (Nat.beq zz 26) (.bool true) (cond (Nat.beq zz 24) (.bool true) (cond (Nat.beq zz 22) (.bool true) (f zz)))), rfl, hB, Lib.hid (upd_fact (i := 27) (v := .bool true) (cond_fact (j := 26) (v := .bool true) (cond_fact (j := 24) (v := .bool true) (cond_fact (j := 22) (v := .bool true) HF.out rfl) rfl) rfl) rfl)⟩
    · intro D aa wx HI hD hdep KK hKK
      obtain ⟨f, rfl, hB, HF⟩ := HI
      simp [Region.binds] at hdep
      have E22 : f 22 = .bool true := HF.out 22 (by simp [hdep])
      have E27 : f 27 = .bool true := HF.out 27 (by simp [hdep])
      simp only [E22, E27, Act.put, List.toList_toArray, List.take_succ_cons, List.take_zero, List.drop_succ_cons, List.drop_zero, List.cons_append, List.nil_append, List.setIfInBounds_toArray, List.set_cons_zero, List.set_cons_succ]
      go_simp
      exact hKK _ _ ⟨fun zz => cond (Nat.beq zz 28) (.bool true) (cond (Nat.beq zz 27) (.bool true) (cond (Nat.beq zz 22) (.bool true) (f zz))), rfl, hB, Lib.hid (upd_fact (i := 28) (v := .bool true) (cond_fact (j := 27) (v := .bool true) (cond_fact (j := 22) (v := .bool true) HF.out rfl) rfl) rfl)⟩
    · intro D aa wx HI hD hdep KK hKK
      obtain ⟨f, rfl, hB, HF⟩ := HI
      simp [Region.binds] at hdep
      have E28 : f 28 = .bool true := HF.out 28 (by simp [hdep])
      simp only [E28, Act.put, List.toList_toArray, List.take_succ_cons, List.take_zero, List.drop_succ_cons, List.drop_zero, List.cons_append, List.nil_append, List.setIfInBounds_toArray, List.set_cons_zero, List.set_cons_succ]
      go_simp
      exact hKK _ _ ⟨fun zz => cond (Nat.beq zz 29) (.bool true) (cond (Nat.beq zz 28) (.bool true) (f zz)), rfl, hB, Lib.hid (upd_fact (i := 29) (v := .bool true) (cond_fact (j := 28) (v := .bool true) HF.out rfl) rfl)⟩
    · intro D aa wx HI hD hdep KK hKK
      obtain ⟨f, rfl, hB, HF⟩ := HI
      simp [Region.binds] at hdep
      have E29 : f 29 = .bool true := HF.out 29 (by simp [hdep])
      simp only [E29, Act.put, List.toList_toArray, List.take_succ_cons, List.take_zero, List.drop_succ_cons, List.drop_zero, List.cons_append, List.nil_append, List.setIfInBounds_toArray, List.set_cons_zero, List.set_cons_succ]
      go_simp
      exact hKK _ _ ⟨fun zz => cond (Nat.beq zz 30) (.int .i64 0) (cond (Nat.beq zz 29) (.bool true) (f zz)), rfl, hB, Lib.hid (upd_fact (i := 30) (v := .int .i64 0) (cond_fact (j := 29) (v := .bool true) HF.out rfl) rfl)⟩
    · intro D aa wx HI hD hdep KK hKK
      obtain ⟨f, rfl, hB, HF⟩ := HI
      simp [Region.binds] at hdep
      have E29 : f 29 = .bool true := HF.out 29 (by simp [hdep])
      have E30 : f 30 = .int .i64 0 := HF.out 30 (by simp [hdep])
      simp only [E29, E30, Act.put, List.toList_toArray, List.take_succ_cons, List.take_zero, List.drop_succ_cons, List.drop_zero, List.cons_append, List.nil_append, List.setIfInBounds_toArray, List.set_cons_zero, List.set_cons_succ]
      go_simp
      exact hKK _ _ ⟨fun zz => cond (Nat.beq zz 31) (.bool true) (cond (Nat.beq zz 30) (.int .i64 0) (cond (Nat.beq zz 29) (.bool true) (f zz))), rfl, hB, Lib.hid (upd_fact (i := 31) (v := .bool true) (cond_fact (j := 30) (v := .int .i64 0) (cond_fact (j := 29) (v := .bool true) HF.out rfl) rfl) rfl)⟩
    · intro D aa wx HI hD hdep KK hKK
      obtain ⟨f, rfl, hB, HF⟩ := HI
      simp [Region.binds] at hdep
      have E29 : f 29 = .bool true := HF.out 29 (by simp [hdep])
      have E31 : f 31 = .bool true := HF.out 31 (by simp [hdep])
      simp only [E29, E31, Act.put, List.toList_toArray, List.take_succ_cons, List.take_zero, List.drop_succ_cons, List.drop_zero, List.cons_append, List.nil_append, List.setIfInBounds_toArray, List.set_cons_zero, List.set_cons_succ]
      go_simp
      exact hKK _ _ ⟨fun zz => cond (Nat.beq zz 32) (.bool true) (cond (Nat.beq zz 31) (.bool true) (cond (Nat.beq zz 29) (.bool true) (f zz))), rfl, hB, Lib.hid (upd_fact (i := 32) (v := .bool true) (cond_fact (j := 31) (v := .bool true) (cond_fact (j := 29) (v := .bool true) HF.out rfl) rfl) rfl)⟩
    · intro D aa wx HI hD hdep KK hKK
      obtain ⟨f, rfl, hB, HF⟩ := HI
      simp [Region.binds] at hdep
      have E32 : f 32 = .bool true := HF.out 32 (by simp [hdep])
      simp only [E32, Act.put, List.toList_toArray, List.take_succ_cons, List.take_zero, List.drop_succ_cons, List.drop_zero, List.cons_append, List.nil_append, List.setIfInBounds_toArray, List.set_cons_zero, List.set_cons_succ]
      go_simp
      exact hKK _ _ ⟨fun zz => cond (Nat.beq zz 33) (undef) (cond (Nat.beq zz 32) (.bool true) (f zz)), rfl, hB, Lib.hid (upd_fact (i := 33) (v := undef) (cond_fact (j := 32) (v := .bool true) HF.out rfl) rfl)⟩
    · intro D aa wx HI hD hdep KK hKK
      obtain ⟨f, rfl, hB, HF⟩ := HI
      simp [Region.binds] at hdep
      have E32 : f 32 = .bool true := HF.out 32 (by simp [hdep])
      have E33 : f 33 = undef := HF.out 33 (by simp [hdep])
      simp only [E32, E33, Act.put, List.toList_toArray, List.take_succ_cons, List.take_zero, List.drop_succ_cons, List.drop_zero, List.cons_append, List.nil_append, List.setIfInBounds_toArray, List.set_cons_zero, List.set_cons_succ]
      go_simp
      exact hKK _ _ ⟨fun zz => cond (Nat.beq zz 34) (undef) (cond (Nat.beq zz 33) (undef) (cond (Nat.beq zz 32) (.bool true) (f zz))), rfl, hB, Lib.hid (upd_fact (i := 34) (v := undef) (cond_fact (j := 33) (v := undef) (cond_fact (j := 32) (v := .bool true) HF.out rfl) rfl) rfl)⟩
    · intro D aa wx HI hD hdep KK hKK
      obtain ⟨f, rfl, hB, HF⟩ := HI
      simp [Region.binds] at hdep
      have E29 : f 29 = .bool true := HF.out 29 (by simp [hdep])
      have E32 : f 32 = .bool true := HF.out 32 (by simp [hdep])
      have E34 : f 34 = undef := HF.out 34 (by simp [hdep])
      simp only [E29, E32, E34, Act.put, List.toList_toArray, List.take_succ_cons, List.take_zero, List.drop_succ_cons, List.drop_zero, List.cons_append, List.nil_append, List.setIfInBounds_toArray, List.set_cons_zero, List.set_cons_succ]
      go_simp
      exact hKK _ _ ⟨fun zz => cond (Nat.beq zz 35) (.bool true) (cond (Nat.beq zz 34) (undef) (cond (Nat.beq zz 32) (.bool true) (cond (Nat.beq zz 29) (.bool true) (f zz)))), rfl, hB, Lib.hid (upd_fact (i := 35) (v := .bool true) (cond_fact (j := 34) (v := undef) (cond_fact (j := 32) (v := .bool true) (cond_fact (j := 29) (v := .bool true) HF.out rfl) rfl) rfl) rfl)⟩
    · intro D aa wx HI hD hdep KK hKK
      obtain ⟨f, rfl, hB, HF⟩ := HI
      simp [Region.binds] at hdep
      have E29 : f 29 = .bool true := HF.out 29 (by simp [hdep])
      have E35 : f 35 = .bool true := HF.out 35 (by simp [hdep])
      simp only [E29, E35, Act.put, List.toList_toArray, List.take_succ_cons, List.take_zero, List.drop_succ_cons, List.drop_zero, List.cons_append, List.nil_append, List.setIfInBounds_toArray, List.set_cons_zero, List.set_cons_succ]
      go_simp
      exact hKK _ _ ⟨fun zz => cond (Nat.beq zz 36) (.bool true) (cond (Nat.beq zz 35) (.bool true) (cond (Nat.beq zz 29) (.bool true) (f zz))), rfl, hB, Lib.hid (upd_fact (i := 36) (v := .bool true) (cond_fact (j := 35) (v := .bool true) (cond_fact (j := 29) (v := .bool true) HF.out rfl) rfl) rfl)⟩
    · intro D aa wx HI hD hdep KK hKK
      obtain ⟨f, rfl, hB, HF⟩ := HI
      simp [Region.binds] at hdep
      have E36 : f 36 = .bool true := HF.out 36 (by simp [hdep])
      simp only [E36, Act.put, List.toList_toArray, List.take_succ_cons, List.take_zero, List.drop_succ_cons, List.drop_zero, List.cons_append, List.nil_append, List.setIfInBounds_toArray, List.set_cons_zero, List.set_cons_succ]
      go_simp
      exact hKK _ _ ⟨fun zz => cond (Nat.beq zz 37) (.bool true) (cond (Nat.beq zz 36) (.bool true) (f zz)), rfl, hB, Lib.hid (upd_fact (i := 37) (v := .bool true) (cond_fact (j := 36) (v := .bool true) HF.out rfl) rfl)⟩
    · intro D aa wx HI hD hdep KK hKK
      obtain ⟨f, rfl, hB, HF⟩ := HI
      simp [Region.binds] at hdep
      have E37 : f 37 = .bool true := HF.out 37 (by simp [hdep])
      simp only [E37, Act.put, List.toList_toArray, List.take_succ_cons, List.take_zero, List.drop_succ_cons, List.drop_zero, List.cons_append, List.nil_append, List.setIfInBounds_toArray, List.set_cons_zero, List.set_cons_succ]
      go_simp
      exact hKK _ _ ⟨fun zz => cond (Nat.beq zz 38) (.pointer (some ⟨w.heap.size, 1, none⟩)) (cond (Nat.beq zz 37) (.bool true) (f zz)), rfl, hB, Lib.hid (upd_fact (i := 38) (v := .pointer (some ⟨w.heap.size, 1, none⟩)) (cond_fact (j := 37) (v := .bool true) HF.out rfl) rfl)⟩
    · intro D aa wx HI hD hdep KK hKK
      obtain ⟨f, rfl, hB, HF⟩ := HI
      simp [Region.binds] at hdep
      have E37 : f 37 = .bool true := HF.out 37 (by simp [hdep])
      have E38 : f 38 = .pointer (some ⟨w.heap.size, 1, none⟩) := HF.out 38 (by simp [hdep])
      obtain ⟨c0, c1, c2, c3, c4, c5, f0, f1, f2, f3, f4, f5⟩ := S2.out.below hB
      obtain ⟨d0, d1, d2, d3, d4, d5, g0, g1, g2, g3, g4, g5⟩ := S9.out.below hB
      obtain ⟨e0, e1, e2, e3, e4, e5, h0, h1, h2, h3, h4, h5⟩ := S11.out.below hB
      clear f0 f1 f2 f3 f4 f5 g0 g1 g2 g3 g4 g5 h0 h1 h2 h3 h4 h5
      simp only [E37, E38, Act.put, List.toList_toArray, List.take_succ_cons, List.take_zero, List.drop_succ_cons, List.drop_zero, List.cons_append, List.nil_append, List.setIfInBounds_toArray, List.set_cons_zero, List.set_cons_succ]
      go_simp
      exact hKK _ _ ⟨fun zz => cond (Nat.beq zz 39) (.int .i64 t) (cond (Nat.beq zz 38) (.pointer (some ⟨w.heap.size, 1, none⟩)) (cond (Nat.beq zz 37) (.bool true) (f zz))), rfl, hB, Lib.hid (upd_fact (i := 39) (v := .int .i64 t) (cond_fact (j := 38) (v := .pointer (some ⟨w.heap.size, 1, none⟩)) (cond_fact (j := 37) (v := .bool true) HF.out rfl) rfl) rfl)⟩
    · intro D aa wx HI hD hdep KK hKK
      obtain ⟨f, rfl, hB, HF⟩ := HI
      simp [Region.binds] at hdep
      have E37 : f 37 = .bool true := HF.out 37 (by simp [hdep])
      have E39 : f 39 = .int .i64 t := HF.out 39 (by simp [hdep])
      simp only [E37, E39, Act.put, List.toList_toArray, List.take_succ_cons, List.take_zero, List.drop_succ_cons, List.drop_zero, List.cons_append, List.nil_append, List.setIfInBounds_toArray, List.set_cons_zero, List.set_cons_succ]
      go_simp
      refine (H18.out _).mono ?_
      rintro e w5 ⟨rfl, hb⟩
      exact hKK _ _ ⟨fun zz => cond (Nat.beq zz 40) (.string B1) (cond (Nat.beq zz 39) (.int .i64 t) (cond (Nat.beq zz 37) (.bool true) (f zz))), rfl, below_to hB hb, Lib.hid (upd_fact (i := 40) (v := .string B1) (cond_fact (j := 39) (v := .int .i64 t) (cond_fact (j := 37) (v := .bool true) HF.out rfl) rfl) rfl)⟩
    · intro D aa wx HI hD hdep KK hKK
      obtain ⟨f, rfl, hB, HF⟩ := HI
      simp [Region.binds] at hdep
      have E37 : f 37 = .bool true := HF.out 37 (by simp [hdep])
      simp only [E37, Act.put, List.toList_toArray, List.take_succ_cons, List.take_zero, List.drop_succ_cons, List.drop_zero, List.cons_append, List.nil_append, List.setIfInBounds_toArray, List.set_cons_zero, List.set_cons_succ]
      go_simp
      exact hKK _ _ ⟨fun zz => cond (Nat.beq zz 41) (.pointer (some ⟨w.heap.size, 1, none⟩)) (cond (Nat.beq zz 37) (.bool true) (f zz)), rfl, hB, Lib.hid (upd_fact (i := 41) (v := .pointer (some ⟨w.heap.size, 1, none⟩)) (cond_fact (j := 37) (v := .bool true) HF.out rfl) rfl)⟩
    · intro D aa wx HI hD hdep KK hKK
      obtain ⟨f, rfl, hB, HF⟩ := HI
      simp [Region.binds] at hdep
      have E37 : f 37 = .bool true := HF.out 37 (by simp [hdep])
      have E41 : f 41 = .pointer (some ⟨w.heap.size, 1, none⟩) := HF.out 41 (by simp [hdep])
      obtain ⟨c0, c1, c2, c3, c4, c5, f0, f1, f2, f3, f4, f5⟩ := S2.out.below hB
      obtain ⟨d0, d1, d2, d3, d4, d5, g0, g1, g2, g3, g4, g5⟩ := S9.out.below hB
      obtain ⟨e0, e1, e2, e3, e4, e5, h0, h1, h2, h3, h4, h5⟩ := S11.out.below hB
      clear f0 f1 f2 f3 f4 f5 g0 g1 g2 g3 g4 g5 h0 h1 h2 h3 h4 h5
      simp only [E37, E41, Act.put, List.toList_toArray, List.take_succ_cons, List.take_zero, List.drop_succ_cons, List.drop_zero, List.cons_append, List.nil_append, List.setIfInBounds_toArray, List.set_cons_zero, List.set_cons_succ]
      go_simp
      exact hKK _ _ ⟨fun zz => cond (Nat.beq zz 42) (.int .i64 t) (cond (Nat.beq zz 41) (.pointer (some ⟨w.heap.size, 1, none⟩)) (cond (Nat.beq zz 37) (.bool true) (f zz))), rfl, hB, Lib.hid (upd_fact (i := 42) (v := .int .i64 t) (cond_fact (j := 41) (v := .pointer (some ⟨w.heap.size, 1, none⟩)) (cond_fact (j := 37) (v := .bool true) HF.out rfl) rfl) rfl)⟩
    · intro D aa wx HI hD hdep KK hKK
      obtain ⟨f, rfl, hB, HF⟩ := HI
      simp [Region.binds] at hdep
      have E37 : f 37 = .bool true := HF.out 37 (by simp [hdep])
      have E42 : f 42 = .int .i64 t := HF.out 42 (by simp [hdep])
      simp only [E37, E42, Act.put, List.toList_toArray, List.take_succ_cons, List.take_zero, List.drop_succ_cons, List.drop_zero, List.cons_append, List.nil_append, List.setIfInBounds_toArray, List.set_cons_zero, List.set_cons_succ]
      go_simp
      refine (H19.out _).mono ?_
      rintro e w5 ⟨rfl, hb⟩
      exact hKK _ _ ⟨fun zz => cond (Nat.beq zz 43) (.string B1) (cond (Nat.beq zz 42) (.int .i64 t) (cond (Nat.beq zz 37) (.bool true) (f zz))), rfl, below_to hB hb, Lib.hid (upd_fact (i := 43) (v := .string B1) (cond_fact (j := 42) (v := .int .i64 t) (cond_fact (j := 37) (v := .bool true) HF.out rfl) rfl) rfl)⟩
    · intro D aa wx HI hD hdep KK hKK
      obtain ⟨f, rfl, hB, HF⟩ := HI
      simp [Region.binds] at hdep
      have E37 : f 37 = .bool true := HF.out 37 (by simp [hdep])
      have E40 : f 40 = .string B1 := HF.out 40 (by simp [hdep])
      have E43 : f 43 = .string B1 := HF.out 43 (by simp [hdep])
      simp only [E37, E40, E43, Act.put, List.toList_toArray, List.take_succ_cons, List.take_zero, List.drop_succ_cons, List.drop_zero, List.cons_append, List.nil_append, List.setIfInBounds_toArray, List.set_cons_zero, List.set_cons_succ]
      go_simp
      exact hKK _ _ ⟨fun zz => cond (Nat.beq zz 44) (.bool true) (cond (Nat.beq zz 43) (.string B1) (cond (Nat.beq zz 40) (.string B1) (cond (Nat.beq zz 37) (.bool true) (f zz)))), rfl, hB, Lib.hid (upd_fact (i := 44) (v := .bool true) (cond_fact (j := 43) (v := .string B1) (cond_fact (j := 40) (v := .string B1) (cond_fact (j := 37) (v := .bool true) HF.out rfl) rfl) rfl) rfl)⟩
    · intro D aa wx HI hD hdep KK hKK
      obtain ⟨f, rfl, hB, HF⟩ := HI
      simp [Region.binds] at hdep
      have E37 : f 37 = .bool true := HF.out 37 (by simp [hdep])
      have E44 : f 44 = .bool true := HF.out 44 (by simp [hdep])
      simp only [E37, E44, Act.put, List.toList_toArray, List.take_succ_cons, List.take_zero, List.drop_succ_cons, List.drop_zero, List.cons_append, List.nil_append, List.setIfInBounds_toArray, List.set_cons_zero, List.set_cons_succ]
      go_simp
      exact hKK _ _ ⟨fun zz => cond (Nat.beq zz 45) (.bool true) (cond (Nat.beq zz 44) (.bool true) (cond (Nat.beq zz 37) (.bool true) (f zz))), rfl, hB, Lib.hid (upd_fact (i := 45) (v := .bool true) (cond_fact (j := 44) (v := .bool true) (cond_fact (j := 37) (v := .bool true) HF.out rfl) rfl) rfl)⟩
    · intro D aa wx HI hD hdep KK hKK
      obtain ⟨f, rfl, hB, HF⟩ := HI
      simp [Region.binds] at hdep
      have E45 : f 45 = .bool true := HF.out 45 (by simp [hdep])
      simp only [E45, Act.put, List.toList_toArray, List.take_succ_cons, List.take_zero, List.drop_succ_cons, List.drop_zero, List.cons_append, List.nil_append, List.setIfInBounds_toArray, List.set_cons_zero, List.set_cons_succ]
      go_simp
      exact hKK _ _ ⟨fun zz => cond (Nat.beq zz 46) (.bool true) (cond (Nat.beq zz 45) (.bool true) (f zz)), rfl, hB, Lib.hid (upd_fact (i := 46) (v := .bool true) (cond_fact (j := 45) (v := .bool true) HF.out rfl) rfl)⟩
    · intro D aa wx HI hD hdep KK hKK
      obtain ⟨f, rfl, hB, HF⟩ := HI
      simp [Region.binds] at hdep
      have E46 : f 46 = .bool true := HF.out 46 (by simp [hdep])
      simp only [E46, Act.put, List.toList_toArray, List.take_succ_cons, List.take_zero, List.drop_succ_cons, List.drop_zero, List.cons_append, List.nil_append, List.setIfInBounds_toArray, List.set_cons_zero, List.set_cons_succ]
      go_simp
      exact hKK _ _ ⟨fun zz => cond (Nat.beq zz 47) (.pointer (some ⟨w.heap.size, 0, none⟩)) (cond (Nat.beq zz 46) (.bool true) (f zz)), rfl, hB, Lib.hid (upd_fact (i := 47) (v := .pointer (some ⟨w.heap.size, 0, none⟩)) (cond_fact (j := 46) (v := .bool true) HF.out rfl) rfl)⟩
    · intro D aa wx HI hD hdep KK hKK
      obtain ⟨f, rfl, hB, HF⟩ := HI
      simp [Region.binds] at hdep
      have E46 : f 46 = .bool true := HF.out 46 (by simp [hdep])
      have E47 : f 47 = .pointer (some ⟨w.heap.size, 0, none⟩) := HF.out 47 (by simp [hdep])
      obtain ⟨c0, c1, c2, c3, c4, c5, f0, f1, f2, f3, f4, f5⟩ := S2.out.below hB
      obtain ⟨d0, d1, d2, d3, d4, d5, g0, g1, g2, g3, g4, g5⟩ := S9.out.below hB
      obtain ⟨e0, e1, e2, e3, e4, e5, h0, h1, h2, h3, h4, h5⟩ := S11.out.below hB
      clear f0 f1 f2 f3 f4 f5 g0 g1 g2 g3 g4 g5 h0 h1 h2 h3 h4 h5
      simp only [E46, E47, Act.put, List.toList_toArray, List.take_succ_cons, List.take_zero, List.drop_succ_cons, List.drop_zero, List.cons_append, List.nil_append, List.setIfInBounds_toArray, List.set_cons_zero, List.set_cons_succ]
      go_simp
      exact hKK _ _ ⟨fun zz => cond (Nat.beq zz 48) (.int .i64 k) (cond (Nat.beq zz 47) (.pointer (some ⟨w.heap.size, 0, none⟩)) (cond (Nat.beq zz 46) (.bool true) (f zz))), rfl, hB, Lib.hid (upd_fact (i := 48) (v := .int .i64 k) (cond_fact (j := 47) (v := .pointer (some ⟨w.heap.size, 0, none⟩)) (cond_fact (j := 46) (v := .bool true) HF.out rfl) rfl) rfl)⟩
    · intro D aa wx HI hD hdep KK hKK
      obtain ⟨f, rfl, hB, HF⟩ := HI
      simp [Region.binds] at hdep
      have E46 : f 46 = .bool true := HF.out 46 (by simp [hdep])
      simp only [E46, Act.put, List.toList_toArray, List.take_succ_cons, List.take_zero, List.drop_succ_cons, List.drop_zero, List.cons_append, List.nil_append, List.setIfInBounds_toArray, List.set_cons_zero, List.set_cons_succ]
      go_simp
      exact hKK _ _ ⟨fun zz => cond (Nat.beq zz 49) (.pointer (some ⟨w.heap.size, 1, none⟩)) (cond (Nat.beq zz 46) (.bool true) (f zz)), rfl, hB, Lib.hid (upd_fact (i := 49) (v := .pointer (some ⟨w.heap.size, 1, none⟩)) (cond_fact (j := 46) (v := .bool true) HF.out rfl) rfl)⟩
    · intro D aa wx HI hD hdep KK hKK
      obtain ⟨f, rfl, hB, HF⟩ := HI
      simp [Region.binds] at hdep
      have E46 : f 46 = .bool true := HF.out 46 (by simp [hdep])
      have E49 : f 49 = .pointer (some ⟨w.heap.size, 1, none⟩) := HF.out 49 (by simp [hdep])
      obtain ⟨c0, c1, c2, c3, c4, c5, f0, f1, f2, f3, f4, f5⟩ := S2.out.below hB
      obtain ⟨d0, d1, d2, d3, d4, d5, g0, g1, g2, g3, g4, g5⟩ := S9.out.below hB
      obtain ⟨e0, e1, e2, e3, e4, e5, h0, h1, h2, h3, h4, h5⟩ := S11.out.below hB
      clear f0 f1 f2 f3 f4 f5 g0 g1 g2 g3 g4 g5 h0 h1 h2 h3 h4 h5
      simp only [E46, E49, Act.put, List.toList_toArray, List.take_succ_cons, List.take_zero, List.drop_succ_cons, List.drop_zero, List.cons_append, List.nil_append, List.setIfInBounds_toArray, List.set_cons_zero, List.set_cons_succ]
      go_simp
      exact hKK _ _ ⟨fun zz => cond (Nat.beq zz 50) (.int .i64 t) (cond (Nat.beq zz 49) (.pointer (some ⟨w.heap.size, 1, none⟩)) (cond (Nat.beq zz 46) (.bool true) (f zz))), rfl, hB, Lib.hid (upd_fact (i := 50) (v := .int .i64 t) (cond_fact (j := 49) (v := .pointer (some ⟨w.heap.size, 1, none⟩)) (cond_fact (j := 46) (v := .bool true) HF.out rfl) rfl) rfl)⟩
    · intro D aa wx HI hD hdep KK hKK
      obtain ⟨f, rfl, hB, HF⟩ := HI
      simp [Region.binds] at hdep
      have E46 : f 46 = .bool true := HF.out 46 (by simp [hdep])
      simp only [E46, Act.put, List.toList_toArray, List.take_succ_cons, List.take_zero, List.drop_succ_cons, List.drop_zero, List.cons_append, List.nil_append, List.setIfInBounds_toArray, List.set_cons_zero, List.set_cons_succ]
      go_simp
      exact hKK _ _ ⟨fun zz => cond (Nat.beq zz 51) (.pointer (some ⟨w.heap.size, 2, none⟩)) (cond (Nat.beq zz 46) (.bool true) (f zz)), rfl, hB, Lib.hid (upd_fact (i := 51) (v := .pointer (some ⟨w.heap.size, 2, none⟩)) (cond_fact (j := 46) (v := .bool true) HF.out rfl) rfl)⟩
    · intro D aa wx HI hD hdep KK hKK
      obtain ⟨f, rfl, hB, HF⟩ := HI
      simp [Region.binds] at hdep
      have E46 : f 46 = .bool true := HF.out 46 (by simp [hdep])
      have E51 : f 51 = .pointer (some ⟨w.heap.size, 2, none⟩) := HF.out 51 (by simp [hdep])
      obtain ⟨c0, c1, c2, c3, c4, c5, f0, f1, f2, f3, f4, f5⟩ := S2.out.below hB
      obtain ⟨d0, d1, d2, d3, d4, d5, g0, g1, g2, g3, g4, g5⟩ := S9.out.below hB
      obtain ⟨e0, e1, e2, e3, e4, e5, h0, h1, h2, h3, h4, h5⟩ := S11.out.below hB
      clear f0 f1 f2 f3 f4 f5 g0 g1 g2 g3 g4 g5 h0 h1 h2 h3 h4 h5
      simp only [E46, E51, Act.put, List.toList_toArray, List.take_succ_cons, List.take_zero, List.drop_succ_cons, List.drop_zero, List.cons_append, List.nil_append, List.setIfInBounds_toArray, List.set_cons_zero, List.set_cons_succ]
      go_simp
      exact hKK _ _ ⟨fun zz => cond (Nat.beq zz 52) (.string b) (cond (Nat.beq zz 51) (.pointer (some ⟨w.heap.size, 2, none⟩)) (cond (Nat.beq zz 46) (.bool true) (f zz))), rfl, hB, Lib.hid (upd_fact (i := 52) (v := .string b) (cond_fact (j := 51) (v := .pointer (some ⟨w.heap.size, 2, none⟩)) (cond_fact (j := 46) (v := .bool true) HF.out rfl) rfl) rfl)⟩
    · intro D aa wx HI hD hdep KK hKK
      obtain ⟨f, rfl, hB, HF⟩ := HI
      simp [Region.binds] at hdep
      have E46 : f 46 = .bool true := HF.out 46 (by simp [hdep])
      have E48 : f 48 = .int .i64 k := HF.out 48 (by simp [hdep])
      have E50 : f 50 = .int .i64 t := HF.out 50 (by simp [hdep])
      have E52 : f 52 = .string b := HF.out 52 (by simp [hdep])
      simp only [E46, E48, E50, E52, Act.put, List.toList_toArray, List.take_succ_cons, List.take_zero, List.drop_succ_cons, List.drop_zero, List.cons_append, List.nil_append, List.setIfInBounds_toArray, List.set_cons_zero, List.set_cons_succ]
      go_simp
      refine (H20.out _).mono ?_
      rintro e w5 ⟨rfl, hb⟩
      exact hKK _ _ ⟨fun zz => cond (Nat.beq zz 53) (.string B2) (cond (Nat.beq zz 52) (.string b) (cond (Nat.beq zz 50) (.int .i64 t) (cond (Nat.beq zz 48) (.int .i64 k) (cond (Nat.beq zz 46) (.bool true) (f zz))))), rfl, below_to hB hb, Lib.hid (upd_fact (i := 53) (v := .string B2) (cond_fact (j := 52) (v := .string b) (cond_fact (j := 50) (v := .int .i64 t) (cond_fact (j := 48) (v := .int .i64 k) (cond_fact (j := 46) (v := .bool true) HF.out rfl) rfl) rfl) rfl) rfl)⟩
    · intro D aa wx HI hD hdep KK hKK
      obtain ⟨f, rfl, hB, HF⟩ := HI
      simp [Region.binds] at hdep
      have E46 : f 46 = .bool true := HF.out 46 (by simp [hdep])
      simp only [E46, Act.put, List.toList_toArray, List.take_succ_cons, List.take_zero, List.drop_succ_cons, List.drop_zero, List.cons_append, List.nil_append, List.setIfInBounds_toArray, List.set_cons_zero, List.set_cons_succ]
      go_simp
      exact hKK _ _ ⟨fun zz => cond (Nat.beq zz 54) (.pointer (some ⟨w.heap.size, 0, none⟩)) (cond (Nat.beq zz 46) (.bool true) (f zz)), rfl, hB, Lib.hid (upd_fact (i := 54) (v := .pointer (some ⟨w.heap.size, 0, none⟩)) (cond_fact (j := 46) (v := .bool true) HF.out rfl) rfl)⟩
    · intro D aa wx HI hD hdep KK hKK
      obtain ⟨f, rfl, hB, HF⟩ := HI
      simp [Region.binds] at hdep
      have E46 : f 46 = .bool true := HF.out 46 (by simp [hdep])
      have E54 : f 54 = .pointer (some ⟨w.heap.size, 0, none⟩) := HF.out 54 (by simp [hdep])
      obtain ⟨c0, c1, c2, c3, c4, c5, f0, f1, f2, f3, f4, f5⟩ := S2.out.below hB
      obtain ⟨d0, d1, d2, d3, d4, d5, g0, g1, g2, g3, g4, g5⟩ := S9.out.below hB
      obtain ⟨e0, e1, e2, e3, e4, e5, h0, h1, h2, h3, h4, h5⟩ := S11.out.below hB
      clear f0 f1 f2 f3 f4 f5 g0 g1 g2 g3 g4 g5 h0 h1 h2 h3 h4 h5
      simp only [E46, E54, Act.put, List.toList_toArray, List.take_succ_cons, List.take_zero, List.drop_succ_cons, List.drop_zero, List.cons_append, List.nil_append, List.setIfInBounds_toArray, List.set_cons_zero, List.set_cons_succ]
      go_simp
      exact hKK _ _ ⟨fun zz => cond (Nat.beq zz 55) (.int .i64 k) (cond (Nat.beq zz 54) (.pointer (some ⟨w.heap.size, 0, none⟩)) (cond (Nat.beq zz 46) (.bool true) (f zz))), rfl, hB, Lib.hid (upd_fact (i := 55) (v := .int .i64 k) (cond_fact (j := 54) (v := .pointer (some ⟨w.heap.size, 0, none⟩)) (cond_fact (j := 46) (v := .bool true) HF.out rfl) rfl) rfl)⟩
    · intro D aa wx HI hD hdep KK hKK
      obtain ⟨f, rfl, hB, HF⟩ := HI
      simp [Region.binds] at hdep
      have E46 : f 46 = .bool true := HF.out 46 (by simp [hdep])
      simp only [E46, Act.put, List.toList_toArray, List.take_succ_cons, List.take_zero, List.drop_succ_cons, List.drop_zero, List.cons_append, List.nil_append, List.setIfInBounds_toArray, List.set_cons_zero, List.set_cons_succ]
      go_simp
      exact hKK _ _ ⟨fun zz => cond (Nat.beq zz 56) (.pointer (some ⟨w.heap.size, 1, none⟩)) (cond (Nat.beq zz 46) (.bool true) (f zz)), rfl, hB, Lib.hid (upd_fact (i := 56) (v := .pointer (some ⟨w.heap.size, 1, none⟩)) (cond_fact (j := 46) (v := .bool true) HF.out rfl) rfl)⟩
    · intro D aa wx HI hD hdep KK hKK
      obtain ⟨f, rfl, hB, HF⟩ := HI
      simp [Region.binds] at hdep
      have E46 : f 46 = .bool true := HF.out 46 (by simp [hdep])
      have E56 : f 56 = .pointer (some ⟨w.heap.size, 1, none⟩) := HF.out 56 (by simp [hdep])
      obtain ⟨c0, c1, c2, c3, c4, c5, f0, f1, f2, f3, f4, f5⟩ := S2.out.below hB
      obtain ⟨d0, d1, d2, d3, d4, d5, g0, g1, g2, g3, g4, g5⟩ := S9.out.below hB
      obtain ⟨e0, e1, e2, e3, e4, e5, h0, h1, h2, h3, h4, h5⟩ := S11.out.below hB
      clear f0 f1 f2 f3 f4 f5 g0 g1 g2 g3 g4 g5 h0 h1 h2 h3 h4 h5
      simp only [E46, E56, Act.put, List.toList_toArray, List.take_succ_cons, List.take_zero, List.drop_succ_cons, List.drop_zero, List.cons_append, List.nil_append, List.setIfInBounds_toArray, List.set_cons_zero, List.set_cons_succ]
      go_simp
      exact hKK _ _ ⟨fun zz => cond (Nat.beq zz 57) (.int .i64 t) (cond (Nat.beq zz 56) (.pointer (some ⟨w.heap.size, 1, none⟩)) (cond (Nat.beq zz 46) (.bool true) (f zz))), rfl, hB, Lib.hid (upd_fact (i := 57) (v := .int .i64 t) (cond_fact (j := 56) (v := .pointer (some ⟨w.heap.size, 1, none⟩)) (cond_fact (j := 46) (v := .bool true) HF.out rfl) rfl) rfl)⟩
    · intro D aa wx HI hD hdep KK hKK
      obtain ⟨f, rfl, hB, HF⟩ := HI
      simp [Region.binds] at hdep
      have E46 : f 46 = .bool true := HF.out 46 (by simp [hdep])
      simp only [E46, Act.put, List.toList_toArray, List.take_succ_cons, List.take_zero, List.drop_succ_cons, List.drop_zero, List.cons_append, List.nil_append, List.setIfInBounds_toArray, List.set_cons_zero, List.set_cons_succ]
      go_simp
      exact hKK _ _ ⟨fun zz => cond (Nat.beq zz 58) (.pointer (some ⟨w.heap.size, 2, none⟩)) (cond (Nat.beq zz 46) (.bool true) (f zz)), rfl, hB, Lib.hid (upd_fact (i := 58) (v := .pointer (some ⟨w.heap.size, 2, none⟩)) (cond_fact (j := 46) (v := .bool true) HF.out rfl) rfl)⟩
    · intro D aa wx HI hD hdep KK hKK
      obtain ⟨f, rfl, hB, HF⟩ := HI
      simp [Region.binds] at hdep
      have E46 : f 46 = .bool true := HF.out 46 (by simp [hdep])
      have E58 : f 58 = .pointer (some ⟨w.heap.size, 2, none⟩) := HF.out 58 (by simp [hdep])
      obtain ⟨c0, c1, c2, c3, c4, c5, f0, f1, f2, f3, f4, f5⟩ := S2.out.below hB
      obtain ⟨d0, d1, d2, d3, d4, d5, g0, g1, g2, g3, g4, g5⟩ := S9.out.below hB
      obtain ⟨e0, e1, e2, e3, e4, e5, h0, h1, h2, h3, h4, h5⟩ := S11.out.below hB
      clear f0 f1 f2 f3 f4 f5 g0 g1 g2 g3 g4 g5 h0 h1 h2 h3 h4 h5
      simp only [E46, E58, Act.put, List.toList_toArray, List.take_succ_cons, List.take_zero, List.drop_succ_cons, List.drop_zero, List.cons_append, List.nil_append, List.setIfInBounds_toArray, List.set_cons_zero, List.set_cons_succ]
      go_simp
      exact hKK _ _ ⟨fun zz => cond (Nat.beq zz 59) (.string b) (cond (Nat.beq zz 58) (.pointer (some ⟨w.heap.size, 2, none⟩)) (cond (Nat.beq zz 46) (.bool true) (f zz))), rfl, hB, Lib.hid (upd_fact (i := 59) (v := .string b) (cond_fact (j := 58) (v := .pointer (some ⟨w.heap.size, 2, none⟩)) (cond_fact (j := 46) (v := .bool true) HF.out rfl) rfl) rfl)⟩
    · intro D aa wx HI hD hdep KK hKK
      obtain ⟨f, rfl, hB, HF⟩ := HI
      simp [Region.binds] at hdep
      have E46 : f 46 = .bool true := HF.out 46 (by simp [hdep])
      have E55 : f 55 = .int .i64 k := HF.out 55 (by simp [hdep])
      have E57 : f 57 = .int .i64 t := HF.out 57 (by simp [hdep])
      have E59 : f 59 = .string b := HF.out 59 (by simp [hdep])
      simp only [E46, E55, E57, E59, Act.put, List.toList_toArray, List.take_succ_cons, List.take_zero, List.drop_succ_cons, List.drop_zero, List.cons_append, List.nil_append, List.setIfInBounds_toArray, List.set_cons_zero, List.set_cons_succ]
      go_simp
      refine (H21.out _).mono ?_
      rintro e w5 ⟨rfl, hb⟩
      exact hKK _ _ ⟨fun zz => cond (Nat.beq zz 60) (.string B2) (cond (Nat.beq zz 59) (.string b) (cond (Nat.beq zz 57) (.int .i64 t) (cond (Nat.beq zz 55) (.int .i64 k) (cond (Nat.beq zz 46) (.bool true) (f zz))))), rfl, below_to hB hb, Lib.hid (upd_fact (i := 60) (v := .string B2) (cond_fact (j := 59) (v := .string b) (cond_fact (j := 57) (v := .int .i64 t) (cond_fact (j := 55) (v := .int .i64 k) (cond_fact (j := 46) (v := .bool true) HF.out rfl) rfl) rfl) rfl) rfl)⟩
    · intro D aa wx HI hD hdep KK hKK
      obtain ⟨f, rfl, hB, HF⟩ := HI
      simp [Region.binds] at hdep
      have E46 : f 46 = .bool true := HF.out 46 (by simp [hdep])
      have E53 : f 53 = .string B2 := HF.out 53 (by simp [hdep])
      have E60 : f 60 = .string B2 := HF.out 60 (by simp [hdep])
      simp only [E46, E53, E60, Act.put, List.toList_toArray, List.take_succ_cons, List.take_zero, List.drop_succ_cons, List.drop_zero, List.cons_append, List.nil_append, List.setIfInBounds_toArray, List.set_cons_zero, List.set_cons_succ]
      go_simp
      exact hKK _ _ ⟨fun zz => cond (Nat.beq zz 61) (.bool true) (cond (Nat.beq zz 60) (.string B2) (cond (Nat.beq zz 53) (.string B2) (cond (Nat.beq zz 46) (.bool true) (f zz)))), rfl, hB, Lib.hid (upd_fact (i := 61) (v := .bool true) (cond_fact (j := 60) (v := .string B2) (cond_fact (j := 53) (v := .string B2) (cond_fact (j := 46) (v := .bool true) HF.out rfl) rfl) rfl) rfl)⟩
    · intro D aa wx HI hD hdep KK hKK
      obtain ⟨f, rfl, hB, HF⟩ := HI
      simp [Region.binds] at hdep
      have E46 : f 46 = .bool true := HF.out 46 (by simp [hdep])
      have E61 : f 61 = .bool true := HF.out 61 (by simp [hdep])
      simp only [E46, E61, Act.put, List.toList_toArray, List.take_succ_cons, List.take_zero, List.drop_succ_cons, List.drop_zero, List.cons_append, List.nil_append, List.setIfInBounds_toArray, List.set_cons_zero, List.set_cons_succ]
      go_simp
      exact hKK _ _ ⟨fun zz => cond (Nat.beq zz 62) (.bool true) (cond (Nat.beq zz 61) (.bool true) (cond (Nat.beq zz 46) (.bool true) (f zz))), rfl, hB, Lib.hid (upd_fact (i := 62) (v := .bool true) (cond_fact (j := 61) (v := .bool true) (cond_fact (j := 46) (v := .bool true) HF.out rfl) rfl) rfl)⟩
    · intro D aa wx HI hD hdep KK hKK
      obtain ⟨f, rfl, hB, HF⟩ := HI
      simp [Region.binds] at hdep
      have E62 : f 62 = .bool true := HF.out 62 (by simp [hdep])
      simp only [E62, Act.put, List.toList_toArray, List.take_succ_cons, List.take_zero, List.drop_succ_cons, List.drop_zero, List.cons_append, List.nil_append, List.setIfInBounds_toArray, List.set_cons_zero, List.set_cons_succ]
      go_simp
      exact hKK _ _ ⟨fun zz => cond (Nat.beq zz 63) (.bool true) (cond (Nat.beq zz 62) (.bool true) (f zz)), rfl, hB, Lib.hid (upd_fact (i := 63) (v := .bool true) (cond_fact (j := 62) (v := .bool true) HF.out rfl) rfl)⟩
    · intro D aa wx HI hD hdep KK hKK
      obtain ⟨f, rfl, hB, HF⟩ := HI
      simp [Region.binds] at hdep
      have E63 : f 63 = .bool true := HF.out 63 (by simp [hdep])
      simp only [E63, Act.put, List.toList_toArray, List.take_succ_cons, List.take_zero, List.drop_succ_cons, List.drop_zero, List.cons_append, List.nil_append, List.setIfInBounds_toArray, List.set_cons_zero, List.set_cons_succ]
      go_simp
      exact hKK _ _ ⟨fun zz => cond (Nat.beq zz 64) (.pointer (some ⟨w.heap.size, 1, none⟩)) (cond (Nat.beq zz 63) (.bool true) (f zz)), rfl, hB, Lib.hid (upd_fact (i := 64) (v := .pointer (some ⟨w.heap.size, 1, none⟩)) (cond_fact (j := 63) (v := .bool true) HF.out rfl) rfl)⟩
    · intro D aa wx HI hD hdep KK hKK
      obtain ⟨f, rfl, hB, HF⟩ := HI
      simp [Region.binds] at hdep
      have E63 : f 63 = .bool true := HF.out 63 (by simp [hdep])
      have E64 : f 64 = .pointer (some ⟨w.heap.size, 1, none⟩) := HF.out 64 (by simp [hdep])
      obtain ⟨c0, c1, c2, c3, c4, c5, f0, f1, f2, f3, f4, f5⟩ := S2.out.below hB
      obtain ⟨d0, d1, d2, d3, d4, d5, g0, g1, g2, g3, g4, g5⟩ := S9.out.below hB
      obtain ⟨e0, e1, e2, e3, e4, e5, h0, h1, h2, h3, h4, h5⟩ := S11.out.below hB
      clear f0 f1 f2 f3 f4 f5 g0 g1 g2 g3 g4 g5 h0 h1 h2 h3 h4 h5
      simp only [E63, E64, Act.put, List.toList_toArray, List.take_succ_cons, List.take_zero, List.drop_succ_cons, List.drop_zero, List.cons_append, List.nil_append, List.setIfInBounds_toArray, List.set_cons_zero, List.set_cons_succ]
      go_simp
      exact hKK _ _ ⟨fun zz => cond (Nat.beq zz 65) (.int .i64 t) (cond (Nat.beq zz 64) (.pointer (some ⟨w.heap.size, 1, none⟩)) (cond (Nat.beq zz 63) (.bool true) (f zz))), rfl, hB, Lib.hid (upd_fact (i := 65) (v := .int .i64 t) (cond_fact (j := 64) (v := .pointer (some ⟨w.heap.size, 1, none⟩)) (cond_fact (j := 63) (v := .bool true) HF.out rfl) rfl) rfl)⟩
    · intro D aa wx HI hD hdep KK hKK
      obtain ⟨f, rfl, hB, HF⟩ := HI
      simp [Region.binds] at hdep
      have E63 : f 63 = .bool true := HF.out 63 (by simp [hdep])
      simp only [E63, Act.put, List.toList_toArray, List.take_succ_cons, List.take_zero, List.drop_succ_cons, List.drop_zero, List.cons_append, List.nil_append, List.setIfInBounds_toArray, List.set_cons_zero, List.set_cons_succ]
      go_simp
      exact hKK _ _ ⟨fun zz => cond (Nat.beq zz 66) (.pointer (some ⟨w.heap.size, 2, none⟩)) (cond (Nat.beq zz 63) (.bool true) (f zz)), rfl, hB, Lib.hid (upd_fact (i := 66) (v := .pointer (some ⟨w.heap.size, 2, none⟩)) (cond_fact (j := 63) (v := .bool true) HF.out rfl) rfl)⟩
    · intro D aa wx HI hD hdep KK hKK
      obtain ⟨f, rfl, hB, HF⟩ := HI
      simp [Region.binds] at hdep
      have E63 : f 63 = .bool true := HF.out 63 (by simp [hdep])
      have E66 : f 66 = .pointer (some ⟨w.heap.size, 2, none⟩) := HF.out 66 (by simp [hdep])
      obtain ⟨c0, c1, c2, c3, c4, c5, f0, f1, f2, f3, f4, f5⟩ := S2.out.below hB
      obtain ⟨d0, d1, d2, d3, d4, d5, g0, g1, g2, g3, g4, g5⟩ := S9.out.below hB
      obtain ⟨e0, e1, e2, e3, e4, e5, h0, h1, h2, h3, h4, h5⟩ := S11.out.below hB
      clear f0 f1 f2 f3 f4 f5 g0 g1 g2 g3 g4 g5 h0 h1 h2 h3 h4 h5
      simp only [E63, E66, Act.put, List.toList_toArray, List.take_succ_cons, List.take_zero, List.drop_succ_cons, List.drop_zero, List.cons_append, List.nil_append, List.setIfInBounds_toArray, List.set_cons_zero, List.set_cons_succ]
      go_simp
      exact hKK _ _ ⟨fun zz => cond (Nat.beq zz 67) (.string b) (cond (Nat.beq zz 66) (.pointer (some ⟨w.heap.size, 2, none⟩)) (cond (Nat.beq zz 63) (.bool true) (f zz))), rfl, hB, Lib.hid (upd_fact (i := 67) (v := .string b) (cond_fact (j := 66) (v := .pointer (some ⟨w.heap.size, 2, none⟩)) (cond_fact (j := 63) (v := .bool true) HF.out rfl) rfl) rfl)⟩
    · intro D aa wx HI hD hdep KK hKK
      obtain ⟨f, rfl, hB, HF⟩ := HI
      simp [Region.binds] at hdep
      have E63 : f 63 = .bool true := HF.out 63 (by simp [hdep])
      simp only [E63, Act.put, List.toList_toArray, List.take_succ_cons, List.take_zero, List.drop_succ_cons, List.drop_zero, List.cons_append, List.nil_append, List.setIfInBounds_toArray, List.set_cons_zero, List.set_cons_succ]
      go_simp
      exact hKK _ _ ⟨fun zz => cond (Nat.beq zz 68) (.pointer (some ⟨w.heap.size, 3, none⟩)) (cond (Nat.beq zz 63) (.bool true) (f zz)), rfl, hB, Lib.hid (upd_fact (i := 68) (v := .pointer (some ⟨w.heap.size, 3, none⟩)) (cond_fact (j := 63) (v := .bool true) HF.out rfl) rfl)⟩
    · intro D aa wx HI hD hdep KK hKK
      obtain ⟨f, rfl, hB, HF⟩ := HI
      simp [Region.binds] at hdep
      have E63 : f 63 = .bool true := HF.out 63 (by simp [hdep])
      have E68 : f 68 = .pointer (some ⟨w.heap.size, 3, none⟩) := HF.out 68 (by simp [hdep])
      obtain ⟨c0, c1, c2, c3, c4, c5, f0, f1, f2, f3, f4, f5⟩ := S2.out.below hB
      obtain ⟨d0, d1, d2, d3, d4, d5, g0, g1, g2, g3, g4, g5⟩ := S9.out.below hB
      obtain ⟨e0, e1, e2, e3, e4, e5, h0, h1, h2, h3, h4, h5⟩ := S11.out.below hB
      clear f0 f1 f2 f3 f4 f5 g0 g1 g2 g3 g4 g5 h0 h1 h2 h3 h4 h5
      simp only [E63, E68, Act.put, List.toList_toArray, List.take_succ_cons, List.take_zero, List.drop_succ_cons, List.drop_zero, List.cons_append, List.nil_append, List.setIfInBounds_toArray, List.set_cons_zero, List.set_cons_succ]
      go_simp
      exact hKK _ _ ⟨fun zz => cond (Nat.beq zz 69) (.string n) (cond (Nat.beq zz 68) (.pointer (some ⟨w.heap.size, 3, none⟩)) (cond (Nat.beq zz 63) (.bool true) (f zz))), rfl, hB, Lib.hid (upd_fact (i := 69) (v := .string n) (cond_fact (j := 68) (v := .pointer (some ⟨w.heap.size, 3, none⟩)) (cond_fact (j := 63) (v := .bool true) HF.out rfl) rfl) rfl)⟩
    · intro D aa wx HI hD hdep KK hKK
      obtain ⟨f, rfl, hB, HF⟩ := HI
      simp [Region.binds] at hdep
      have E63 : f 63 = .bool true := HF.out 63 (by simp [hdep])
      have E65 : f 65 = .int .i64 t := HF.out 65 (by simp [hdep])
      have E67 : f 67 = .string b := HF.out 67 (by simp [hdep])
      have E69 : f 69 = .string n := HF.out 69 (by simp [hdep])
      simp only [E63, E65, E67, E69, Act.put, List.toList_toArray, List.take_succ_cons, List.take_zero, List.drop_succ_cons, List.drop_zero, List.cons_append, List.nil_append, List.setIfInBounds_toArray, List.set_cons_zero, List.set_cons_succ]
      go_simp
      refine (H22.out _).mono ?_
      rintro e w5 ⟨rfl, hb⟩
      exact hKK _ _ ⟨fun zz => cond (Nat.beq zz 70) (.string B3) (cond (Nat.beq zz 69) (.string n) (cond (Nat.beq zz 67) (.string b) (cond (Nat.beq zz 65) (.int .i64 t) (cond (Nat.beq zz 63) (.bool true) (f zz))))), rfl, below_to hB hb, Lib.hid (upd_fact (i := 70) (v := .string B3) (cond_fact (j := 69) (v := .string n) (cond_fact (j := 67) (v := .string b) (cond_fact (j := 65) (v := .int .i64 t) (cond_fact (j := 63) (v := .bool true) HF.out rfl) rfl) rfl) rfl) rfl)⟩
    · intro D aa wx HI hD hdep KK hKK
      obtain ⟨f, rfl, hB, HF⟩ := HI
      simp [Region.binds] at hdep
      have E63 : f 63 = .bool true := HF.out 63 (by simp [hdep])
      simp only [E63, Act.put, List.toList_toArray, List.take_succ_cons, List.take_zero, List.drop_succ_cons, List.drop_zero, List.cons_append, List.nil_append, List.setIfInBounds_toArray, List.set_cons_zero, List.set_cons_succ]
      go_simp
      exact hKK _ _ ⟨fun zz => cond (Nat.beq zz 71) (.pointer (some ⟨w.heap.size, 1, none⟩)) (cond (Nat.beq zz 63) (.bool true) (f zz)), rfl, hB, Lib.hid (upd_fact (i := 71) (v := .pointer (some ⟨w.heap.size, 1, none⟩)) (cond_fact (j := 63) (v := .bool true) HF.out rfl) rfl)⟩
    · intro D aa wx HI hD hdep KK hKK
      obtain ⟨f, rfl, hB, HF⟩ := HI
      simp [Region.binds] at hdep
      have E63 : f 63 = .bool true := HF.out 63 (by simp [hdep])
      have E71 : f 71 = .pointer (some ⟨w.heap.size, 1, none⟩) := HF.out 71 (by simp [hdep])
      obtain ⟨c0, c1, c2, c3, c4, c5, f0, f1, f2, f3, f4, f5⟩ := S2.out.below hB
      obtain ⟨d0, d1, d2, d3, d4, d5, g0, g1, g2, g3, g4, g5⟩ := S9.out.below hB
      obtain ⟨e0, e1, e2, e3, e4, e5, h0, h1, h2, h3, h4, h5⟩ := S11.out.below hB
      clear f0 f1 f2 f3 f4 f5 g0 g1 g2 g3 g4 g5 h0 h1 h2 h3 h4 h5
      simp only [E63, E71, Act.put, List.toList_toArray, List.take_succ_cons, List.take_zero, List.drop_succ_cons, List.drop_zero, List.cons_append, List.nil_append, List.setIfInBounds_toArray, List.set_cons_zero, List.set_cons_succ]
      go_simp
      exact hKK _ _ ⟨fun zz => cond (Nat.beq zz 72) (.int .i64 t) (cond (Nat.beq zz 71) (.pointer (some ⟨w.heap.size, 1, none⟩)) (cond (Nat.beq zz 63) (.bool true) (f zz))), rfl, hB, Lib.hid (upd_fact (i := 72) (v := .int .i64 t) (cond_fact (j := 71) (v := .pointer (some ⟨w.heap.size, 1, none⟩)) (cond_fact (j := 63) (v := .bool true) HF.out rfl) rfl) rfl)⟩
    · intro D aa wx HI hD hdep KK hKK
      obtain ⟨f, rfl, hB, HF⟩ := HI
      simp [Region.binds] at hdep
      have E63 : f 63 = .bool true := HF.out 63 (by simp [hdep])
      simp only [E63, Act.put, List.toList_toArray, List.take_succ_cons, List.take_zero, List.drop_succ_cons, List.drop_zero, List.cons_append, List.nil_append, List.setIfInBounds_toArray, List.set_cons_zero, List.set_cons_succ]
      go_simp
      exact hKK _ _ ⟨fun zz => cond (Nat.beq zz 73) (.pointer (some ⟨w.heap.size, 2, none⟩)) (cond (Nat.beq zz 63) (.bool true) (f zz)), rfl, hB, Lib.hid (upd_fact (i := 73) (v := .pointer (some ⟨w.heap.size, 2, none⟩)) (cond_fact (j := 63) (v := .bool true) HF.out rfl) rfl)⟩
    · intro D aa wx HI hD hdep KK hKK
      obtain ⟨f, rfl, hB, HF⟩ := HI
      simp [Region.binds] at hdep
      have E63 : f 63 = .bool true := HF.out 63 (by simp [hdep])
      have E73 : f 73 = .pointer (some ⟨w.heap.size, 2, none⟩) := HF.out 73 (by simp [hdep])
      obtain ⟨c0, c1, c2, c3, c4, c5, f0, f1, f2, f3, f4, f5⟩ := S2.out.below hB
      obtain ⟨d0, d1, d2, d3, d4, d5, g0, g1, g2, g3, g4, g5⟩ := S9.out.below hB
      obtain ⟨e0, e1, e2, e3, e4, e5, h0, h1, h2, h3, h4, h5⟩ := S11.out.below hB
      clear f0 f1 f2 f3 f4 f5 g0 g1 g2 g3 g4 g5 h0 h1 h2 h3 h4 h5
      simp only [E63, E73, Act.put, List.toList_toArray, List.take_succ_cons, List.take_zero, List.drop_succ_cons, List.drop_zero, List.cons_append, List.nil_append, List.setIfInBounds_toArray, List.set_cons_zero, List.set_cons_succ]
      go_simp
      exact hKK _ _ ⟨fun zz => cond (Nat.beq zz 74) (.string b) (cond (Nat.beq zz 73) (.pointer (some ⟨w.heap.size, 2, none⟩)) (cond (Nat.beq zz 63) (.bool true) (f zz))), rfl, hB, Lib.hid (upd_fact (i := 74) (v := .string b) (cond_fact (j := 73) (v := .pointer (some ⟨w.heap.size, 2, none⟩)) (cond_fact (j := 63) (v := .bool true) HF.out rfl) rfl) rfl)⟩
    · intro D aa wx HI hD hdep KK hKK
      obtain ⟨f, rfl, hB, HF⟩ := HI
      simp [Region.binds] at hdep
      have E63 : f 63 = .bool true := HF.out 63 (by simp [hdep])
      simp only [E63, Act.put, List.toList_toArray, List.take_succ_cons, List.take_zero, List.drop_succ_cons, List.drop_zero, List.cons_append, List.nil_append, List.setIfInBounds_toArray, List.set_cons_zero, List.set_cons_succ]
      go_simp
      exact hKK _ _ ⟨fun zz => cond (Nat.beq zz 75) (.pointer (some ⟨w.heap.size, 3, none⟩)) (cond (Nat.beq zz 63) (.bool true) (f zz)), rfl, hB, Lib.hid (upd_fact (i := 75) (v := .pointer (some ⟨w.heap.size, 3, none⟩)) (cond_fact (j := 63) (v := .bool true) HF.out rfl) rfl)⟩
    · intro D aa wx HI hD hdep KK hKK
      obtain ⟨f, rfl, hB, HF⟩ := HI
      simp [Region.binds] at hdep
      have E63 : f 63 = .bool true := HF.out 63 (by simp [hdep])
      have E75 : f 75 = .pointer (some ⟨w.heap.size, 3, none⟩) := HF.out 75 (by simp [hdep])
      obtain ⟨c0, c1, c2, c3, c4, c5, f0, f1, f2, f3, f4, f5⟩ := S2.out.below hB
      obtain ⟨d0, d1, d2, d3, d4, d5, g0, g1, g2, g3, g4, g5⟩ := S9.out.below hB
      obtain ⟨e0, e1, e2, e3, e4, e5, h0, h1, h2, h3, h4, h5⟩ := S11.out.below hB
      clear f0 f1 f2 f3 f4 f5 g0 g1 g2 g3 g4 g5 h0 h1 h2 h3 h4 h5
      simp only [E63, E75, Act.put, List.toList_toArray, List.take_succ_cons, List.take_zero, List.drop_succ_cons, List.drop_zero, List.cons_append, List.nil_append, List.setIfInBounds_toArray, List.set_cons_zero, List.set_cons_succ]
      go_simp
      exact hKK _ _ ⟨fun zz => cond (Nat.beq zz 76) (.string n) (cond (Nat.beq zz 75) (.pointer (some ⟨w.heap.size, 3, none⟩)) (cond (Nat.beq zz 63) (.bool true) (f zz))), rfl, hB, Lib.hid (upd_fact (i := 76) (v := .string n) (cond_fact (j := 75) (v := .pointer (some ⟨w.heap.size, 3, none⟩)) (cond_fact (j := 63) (v := .bool true) HF.out rfl) rfl) rfl)⟩
    · intro D aa wx HI hD hdep KK hKK
      obtain ⟨f, rfl, hB, HF⟩ := HI
      simp [Region.binds] at hdep
      have E63 : f 63 = .bool true := HF.out 63 (by simp [hdep])
      have E72 : f 72 = .int .i64 t := HF.out 72 (by simp [hdep])
      have E74 : f 74 = .string b := HF.out 74 (by simp [hdep])
      have E76 : f 76 = .string n := HF.out 76 (by simp [hdep])
      simp only [E63, E72, E74, E76, Act.put, List.toList_toArray, List.take_succ_cons, List.take_zero, List.drop_succ_cons, List.drop_zero, List.cons_append, List.nil_append, List.setIfInBounds_toArray, List.set_cons_zero, List.set_cons_succ]
      go_simp
      refine (H23.out _).mono ?_
      rintro e w5 ⟨rfl, hb⟩
      exact hKK _ _ ⟨fun zz => cond (Nat.beq zz 77) (.string B3) (cond (Nat.beq zz 76) (.string n) (cond (Nat.beq zz 74) (.string b) (cond (Nat.beq zz 72) (.int .i64 t) (cond (Nat.beq zz 63) (.bool true) (f zz))))), rfl, below_to hB hb, Lib.hid (upd_fact (i := 77) (v := .string B3) (cond_fact (j := 76) (v := .string n) (cond_fact (j := 74) (v := .string b) (cond_fact (j := 72) (v := .int .i64 t) (cond_fact (j := 63) (v := .bool true) HF.out rfl) rfl) rfl) rfl) rfl)⟩
    · intro D aa wx HI hD hdep KK hKK
      obtain ⟨f, rfl, hB, HF⟩ := HI
      simp [Region.binds] at hdep
      have E63 : f 63 = .bool true := HF.out 63 (by simp [hdep])
      have E70 : f 70 = .string B3 := HF.out 70 (by simp [hdep])
      have E77 : f 77 = .string B3 := HF.out 77 (by simp [hdep])
      simp only [E63, E70, E77, Act.put, List.toList_toArray, List.take_succ_cons, List.take_zero, List.drop_succ_cons, List.drop_zero, List.cons_append, List.nil_append, List.setIfInBounds_toArray, List.set_cons_zero, List.set_cons_succ]
      go_simp
      exact hKK _ _ ⟨fun zz => cond (Nat.beq zz 78) (.bool true) (cond (Nat.beq zz 77) (.string B3) (cond (Nat.beq zz 70) (.string B3) (cond (Nat.beq zz 63) (.bool true) (f zz)))), rfl, hB, Lib.hid (upd_fact (i := 78) (v := .bool true) (cond_fact (j := 77) (v := .string B3) (cond_fact (j := 70) (v := .string B3) (cond_fact (j := 63) (v := .bool true) HF.out rfl) rfl) rfl) rfl)⟩
    · intro D aa wx HI hD hdep KK hKK
      obtain ⟨f, rfl, hB, HF⟩ := HI
      simp [Region.binds] at hdep
      have E63 : f 63 = .bool true := HF.out 63 (by simp [hdep])
      have E78 : f 78 = .bool true := HF.out 78 (by simp [hdep])
      simp only [E63, E78, Act.put, List.toList_toArray, List.take_succ_cons, List.take_zero, List.drop_succ_cons, List.drop_zero, List.cons_append, List.nil_append, List.setIfInBounds_toArray, List.set_cons_zero, List.set_cons_succ]
      go_simp
      exact hKK _ _ ⟨fun zz => cond (Nat.beq zz 79) (.bool true) (cond (Nat.beq zz 78) (.bool true) (cond (Nat.beq zz 63) (.bool true) (f zz))), rfl, hB, Lib.hid (upd_fact (i := 79) (v := .bool true) (cond_fact (j := 78) (v := .bool true) (cond_fact (j := 63) (v := .bool true) HF.out rfl) rfl) rfl)⟩
    · intro D aa wx HI hD hdep KK hKK
      obtain ⟨f, rfl, hB, HF⟩ := HI
      simp [Region.binds] at hdep
      have E79 : f 79 = .bool true := HF.out 79 (by simp [hdep])
      simp only [E79, Act.put, List.toList_toArray, List.take_succ_cons, List.take_zero, List.drop_succ_cons, List.drop_zero, List.cons_append, List.nil_append, List.setIfInBounds_toArray, List.set_cons_zero, List.set_cons_succ]
      go_simp
      exact hKK _ _ ⟨fun zz => cond (Nat.beq zz 80) (.bool true) (cond (Nat.beq zz 79) (.bool true) (f zz)), rfl, hB, Lib.hid (upd_fact (i := 80) (v := .bool true) (cond_fact (j := 79) (v := .bool true) HF.out rfl) rfl)⟩
    · intro D aa wx HI hD hdep KK hKK
      obtain ⟨f, rfl, hB, HF⟩ := HI
      simp [Region.binds] at hdep
      have E80 : f 80 = .bool true := HF.out 80 (by simp [hdep])
      simp only [E80, Act.put, List.toList_toArray, List.take_succ_cons, List.take_zero, List.drop_succ_cons, List.drop_zero, List.cons_append, List.nil_append, List.setIfInBounds_toArray, List.set_cons_zero, List.set_cons_succ]
      go_simp
      exact hKK _ _ ⟨fun zz => cond (Nat.beq zz 81) (.pointer (some ⟨w.heap.size, 1, none⟩)) (cond (Nat.beq zz 80) (.bool true) (f zz)), rfl, hB, Lib.hid (upd_fact (i := 81) (v := .pointer (some ⟨w.heap.size, 1, none⟩)) (cond_fact (j := 80) (v := .bool true) HF.out rfl) rfl)⟩
    · intro D aa wx HI hD hdep KK hKK
      obtain ⟨f, rfl, hB, HF⟩ := HI
      simp [Region.binds] at hdep
      have E80 : f 80 = .bool true := HF.out 80 (by simp [hdep])
      have E81 : f 81 = .pointer (some ⟨w.heap.size, 1, none⟩) := HF.out 81 (by simp [hdep])
      obtain ⟨c0, c1, c2, c3, c4, c5, f0, f1, f2, f3, f4, f5⟩ := S2.out.below hB
      obtain ⟨d0, d1, d2, d3, d4, d5, g0, g1, g2, g3, g4, g5⟩ := S9.out.below hB
      obtain ⟨e0, e1, e2, e3, e4, e5, h0, h1, h2, h3, h4, h5⟩ := S11.out.below hB
      clear f0 f1 f2 f3 f4 f5 g0 g1 g2 g3 g4 g5 h0 h1 h2 h3 h4 h5
      simp only [E80, E81, Act.put, List.toList_toArray, List.take_succ_cons, List.take_zero, List.drop_succ_cons, List.drop_zero, List.cons_append, List.nil_append, List.setIfInBounds_toArray, List.set_cons_zero, List.set_cons_succ]
      go_simp
      exact hKK _ _ ⟨fun zz => cond (Nat.beq zz 82) (.int .i64 t) (cond (Nat.beq zz 81) (.pointer (some ⟨w.heap.size, 1, none⟩)) (cond (Nat.beq zz 80) (.bool true) (f zz))), rfl, hB, Lib.hid (upd_fact (i := 82) (v := .int .i64 t) (cond_fact (j := 81) (v := .pointer (some ⟨w.heap.size, 1, none⟩)) (cond_fact (j := 80) (v := .bool true) HF.out rfl) rfl) rfl)⟩
    · intro D aa wx HI hD hdep KK hKK
      obtain ⟨f, rfl, hB, HF⟩ := HI
      simp [Region.binds] at hdep
      have E80 : f 80 = .bool true := HF.out 80 (by simp [hdep])
      simp only [E80, Act.put, List.toList_toArray, List.take_succ_cons, List.take_zero, List.drop_succ_cons, List.drop_zero, List.cons_append, List.nil_append, List.setIfInBounds_toArray, List.set_cons_zero, List.set_cons_succ]
      go_simp
      exact hKK _ _ ⟨fun zz => cond (Nat.beq zz 83) (.pointer (some ⟨w.heap.size, 2, none⟩)) (cond (Nat.beq zz 80) (.bool true) (f zz)), rfl, hB, Lib.hid (upd_fact (i := 83) (v := .pointer (some ⟨w.heap.size, 2, none⟩)) (cond_fact (j := 80) (v := .bool true) HF.out rfl) rfl)⟩
    · intro D aa wx HI hD hdep KK hKK
      obtain ⟨f, rfl, hB, HF⟩ := HI
      simp [Region.binds] at hdep
      have E80 : f 80 = .bool true := HF.out 80 (by simp [hdep])
      have E83 : f 83 = .pointer (some ⟨w.heap.size, 2, none⟩) := HF.out 83 (by simp [hdep])
      obtain ⟨c0, c1, c2, c3, c4, c5, f0, f1, f2, f3, f4, f5⟩ := S2.out.below hB
      obtain ⟨d0, d1, d2, d3, d4, d5, g0, g1, g2, g3, g4, g5⟩ := S9.out.below hB
      obtain ⟨e0, e1, e2, e3, e4, e5, h0, h1, h2, h3, h4, h5⟩ := S11.out.below hB
      clear f0 f1 f2 f3 f4 f5 g0 g1 g2 g3 g4 g5 h0 h1 h2 h3 h4 h5
      simp only [E80, E83, Act.put, List.toList_toArray, List.take_succ_cons, List.take_zero, List.drop_succ_cons, List.drop_zero, List.cons_append, List.nil_append, List.setIfInBounds_toArray, List.set_cons_zero, List.set_cons_succ]
      go_simp
      exact hKK _ _ ⟨fun zz => cond (Nat.beq zz 84) (.string b) (cond (Nat.beq zz 83) (.pointer (some ⟨w.heap.size, 2, none⟩)) (cond (Nat.beq zz 80) (.bool true) (f zz))), rfl, hB, Lib.hid (upd_fact (i := 84) (v := .string b) (cond_fact (j := 83) (v := .pointer (some ⟨w.heap.size, 2, none⟩)) (cond_fact (j := 80) (v := .bool true) HF.out rfl) rfl) rfl)⟩
    · intro D aa wx HI hD hdep KK hKK
      obtain ⟨f, rfl, hB, HF⟩ := HI
      simp [Region.binds] at hdep
      have E80 : f 80 = .bool true := HF.out 80 (by simp [hdep])
      simp only [E80, Act.put, List.toList_toArray, List.take_succ_cons, List.take_zero, List.drop_succ_cons, List.drop_zero, List.cons_append, List.nil_append, List.setIfInBounds_toArray, List.set_cons_zero, List.set_cons_succ]
      go_simp
      exact hKK _ _ ⟨fun zz => cond (Nat.beq zz 85) (.pointer (some ⟨w.heap.size, 4, none⟩)) (cond (Nat.beq zz 80) (.bool true) (f zz)), rfl, hB, Lib.hid (upd_fact (i := 85) (v := .pointer (some ⟨w.heap.size, 4, none⟩)) (cond_fact (j := 80) (v := .bool true) HF.out rfl) rfl)⟩
    · intro D aa wx HI hD hdep KK hKK
      obtain ⟨f, rfl, hB, HF⟩ := HI
      simp [Region.binds] at hdep
      have E80 : f 80 = .bool true := HF.out 80 (by simp [hdep])
      have E85 : f 85 = .pointer (some ⟨w.heap.size, 4, none⟩) := HF.out 85 (by simp [hdep])
      obtain ⟨c0, c1, c2, c3, c4, c5, f0, f1, f2, f3, f4, f5⟩ := S2.out.below hB
      obtain ⟨d0, d1, d2, d3, d4, d5, g0, g1, g2, g3, g4, g5⟩ := S9.out.below hB
      obtain ⟨e0, e1, e2, e3, e4, e5, h0, h1, h2, h3, h4, h5⟩ := S11.out.below hB
      clear f0 f1 f2 f3 f4 f5 g0 g1 g2 g3 g4 g5 h0 h1 h2 h3 h4 h5
      simp only [E80, E85, Act.put, List.toList_toArray, List.take_succ_cons, List.take_zero, List.drop_succ_cons, List.drop_zero, List.cons_append, List.nil_append, List.setIfInBounds_toArray, List.set_cons_zero, List.set_cons_succ]
      go_simp
      exact hKK _ _ ⟨fun zz => cond (Nat.beq zz 86) (.int .u64 (u : Int)) (cond (Nat.beq zz 85) (.pointer (some ⟨w.heap.size, 4, none⟩)) (cond (Nat.beq zz 80) (.bool true) (f zz))), rfl, hB, Lib.hid (upd_fact (i := 86) (v := .int .u64 (u : Int)) (cond_fact (j := 85) (v := .pointer (some ⟨w.heap.size, 4, none⟩)) (cond_fact (j := 80) (v := .bool true) HF.out rfl) rfl) rfl)⟩
    · intro D aa wx HI hD hdep KK hKK
      obtain ⟨f, rfl, hB, HF⟩ := HI
      simp [Region.binds] at hdep
      have E80 : f 80 = .bool true := HF.out 80 (by simp [hdep])
      have E82 : f 82 = .int .i64 t := HF.out 82 (by simp [hdep])
      have E84 : f 84 = .string b := HF.out 84 (by simp [hdep])
      have E86 : f 86 = .int .u64 (u : Int) := HF.out 86 (by simp [hdep])
      simp only [E80, E82, E84, E86, Act.put, List.toList_toArray, List.take_succ_cons, List.take_zero, List.drop_succ_cons, List.drop_zero, List.cons_append, List.nil_append, List.setIfInBounds_toArray, List.set_cons_zero, List.set_cons_succ]
      go_simp
      refine (H24.out _).mono ?_
      rintro e w5 ⟨rfl, hb⟩
      exact hKK _ _ ⟨fun zz => cond (Nat.beq zz 87) (.string B4) (cond (Nat.beq zz 86) (.int .u64 (u : Int)) (cond (Nat.beq zz 84) (.string b) (cond (Nat.beq zz 82) (.int .i64 t) (cond (Nat.beq zz 80) (.bool true) (f zz))))), rfl, below_to hB hb, Lib.hid (upd_fact (i := 87) (v := .string B4) (cond_fact (j := 86) (v := .int .u64 (u : Int)) (cond_fact (j := 84) (v := .string b) (cond_fact (j := 82) (v := .int .i64 t) (cond_fact (j := 80) (v := .bool true) HF.out rfl) rfl) rfl) rfl) rfl)⟩
    · intro D aa wx HI hD hdep KK hKK
      obtain ⟨f, rfl, hB, HF⟩ := HI
      simp [Region.binds] at hdep
      have E80 : f 80 = .bool true := HF.out 80 (by simp [hdep])
      simp only [E80, Act.put, List.toList_toArray, List.take_succ_cons, List.take_zero, List.drop_succ_cons, List.drop_zero, List.cons_append, List.nil_append, List.setIfInBounds_toArray, List.set_cons_zero, List.set_cons_succ]
      go_simp
      exact hKK _ _ ⟨fun zz => cond (Nat.beq zz 88) (.pointer (some ⟨w.heap.size, 1, none⟩)) (cond (Nat.beq zz 80) (.bool true) (f zz)), rfl, hB, Lib.hid (upd_fact (i := 88) (v := .pointer (some ⟨w.heap.size, 1, none⟩)) (cond_fact (j := 80) (v := .bool true) HF.out rfl) rfl)⟩
    · intro D aa wx HI hD hdep KK hKK
      obtain ⟨f, rfl, hB, HF⟩ := HI
      simp [Region.binds] at hdep
      have E80 : f 80 = .bool true := HF.out 80 (by simp [hdep])
      have E88 : f 88 = .pointer (some ⟨w.heap.size, 1, none⟩) := HF.out 88 (by simp [hdep])
      obtain ⟨c0, c1, c2, c3, c4, c5, f0, f1, f2, f3, f4, f5⟩ := S2.out.below hB
      obtain ⟨d0, d1, d2, d3, d4, d5, g0, g1, g2, g3, g4, g5⟩ := S9.out.below hB
      obtain ⟨e0, e1, e2, e3, e4, e5, h0, h1, h2, h3, h4, h5⟩ := S11.out.below hB
      clear f0 f1 f2 f3 f4 f5 g0 g1 g2 g3 g4 g5 h0 h1 h2 h3 h4 h5
      simp only [E80, E88, Act.put, List.toList_toArray, List.take_succ_cons, List.take_zero, List.drop_succ_cons, List.drop_zero, List.cons_append, List.nil_append, List.setIfInBounds_toArray, List.set_cons_zero, List.set_cons_succ]
      go_simp
      exact hKK _ _ ⟨fun zz => cond (Nat.beq zz 89) (.int .i64 t) (cond (Nat.beq zz 88) (.pointer (some ⟨w.heap.size, 1, none⟩)) (cond (Nat.beq zz 80) (.bool true) (f zz))), rfl, hB, Lib.hid (upd_fact (i := 89) (v := .int .i64 t) (cond_fact (j := 88) (v := .pointer (some ⟨w.heap.size, 1, none⟩)) (cond_fact (j := 80) (v := .bool true) HF.out rfl) rfl) rfl)⟩
    · intro D aa wx HI hD hdep KK hKK
      obtain ⟨f, rfl, hB, HF⟩ := HI
      simp [Region.binds] at hdep
      have E80 : f 80 = .bool true := HF.out 80 (by simp [hdep])
      simp only [E80, Act.put, List.toList_toArray, List.take_succ_cons, List.take_zero, List.drop_succ_cons, List.drop_zero, List.cons_append, List.nil_append, List.setIfInBounds_toArray, List.set_cons_zero, List.set_cons_succ]
      go_simp
      exact hKK _ _ ⟨fun zz => cond (Nat.beq zz 90) (.pointer (some ⟨w.heap.size, 2, none⟩)) (cond (Nat.beq zz 80) (.bool true) (f zz)), rfl, hB, Lib.hid (upd_fact (i := 90) (v := .pointer (some ⟨w.heap.size, 2, none⟩)) (cond_fact (j := 80) (v := .bool true) HF.out rfl) rfl)⟩
    · intro D aa wx HI hD hdep KK hKK
      obtain ⟨f, rfl, hB, HF⟩ := HI
      simp [Region.binds] at hdep
      have E80 : f 80 = .bool true := HF.out 80 (by simp [hdep])
      have E90 : f 90 = .pointer (some ⟨w.heap.size, 2, none⟩) := HF.out 90 (by simp [hdep])
      obtain ⟨c0, c1, c2, c3, c4, c5, f0, f1, f2, f3, f4, f5⟩ := S2.out.below hB
      obtain ⟨d0, d1, d2, d3, d4, d5, g0, g1, g2, g3, g4, g5⟩ := S9.out.below hB
      obtain ⟨e0, e1, e2, e3, e4, e5, h0, h1, h2, h3, h4, h5⟩ := S11.out.below hB
      clear f0 f1 f2 f3 f4 f5 g0 g1 g2 g3 g4 g5 h0 h1 h2 h3 h4 h5
      simp only [E80, E90, Act.put, List.toList_toArray, List.take_succ_cons, List.take_zero, List.drop_succ_cons, List.drop_zero, List.cons_append, List.nil_append, List.setIfInBounds_toArray, List.set_cons_zero, List.set_cons_succ]
      go_simp
      exact hKK _ _ ⟨fun zz => cond (Nat.beq zz 91) (.string b) (cond (Nat.beq zz 90) (.pointer (some ⟨w.heap.size, 2, none⟩)) (cond (Nat.beq zz 80) (.bool true) (f zz))), rfl, hB, Lib.hid (upd_fact (i := 91) (v := .string b) (cond_fact (j := 90) (v := .pointer (some ⟨w.heap.size, 2, none⟩)) (cond_fact (j := 80) (v := .bool true) HF.out rfl) rfl) rfl)⟩
    · intro D aa wx HI hD hdep KK hKK
      obtain ⟨f, rfl, hB, HF⟩ := HI
      simp [Region.binds] at hdep
      have E80 : f 80 = .bool true := HF.out 80 (by simp [hdep])
      simp only [E80, Act.put, List.toList_toArray, List.take_succ_cons, List.take_zero, List.drop_succ_cons, List.drop_zero, List.cons_append, List.nil_append, List.setIfInBounds_toArray, List.set_cons_zero, List.set_cons_succ]
      go_simp
      exact hKK _ _ ⟨fun zz => cond (Nat.beq zz 92) (.pointer (some ⟨w.heap.size, 4, none⟩)) (cond (Nat.beq zz 80) (.bool true) (f zz)), rfl, hB, Lib.hid (upd_fact (i := 92) (v := .pointer (some ⟨w.heap.size, 4, none⟩)) (cond_fact (j := 80) (v := .bool true) HF.out rfl) rfl)⟩
    · intro D aa wx HI hD hdep KK hKK
      obtain ⟨f, rfl, hB, HF⟩ := HI
      simp [Region.binds] at hdep
      have E80 : f 80 = .bool true := HF.out 80 (by simp [hdep])
      have E92 : f 92 = .pointer (some ⟨w.heap.size, 4, none⟩) := HF.out 92 (by simp [hdep])
      obtain ⟨c0, c1, c2, c3, c4, c5, f0, f1, f2, f3, f4, f5⟩ := S2.out.below hB
      obtain ⟨d0, d1, d2, d3, d4, d5, g0, g1, g2, g3, g4, g5⟩ := S9.out.below hB
      obtain ⟨e0, e1, e2, e3, e4, e5, h0, h1, h2, h3, h4, h5⟩ := S11.out.below hB
      clear f0 f1 f2 f3 f4 f5 g0 g1 g2 g3 g4 g5 h0 h1 h2 h3 h4 h5
      simp only [E80, E92, Act.put, List.toList_toArray, List.take_succ_cons, List.take_zero, List.drop_succ_cons, List.drop_zero, List.cons_append, List.nil_append, List.setIfInBounds_toArray, List.set_cons_zero, List.set_cons_succ]
      go_simp
      exact hKK _ _ ⟨fun zz => cond (Nat.beq zz 93) (.int .u64 (u : Int)) (cond (Nat.beq zz 92) (.pointer (some ⟨w.heap.size, 4, none⟩)) (cond (Nat.beq zz 80) (.bool true) (f zz))), rfl, hB, Lib.hid (upd_fact (i := 93) (v := .int .u64 (u : Int)) (cond_fact (j := 92) (v := .pointer (some ⟨w.heap.size, 4, none⟩)) (cond_fact (j := 80) (v := .bool true) HF.out rfl) rfl) rfl)⟩
    · intro D aa wx HI hD hdep KK hKK
      obtain ⟨f, rfl, hB, HF⟩ := HI
      simp [Region.binds] at hdep
      have E80 : f 80 = .bool true := HF.out 80 (by simp [hdep])
      have E89 : f 89 = .int .i64 t := HF.out 89 (by simp [hdep])
      have E91 : f 91 = .string b := HF.out 91 (by simp [hdep])
      have E93 : f 93 = .int .u64 (u : Int) := HF.out 93 (by simp [hdep])
      simp only [E80, E89, E91, E93, Act.put, List.toList_toArray, List.take_succ_cons, List.take_zero, List.drop_succ_cons, List.drop_zero, List.cons_append, List.nil_append, List.setIfInBounds_toArray, List.set_cons_zero, List.set_cons_succ]
      go_simp
      refine (H25.out _).mono ?_
      rintro e w5 ⟨rfl, hb⟩
      exact hKK _ _ ⟨fun zz => cond (Nat.beq zz 94) (.string B4) (cond (Nat.beq zz 93) (.int .u64 (u : Int)) (cond (Nat.beq zz 91) (.string b) (cond (Nat.beq zz 89) (.int .i64 t) (cond (Nat.beq zz 80) (.bool true) (f zz))))), rfl, below_to hB hb, Lib.hid (upd_fact (i := 94) (v := .string B4) (cond_fact (j := 93) (v := .int .u64 (u : Int)) (cond_fact (j := 91) (v := .string b) (cond_fact (j := 89) (v := .int .i64 t) (cond_fact (j := 80) (v := .bool true) HF.out rfl) rfl) rfl) rfl) rfl)⟩
    · intro D aa wx HI hD hdep KK hKK
      obtain ⟨f, rfl, hB, HF⟩ := HI
      simp [Region.binds] at hdep
      have E80 : f 80 = .bool true := HF.out 80 (by simp [hdep])
      have E87 : f 87 = .string B4 := HF.out 87 (by simp [hdep])
      have E94 : f 94 = .string B4 := HF.out 94 (by simp [hdep])
      simp only [E80, E87, E94, Act.put, List.toList_toArray, List.take_succ_cons, List.take_zero, List.drop_succ_cons, List.drop_zero, List.cons_append, List.nil_append, List.setIfInBounds_toArray, List.set_cons_zero, List.set_cons_succ]
      go_simp
      exact hKK _ _ ⟨fun zz => cond (Nat.beq zz 95) (.bool true) (cond (Nat.beq zz 94) (.string B4) (cond (Nat.beq zz 87) (.string B4) (cond (Nat.beq zz 80) (.bool true) (f zz)))), rfl, hB, Lib.hid (upd_fact (i := 95) (v := .bool true) (cond_fact (j := 94) (v := .string B4) (cond_fact (j := 87) (v := .string B4) (cond_fact (j := 80) (v := .bool true) HF.out rfl) rfl) rfl) rfl)⟩
    · intro D aa wx HI hD hdep KK hKK
      obtain ⟨f, rfl, hB, HF⟩ := HI
      simp [Region.binds] at hdep
      have E80 : f 80 = .bool true := HF.out 80 (by simp [hdep])
      have E95 : f 95 = .bool true := HF.out 95 (by simp [hdep])
      simp only [E80, E95, Act.put, List.toList_toArray, List.take_succ_cons, List.take_zero, List.drop_succ_cons, List.drop_zero, List.cons_append, List.nil_append, List.setIfInBounds_toArray, List.set_cons_zero, List.set_cons_succ]
      go_simp
      exact hKK _ _ ⟨fun zz => cond (Nat.beq zz 96) (.bool true) (cond (Nat.beq zz 95) (.bool true) (cond (Nat.beq zz 80) (.bool true) (f zz))), rfl, hB, Lib.hid (upd_fact (i := 96) (v := .bool true) (cond_fact (j := 95) (v := .bool true) (cond_fact (j := 80) (v := .bool true) HF.out rfl) rfl) rfl)⟩
    · intro D aa wx HI hD hdep KK hKK
      obtain ⟨f, rfl, hB, HF⟩ := HI
      simp [Region.binds] at hdep
      have E96 : f 96 = .bool true := HF.out 96 (by simp [hdep])
      simp only [E96, Act.put, List.toList_toArray, List.take_succ_cons, List.take_zero, List.drop_succ_cons, List.drop_zero, List.cons_append, List.nil_append, List.setIfInBounds_toArray, List.set_cons_zero, List.set_cons_succ]
      go_simp
      exact hKK _ _ ⟨fun zz => cond (Nat.beq zz 97) (.bool true) (cond (Nat.beq zz 96) (.bool true) (f zz)), rfl, hB, Lib.hid (upd_fact (i := 97) (v := .bool true) (cond_fact (j := 96) (v := .bool true) HF.out rfl) rfl)⟩
  intro D aa w7 HI hD
  obtain ⟨f, rfl, hB, HF⟩ := HI
  have e9 : f 97 = .bool true := HF.out 97 (hD 97 (by simp))
  simp only [e9, Act.put, List.toList_toArray, List.take_succ_cons, List.take_zero, List.drop_succ_cons, List.drop_zero, List.cons_append, List.nil_append]
  clear HF hD
  go_wp2_with fail
  go_ret
  exact ⟨rfl, below_to BB hB⟩
end Go.Proofs.Yteekjndhehnpaaa.T0
