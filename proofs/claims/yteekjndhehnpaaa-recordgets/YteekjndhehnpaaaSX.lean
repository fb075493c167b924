/- Contracts: the reference's PutBucket and PutVersion. -/
import Derived.Test.YteekjndhehnpaaaSW
namespace Go.Proofs.Yteekjndhehnpaaa
open Go.RowKit
set_option maxRecDepth 100000
set_option linter.unusedVariables false
set_option linter.unusedSimpArgs false
set_option maxHeartbeats 8000000
def InvRK_v (g : Nat) (m : Int) (a : Int) (b : Int) (c : Int) (d : Int) (n : Nat) (um : Nat) (A : ByteArray) (C : ByteArray) (M : ByteArray) (zi : Nat) : Value := ([.pointer (some ⟨g, 0, none⟩), .int .i64 m, .int .u64 (um : Int), .string A, .pointer (some ⟨g, 1, none⟩), .agg #[.int .i64 a, .int .i64 b], .pointer (some ⟨g, 3, none⟩), .agg #[.int .i64 c, .int .i64 d], .string C, .string (A ++ C), .pointer (some ⟨g, 5, none⟩), .int .u64 (n : Int), .string M, .string ((A ++ C) ++ M), .string ((A ++ C) ++ M), .int .i64 0] : List Value).getD zi undef
def InvRK (W1 : World) (g : Nat) (m : Int) (a : Int) (b : Int) (c : Int) (d : Int) (n : Nat) (um : Nat) (A : ByteArray) (C : ByteArray) (M : ByteArray) (a0 : Act) (D : Nat → Bool) (act : Act) (w : World) : Prop :=
  ∃ zf : Nat → Value, act = ⟨(a0.tmps.toList.take 2 ++ zf 14 :: zf 15 :: ((a0.tmps.toList.drop 4).take 20 ++ zf 0 :: zf 1 :: zf 2 :: zf 3 :: zf 4 :: zf 5 :: zf 6 :: zf 7 :: zf 8 :: zf 9 :: zf 10 :: zf 11 :: zf 12 :: zf 13 :: a0.tmps.toList.drop 38)).toArray, []⟩ ∧ Below W1.heap.size W1 w ∧ Hid (∀ zi, D zi = true → zf zi = InvRK_v g m a b c d n um A C M zi)
theorem rputBucket_no (m a b c d : Int) (n : Nat) (h : m < 0 ∨ 2 < m) (w : World) : Calls Try.prog 31 #[.agg #[.int .i64 m, .int .i64 a, .int .i64 b, .int .i64 c, .int .i64 d, .int .u64 (n : Int)]] w fun e w' => e = .returned (.tuple #[.string ⟨#[]⟩, .int .i64 18]) ∧ Below w.heap.size w w' := by
  by_cases h1 : m < 0
  · clear h
    go_enter Try.func31, Try.ntmps31
    go_wp2_with fail
    go_ret2
    exact ⟨rfl, below_box _ _⟩
  · have h2 : 2 < m := by omega
    clear h
    go_enter Try.func31, Try.ntmps31
    go_wp2_with fail
    go_ret2
    exact ⟨rfl, below_box _ _⟩
theorem rputBucket_main (m a b c d : Int) (n : Nat) (h1 : ¬ m < 0) (h2 : ¬ 2 < m) (um : Nat) (hm : IntKind.u64.wrap m = (um : Int)) (V1 V2 : Bool) (A C M : ByteArray) (hA : A.size ≤ 8) (hC : C.size ≤ 100) (hM : M.size ≤ 8)
    (H1 : Hid (∀ w, Calls Try.prog 66 #[.agg #[.int .i64 a, .int .i64 b]] w fun e w' => e = .returned (.bool V1) ∧ Below w.heap.size w w'))
    (H2 : Hid (∀ w, Calls Try.prog 67 #[.agg #[.int .i64 c, .int .i64 d]] w fun e w' => e = .returned (.bool V2) ∧ Below w.heap.size w w'))
    (H3 : Hid (∀ w, Calls Try.prog 52 #[.int .i64 1, .int .u64 (um : Int)] w fun e w' => e = .returned (.string A) ∧ Below w.heap.size w w'))
    (H4 : Hid (∀ w, Calls Try.prog 68 #[.agg #[.int .i64 a, .int .i64 b], .agg #[.int .i64 c, .int .i64 d]] w fun e w' => e = .returned (.string C) ∧ Below w.heap.size w w'))
    (H5 : Hid (∀ w, Calls Try.prog 52 #[.int .i64 8, .int .u64 (n : Int)] w fun e w' => e = .returned (.string M) ∧ Below w.heap.size w w'))
    (w : World) : Calls Try.prog 31 #[.agg #[.int .i64 m, .int .i64 a, .int .i64 b, .int .i64 c, .int .i64 d, .int .u64 (n : Int)]] w fun e w' => e = .returned (.tuple #[pickV (V1 && V2) (.string (A ++ C ++ M)) (.string ⟨#[]⟩), .int .i64 (argE (V1 && V2))]) ∧ Below w.heap.size w w' := by
  have K0 := Blk.new w [.int .i64 m, .int .i64 a, .int .i64 b, .int .i64 c, .int .i64 d, .int .u64 (n : Int)] 51
  have BB0 := below_box w (.cells #[.int .i64 m, .int .i64 a, .int .i64 b, .int .i64 c, .int .i64 d, .int .u64 (n : Int)] 51)
  have jq0 : ¬ 9223372036854775807 < A.size + C.size := by omega
  have jz0 : ¬ (9223372036854775807 : Int) < (A.size : Int) + (C.size : Int) := by omega
  have jq1 : ¬ 9223372036854775807 < A.size + C.size + M.size := by omega
  have jz1 : ¬ (9223372036854775807 : Int) < (A.size : Int) + (C.size : Int) + (M.size : Int) := by omega
  cases V1 with
  | false =>
    show Calls _ _ _ _ fun e w' => e = .returned (.tuple #[.string ⟨#[]⟩, .int .i64 18]) ∧ Below w.heap.size w w'
    go_enter Try.func31, Try.ntmps31
    go_wp2_with fail
    refine (H1.out _).mono ?_
    rintro e w1 ⟨rfl, hb⟩
    go_wp2_with fail
    go_ret2
    exact ⟨rfl, below_to BB0 hb⟩
  | true =>
    cases V2 with
    | false =>
      show Calls _ _ _ _ fun e w' => e = .returned (.tuple #[.string ⟨#[]⟩, .int .i64 18]) ∧ Below w.heap.size w w'
      go_enter Try.func31, Try.ntmps31
      go_wp2_with fail
      refine (H1.out _).mono ?_
      rintro e w1 ⟨rfl, hb⟩
      have K := K0.below hb
      have BB := below_to BB0 hb
      have x0 := K.cell 0 _ rfl
      have x1 := K.cell 1 _ rfl
      have x2 := K.cell 2 _ rfl
      have x3 := K.cell 3 _ rfl
      have x4 := K.cell 4 _ rfl
      have x5 := K.cell 5 _ rfl
      go_wp2_with fail
      refine (H2.out _).mono ?_
      rintro e w2 ⟨rfl, hb2⟩
      go_wp2_with fail
      go_ret2
      exact ⟨rfl, below_to BB hb2⟩
    | true =>
      show Calls _ _ _ _ fun e w' => e = .returned (.tuple #[.string (A ++ C ++ M), .int .i64 0]) ∧ Below w.heap.size w w'
      go_enter Try.func31, Try.ntmps31
      go_wp2_with fail
      refine (H1.out _).mono ?_
      rintro e w1 ⟨rfl, hb⟩
      have K := K0.below hb
      have BB := below_to BB0 hb
      have x0 := K.cell 0 _ rfl
      have x1 := K.cell 1 _ rfl
      have x2 := K.cell 2 _ rfl
      have x3 := K.cell 3 _ rfl
      have x4 := K.cell 4 _ rfl
      have x5 := K.cell 5 _ rfl
      go_wp2_with fail
      refine (H2.out _).mono ?_
      rintro e w2 ⟨rfl, hb2⟩
      have S := K.below hb2
      replace BB := below_to BB hb2
      clear hb hb2 K K0 BB0 x0 x1 x2 x3 x4 x5
      go_upto_region 3 with (fail)
      replace S := Lib.hid S
      refine wp_region_inv0 (InvRK w2 w.heap.size m a b c d n um A C M) (by kernel_rfl) (by decide) ?_ ?_ ?_
      · exact ⟨fun zz => cond (Nat.beq zz 15) (.int .i64 0) (cond (Nat.beq zz 14) (.string ⟨#[]⟩) (undef)), rfl, (Below.refl _ _).drew, Lib.hid (fun i h => by cases h)⟩
      · refine AllI.cons ?_ (AllI.cons ?_ (AllI.cons ?_ (AllI.cons ?_ (AllI.cons ?_ (AllI.cons ?_ (AllI.cons ?_ (AllI.cons ?_ (AllI.cons ?_ (AllI.cons ?_ (AllI.cons ?_ (AllI.cons ?_ (AllI.cons ?_ (AllI.cons ?_ (AllI.cons ?_ (AllI.cons ?_ AllI.nil)))))))))))))))
        · intro D aa wx HI hD hdep KK hKK
          obtain ⟨zf, rfl, hB, HF⟩ := HI
          simp only [Act.put, List.toList_toArray, List.take_succ_cons, List.take_zero, List.drop_succ_cons, List.drop_zero, List.cons_append, List.nil_append, List.setIfInBounds_toArray, List.set_cons_zero, List.set_cons_succ]
          go_simp
          exact hKK _ _ ⟨fun zz => cond (Nat.beq zz 0) (.pointer (some ⟨w.heap.size, 0, none⟩)) (zf zz), rfl, hB, Lib.hid (upd_fact (i := 0) (v := .pointer (some ⟨w.heap.size, 0, none⟩)) HF.out rfl)⟩
        · intro D aa wx HI hD hdep KK hKK
          obtain ⟨zf, rfl, hB, HF⟩ := HI
          simp [Region.binds] at hdep
          have E0 : zf 0 = .pointer (some ⟨w.heap.size, 0, none⟩) := HF.out 0 (by simp [hdep])
          have c0 := (S.out.below hB).cell 0 _ rfl
          have c1 := (S.out.below hB).cell 1 _ rfl
          have c2 := (S.out.below hB).cell 2 _ rfl
          have c3 := (S.out.below hB).cell 3 _ rfl
          have c4 := (S.out.below hB).cell 4 _ rfl
          have c5 := (S.out.below hB).cell 5 _ rfl
          simp only [E0, Act.put, List.toList_toArray, List.take_succ_cons, List.take_zero, List.drop_succ_cons, List.drop_zero, List.cons_append, List.nil_append, List.setIfInBounds_toArray, List.set_cons_zero, List.set_cons_succ]
          go_simp
          exact hKK _ _ ⟨fun zz => cond (Nat.beq zz 1) (.int .i64 m) (cond (Nat.beq zz 0) (.pointer (some ⟨w.heap.size, 0, none⟩)) (zf zz)), rfl, hB, Lib.hid (upd_fact (i := 1) (v := .int .i64 m) (cond_fact (j := 0) (v := .pointer (some ⟨w.heap.size, 0, none⟩)) HF.out rfl) rfl)⟩
        · intro D aa wx HI hD hdep KK hKK
          obtain ⟨zf, rfl, hB, HF⟩ := HI
          simp [Region.binds] at hdep
          have E1 : zf 1 = .int .i64 m := HF.out 1 (by simp [hdep])
          simp only [E1, Act.put, List.toList_toArray, List.take_succ_cons, List.take_zero, List.drop_succ_cons, List.drop_zero, List.cons_append, List.nil_append, List.setIfInBounds_toArray, List.set_cons_zero, List.set_cons_succ]
          go_simp
          exact hKK _ _ ⟨fun zz => cond (Nat.beq zz 2) (.int .u64 (um : Int)) (cond (Nat.beq zz 1) (.int .i64 m) (zf zz)), rfl, hB, Lib.hid (upd_fact (i := 2) (v := .int .u64 (um : Int)) (cond_fact (j := 1) (v := .int .i64 m) HF.out rfl) rfl)⟩
        · intro D aa wx HI hD hdep KK hKK
          obtain ⟨zf, rfl, hB, HF⟩ := HI
          simp [Region.binds] at hdep
          have E2 : zf 2 = .int .u64 (um : Int) := HF.out 2 (by simp [hdep])
          simp only [E2, Act.put, List.toList_toArray, List.take_succ_cons, List.take_zero, List.drop_succ_cons, List.drop_zero, List.cons_append, List.nil_append, List.setIfInBounds_toArray, List.set_cons_zero, List.set_cons_succ]
          go_simp
          refine (H3.out _).mono ?_
          rintro e w5 ⟨rfl, hb⟩
          exact hKK _ _ ⟨fun zz => cond (Nat.beq zz 3) (.string A) (cond (Nat.beq zz 2) (.int .u64 (um : Int)) (zf zz)), rfl, below_to hB hb, Lib.hid (upd_fact (i := 3) (v := .string A) (cond_fact (j := 2) (v := .int .u64 (um : Int)) HF.out rfl) rfl)⟩
        · intro D aa wx HI hD hdep KK hKK
          obtain ⟨zf, rfl, hB, HF⟩ := HI
          simp only [Act.put, List.toList_toArray, List.take_succ_cons, List.take_zero, List.drop_succ_cons, List.drop_zero, List.cons_append, List.nil_append, List.setIfInBounds_toArray, List.set_cons_zero, List.set_cons_succ]
          go_simp
          exact hKK _ _ ⟨fun zz => cond (Nat.beq zz 4) (.pointer (some ⟨w.heap.size, 1, none⟩)) (zf zz), rfl, hB, Lib.hid (upd_fact (i := 4) (v := .pointer (some ⟨w.heap.size, 1, none⟩)) HF.out rfl)⟩
        · intro D aa wx HI hD hdep KK hKK
          obtain ⟨zf, rfl, hB, HF⟩ := HI
          simp [Region.binds] at hdep
          have E4 : zf 4 = .pointer (some ⟨w.heap.size, 1, none⟩) := HF.out 4 (by simp [hdep])
          have c0 := (S.out.below hB).cell 0 _ rfl
          have c1 := (S.out.below hB).cell 1 _ rfl
          have c2 := (S.out.below hB).cell 2 _ rfl
          have c3 := (S.out.below hB).cell 3 _ rfl
          have c4 := (S.out.below hB).cell 4 _ rfl
          have c5 := (S.out.below hB).cell 5 _ rfl
          simp only [E4, Act.put, List.toList_toArray, List.take_succ_cons, List.take_zero, List.drop_succ_cons, List.drop_zero, List.cons_append, List.nil_append, List.setIfInBounds_toArray, List.set_cons_zero, List.set_cons_succ]
          go_simp
          exact hKK _ _ ⟨fun zz => cond (Nat.beq zz 5) (.agg #[.int .i64 a, .int .i64 b]) (cond (Nat.beq zz 4) (.pointer (some ⟨w.heap.size, 1, none⟩)) (zf zz)), rfl, hB, Lib.hid (upd_fact (i := 5) (v := .agg #[.int .i64 a, .int .i64 b]) (cond_fact (j := 4) (v := .pointer (some ⟨w.heap.size, 1, none⟩)) HF.out rfl) rfl)⟩
        · intro D aa wx HI hD hdep KK hKK
          obtain ⟨zf, rfl, hB, HF⟩ := HI
          simp only [Act.put, List.toList_toArray, List.take_succ_cons, List.take_zero, List.drop_succ_cons, List.drop_zero, List.cons_append, List.nil_append, List.setIfInBounds_toArray, List.set_cons_zero, List.set_cons_succ]
          go_simp
          exact hKK _ _ ⟨fun zz => cond (Nat.beq zz 6) (.pointer (some ⟨w.heap.size, 3, none⟩)) (zf zz), rfl, hB, Lib.hid (upd_fact (i := 6) (v := .pointer (some ⟨w.heap.size, 3, none⟩)) HF.out rfl)⟩
        · intro D aa wx HI hD hdep KK hKK
          obtain ⟨zf, rfl, hB, HF⟩ := HI
          simp [Region.binds] at hdep
          have E6 : zf 6 = .pointer (some ⟨w.heap.size, 3, none⟩) := HF.out 6 (by simp [hdep])
          have c0 := (S.out.below hB).cell 0 _ rfl
          have c1 := (S.out.below hB).cell 1 _ rfl
          have c2 := (S.out.below hB).cell 2 _ rfl
          have c3 := (S.out.below hB).cell 3 _ rfl
          have c4 := (S.out.below hB).cell 4 _ rfl
          have c5 := (S.out.below hB).cell 5 _ rfl
          simp only [E6, Act.put, List.toList_toArray, List.take_succ_cons, List.take_zero, List.drop_succ_cons, List.drop_zero, List.cons_append, List.nil_append, List.setIfInBounds_toArray, List.set_cons_zero, List.set_cons_succ]
          go_simp
          exact hKK _ _ ⟨fun zz => cond (Nat.beq zz 7) (.agg #[.int .i64 c, .int .i64 d]) (cond (Nat.beq zz 6) (.pointer (some ⟨w.heap.size, 3, none⟩)) (zf zz)), rfl, hB, Lib.hid (upd_fact (i := 7) (v := .agg #[.int .i64 c, .int .i64 d]) (cond_fact (j := 6) (v := .pointer (some ⟨w.heap.size, 3, none⟩)) HF.out rfl) rfl)⟩
        · intro D aa wx HI hD hdep KK hKK
          obtain ⟨zf, rfl, hB, HF⟩ := HI
          simp [Region.binds] at hdep
          have E5 : zf 5 = .agg #[.int .i64 a, .int .i64 b] := HF.out 5 (by simp [hdep])
          have E7 : zf 7 = .agg #[.int .i64 c, .int .i64 d] := HF.out 7 (by simp [hdep])
          simp only [E5, E7, Act.put, List.toList_toArray, List.take_succ_cons, List.take_zero, List.drop_succ_cons, List.drop_zero, List.cons_append, List.nil_append, List.setIfInBounds_toArray, List.set_cons_zero, List.set_cons_succ]
          go_simp
          refine (H4.out _).mono ?_
          rintro e w5 ⟨rfl, hb⟩
          exact hKK _ _ ⟨fun zz => cond (Nat.beq zz 8) (.string C) (cond (Nat.beq zz 7) (.agg #[.int .i64 c, .int .i64 d]) (cond (Nat.beq zz 5) (.agg #[.int .i64 a, .int .i64 b]) (zf zz))), rfl, below_to hB hb, Lib.hid (upd_fact (i := 8) (v := .string C) (cond_fact (j := 7) (v := .agg #[.int .i64 c, .int .i64 d]) (cond_fact (j := 5) (v := .agg #[.int .i64 a, .int .i64 b]) HF.out rfl) rfl) rfl)⟩
        · intro D aa wx HI hD hdep KK hKK
          obtain ⟨zf, rfl, hB, HF⟩ := HI
          simp [Region.binds] at hdep
          have E3 : zf 3 = .string A := HF.out 3 (by simp [hdep])
          have E8 : zf 8 = .string C := HF.out 8 (by simp [hdep])
          simp only [E3, E8, Act.put, List.toList_toArray, List.take_succ_cons, List.take_zero, List.drop_succ_cons, List.drop_zero, List.cons_append, List.nil_append, List.setIfInBounds_toArray, List.set_cons_zero, List.set_cons_succ]
          go_simp
          exact hKK _ _ ⟨fun zz => cond (Nat.beq zz 9) (.string (A ++ C)) (cond (Nat.beq zz 8) (.string C) (cond (Nat.beq zz 3) (.string A) (zf zz))), rfl, hB, Lib.hid (upd_fact (i := 9) (v := .string (A ++ C)) (cond_fact (j := 8) (v := .string C) (cond_fact (j := 3) (v := .string A) HF.out rfl) rfl) rfl)⟩
        · intro D aa wx HI hD hdep KK hKK
          obtain ⟨zf, rfl, hB, HF⟩ := HI
          simp only [Act.put, List.toList_toArray, List.take_succ_cons, List.take_zero, List.drop_succ_cons, List.drop_zero, List.cons_append, List.nil_append, List.setIfInBounds_toArray, List.set_cons_zero, List.set_cons_succ]
          go_simp
          exact hKK _ _ ⟨fun zz => cond (Nat.beq zz 10) (.pointer (some ⟨w.heap.size, 5, none⟩)) (zf zz), rfl, hB, Lib.hid (upd_fact (i := 10) (v := .pointer (some ⟨w.heap.size, 5, none⟩)) HF.out rfl)⟩
        · intro D aa wx HI hD hdep KK hKK
          obtain ⟨zf, rfl, hB, HF⟩ := HI
          simp [Region.binds] at hdep
          have E10 : zf 10 = .pointer (some ⟨w.heap.size, 5, none⟩) := HF.out 10 (by simp [hdep])
          have c0 := (S.out.below hB).cell 0 _ rfl
          have c1 := (S.out.below hB).cell 1 _ rfl
          have c2 := (S.out.below hB).cell 2 _ rfl
          have c3 := (S.out.below hB).cell 3 _ rfl
          have c4 := (S.out.below hB).cell 4 _ rfl
          have c5 := (S.out.below hB).cell 5 _ rfl
          simp only [E10, Act.put, List.toList_toArray, List.take_succ_cons, List.take_zero, List.drop_succ_cons, List.drop_zero, List.cons_append, List.nil_append, List.setIfInBounds_toArray, List.set_cons_zero, List.set_cons_succ]
          go_simp
          exact hKK _ _ ⟨fun zz => cond (Nat.beq zz 11) (.int .u64 (n : Int)) (cond (Nat.beq zz 10) (.pointer (some ⟨w.heap.size, 5, none⟩)) (zf zz)), rfl, hB, Lib.hid (upd_fact (i := 11) (v := .int .u64 (n : Int)) (cond_fact (j := 10) (v := .pointer (some ⟨w.heap.size, 5, none⟩)) HF.out rfl) rfl)⟩
        · intro D aa wx HI hD hdep KK hKK
          obtain ⟨zf, rfl, hB, HF⟩ := HI
          simp [Region.binds] at hdep
          have E11 : zf 11 = .int .u64 (n : Int) := HF.out 11 (by simp [hdep])
          simp only [E11, Act.put, List.toList_toArray, List.take_succ_cons, List.take_zero, List.drop_succ_cons, List.drop_zero, List.cons_append, List.nil_append, List.setIfInBounds_toArray, List.set_cons_zero, List.set_cons_succ]
          go_simp
          refine (H5.out _).mono ?_
          rintro e w5 ⟨rfl, hb⟩
          exact hKK _ _ ⟨fun zz => cond (Nat.beq zz 12) (.string M) (cond (Nat.beq zz 11) (.int .u64 (n : Int)) (zf zz)), rfl, below_to hB hb, Lib.hid (upd_fact (i := 12) (v := .string M) (cond_fact (j := 11) (v := .int .u64 (n : Int)) HF.out rfl) rfl)⟩
        · intro D aa wx HI hD hdep KK hKK
          obtain ⟨zf, rfl, hB, HF⟩ := HI
          simp [Region.binds] at hdep
          have E9 : zf 9 = .string (A ++ C) := HF.out 9 (by simp [hdep])
          have E12 : zf 12 = .string M := HF.out 12 (by simp [hdep])
          simp only [E9, E12, Act.put, List.toList_toArray, List.take_succ_cons, List.take_zero, List.drop_succ_cons, List.drop_zero, List.cons_append, List.nil_append, List.setIfInBounds_toArray, List.set_cons_zero, List.set_cons_succ]
          go_simp
          exact hKK _ _ ⟨fun zz => cond (Nat.beq zz 13) (.string ((A ++ C) ++ M)) (cond (Nat.beq zz 12) (.string M) (cond (Nat.beq zz 9) (.string (A ++ C)) (zf zz))), rfl, hB, Lib.hid (upd_fact (i := 13) (v := .string ((A ++ C) ++ M)) (cond_fact (j := 12) (v := .string M) (cond_fact (j := 9) (v := .string (A ++ C)) HF.out rfl) rfl) rfl)⟩
        · intro D aa wx HI hD hdep KK hKK
          obtain ⟨zf, rfl, hB, HF⟩ := HI
          simp [Region.binds] at hdep
          have E13 : zf 13 = .string ((A ++ C) ++ M) := HF.out 13 (by simp [hdep])
          simp only [E13, Act.put, List.toList_toArray, List.take_succ_cons, List.take_zero, List.drop_succ_cons, List.drop_zero, List.cons_append, List.nil_append, List.setIfInBounds_toArray, List.set_cons_zero, List.set_cons_succ]
          go_simp
          exact hKK _ _ ⟨fun zz => cond (Nat.beq zz 14) (.string ((A ++ C) ++ M)) (cond (Nat.beq zz 13) (.string ((A ++ C) ++ M)) (zf zz)), rfl, hB, Lib.hid (upd_fact (i := 14) (v := .string ((A ++ C) ++ M)) (cond_fact (j := 13) (v := .string ((A ++ C) ++ M)) HF.out rfl) rfl)⟩
        · intro D aa wx HI hD hdep KK hKK
          obtain ⟨zf, rfl, hB, HF⟩ := HI
          simp only [Act.put, List.toList_toArray, List.take_succ_cons, List.take_zero, List.drop_succ_cons, List.drop_zero, List.cons_append, List.nil_append, List.setIfInBounds_toArray, List.set_cons_zero, List.set_cons_succ]
          go_simp
          exact hKK _ _ ⟨fun zz => cond (Nat.beq zz 15) (.int .i64 0) (zf zz), rfl, hB, Lib.hid (upd_fact (i := 15) (v := .int .i64 0) HF.out rfl)⟩
      intro D aa w7 HI hD
      obtain ⟨zf, rfl, hB, HF⟩ := HI
      have e8 : zf 14 = .string (A ++ C ++ M) := HF.out 14 (hD 14 (by simp))
      have e9 : zf 15 = .int .i64 0 := HF.out 15 (hD 15 (by simp))
      simp only [e8, e9, Act.put, List.toList_toArray, List.take_succ_cons, List.take_zero, List.drop_succ_cons, List.drop_zero, List.cons_append, List.nil_append]
      clear HF hD
      go_wp2_with fail
      go_ret2
      exact ⟨rfl, below_to BB hB⟩
theorem rputBucket_any (m a b c d : Int) (n : Nat) (hn : n < 18446744073709551616) (w : World) : Calls Try.prog 31 #[.agg #[.int .i64 m, .int .i64 a, .int .i64 b, .int .i64 c, .int .i64 d, .int .u64 (n : Int)]] w fun e w' => e = .returned (.tuple #[.string (bucketS m a b c d n), .int .i64 (argE (okBu m a b c d))]) ∧ Below w.heap.size w w' := by
  by_cases h : m < 0 ∨ 2 < m
  · have hk : okBu m a b c d = false := by unfold okBu; rw [show (decide (0 ≤ m) && decide (m < 3)) = false from by rw [Bool.and_eq_false_iff, decide_eq_false_iff_not, decide_eq_false_iff_not]; omega, Bool.false_and]
    unfold bucketS
    rw [hk]
    exact rputBucket_no m a b c d n h w
  · have hk : okBu m a b c d = (limB a b && okB c d) := by unfold okBu; rw [decide_eq_true (by omega : 0 ≤ m), decide_eq_true (by omega : m < 3)]; rfl
    have := rputBucket_main m a b c d n (by omega) (by omega) _ (u64N_wrap m) _ _ _ _ _ (by rw [bs_size, numL_length]; omega) (by rw [joinB_size]; simp [pairS_size]) (by rw [bs_size, numL_length]; omega) (Lib.hid (rbound_any a b)) (Lib.hid (cright_any c d)) (Lib.hid (fun w => rnum_ok 1 (u64N m) w (by omega) (by omega) (u64N_lt m))) (Lib.hid (rcounts_any a b c d)) (Lib.hid (fun w => rnum_ok 8 n w (by omega) (by omega) hn)) w
    unfold bucketS
    rw [hk, ← pick_enc]
    rw [joinB_list, bsA, bsA] at this
    rw [joinB_list]
    simp only [List.map_cons, List.map_nil, pairS_list, bs_toList, List.flatten_cons, List.flatten_nil, List.append_nil, List.append_assoc] at this ⊢
    exact this
def InvRV_v (g : Nat) (i : Nat) (q : Bool) (n : Nat) (f : Int) (z : Int) (A : ByteArray) (M : ByteArray) (C : ByteArray) (zi : Nat) : Value := ([.pointer (some ⟨g, 0, none⟩), .int .u64 (i : Int), .string A, .string M, .string (A ++ M), .pointer (some ⟨g, 2, none⟩), .int .u32 (n : Int), .pointer (some ⟨g, 3, none⟩), .agg #[.int .i64 f, .int .i64 z], .string C, .string ((A ++ M) ++ C), .string ((A ++ M) ++ C), .int .i64 0] : List Value).getD zi undef
def InvRV (W1 : World) (g : Nat) (i : Nat) (q : Bool) (n : Nat) (f : Int) (z : Int) (A : ByteArray) (M : ByteArray) (C : ByteArray) (a0 : Act) (D : Nat → Bool) (act : Act) (w : World) : Prop :=
  ∃ zf : Nat → Value, act = ⟨(a0.tmps.toList.take 2 ++ zf 11 :: zf 12 :: ((a0.tmps.toList.drop 4).take 22 ++ zf 0 :: zf 1 :: zf 2 :: zf 3 :: zf 4 :: zf 5 :: zf 6 :: zf 7 :: zf 8 :: zf 9 :: zf 10 :: a0.tmps.toList.drop 37)).toArray, []⟩ ∧ Below W1.heap.size W1 w ∧ Hid (∀ zi, D zi = true → zf zi = InvRV_v g i q n f z A M C zi)
theorem rputVersion_bad (i : Nat) (q : Bool) (n : Nat) (f z : Int)
    (H1 : Hid (∀ w, Calls Try.prog 72 #[.agg #[.int .i64 f, .int .i64 z]] w fun e w' => e = .returned (.bool false) ∧ Below w.heap.size w w'))
    (w : World) : Calls Try.prog 33 #[.agg #[.int .u64 (i : Int), .bool q, .int .u32 (n : Int), .int .i64 f, .int .i64 z]] w fun e w' => e = .returned (.tuple #[.string ⟨#[]⟩, .int .i64 18]) ∧ Below w.heap.size w w' := by
  have BB0 := below_box w (.cells #[.int .u64 (i : Int), .bool q, .int .u32 (n : Int), .int .i64 f, .int .i64 z] 56)
  go_enter Try.func33, Try.ntmps33
  go_wp2_with fail
  refine (H1.out _).mono ?_
  rintro e w1 ⟨rfl, hb⟩
  go_wp2_with fail
  go_ret2
  exact ⟨rfl, below_to BB0 hb⟩
theorem rputVersion_marked (i n : Nat) (f z : Int) (h : ¬ (n : Int) = 0 ∨ ¬ z = 0)
    (H1 : Hid (∀ w, Calls Try.prog 72 #[.agg #[.int .i64 f, .int .i64 z]] w fun e w' => e = .returned (.bool true) ∧ Below w.heap.size w w'))
    (w : World) : Calls Try.prog 33 #[.agg #[.int .u64 (i : Int), .bool true, .int .u32 (n : Int), .int .i64 f, .int .i64 z]] w fun e w' => e = .returned (.tuple #[.string ⟨#[]⟩, .int .i64 18]) ∧ Below w.heap.size w w' := by
  have K0 := Blk.new w [.int .u64 (i : Int), .bool true, .int .u32 (n : Int), .int .i64 f, .int .i64 z] 56
  have BB0 := below_box w (.cells #[.int .u64 (i : Int), .bool true, .int .u32 (n : Int), .int .i64 f, .int .i64 z] 56)
  by_cases hn : (n : Int) = 0
  · have hz : ¬ z = 0 := by omega
    have hnb : ((n : Int) != 0) = false := by simp [hn]
    have hzb : (z != 0) = true := by simp [hz]
    clear h hn hz
    go_enter Try.func33, Try.ntmps33
    go_wp2_with fail
    refine (H1.out _).mono ?_
    rintro e w1 ⟨rfl, hb⟩
    have K := K0.below hb
    have x0 := K.cell 0 _ rfl
    have x1 := K.cell 1 _ rfl
    have x2 := K.cell 2 _ rfl
    have x3 := K.cell 3 _ rfl
    have x4 := K.cell 4 _ rfl
    go_wp2_with fail
    go_ret2
    exact ⟨rfl, below_to BB0 hb⟩
  · have hnb : ((n : Int) != 0) = true := by simp; omega
    clear h
    go_enter Try.func33, Try.ntmps33
    go_wp2_with fail
    refine (H1.out _).mono ?_
    rintro e w1 ⟨rfl, hb⟩
    have K := K0.below hb
    have x0 := K.cell 0 _ rfl
    have x1 := K.cell 1 _ rfl
    have x2 := K.cell 2 _ rfl
    have x3 := K.cell 3 _ rfl
    have x4 := K.cell 4 _ rfl
    go_wp2_with fail
    go_ret2
    exact ⟨rfl, below_to BB0 hb⟩
theorem rputVersion_false (i n : Nat) (f z : Int) (A M C : ByteArray) (hM : M = ⟨#[0]⟩) (hM1 : M.size ≤ 1) (hA : A.size ≤ 8) (hC : C.size ≤ 100)
    (H1 : Hid (∀ w, Calls Try.prog 72 #[.agg #[.int .i64 f, .int .i64 z]] w fun e w' => e = .returned (.bool true) ∧ Below w.heap.size w w'))
    (H2 : Hid (∀ w, Calls Try.prog 52 #[.int .i64 8, .int .u64 (i : Int)] w fun e w' => e = .returned (.string A) ∧ Below w.heap.size w w'))
    (H3 : Hid (∀ w, Calls Try.prog 73 #[.int .u32 (n : Int), .agg #[.int .i64 f, .int .i64 z]] w fun e w' => e = .returned (.string C) ∧ Below w.heap.size w w'))
    (w : World) : Calls Try.prog 33 #[.agg #[.int .u64 (i : Int), .bool false, .int .u32 (n : Int), .int .i64 f, .int .i64 z]] w fun e w' => e = .returned (.tuple #[.string (A ++ M ++ C), .int .i64 0]) ∧ Below w.heap.size w w' := by
  have K0 := Blk.new w [.int .u64 (i : Int), .bool false, .int .u32 (n : Int), .int .i64 f, .int .i64 z] 56
  have BB0 := below_box w (.cells #[.int .u64 (i : Int), .bool false, .int .u32 (n : Int), .int .i64 f, .int .i64 z] 56)
  have jq0 : ¬ 9223372036854775807 < A.size + M.size := by omega
  have jz0 : ¬ (9223372036854775807 : Int) < (A.size : Int) + (M.size : Int) := by omega
  have jq1 : ¬ 9223372036854775807 < A.size + M.size + C.size := by omega
  have jz1 : ¬ (9223372036854775807 : Int) < (A.size : Int) + (M.size : Int) + (C.size : Int) := by omega
  go_enter Try.func33, Try.ntmps33
  go_wp2_with fail
  refine (H1.out _).mono ?_
  rintro e w2 ⟨rfl, hb⟩
  have S := K0.below hb
  have BB := below_to BB0 hb
  clear hb K0 BB0
  have x0 := S.cell 0 _ rfl
  have x1 := S.cell 1 _ rfl
  have x2 := S.cell 2 _ rfl
  have x3 := S.cell 3 _ rfl
  have x4 := S.cell 4 _ rfl
  go_upto_region 6 with (fail)
  clear x0 x1 x2 x3 x4
  replace S := Lib.hid S
  rw [← hM]
  clear hM
  refine wp_region_inv0 (InvRV w2 w.heap.size i false n f z A M C) (by kernel_rfl) (by decide) ?_ ?_ ?_
  · exact ⟨fun zz => cond (Nat.beq zz 12) (.int .i64 0) (cond (Nat.beq zz 11) (.string ⟨#[]⟩) (undef)), rfl, (Below.refl _ _).drew, Lib.hid (fun i h => by cases h)⟩
  · refine AllI.cons ?_ (AllI.cons ?_ (AllI.cons ?_ (AllI.cons ?_ (AllI.cons ?_ (AllI.cons ?_ (AllI.cons ?_ (AllI.cons ?_ (AllI.cons ?_ (AllI.cons ?_ (AllI.cons ?_ (AllI.cons ?_ (AllI.cons ?_ AllI.nil))))))))))))
    · intro D aa wx HI hD hdep KK hKK
      obtain ⟨zf, rfl, hB, HF⟩ := HI
      simp only [Act.put, List.toList_toArray, List.take_succ_cons, List.take_zero, List.drop_succ_cons, List.drop_zero, List.cons_append, List.nil_append, List.setIfInBounds_toArray, List.set_cons_zero, List.set_cons_succ]
      go_simp
      exact hKK _ _ ⟨fun zz => cond (Nat.beq zz 0) (.pointer (some ⟨w.heap.size, 0, none⟩)) (zf zz), rfl, hB, Lib.hid (upd_fact (i := 0) (v := .pointer (some ⟨w.heap.size, 0, none⟩)) HF.out rfl)⟩
    · intro D aa wx HI hD hdep KK hKK
      obtain ⟨zf, rfl, hB, HF⟩ := HI
      simp [Region.binds] at hdep
      have E0 : zf 0 = .pointer (some ⟨w.heap.size, 0, none⟩) := HF.out 0 (by simp [hdep])
      have c0 := (S.out.below hB).cell 0 _ rfl
      have c1 := (S.out.below hB).cell 1 _ rfl
      have c2 := (S.out.below hB).cell 2 _ rfl
      have c3 := (S.out.below hB).cell 3 _ rfl
      have c4 := (S.out.below hB).cell 4 _ rfl
      simp only [E0, Act.put, List.toList_toArray, List.take_succ_cons, List.take_zero, List.drop_succ_cons, List.drop_zero, List.cons_append, List.nil_append, List.setIfInBounds_toArray, List.set_cons_zero, List.set_cons_succ]
      go_simp
      exact hKK _ _ ⟨fun zz => cond (Nat.beq zz 1) (.int .u64 (i : Int)) (cond (Nat.beq zz 0) (.pointer (some ⟨w.heap.size, 0, none⟩)) (zf zz)), rfl, hB, Lib.hid (upd_fact (i := 1) (v := .int .u64 (i : Int)) (cond_fact (j := 0) (v := .pointer (some ⟨w.heap.size, 0, none⟩)) HF.out rfl) rfl)⟩
    · intro D aa wx HI hD hdep KK hKK
      obtain ⟨zf, rfl, hB, HF⟩ := HI
      simp [Region.binds] at hdep
      have E1 : zf 1 = .int .u64 (i : Int) := HF.out 1 (by simp [hdep])
      simp only [E1, Act.put, List.toList_toArray, List.take_succ_cons, List.take_zero, List.drop_succ_cons, List.drop_zero, List.cons_append, List.nil_append, List.setIfInBounds_toArray, List.set_cons_zero, List.set_cons_succ]
      go_simp
      refine (H2.out _).mono ?_
      rintro e w5 ⟨rfl, hb⟩
      exact hKK _ _ ⟨fun zz => cond (Nat.beq zz 2) (.string A) (cond (Nat.beq zz 1) (.int .u64 (i : Int)) (zf zz)), rfl, below_to hB hb, Lib.hid (upd_fact (i := 2) (v := .string A) (cond_fact (j := 1) (v := .int .u64 (i : Int)) HF.out rfl) rfl)⟩
    · intro D aa wx HI hD hdep KK hKK
      obtain ⟨zf, rfl, hB, HF⟩ := HI
      simp only [Act.put, List.toList_toArray, List.take_succ_cons, List.take_zero, List.drop_succ_cons, List.drop_zero, List.cons_append, List.nil_append, List.setIfInBounds_toArray, List.set_cons_zero, List.set_cons_succ]
      go_simp
      exact hKK _ _ ⟨fun zz => cond (Nat.beq zz 3) (.string M) (zf zz), rfl, hB, Lib.hid (upd_fact (i := 3) (v := .string M) HF.out rfl)⟩
    · intro D aa wx HI hD hdep KK hKK
      obtain ⟨zf, rfl, hB, HF⟩ := HI
      simp [Region.binds] at hdep
      have E2 : zf 2 = .string A := HF.out 2 (by simp [hdep])
      have E3 : zf 3 = .string M := HF.out 3 (by simp [hdep])
      simp only [E2, E3, Act.put, List.toList_toArray, List.take_succ_cons, List.take_zero, List.drop_succ_cons, List.drop_zero, List.cons_append, List.nil_append, List.setIfInBounds_toArray, List.set_cons_zero, List.set_cons_succ]
      go_simp
      exact hKK _ _ ⟨fun zz => cond (Nat.beq zz 4) (.string (A ++ M)) (cond (Nat.beq zz 3) (.string M) (cond (Nat.beq zz 2) (.string A) (zf zz))), rfl, hB, Lib.hid (upd_fact (i := 4) (v := .string (A ++ M)) (cond_fact (j := 3) (v := .string M) (cond_fact (j := 2) (v := .string A) HF.out rfl) rfl) rfl)⟩
    · intro D aa wx HI hD hdep KK hKK
      obtain ⟨zf, rfl, hB, HF⟩ := HI
      simp only [Act.put, List.toList_toArray, List.take_succ_cons, List.take_zero, List.drop_succ_cons, List.drop_zero, List.cons_append, List.nil_append, List.setIfInBounds_toArray, List.set_cons_zero, List.set_cons_succ]
      go_simp
      exact hKK _ _ ⟨fun zz => cond (Nat.beq zz 5) (.pointer (some ⟨w.heap.size, 2, none⟩)) (zf zz), rfl, hB, Lib.hid (upd_fact (i := 5) (v := .pointer (some ⟨w.heap.size, 2, none⟩)) HF.out rfl)⟩
    · intro D aa wx HI hD hdep KK hKK
      obtain ⟨zf, rfl, hB, HF⟩ := HI
      simp [Region.binds] at hdep
      have E5 : zf 5 = .pointer (some ⟨w.heap.size, 2, none⟩) := HF.out 5 (by simp [hdep])
      have c0 := (S.out.below hB).cell 0 _ rfl
      have c1 := (S.out.below hB).cell 1 _ rfl
      have c2 := (S.out.below hB).cell 2 _ rfl
      have c3 := (S.out.below hB).cell 3 _ rfl
      have c4 := (S.out.below hB).cell 4 _ rfl
      simp only [E5, Act.put, List.toList_toArray, List.take_succ_cons, List.take_zero, List.drop_succ_cons, List.drop_zero, List.cons_append, List.nil_append, List.setIfInBounds_toArray, List.set_cons_zero, List.set_cons_succ]
      go_simp
      exact hKK _ _ ⟨fun zz => cond (Nat.beq zz 6) (.int .u32 (n : Int)) (cond (Nat.beq zz 5) (.pointer (some ⟨w.heap.size, 2, none⟩)) (zf zz)), rfl, hB, Lib.hid (upd_fact (i := 6) (v := .int .u32 (n : Int)) (cond_fact (j := 5) (v := .pointer (some ⟨w.heap.size, 2, none⟩)) HF.out rfl) rfl)⟩
    · intro D aa wx HI hD hdep KK hKK
      obtain ⟨zf, rfl, hB, HF⟩ := HI
      simp only [Act.put, List.toList_toArray, List.take_succ_cons, List.take_zero, List.drop_succ_cons, List.drop_zero, List.cons_append, List.nil_append, List.setIfInBounds_toArray, List.set_cons_zero, List.set_cons_succ]
      go_simp
      exact hKK _ _ ⟨fun zz => cond (Nat.beq zz 7) (.pointer (some ⟨w.heap.size, 3, none⟩)) (zf zz), rfl, hB, Lib.hid (upd_fact (i := 7) (v := .pointer (some ⟨w.heap.size, 3, none⟩)) HF.out rfl)⟩
    · intro D aa wx HI hD hdep KK hKK
      obtain ⟨zf, rfl, hB, HF⟩ := HI
      simp [Region.binds] at hdep
      have E7 : zf 7 = .pointer (some ⟨w.heap.size, 3, none⟩) := HF.out 7 (by simp [hdep])
      have c0 := (S.out.below hB).cell 0 _ rfl
      have c1 := (S.out.below hB).cell 1 _ rfl
      have c2 := (S.out.below hB).cell 2 _ rfl
      have c3 := (S.out.below hB).cell 3 _ rfl
      have c4 := (S.out.below hB).cell 4 _ rfl
      simp only [E7, Act.put, List.toList_toArray, List.take_succ_cons, List.take_zero, List.drop_succ_cons, List.drop_zero, List.cons_append, List.nil_append, List.setIfInBounds_toArray, List.set_cons_zero, List.set_cons_succ]
      go_simp
      exact hKK _ _ ⟨fun zz => cond (Nat.beq zz 8) (.agg #[.int .i64 f, .int .i64 z]) (cond (Nat.beq zz 7) (.pointer (some ⟨w.heap.size, 3, none⟩)) (zf zz)), rfl, hB, Lib.hid (upd_fact (i := 8) (v := .agg #[.int .i64 f, .int .i64 z]) (cond_fact (j := 7) (v := .pointer (some ⟨w.heap.size, 3, none⟩)) HF.out rfl) rfl)⟩
    · intro D aa wx HI hD hdep KK hKK
      obtain ⟨zf, rfl, hB, HF⟩ := HI
      simp [Region.binds] at hdep
      have E6 : zf 6 = .int .u32 (n : Int) := HF.out 6 (by simp [hdep])
      have E8 : zf 8 = .agg #[.int .i64 f, .int .i64 z] := HF.out 8 (by simp [hdep])
      simp only [E6, E8, Act.put, List.toList_toArray, List.take_succ_cons, List.take_zero, List.drop_succ_cons, List.drop_zero, List.cons_append, List.nil_append, List.setIfInBounds_toArray, List.set_cons_zero, List.set_cons_succ]
      go_simp
      refine (H3.out _).mono ?_
      rintro e w5 ⟨rfl, hb⟩
      exact hKK _ _ ⟨fun zz => cond (Nat.beq zz 9) (.string C) (cond (Nat.beq zz 8) (.agg #[.int .i64 f, .int .i64 z]) (cond (Nat.beq zz 6) (.int .u32 (n : Int)) (zf zz))), rfl, below_to hB hb, Lib.hid (upd_fact (i := 9) (v := .string C) (cond_fact (j := 8) (v := .agg #[.int .i64 f, .int .i64 z]) (cond_fact (j := 6) (v := .int .u32 (n : Int)) HF.out rfl) rfl) rfl)⟩
    · intro D aa wx HI hD hdep KK hKK
      obtain ⟨zf, rfl, hB, HF⟩ := HI
      simp [Region.binds] at hdep
      have E4 : zf 4 = .string (A ++ M) := HF.out 4 (by simp [hdep])
      have E9 : zf 9 = .string C := HF.out 9 (by simp [hdep])
      simp only [E4, E9, Act.put, List.toList_toArray, List.take_succ_cons, List.take_zero, List.drop_succ_cons, List.drop_zero, List.cons_append, List.nil_append, List.setIfInBounds_toArray, List.set_cons_zero, List.set_cons_succ]
      go_simp
      exact hKK _ _ ⟨fun zz => cond (Nat.beq zz 10) (.string ((A ++ M) ++ C)) (cond (Nat.beq zz 9) (.string C) (cond (Nat.beq zz 4) (.string (A ++ M)) (zf zz))), rfl, hB, Lib.hid (upd_fact (i := 10) (v := .string ((A ++ M) ++ C)) (cond_fact (j := 9) (v := .string C) (cond_fact (j := 4) (v := .string (A ++ M)) HF.out rfl) rfl) rfl)⟩
    · intro D aa wx HI hD hdep KK hKK
      obtain ⟨zf, rfl, hB, HF⟩ := HI
      simp [Region.binds] at hdep
      have E10 : zf 10 = .string ((A ++ M) ++ C) := HF.out 10 (by simp [hdep])
      simp only [E10, Act.put, List.toList_toArray, List.take_succ_cons, List.take_zero, List.drop_succ_cons, List.drop_zero, List.cons_append, List.nil_append, List.setIfInBounds_toArray, List.set_cons_zero, List.set_cons_succ]
      go_simp
      exact hKK _ _ ⟨fun zz => cond (Nat.beq zz 11) (.string ((A ++ M) ++ C)) (cond (Nat.beq zz 10) (.string ((A ++ M) ++ C)) (zf zz)), rfl, hB, Lib.hid (upd_fact (i := 11) (v := .string ((A ++ M) ++ C)) (cond_fact (j := 10) (v := .string ((A ++ M) ++ C)) HF.out rfl) rfl)⟩
    · intro D aa wx HI hD hdep KK hKK
      obtain ⟨zf, rfl, hB, HF⟩ := HI
      simp only [Act.put, List.toList_toArray, List.take_succ_cons, List.take_zero, List.drop_succ_cons, List.drop_zero, List.cons_append, List.nil_append, List.setIfInBounds_toArray, List.set_cons_zero, List.set_cons_succ]
      go_simp
      exact hKK _ _ ⟨fun zz => cond (Nat.beq zz 12) (.int .i64 0) (zf zz), rfl, hB, Lib.hid (upd_fact (i := 12) (v := .int .i64 0) HF.out rfl)⟩
  intro D aa w7 HI hD
  obtain ⟨zf, rfl, hB, HF⟩ := HI
  have e8 : zf 11 = .string (A ++ M ++ C) := HF.out 11 (hD 11 (by simp))
  have e9 : zf 12 = .int .i64 0 := HF.out 12 (hD 12 (by simp))
  simp only [e8, e9, Act.put, List.toList_toArray, List.take_succ_cons, List.take_zero, List.drop_succ_cons, List.drop_zero, List.cons_append, List.nil_append]
  clear HF hD
  go_wp2_with fail
  go_ret2
  exact ⟨rfl, below_to BB hB⟩
theorem rputVersion_true (i n : Nat) (f z : Int) (hn : (n : Int) = 0) (hz : z = 0) (A M C : ByteArray) (hM : M = ⟨#[1]⟩) (hM1 : M.size ≤ 1) (hA : A.size ≤ 8) (hC : C.size ≤ 100)
    (H1 : Hid (∀ w, Calls Try.prog 72 #[.agg #[.int .i64 f, .int .i64 z]] w fun e w' => e = .returned (.bool true) ∧ Below w.heap.size w w'))
    (H2 : Hid (∀ w, Calls Try.prog 52 #[.int .i64 8, .int .u64 (i : Int)] w fun e w' => e = .returned (.string A) ∧ Below w.heap.size w w'))
    (H3 : Hid (∀ w, Calls Try.prog 73 #[.int .u32 (n : Int), .agg #[.int .i64 f, .int .i64 z]] w fun e w' => e = .returned (.string C) ∧ Below w.heap.size w w'))
    (w : World) : Calls Try.prog 33 #[.agg #[.int .u64 (i : Int), .bool true, .int .u32 (n : Int), .int .i64 f, .int .i64 z]] w fun e w' => e = .returned (.tuple #[.string (A ++ M ++ C), .int .i64 0]) ∧ Below w.heap.size w w' := by
  have K0 := Blk.new w [.int .u64 (i : Int), .bool true, .int .u32 (n : Int), .int .i64 f, .int .i64 z] 56
  have BB0 := below_box w (.cells #[.int .u64 (i : Int), .bool true, .int .u32 (n : Int), .int .i64 f, .int .i64 z] 56)
  have hnb : ((n : Int) != 0) = false := by simp [hn]
  have hzb : (z != 0) = false := by simp [hz]
  clear hn hz
  have jq0 : ¬ 9223372036854775807 < A.size + M.size := by omega
  have jz0 : ¬ (9223372036854775807 : Int) < (A.size : Int) + (M.size : Int) := by omega
  have jq1 : ¬ 9223372036854775807 < A.size + M.size + C.size := by omega
  have jz1 : ¬ (9223372036854775807 : Int) < (A.size : Int) + (M.size : Int) + (C.size : Int) := by omega
  go_enter Try.func33, Try.ntmps33
  go_wp2_with fail
  refine (H1.out _).mono ?_
  rintro e w2 ⟨rfl, hb⟩
  have S := K0.below hb
  have BB := below_to BB0 hb
  clear hb K0 BB0
  have x0 := S.cell 0 _ rfl
  have x1 := S.cell 1 _ rfl
  have x2 := S.cell 2 _ rfl
  have x3 := S.cell 3 _ rfl
  have x4 := S.cell 4 _ rfl
  go_upto_region 6 with (fail)
  clear x0 x1 x2 x3 x4
  replace S := Lib.hid S
  rw [← hM]
  clear hM
  refine wp_region_inv0 (InvRV w2 w.heap.size i true n f z A M C) (by kernel_rfl) (by decide) ?_ ?_ ?_
  · exact ⟨fun zz => cond (Nat.beq zz 12) (.int .i64 0) (cond (Nat.beq zz 11) (.string ⟨#[]⟩) (undef)), rfl, (Below.refl _ _).drew, Lib.hid (fun i h => by cases h)⟩
  · refine AllI.cons ?_ (AllI.cons ?_ (AllI.cons ?_ (AllI.cons ?_ (AllI.cons ?_ (AllI.cons ?_ (AllI.cons ?_ (AllI.cons ?_ (AllI.cons ?_ (AllI.cons ?_ (AllI.cons ?_ (AllI.cons ?_ (AllI.cons ?_ AllI.nil))))))))))))
    · intro D aa wx HI hD hdep KK hKK
      obtain ⟨zf, rfl, hB, HF⟩ := HI
      simp only [Act.put, List.toList_toArray, List.take_succ_cons, List.take_zero, List.drop_succ_cons, List.drop_zero, List.cons_append, List.nil_append, List.setIfInBounds_toArray, List.set_cons_zero, List.set_cons_succ]
      go_simp
      exact hKK _ _ ⟨fun zz => cond (Nat.beq zz 0) (.pointer (some ⟨w.heap.size, 0, none⟩)) (zf zz), rfl, hB, Lib.hid (upd_fact (i := 0) (v := .pointer (some ⟨w.heap.size, 0, none⟩)) HF.out rfl)⟩
    · intro D aa wx HI hD hdep KK hKK
      obtain ⟨zf, rfl, hB, HF⟩ := HI
      simp [Region.binds] at hdep
      have E0 : zf 0 = .pointer (some ⟨w.heap.size, 0, none⟩) := HF.out 0 (by simp [hdep])
      have c0 := (S.out.below hB).cell 0 _ rfl
      have c1 := (S.out.below hB).cell 1 _ rfl
      have c2 := (S.out.below hB).cell 2 _ rfl
      have c3 := (S.out.below hB).cell 3 _ rfl
      have c4 := (S.out.below hB).cell 4 _ rfl
      simp only [E0, Act.put, List.toList_toArray, List.take_succ_cons, List.take_zero, List.drop_succ_cons, List.drop_zero, List.cons_append, List.nil_append, List.setIfInBounds_toArray, List.set_cons_zero, List.set_cons_succ]
      go_simp
      exact hKK _ _ ⟨fun zz => cond (Nat.beq zz 1) (.int .u64 (i : Int)) (cond (Nat.beq zz 0) (.pointer (some ⟨w.heap.size, 0, none⟩)) (zf zz)), rfl, hB, Lib.hid (upd_fact (i := 1) (v := .int .u64 (i : Int)) (cond_fact (j := 0) (v := .pointer (some ⟨w.heap.size, 0, none⟩)) HF.out rfl) rfl)⟩
    · intro D aa wx HI hD hdep KK hKK
      obtain ⟨zf, rfl, hB, HF⟩ := HI
      simp [Region.binds] at hdep
      have E1 : zf 1 = .int .u64 (i : Int) := HF.out 1 (by simp [hdep])
      simp only [E1, Act.put, List.toList_toArray, List.take_succ_cons, List.take_zero, List.drop_succ_cons, List.drop_zero, List.cons_append, List.nil_append, List.setIfInBounds_toArray, List.set_cons_zero, List.set_cons_succ]
      go_simp
      refine (H2.out _).mono ?_
      rintro e w5 ⟨rfl, hb⟩
      exact hKK _ _ ⟨fun zz => cond (Nat.beq zz 2) (.string A) (cond (Nat.beq zz 1) (.int .u64 (i : Int)) (zf zz)), rfl, below_to hB hb, Lib.hid (upd_fact (i := 2) (v := .string A) (cond_fact (j := 1) (v := .int .u64 (i : Int)) HF.out rfl) rfl)⟩
    · intro D aa wx HI hD hdep KK hKK
      obtain ⟨zf, rfl, hB, HF⟩ := HI
      simp only [Act.put, List.toList_toArray, List.take_succ_cons, List.take_zero, List.drop_succ_cons, List.drop_zero, List.cons_append, List.nil_append, List.setIfInBounds_toArray, List.set_cons_zero, List.set_cons_succ]
      go_simp
      exact hKK _ _ ⟨fun zz => cond (Nat.beq zz 3) (.string M) (zf zz), rfl, hB, Lib.hid (upd_fact (i := 3) (v := .string M) HF.out rfl)⟩
    · intro D aa wx HI hD hdep KK hKK
      obtain ⟨zf, rfl, hB, HF⟩ := HI
      simp [Region.binds] at hdep
      have E2 : zf 2 = .string A := HF.out 2 (by simp [hdep])
      have E3 : zf 3 = .string M := HF.out 3 (by simp [hdep])
      simp only [E2, E3, Act.put, List.toList_toArray, List.take_succ_cons, List.take_zero, List.drop_succ_cons, List.drop_zero, List.cons_append, List.nil_append, List.setIfInBounds_toArray, List.set_cons_zero, List.set_cons_succ]
      go_simp
      exact hKK _ _ ⟨fun zz => cond (Nat.beq zz 4) (.string (A ++ M)) (cond (Nat.beq zz 3) (.string M) (cond (Nat.beq zz 2) (.string A) (zf zz))), rfl, hB, Lib.hid (upd_fact (i := 4) (v := .string (A ++ M)) (cond_fact (j := 3) (v := .string M) (cond_fact (j := 2) (v := .string A) HF.out rfl) rfl) rfl)⟩
    · intro D aa wx HI hD hdep KK hKK
      obtain ⟨zf, rfl, hB, HF⟩ := HI
      simp only [Act.put, List.toList_toArray, List.take_succ_cons, List.take_zero, List.drop_succ_cons, List.drop_zero, List.cons_append, List.nil_append, List.setIfInBounds_toArray, List.set_cons_zero, List.set_cons_succ]
      go_simp
      exact hKK _ _ ⟨fun zz => cond (Nat.beq zz 5) (.pointer (some ⟨w.heap.size, 2, none⟩)) (zf zz), rfl, hB, Lib.hid (upd_fact (i := 5) (v := .pointer (some ⟨w.heap.size, 2, none⟩)) HF.out rfl)⟩
    · intro D aa wx HI hD hdep KK hKK
      obtain ⟨zf, rfl, hB, HF⟩ := HI
      simp [Region.binds] at hdep
      have E5 : zf 5 = .pointer (some ⟨w.heap.size, 2, none⟩) := HF.out 5 (by simp [hdep])
      have c0 := (S.out.below hB).cell 0 _ rfl
      have c1 := (S.out.below hB).cell 1 _ rfl
      have c2 := (S.out.below hB).cell 2 _ rfl
      have c3 := (S.out.below hB).cell 3 _ rfl
      have c4 := (S.out.below hB).cell 4 _ rfl
      simp only [E5, Act.put, List.toList_toArray, List.take_succ_cons, List.take_zero, List.drop_succ_cons, List.drop_zero, List.cons_append, List.nil_append, List.setIfInBounds_toArray, List.set_cons_zero, List.set_cons_succ]
      go_simp
      exact hKK _ _ ⟨fun zz => cond (Nat.beq zz 6) (.int .u32 (n : Int)) (cond (Nat.beq zz 5) (.pointer (some ⟨w.heap.size, 2, none⟩)) (zf zz)), rfl, hB, Lib.hid (upd_fact (i := 6) (v := .int .u32 (n : Int)) (cond_fact (j := 5) (v := .pointer (some ⟨w.heap.size, 2, none⟩)) HF.out rfl) rfl)⟩
    · intro D aa wx HI hD hdep KK hKK
      obtain ⟨zf, rfl, hB, HF⟩ := HI
      simp only [Act.put, List.toList_toArray, List.take_succ_cons, List.take_zero, List.drop_succ_cons, List.drop_zero, List.cons_append, List.nil_append, List.setIfInBounds_toArray, List.set_cons_zero, List.set_cons_succ]
      go_simp
      exact hKK _ _ ⟨fun zz => cond (Nat.beq zz 7) (.pointer (some ⟨w.heap.size, 3, none⟩)) (zf zz), rfl, hB, Lib.hid (upd_fact (i := 7) (v := .pointer (some ⟨w.heap.size, 3, none⟩)) HF.out rfl)⟩
    · intro D aa wx HI hD hdep KK hKK
      obtain ⟨zf, rfl, hB, HF⟩ := HI
      simp [Region.binds] at hdep
      have E7 : zf 7 = .pointer (some ⟨w.heap.size, 3, none⟩) := HF.out 7 (by simp [hdep])
      have c0 := (S.out.below hB).cell 0 _ rfl
      have c1 := (S.out.below hB).cell 1 _ rfl
      have c2 := (S.out.below hB).cell 2 _ rfl
      have c3 := (S.out.below hB).cell 3 _ rfl
      have c4 := (S.out.below hB).cell 4 _ rfl
      simp only [E7, Act.put, List.toList_toArray, List.take_succ_cons, List.take_zero, List.drop_succ_cons, List.drop_zero, List.cons_append, List.nil_append, List.setIfInBounds_toArray, List.set_cons_zero, List.set_cons_succ]
      go_simp
      exact hKK _ _ ⟨fun zz => cond (Nat.beq zz 8) (.agg #[.int .i64 f, .int .i64 z]) (cond (Nat.beq zz 7) (.pointer (some ⟨w.heap.size, 3, none⟩)) (zf zz)), rfl, hB, Lib.hid (upd_fact (i := 8) (v := .agg #[.int .i64 f, .int .i64 z]) (cond_fact (j := 7) (v := .pointer (some ⟨w.heap.size, 3, none⟩)) HF.out rfl) rfl)⟩
    · intro D aa wx HI hD hdep KK hKK
      obtain ⟨zf, rfl, hB, HF⟩ := HI
      simp [Region.binds] at hdep
      have E6 : zf 6 = .int .u32 (n : Int) := HF.out 6 (by simp [hdep])
      have E8 : zf 8 = .agg #[.int .i64 f, .int .i64 z] := HF.out 8 (by simp [hdep])
      simp only [E6, E8, Act.put, List.toList_toArray, List.take_succ_cons, List.take_zero, List.drop_succ_cons, List.drop_zero, List.cons_append, List.nil_append, List.setIfInBounds_toArray, List.set_cons_zero, List.set_cons_succ]
      go_simp
      refine (H3.out _).mono ?_
      rintro e w5 ⟨rfl, hb⟩
      exact hKK _ _ ⟨fun zz => cond (Nat.beq zz 9) (.string C) (cond (Nat.beq zz 8) (.agg #[.int .i64 f, .int .i64 z]) (cond (Nat.beq zz 6) (.int .u32 (n : Int)) (zf zz))), rfl, below_to hB hb, Lib.hid (upd_fact (i := 9) (v := .string C) (cond_fact (j := 8) (v := .agg #[.int .i64 f, .int .i64 z]) (cond_fact (j := 6) (v := .int .u32 (n : Int)) HF.out rfl) rfl) rfl)⟩
    · intro D aa wx HI hD hdep KK hKK
      obtain ⟨zf, rfl, hB, HF⟩ := HI
      simp [Region.binds] at hdep
      have E4 : zf 4 = .string (A ++ M) := HF.out 4 (by simp [hdep])
      have E9 : zf 9 = .string C := HF.out 9 (by simp [hdep])
      simp only [E4, E9, Act.put, List.toList_toArray, List.take_succ_cons, List.take_zero, List.drop_succ_cons, List.drop_zero, List.cons_append, List.nil_append, List.setIfInBounds_toArray, List.set_cons_zero, List.set_cons_succ]
      go_simp
      exact hKK _ _ ⟨fun zz => cond (Nat.beq zz 10) (.string ((A ++ M) ++ C)) (cond (Nat.beq zz 9) (.string C) (cond (Nat.beq zz 4) (.string (A ++ M)) (zf zz))), rfl, hB, Lib.hid (upd_fact (i := 10) (v := .string ((A ++ M) ++ C)) (cond_fact (j := 9) (v := .string C) (cond_fact (j := 4) (v := .string (A ++ M)) HF.out rfl) rfl) rfl)⟩
    · intro D aa wx HI hD hdep KK hKK
      obtain ⟨zf, rfl, hB, HF⟩ := HI
      simp [Region.binds] at hdep
      have E10 : zf 10 = .string ((A ++ M) ++ C) := HF.out 10 (by simp [hdep])
      simp only [E10, Act.put, List.toList_toArray, List.take_succ_cons, List.take_zero, List.drop_succ_cons, List.drop_zero, List.cons_append, List.nil_append, List.setIfInBounds_toArray, List.set_cons_zero, List.set_cons_succ]
      go_simp
      exact hKK _ _ ⟨fun zz => cond (Nat.beq zz 11) (.string ((A ++ M) ++ C)) (cond (Nat.beq zz 10) (.string ((A ++ M) ++ C)) (zf zz)), rfl, hB, Lib.hid (upd_fact (i := 11) (v := .string ((A ++ M) ++ C)) (cond_fact (j := 10) (v := .string ((A ++ M) ++ C)) HF.out rfl) rfl)⟩
    · intro D aa wx HI hD hdep KK hKK
      obtain ⟨zf, rfl, hB, HF⟩ := HI
      simp only [Act.put, List.toList_toArray, List.take_succ_cons, List.take_zero, List.drop_succ_cons, List.drop_zero, List.cons_append, List.nil_append, List.setIfInBounds_toArray, List.set_cons_zero, List.set_cons_succ]
      go_simp
      exact hKK _ _ ⟨fun zz => cond (Nat.beq zz 12) (.int .i64 0) (zf zz), rfl, hB, Lib.hid (upd_fact (i := 12) (v := .int .i64 0) HF.out rfl)⟩
  intro D aa w7 HI hD
  obtain ⟨zf, rfl, hB, HF⟩ := HI
  have e8 : zf 11 = .string (A ++ M ++ C) := HF.out 11 (hD 11 (by simp))
  have e9 : zf 12 = .int .i64 0 := HF.out 12 (hD 12 (by simp))
  simp only [e8, e9, Act.put, List.toList_toArray, List.take_succ_cons, List.take_zero, List.drop_succ_cons, List.drop_zero, List.cons_append, List.nil_append]
  clear HF hD
  go_wp2_with fail
  go_ret2
  exact ⟨rfl, below_to BB hB⟩
theorem rputVersion_any (i : Nat) (hi : i < 18446744073709551616) (q : Bool) (n : Nat) (hn : n < 4294967296) (f z : Int) (w : World) : Calls Try.prog 33 #[.agg #[.int .u64 (i : Int), .bool q, .int .u32 (n : Int), .int .i64 f, .int .i64 z]] w fun e w' => e = .returned (.tuple #[.string (verS i q n f z), .int .i64 (argE (okVer q n f z))]) ∧ Below w.heap.size w w' := by
  have H1 := Lib.hid (rBlob_any f z)
  have H2 := Lib.hid (fun w => rnum_ok 8 i w (by omega) (by omega) hi)
  have H3 := Lib.hid (rbody_any n hn f z)
  have hA : (bs (numL 8 i)).size ≤ 8 := by rw [bs_size, numL_length]; omega
  have hC : (joinB [bs (numL 4 n), pairS 2 f z]).size ≤ 100 := by rw [joinB_size]; simp [pairS_size, bs_size, numL_length]
  have hM : ∀ k : Nat, k < 2 → (⟨#[UInt8.ofNat k]⟩ : ByteArray) = bs (numL 1 k) := fun k hk => by
    have : k = 0 ∨ k = 1 := by omega
    rcases this with rfl | rfl <;> decide
  have hj : ∀ k : Nat, bs (numL 8 i) ++ bs (numL 1 k) ++ joinB [bs (numL 4 n), pairS 2 f z] = joinB [bs (numL 8 i), bs (numL 1 k), bs (numL 4 n), pairS 2 f z] := fun k => by
    rw [joinB_list, bsA, bsA, joinB_list]
    simp [pairS_list, bs_toList]
  unfold verS
  cases hb : okBl f z with
  | false =>
    have hk : okVer q n f z = false := by
      cases q with
      | false => exact hb
      | true =>
        unfold okVer
        rw [Bool.and_eq_false_iff]
        right
        rw [decide_eq_false_iff_not]
        rintro ⟨rfl, rfl⟩
        unfold okBl at hb
        simp at hb
    rw [hk]
    rw [hb] at H1
    exact rputVersion_bad i q n f z H1 w
  | true =>
    rw [hb] at H1
    cases q with
    | false =>
      have hk : okVer false n f z = true := hb
      rw [hk]
      have := rputVersion_false i n f z _ _ _ (hM 0 (by omega)).symm (by rw [bs_size, numL_length]; omega) hA hC H1 H2 H3 w
      rw [hj] at this
      exact this
    | true =>
      by_cases h : n = 0 ∧ z = 0
      · have hk : okVer true n f z = true := by
          unfold okVer
          unfold okBl at hb
          simp only [Bool.or_eq_true, decide_eq_true_eq] at hb
          rw [Bool.and_eq_true, decide_eq_true_eq, decide_eq_true_eq]
          omega
        rw [hk]
        have := rputVersion_true i n f z (by omega) (by omega) _ _ _ (hM 1 (by omega)).symm (by rw [bs_size, numL_length]; omega) hA hC H1 H2 H3 w
        rw [hj] at this
        exact this
      · have hk : okVer true n f z = false := by
          unfold okVer
          rw [Bool.and_eq_false_iff, decide_eq_false_iff_not, decide_eq_false_iff_not]
          omega
        rw [hk]
        exact rputVersion_marked i n f z (by omega) H1 w
end Go.Proofs.Yteekjndhehnpaaa
