/- Contracts: PutBucket. -/
import Derived.Test.YteekjndhehnpaaaSH
import Derived.Deep.Cut
namespace Go.Proofs.Yteekjndhehnpaaa
open Go.RowKit
set_option maxRecDepth 100000
set_option linter.unusedVariables false
set_option linter.unusedSimpArgs false
set_option maxHeartbeats 8000000
def InvPK_v (g : Nat) (m : Int) (a : Int) (b : Int) (c : Int) (d : Int) (n : Nat) (um : Nat) (V : Bool) (A : ByteArray) (L : ByteArray) (C : ByteArray) (M : ByteArray) (zi : Nat) : Value := ([.bool V, .pointer (some ⟨g, 0, none⟩), .int .i64 m, .int .u64 (um : Int), .string A, .pointer (some ⟨g, 1, none⟩), .agg #[.int .i64 a, .int .i64 b], .string L, .pointer (some ⟨g, 3, none⟩), .agg #[.int .i64 c, .int .i64 d], .string C, .pointer (some ⟨g, 5, none⟩), .int .u64 (n : Int), .string M, undef, .tuple #[.string (encS V [A, L, C, M]), .int .i64 (argE V)], .string (encS V [A, L, C, M]), .int .i64 (argE V), .string (encS V [A, L, C, M]), .int .i64 (argE V)] : List Value).getD zi undef
def InvPK (W1 : World) (g : Nat) (m : Int) (a : Int) (b : Int) (c : Int) (d : Int) (n : Nat) (um : Nat) (V : Bool) (A : ByteArray) (L : ByteArray) (C : ByteArray) (M : ByteArray) (a0 : Act) (D : Nat → Bool) (act : Act) (w : World) : Prop :=
  ∃ zf : Nat → Value, act = ⟨(a0.tmps.toList.take 2 ++ zf 18 :: zf 19 :: ((a0.tmps.toList.drop 4).take 16 ++ zf 0 :: zf 1 :: zf 2 :: zf 3 :: zf 4 :: zf 5 :: zf 6 :: zf 7 :: zf 8 :: zf 9 :: zf 10 :: zf 11 :: zf 12 :: zf 13 :: zf 14 :: zf 15 :: zf 16 :: zf 17 :: a0.tmps.toList.drop 38)).toArray, []⟩ ∧ Below W1.heap.size W1 w ∧ Hid (∀ zi, Nat.beq zi 14 = false → D zi = true → zf zi = InvPK_v g m a b c d n um V A L C M zi) ∧ Hid (D 14 = true → RowP [A, L, C, M] w (zf 14))
theorem putBucket1 (m a b c d : Int) (n um : Nat) (hm : IntKind.u64.wrap m = (um : Int)) (h1 : 0 ≤ m) (h2 : m < 3) (V : Bool) (A L C M : ByteArray) (hl : (joinB [A, L, C, M]).size ≤ 100000)
    (H1 : Hid (∀ w, Calls Try.prog 63 #[.agg #[.int .i64 a, .int .i64 b], .agg #[.int .i64 c, .int .i64 d]] w fun e w' => e = .returned (.bool V) ∧ Below w.heap.size w w'))
    (H2 : Hid (∀ w, Calls Try.prog 50 #[.int .i64 1, .int .u64 (um : Int)] w fun e w' => e = .returned (.string A) ∧ Below w.heap.size w w'))
    (H3 : Hid (∀ w, Calls Try.prog 64 #[.agg #[.int .i64 a, .int .i64 b]] w fun e w' => e = .returned (.string L) ∧ Below w.heap.size w w'))
    (H4 : Hid (∀ w, Calls Try.prog 65 #[.agg #[.int .i64 c, .int .i64 d]] w fun e w' => e = .returned (.string C) ∧ Below w.heap.size w w'))
    (H5 : Hid (∀ w, Calls Try.prog 50 #[.int .i64 8, .int .u64 (n : Int)] w fun e w' => e = .returned (.string M) ∧ Below w.heap.size w w'))
    (w : World) : Calls Try.prog 30 #[.agg #[.int .i64 m, .int .i64 a, .int .i64 b, .int .i64 c, .int .i64 d, .int .u64 (n : Int)]] w fun e w' => e = strErr (encS V [A, L, C, M]) (argE V) ∧ Below w.heap.size w w' := by
  have S := Cel6.new w (.int .i64 m) (.int .i64 a) (.int .i64 b) (.int .i64 c) (.int .i64 d) (.int .u64 (n : Int)) 51
  have BB := below_box w (.cells #[.int .i64 m, .int .i64 a, .int .i64 b, .int .i64 c, .int .i64 d, .int .u64 (n : Int)] 51)
  go_enter Try.func30, Try.ntmps30
  go_wp2_with fail
  refine (H1.out _).mono ?_
  rintro e w1 ⟨rfl, hb⟩
  replace S := S.below hb
  replace BB := below_to BB hb
  clear hb
  go_upto_region 2 with (fail)
  replace S := Lib.hid S
  refine wp_region_inv0 (InvPK w1 w.heap.size m a b c d n um V A L C M) (by kernel_rfl) (by decide) ?_ ?_ ?_
  · exact ⟨fun zz => cond (Nat.beq zz 19) (.int .i64 0) (cond (Nat.beq zz 18) (.string ⟨#[]⟩) (undef)), rfl, (Below.refl _ _).drew, Lib.hid (fun i _ h => by cases h), Lib.hid (fun h => by cases h)⟩
  · refine AllI.cons ?_ (AllI.cons ?_ (AllI.cons ?_ (AllI.cons ?_ (AllI.cons ?_ (AllI.cons ?_ (AllI.cons ?_ (AllI.cons ?_ (AllI.cons ?_ (AllI.cons ?_ (AllI.cons ?_ (AllI.cons ?_ (AllI.cons ?_ (AllI.cons ?_ (AllI.cons ?_ (AllI.cons ?_ (AllI.cons ?_ (AllI.cons ?_ (AllI.cons ?_ (AllI.cons ?_ AllI.nil)))))))))))))))))))
    · intro D aa wx HI hD hdep KK hKK
      obtain ⟨zf, rfl, hB, HF, HX⟩ := HI
      simp only [Act.put, List.toList_toArray, List.take_succ_cons, List.take_zero, List.drop_succ_cons, List.drop_zero, List.cons_append, List.nil_append, List.setIfInBounds_toArray, List.set_cons_zero, List.set_cons_succ]
      go_simp
      exact hKK _ _ ⟨fun zz => cond (Nat.beq zz 0) (.bool V) (zf zz), rfl, hB, Lib.hid (upd_fact2 (i := 0) (v := .bool V) HF.out rfl), Lib.hid (fun h => (HX.out h))⟩
    · intro D aa wx HI hD hdep KK hKK
      obtain ⟨zf, rfl, hB, HF, HX⟩ := HI
      simp only [Act.put, List.toList_toArray, List.take_succ_cons, List.take_zero, List.drop_succ_cons, List.drop_zero, List.cons_append, List.nil_append, List.setIfInBounds_toArray, List.set_cons_zero, List.set_cons_succ]
      go_simp
      exact hKK _ _ ⟨fun zz => cond (Nat.beq zz 1) (.pointer (some ⟨w.heap.size, 0, none⟩)) (zf zz), rfl, hB, Lib.hid (upd_fact2 (i := 1) (v := .pointer (some ⟨w.heap.size, 0, none⟩)) HF.out rfl), Lib.hid (fun h => (HX.out h))⟩
    · intro D aa wx HI hD hdep KK hKK
      obtain ⟨zf, rfl, hB, HF, HX⟩ := HI
      simp [Region.binds] at hdep
      have E1 : zf 1 = .pointer (some ⟨w.heap.size, 0, none⟩) := HF.out 1 rfl (by simp [hdep])
      obtain ⟨c0, c1, c2, c3, c4, c5⟩ := S.out.below hB
      simp only [E1, Act.put, List.toList_toArray, List.take_succ_cons, List.take_zero, List.drop_succ_cons, List.drop_zero, List.cons_append, List.nil_append, List.setIfInBounds_toArray, List.set_cons_zero, List.set_cons_succ]
      go_simp
      exact hKK _ _ ⟨fun zz => cond (Nat.beq zz 2) (.int .i64 m) (cond (Nat.beq zz 1) (.pointer (some ⟨w.heap.size, 0, none⟩)) (zf zz)), rfl, hB, Lib.hid (upd_fact2 (i := 2) (v := .int .i64 m) (cond_fact2 (j := 1) (v := .pointer (some ⟨w.heap.size, 0, none⟩)) HF.out rfl) rfl), Lib.hid (fun h => (HX.out h))⟩
    · intro D aa wx HI hD hdep KK hKK
      obtain ⟨zf, rfl, hB, HF, HX⟩ := HI
      simp [Region.binds] at hdep
      have E2 : zf 2 = .int .i64 m := HF.out 2 rfl (by simp [hdep])
      simp only [E2, Act.put, List.toList_toArray, List.take_succ_cons, List.take_zero, List.drop_succ_cons, List.drop_zero, List.cons_append, List.nil_append, List.setIfInBounds_toArray, List.set_cons_zero, List.set_cons_succ]
      go_simp
      exact hKK _ _ ⟨fun zz => cond (Nat.beq zz 3) (.int .u64 (um : Int)) (cond (Nat.beq zz 2) (.int .i64 m) (zf zz)), rfl, hB, Lib.hid (upd_fact2 (i := 3) (v := .int .u64 (um : Int)) (cond_fact2 (j := 2) (v := .int .i64 m) HF.out rfl) rfl), Lib.hid (fun h => (HX.out h))⟩
    · intro D aa wx HI hD hdep KK hKK
      obtain ⟨zf, rfl, hB, HF, HX⟩ := HI
      simp [Region.binds] at hdep
      have E3 : zf 3 = .int .u64 (um : Int) := HF.out 3 rfl (by simp [hdep])
      simp only [E3, Act.put, List.toList_toArray, List.take_succ_cons, List.take_zero, List.drop_succ_cons, List.drop_zero, List.cons_append, List.nil_append, List.setIfInBounds_toArray, List.set_cons_zero, List.set_cons_succ]
      go_simp
      refine (H2.out _).mono ?_
      rintro e w5 ⟨rfl, hb⟩
      exact hKK _ _ ⟨fun zz => cond (Nat.beq zz 4) (.string A) (cond (Nat.beq zz 3) (.int .u64 (um : Int)) (zf zz)), rfl, below_to hB hb, Lib.hid (upd_fact2 (i := 4) (v := .string A) (cond_fact2 (j := 3) (v := .int .u64 (um : Int)) HF.out rfl) rfl), Lib.hid (fun h => (HX.out h).below hb)⟩
    · intro D aa wx HI hD hdep KK hKK
      obtain ⟨zf, rfl, hB, HF, HX⟩ := HI
      simp only [Act.put, List.toList_toArray, List.take_succ_cons, List.take_zero, List.drop_succ_cons, List.drop_zero, List.cons_append, List.nil_append, List.setIfInBounds_toArray, List.set_cons_zero, List.set_cons_succ]
      go_simp
      exact hKK _ _ ⟨fun zz => cond (Nat.beq zz 5) (.pointer (some ⟨w.heap.size, 1, none⟩)) (zf zz), rfl, hB, Lib.hid (upd_fact2 (i := 5) (v := .pointer (some ⟨w.heap.size, 1, none⟩)) HF.out rfl), Lib.hid (fun h => (HX.out h))⟩
    · intro D aa wx HI hD hdep KK hKK
      obtain ⟨zf, rfl, hB, HF, HX⟩ := HI
      simp [Region.binds] at hdep
      have E5 : zf 5 = .pointer (some ⟨w.heap.size, 1, none⟩) := HF.out 5 rfl (by simp [hdep])
      obtain ⟨c0, c1, c2, c3, c4, c5⟩ := S.out.below hB
      simp only [E5, Act.put, List.toList_toArray, List.take_succ_cons, List.take_zero, List.drop_succ_cons, List.drop_zero, List.cons_append, List.nil_append, List.setIfInBounds_toArray, List.set_cons_zero, List.set_cons_succ]
      go_simp
      exact hKK _ _ ⟨fun zz => cond (Nat.beq zz 6) (.agg #[.int .i64 a, .int .i64 b]) (cond (Nat.beq zz 5) (.pointer (some ⟨w.heap.size, 1, none⟩)) (zf zz)), rfl, hB, Lib.hid (upd_fact2 (i := 6) (v := .agg #[.int .i64 a, .int .i64 b]) (cond_fact2 (j := 5) (v := .pointer (some ⟨w.heap.size, 1, none⟩)) HF.out rfl) rfl), Lib.hid (fun h => (HX.out h))⟩
    · intro D aa wx HI hD hdep KK hKK
      obtain ⟨zf, rfl, hB, HF, HX⟩ := HI
      simp [Region.binds] at hdep
      have E6 : zf 6 = .agg #[.int .i64 a, .int .i64 b] := HF.out 6 rfl (by simp [hdep])
      simp only [E6, Act.put, List.toList_toArray, List.take_succ_cons, List.take_zero, List.drop_succ_cons, List.drop_zero, List.cons_append, List.nil_append, List.setIfInBounds_toArray, List.set_cons_zero, List.set_cons_succ]
      go_simp
      refine (H3.out _).mono ?_
      rintro e w5 ⟨rfl, hb⟩
      exact hKK _ _ ⟨fun zz => cond (Nat.beq zz 7) (.string L) (cond (Nat.beq zz 6) (.agg #[.int .i64 a, .int .i64 b]) (zf zz)), rfl, below_to hB hb, Lib.hid (upd_fact2 (i := 7) (v := .string L) (cond_fact2 (j := 6) (v := .agg #[.int .i64 a, .int .i64 b]) HF.out rfl) rfl), Lib.hid (fun h => (HX.out h).below hb)⟩
    · intro D aa wx HI hD hdep KK hKK
      obtain ⟨zf, rfl, hB, HF, HX⟩ := HI
      simp only [Act.put, List.toList_toArray, List.take_succ_cons, List.take_zero, List.drop_succ_cons, List.drop_zero, List.cons_append, List.nil_append, List.setIfInBounds_toArray, List.set_cons_zero, List.set_cons_succ]
      go_simp
      exact hKK _ _ ⟨fun zz => cond (Nat.beq zz 8) (.pointer (some ⟨w.heap.size, 3, none⟩)) (zf zz), rfl, hB, Lib.hid (upd_fact2 (i := 8) (v := .pointer (some ⟨w.heap.size, 3, none⟩)) HF.out rfl), Lib.hid (fun h => (HX.out h))⟩
    · intro D aa wx HI hD hdep KK hKK
      obtain ⟨zf, rfl, hB, HF, HX⟩ := HI
      simp [Region.binds] at hdep
      have E8 : zf 8 = .pointer (some ⟨w.heap.size, 3, none⟩) := HF.out 8 rfl (by simp [hdep])
      obtain ⟨c0, c1, c2, c3, c4, c5⟩ := S.out.below hB
      simp only [E8, Act.put, List.toList_toArray, List.take_succ_cons, List.take_zero, List.drop_succ_cons, List.drop_zero, List.cons_append, List.nil_append, List.setIfInBounds_toArray, List.set_cons_zero, List.set_cons_succ]
      go_simp
      exact hKK _ _ ⟨fun zz => cond (Nat.beq zz 9) (.agg #[.int .i64 c, .int .i64 d]) (cond (Nat.beq zz 8) (.pointer (some ⟨w.heap.size, 3, none⟩)) (zf zz)), rfl, hB, Lib.hid (upd_fact2 (i := 9) (v := .agg #[.int .i64 c, .int .i64 d]) (cond_fact2 (j := 8) (v := .pointer (some ⟨w.heap.size, 3, none⟩)) HF.out rfl) rfl), Lib.hid (fun h => (HX.out h))⟩
    · intro D aa wx HI hD hdep KK hKK
      obtain ⟨zf, rfl, hB, HF, HX⟩ := HI
      simp [Region.binds] at hdep
      have E9 : zf 9 = .agg #[.int .i64 c, .int .i64 d] := HF.out 9 rfl (by simp [hdep])
      simp only [E9, Act.put, List.toList_toArray, List.take_succ_cons, List.take_zero, List.drop_succ_cons, List.drop_zero, List.cons_append, List.nil_append, List.setIfInBounds_toArray, List.set_cons_zero, List.set_cons_succ]
      go_simp
      refine (H4.out _).mono ?_
      rintro e w5 ⟨rfl, hb⟩
      exact hKK _ _ ⟨fun zz => cond (Nat.beq zz 10) (.string C) (cond (Nat.beq zz 9) (.agg #[.int .i64 c, .int .i64 d]) (zf zz)), rfl, below_to hB hb, Lib.hid (upd_fact2 (i := 10) (v := .string C) (cond_fact2 (j := 9) (v := .agg #[.int .i64 c, .int .i64 d]) HF.out rfl) rfl), Lib.hid (fun h => (HX.out h).below hb)⟩
    · intro D aa wx HI hD hdep KK hKK
      obtain ⟨zf, rfl, hB, HF, HX⟩ := HI
      simp only [Act.put, List.toList_toArray, List.take_succ_cons, List.take_zero, List.drop_succ_cons, List.drop_zero, List.cons_append, List.nil_append, List.setIfInBounds_toArray, List.set_cons_zero, List.set_cons_succ]
      go_simp
      exact hKK _ _ ⟨fun zz => cond (Nat.beq zz 11) (.pointer (some ⟨w.heap.size, 5, none⟩)) (zf zz), rfl, hB, Lib.hid (upd_fact2 (i := 11) (v := .pointer (some ⟨w.heap.size, 5, none⟩)) HF.out rfl), Lib.hid (fun h => (HX.out h))⟩
    · intro D aa wx HI hD hdep KK hKK
      obtain ⟨zf, rfl, hB, HF, HX⟩ := HI
      simp [Region.binds] at hdep
      have E11 : zf 11 = .pointer (some ⟨w.heap.size, 5, none⟩) := HF.out 11 rfl (by simp [hdep])
      obtain ⟨c0, c1, c2, c3, c4, c5⟩ := S.out.below hB
      simp only [E11, Act.put, List.toList_toArray, List.take_succ_cons, List.take_zero, List.drop_succ_cons, List.drop_zero, List.cons_append, List.nil_append, List.setIfInBounds_toArray, List.set_cons_zero, List.set_cons_succ]
      go_simp
      exact hKK _ _ ⟨fun zz => cond (Nat.beq zz 12) (.int .u64 (n : Int)) (cond (Nat.beq zz 11) (.pointer (some ⟨w.heap.size, 5, none⟩)) (zf zz)), rfl, hB, Lib.hid (upd_fact2 (i := 12) (v := .int .u64 (n : Int)) (cond_fact2 (j := 11) (v := .pointer (some ⟨w.heap.size, 5, none⟩)) HF.out rfl) rfl), Lib.hid (fun h => (HX.out h))⟩
    · intro D aa wx HI hD hdep KK hKK
      obtain ⟨zf, rfl, hB, HF, HX⟩ := HI
      simp [Region.binds] at hdep
      have E12 : zf 12 = .int .u64 (n : Int) := HF.out 12 rfl (by simp [hdep])
      simp only [E12, Act.put, List.toList_toArray, List.take_succ_cons, List.take_zero, List.drop_succ_cons, List.drop_zero, List.cons_append, List.nil_append, List.setIfInBounds_toArray, List.set_cons_zero, List.set_cons_succ]
      go_simp
      refine (H5.out _).mono ?_
      rintro e w5 ⟨rfl, hb⟩
      exact hKK _ _ ⟨fun zz => cond (Nat.beq zz 13) (.string M) (cond (Nat.beq zz 12) (.int .u64 (n : Int)) (zf zz)), rfl, below_to hB hb, Lib.hid (upd_fact2 (i := 13) (v := .string M) (cond_fact2 (j := 12) (v := .int .u64 (n : Int)) HF.out rfl) rfl), Lib.hid (fun h => (HX.out h).below hb)⟩
    · intro D aa wx HI hD hdep KK hKK
      obtain ⟨zf, rfl, hB, HF, HX⟩ := HI
      simp [Region.binds] at hdep
      have E4 : zf 4 = .string A := HF.out 4 rfl (by simp [hdep])
      have E7 : zf 7 = .string L := HF.out 7 rfl (by simp [hdep])
      have E10 : zf 10 = .string C := HF.out 10 rfl (by simp [hdep])
      have E13 : zf 13 = .string M := HF.out 13 rfl (by simp [hdep])
      simp only [E4, E7, E10, E13, Act.put, List.toList_toArray, List.take_succ_cons, List.take_zero, List.drop_succ_cons, List.drop_zero, List.cons_append, List.nil_append, List.setIfInBounds_toArray, List.set_cons_zero, List.set_cons_succ]
      go_simp
      have hb := below_box wx (.cells #[.string A, .string L, .string C, .string M] 9)
      exact hKK _ _ ⟨fun zz => cond (Nat.beq zz 14) (.slice (some ⟨wx.heap.size, 0, none⟩) 4 4) (cond (Nat.beq zz 13) (.string M) (cond (Nat.beq zz 10) (.string C) (cond (Nat.beq zz 7) (.string L) (cond (Nat.beq zz 4) (.string A) (zf zz))))), rfl, below_to hB hb, Lib.hid (upd_row (cond_fact2 (j := 13) (v := .string M) (cond_fact2 (j := 10) (v := .string C) (cond_fact2 (j := 7) (v := .string L) (cond_fact2 (j := 4) (v := .string A) HF.out rfl) rfl) rfl) rfl)), Lib.hid (fun _ => RowP.new wx _ 9)⟩
    · intro D aa wx HI hD hdep KK hKK
      obtain ⟨zf, rfl, hB, HF, HX⟩ := HI
      simp [Region.binds] at hdep
      have E0 : zf 0 = .bool V := HF.out 0 rfl (by simp [hdep])
      obtain ⟨B, E14, HCB⟩ := HX.out (by simp [hdep])
      replace HCB := Lib.hid HCB
      simp only [E0, E14, Act.put, List.toList_toArray, List.take_succ_cons, List.take_zero, List.drop_succ_cons, List.drop_zero, List.cons_append, List.nil_append, List.setIfInBounds_toArray, List.set_cons_zero, List.set_cons_succ]
      go_simp
      refine (encoded_any V [A, L, C, M] B _ HCB.out (by simp) hl).mono ?_
      rintro e w5 ⟨rfl, hb⟩
      exact hKK _ _ ⟨fun zz => cond (Nat.beq zz 15) (.tuple #[.string (encS V [A, L, C, M]), .int .i64 (argE V)]) (cond (Nat.beq zz 14) (.slice (some ⟨B, 0, none⟩) 4 4) (cond (Nat.beq zz 0) (.bool V) (zf zz))), rfl, below_to hB hb, Lib.hid (upd_fact2 (i := 15) (v := .tuple #[.string (encS V [A, L, C, M]), .int .i64 (argE V)]) (cond_row (cond_fact2 (j := 0) (v := .bool V) HF.out rfl)) rfl), Lib.hid (fun _ => (RowP.at HCB.out).below hb)⟩
    · intro D aa wx HI hD hdep KK hKK
      obtain ⟨zf, rfl, hB, HF, HX⟩ := HI
      simp [Region.binds] at hdep
      have E15 : zf 15 = .tuple #[.string (encS V [A, L, C, M]), .int .i64 (argE V)] := HF.out 15 rfl (by simp [hdep])
      simp only [E15, Act.put, List.toList_toArray, List.take_succ_cons, List.take_zero, List.drop_succ_cons, List.drop_zero, List.cons_append, List.nil_append, List.setIfInBounds_toArray, List.set_cons_zero, List.set_cons_succ]
      go_simp
      exact hKK _ _ ⟨fun zz => cond (Nat.beq zz 16) (.string (encS V [A, L, C, M])) (cond (Nat.beq zz 15) (.tuple #[.string (encS V [A, L, C, M]), .int .i64 (argE V)]) (zf zz)), rfl, hB, Lib.hid (upd_fact2 (i := 16) (v := .string (encS V [A, L, C, M])) (cond_fact2 (j := 15) (v := .tuple #[.string (encS V [A, L, C, M]), .int .i64 (argE V)]) HF.out rfl) rfl), Lib.hid (fun h => (HX.out h))⟩
    · intro D aa wx HI hD hdep KK hKK
      obtain ⟨zf, rfl, hB, HF, HX⟩ := HI
      simp [Region.binds] at hdep
      have E15 : zf 15 = .tuple #[.string (encS V [A, L, C, M]), .int .i64 (argE V)] := HF.out 15 rfl (by simp [hdep])
      simp only [E15, Act.put, List.toList_toArray, List.take_succ_cons, List.take_zero, List.drop_succ_cons, List.drop_zero, List.cons_append, List.nil_append, List.setIfInBounds_toArray, List.set_cons_zero, List.set_cons_succ]
      go_simp
      exact hKK _ _ ⟨fun zz => cond (Nat.beq zz 17) (.int .i64 (argE V)) (cond (Nat.beq zz 15) (.tuple #[.string (encS V [A, L, C, M]), .int .i64 (argE V)]) (zf zz)), rfl, hB, Lib.hid (upd_fact2 (i := 17) (v := .int .i64 (argE V)) (cond_fact2 (j := 15) (v := .tuple #[.string (encS V [A, L, C, M]), .int .i64 (argE V)]) HF.out rfl) rfl), Lib.hid (fun h => (HX.out h))⟩
    · intro D aa wx HI hD hdep KK hKK
      obtain ⟨zf, rfl, hB, HF, HX⟩ := HI
      simp [Region.binds] at hdep
      have E16 : zf 16 = .string (encS V [A, L, C, M]) := HF.out 16 rfl (by simp [hdep])
      simp only [E16, Act.put, List.toList_toArray, List.take_succ_cons, List.take_zero, List.drop_succ_cons, List.drop_zero, List.cons_append, List.nil_append, List.setIfInBounds_toArray, List.set_cons_zero, List.set_cons_succ]
      go_simp
      exact hKK _ _ ⟨fun zz => cond (Nat.beq zz 18) (.string (encS V [A, L, C, M])) (cond (Nat.beq zz 16) (.string (encS V [A, L, C, M])) (zf zz)), rfl, hB, Lib.hid (upd_fact2 (i := 18) (v := .string (encS V [A, L, C, M])) (cond_fact2 (j := 16) (v := .string (encS V [A, L, C, M])) HF.out rfl) rfl), Lib.hid (fun h => (HX.out h))⟩
    · intro D aa wx HI hD hdep KK hKK
      obtain ⟨zf, rfl, hB, HF, HX⟩ := HI
      simp [Region.binds] at hdep
      have E17 : zf 17 = .int .i64 (argE V) := HF.out 17 rfl (by simp [hdep])
      simp only [E17, Act.put, List.toList_toArray, List.take_succ_cons, List.take_zero, List.drop_succ_cons, List.drop_zero, List.cons_append, List.nil_append, List.setIfInBounds_toArray, List.set_cons_zero, List.set_cons_succ]
      go_simp
      exact hKK _ _ ⟨fun zz => cond (Nat.beq zz 19) (.int .i64 (argE V)) (cond (Nat.beq zz 17) (.int .i64 (argE V)) (zf zz)), rfl, hB, Lib.hid (upd_fact2 (i := 19) (v := .int .i64 (argE V)) (cond_fact2 (j := 17) (v := .int .i64 (argE V)) HF.out rfl) rfl), Lib.hid (fun h => (HX.out h))⟩
  intro D aa w7 HI hD
  obtain ⟨zf, rfl, hB, HF, HX⟩ := HI
  have e189 : zf 18 = .string (encS V [A, L, C, M]) := HF.out 18 rfl (hD 18 (by simp))
  have e199 : zf 19 = .int .i64 (argE V) := HF.out 19 rfl (hD 19 (by simp))
  simp only [e189, e199, Act.put, List.toList_toArray, List.take_succ_cons, List.take_zero, List.drop_succ_cons, List.drop_zero, List.cons_append, List.nil_append]
  clear HF HX hD
  go_wp2_with fail
  go_ret2
  exact ⟨rfl, below_to BB hB⟩
theorem putBucket2 (m a b c d : Int) (n um : Nat) (hm : IntKind.u64.wrap m = (um : Int)) (h1 : ¬ 0 ≤ m) (V : Bool) (A L C M : ByteArray) (hl : (joinB [A, L, C, M]).size ≤ 100000)
    (H1 : Hid (∀ w, Calls Try.prog 63 #[.agg #[.int .i64 a, .int .i64 b], .agg #[.int .i64 c, .int .i64 d]] w fun e w' => e = .returned (.bool V) ∧ Below w.heap.size w w'))
    (H2 : Hid (∀ w, Calls Try.prog 50 #[.int .i64 1, .int .u64 (um : Int)] w fun e w' => e = .returned (.string A) ∧ Below w.heap.size w w'))
    (H3 : Hid (∀ w, Calls Try.prog 64 #[.agg #[.int .i64 a, .int .i64 b]] w fun e w' => e = .returned (.string L) ∧ Below w.heap.size w w'))
    (H4 : Hid (∀ w, Calls Try.prog 65 #[.agg #[.int .i64 c, .int .i64 d]] w fun e w' => e = .returned (.string C) ∧ Below w.heap.size w w'))
    (H5 : Hid (∀ w, Calls Try.prog 50 #[.int .i64 8, .int .u64 (n : Int)] w fun e w' => e = .returned (.string M) ∧ Below w.heap.size w w'))
    (w : World) : Calls Try.prog 30 #[.agg #[.int .i64 m, .int .i64 a, .int .i64 b, .int .i64 c, .int .i64 d, .int .u64 (n : Int)]] w fun e w' => e = strErr (encS false [A, L, C, M]) (argE false) ∧ Below w.heap.size w w' := by
  have S := Cel6.new w (.int .i64 m) (.int .i64 a) (.int .i64 b) (.int .i64 c) (.int .i64 d) (.int .u64 (n : Int)) 51
  have BB := below_box w (.cells #[.int .i64 m, .int .i64 a, .int .i64 b, .int .i64 c, .int .i64 d, .int .u64 (n : Int)] 51)
  go_enter Try.func30, Try.ntmps30
  go_upto_region 2 with (fail)
  generalize w.alloc (.cells #[.int .i64 m, .int .i64 a, .int .i64 b, .int .i64 c, .int .i64 d, .int .u64 (n : Int)] 51) = w1 at S BB ⊢
  replace S := Lib.hid S
  refine wp_region_inv0 (InvPK w1 w.heap.size m a b c d n um false A L C M) (by kernel_rfl) (by decide) ?_ ?_ ?_
  · exact ⟨fun zz => cond (Nat.beq zz 19) (.int .i64 0) (cond (Nat.beq zz 18) (.string ⟨#[]⟩) (undef)), rfl, (Below.refl _ _).drew, Lib.hid (fun i _ h => by cases h), Lib.hid (fun h => by cases h)⟩
  · refine AllI.cons ?_ (AllI.cons ?_ (AllI.cons ?_ (AllI.cons ?_ (AllI.cons ?_ (AllI.cons ?_ (AllI.cons ?_ (AllI.cons ?_ (AllI.cons ?_ (AllI.cons ?_ (AllI.cons ?_ (AllI.cons ?_ (AllI.cons ?_ (AllI.cons ?_ (AllI.cons ?_ (AllI.cons ?_ (AllI.cons ?_ (AllI.cons ?_ (AllI.cons ?_ (AllI.cons ?_ AllI.nil)))))))))))))))))))
    · intro D aa wx HI hD hdep KK hKK
      obtain ⟨zf, rfl, hB, HF, HX⟩ := HI
      simp only [Act.put, List.toList_toArray, List.take_succ_cons, List.take_zero, List.drop_succ_cons, List.drop_zero, List.cons_append, List.nil_append, List.setIfInBounds_toArray, List.set_cons_zero, List.set_cons_succ]
      go_simp
      exact hKK _ _ ⟨fun zz => cond (Nat.beq zz 0) (.bool false) (zf zz), rfl, hB, Lib.hid (upd_fact2 (i := 0) (v := .bool false) HF.out rfl), Lib.hid (fun h => (HX.out h))⟩
    · intro D aa wx HI hD hdep KK hKK
      obtain ⟨zf, rfl, hB, HF, HX⟩ := HI
      simp only [Act.put, List.toList_toArray, List.take_succ_cons, List.take_zero, List.drop_succ_cons, List.drop_zero, List.cons_append, List.nil_append, List.setIfInBounds_toArray, List.set_cons_zero, List.set_cons_succ]
      go_simp
      exact hKK _ _ ⟨fun zz => cond (Nat.beq zz 1) (.pointer (some ⟨w.heap.size, 0, none⟩)) (zf zz), rfl, hB, Lib.hid (upd_fact2 (i := 1) (v := .pointer (some ⟨w.heap.size, 0, none⟩)) HF.out rfl), Lib.hid (fun h => (HX.out h))⟩
    · intro D aa wx HI hD hdep KK hKK
      obtain ⟨zf, rfl, hB, HF, HX⟩ := HI
      simp [Region.binds] at hdep
      have E1 : zf 1 = .pointer (some ⟨w.heap.size, 0, none⟩) := HF.out 1 rfl (by simp [hdep])
      obtain ⟨c0, c1, c2, c3, c4, c5⟩ := S.out.below hB
      simp only [E1, Act.put, List.toList_toArray, List.take_succ_cons, List.take_zero, List.drop_succ_cons, List.drop_zero, List.cons_append, List.nil_append, List.setIfInBounds_toArray, List.set_cons_zero, List.set_cons_succ]
      go_simp
      exact hKK _ _ ⟨fun zz => cond (Nat.beq zz 2) (.int .i64 m) (cond (Nat.beq zz 1) (.pointer (some ⟨w.heap.size, 0, none⟩)) (zf zz)), rfl, hB, Lib.hid (upd_fact2 (i := 2) (v := .int .i64 m) (cond_fact2 (j := 1) (v := .pointer (some ⟨w.heap.size, 0, none⟩)) HF.out rfl) rfl), Lib.hid (fun h => (HX.out h))⟩
    · intro D aa wx HI hD hdep KK hKK
      obtain ⟨zf, rfl, hB, HF, HX⟩ := HI
      simp [Region.binds] at hdep
      have E2 : zf 2 = .int .i64 m := HF.out 2 rfl (by simp [hdep])
      simp only [E2, Act.put, List.toList_toArray, List.take_succ_cons, List.take_zero, List.drop_succ_cons, List.drop_zero, List.cons_append, List.nil_append, List.setIfInBounds_toArray, List.set_cons_zero, List.set_cons_succ]
      go_simp
      exact hKK _ _ ⟨fun zz => cond (Nat.beq zz 3) (.int .u64 (um : Int)) (cond (Nat.beq zz 2) (.int .i64 m) (zf zz)), rfl, hB, Lib.hid (upd_fact2 (i := 3) (v := .int .u64 (um : Int)) (cond_fact2 (j := 2) (v := .int .i64 m) HF.out rfl) rfl), Lib.hid (fun h => (HX.out h))⟩
    · intro D aa wx HI hD hdep KK hKK
      obtain ⟨zf, rfl, hB, HF, HX⟩ := HI
      simp [Region.binds] at hdep
      have E3 : zf 3 = .int .u64 (um : Int) := HF.out 3 rfl (by simp [hdep])
      simp only [E3, Act.put, List.toList_toArray, List.take_succ_cons, List.take_zero, List.drop_succ_cons, List.drop_zero, List.cons_append, List.nil_append, List.setIfInBounds_toArray, List.set_cons_zero, List.set_cons_succ]
      go_simp
      refine (H2.out _).mono ?_
      rintro e w5 ⟨rfl, hb⟩
      exact hKK _ _ ⟨fun zz => cond (Nat.beq zz 4) (.string A) (cond (Nat.beq zz 3) (.int .u64 (um : Int)) (zf zz)), rfl, below_to hB hb, Lib.hid (upd_fact2 (i := 4) (v := .string A) (cond_fact2 (j := 3) (v := .int .u64 (um : Int)) HF.out rfl) rfl), Lib.hid (fun h => (HX.out h).below hb)⟩
    · intro D aa wx HI hD hdep KK hKK
      obtain ⟨zf, rfl, hB, HF, HX⟩ := HI
      simp only [Act.put, List.toList_toArray, List.take_succ_cons, List.take_zero, List.drop_succ_cons, List.drop_zero, List.cons_append, List.nil_append, List.setIfInBounds_toArray, List.set_cons_zero, List.set_cons_succ]
      go_simp
      exact hKK _ _ ⟨fun zz => cond (Nat.beq zz 5) (.pointer (some ⟨w.heap.size, 1, none⟩)) (zf zz), rfl, hB, Lib.hid (upd_fact2 (i := 5) (v := .pointer (some ⟨w.heap.size, 1, none⟩)) HF.out rfl), Lib.hid (fun h => (HX.out h))⟩
    · intro D aa wx HI hD hdep KK hKK
      obtain ⟨zf, rfl, hB, HF, HX⟩ := HI
      simp [Region.binds] at hdep
      have E5 : zf 5 = .pointer (some ⟨w.heap.size, 1, none⟩) := HF.out 5 rfl (by simp [hdep])
      obtain ⟨c0, c1, c2, c3, c4, c5⟩ := S.out.below hB
      simp only [E5, Act.put, List.toList_toArray, List.take_succ_cons, List.take_zero, List.drop_succ_cons, List.drop_zero, List.cons_append, List.nil_append, List.setIfInBounds_toArray, List.set_cons_zero, List.set_cons_succ]
      go_simp
      exact hKK _ _ ⟨fun zz => cond (Nat.beq zz 6) (.agg #[.int .i64 a, .int .i64 b]) (cond (Nat.beq zz 5) (.pointer (some ⟨w.heap.size, 1, none⟩)) (zf zz)), rfl, hB, Lib.hid (upd_fact2 (i := 6) (v := .agg #[.int .i64 a, .int .i64 b]) (cond_fact2 (j := 5) (v := .pointer (some ⟨w.heap.size, 1, none⟩)) HF.out rfl) rfl), Lib.hid (fun h => (HX.out h))⟩
    · intro D aa wx HI hD hdep KK hKK
      obtain ⟨zf, rfl, hB, HF, HX⟩ := HI
      simp [Region.binds] at hdep
      have E6 : zf 6 = .agg #[.int .i64 a, .int .i64 b] := HF.out 6 rfl (by simp [hdep])
      simp only [E6, Act.put, List.toList_toArray, List.take_succ_cons, List.take_zero, List.drop_succ_cons, List.drop_zero, List.cons_append, List.nil_append, List.setIfInBounds_toArray, List.set_cons_zero, List.set_cons_succ]
      go_simp
      refine (H3.out _).mono ?_
      rintro e w5 ⟨rfl, hb⟩
      exact hKK _ _ ⟨fun zz => cond (Nat.beq zz 7) (.string L) (cond (Nat.beq zz 6) (.agg #[.int .i64 a, .int .i64 b]) (zf zz)), rfl, below_to hB hb, Lib.hid (upd_fact2 (i := 7) (v := .string L) (cond_fact2 (j := 6) (v := .agg #[.int .i64 a, .int .i64 b]) HF.out rfl) rfl), Lib.hid (fun h => (HX.out h).below hb)⟩
    · intro D aa wx HI hD hdep KK hKK
      obtain ⟨zf, rfl, hB, HF, HX⟩ := HI
      simp only [Act.put, List.toList_toArray, List.take_succ_cons, List.take_zero, List.drop_succ_cons, List.drop_zero, List.cons_append, List.nil_append, List.setIfInBounds_toArray, List.set_cons_zero, List.set_cons_succ]
      go_simp
      exact hKK _ _ ⟨fun zz => cond (Nat.beq zz 8) (.pointer (some ⟨w.heap.size, 3, none⟩)) (zf zz), rfl, hB, Lib.hid (upd_fact2 (i := 8) (v := .pointer (some ⟨w.heap.size, 3, none⟩)) HF.out rfl), Lib.hid (fun h => (HX.out h))⟩
    · intro D aa wx HI hD hdep KK hKK
      obtain ⟨zf, rfl, hB, HF, HX⟩ := HI
      simp [Region.binds] at hdep
      have E8 : zf 8 = .pointer (some ⟨w.heap.size, 3, none⟩) := HF.out 8 rfl (by simp [hdep])
      obtain ⟨c0, c1, c2, c3, c4, c5⟩ := S.out.below hB
      simp only [E8, Act.put, List.toList_toArray, List.take_succ_cons, List.take_zero, List.drop_succ_cons, List.drop_zero, List.cons_append, List.nil_append, List.setIfInBounds_toArray, List.set_cons_zero, List.set_cons_succ]
      go_simp
      exact hKK _ _ ⟨fun zz => cond (Nat.beq zz 9) (.agg #[.int .i64 c, .int .i64 d]) (cond (Nat.beq zz 8) (.pointer (some ⟨w.heap.size, 3, none⟩)) (zf zz)), rfl, hB, Lib.hid (upd_fact2 (i := 9) (v := .agg #[.int .i64 c, .int .i64 d]) (cond_fact2 (j := 8) (v := .pointer (some ⟨w.heap.size, 3, none⟩)) HF.out rfl) rfl), Lib.hid (fun h => (HX.out h))⟩
    · intro D aa wx HI hD hdep KK hKK
      obtain ⟨zf, rfl, hB, HF, HX⟩ := HI
      simp [Region.binds] at hdep
      have E9 : zf 9 = .agg #[.int .i64 c, .int .i64 d] := HF.out 9 rfl (by simp [hdep])
      simp only [E9, Act.put, List.toList_toArray, List.take_succ_cons, List.take_zero, List.drop_succ_cons, List.drop_zero, List.cons_append, List.nil_append, List.setIfInBounds_toArray, List.set_cons_zero, List.set_cons_succ]
      go_simp
      refine (H4.out _).mono ?_
      rintro e w5 ⟨rfl, hb⟩
      exact hKK _ _ ⟨fun zz => cond (Nat.beq zz 10) (.string C) (cond (Nat.beq zz 9) (.agg #[.int .i64 c, .int .i64 d]) (zf zz)), rfl, below_to hB hb, Lib.hid (upd_fact2 (i := 10) (v := .string C) (cond_fact2 (j := 9) (v := .agg #[.int .i64 c, .int .i64 d]) HF.out rfl) rfl), Lib.hid (fun h => (HX.out h).below hb)⟩
    · intro D aa wx HI hD hdep KK hKK
      obtain ⟨zf, rfl, hB, HF, HX⟩ := HI
      simp only [Act.put, List.toList_toArray, List.take_succ_cons, List.take_zero, List.drop_succ_cons, List.drop_zero, List.cons_append, List.nil_append, List.setIfInBounds_toArray, List.set_cons_zero, List.set_cons_succ]
      go_simp
      exact hKK _ _ ⟨fun zz => cond (Nat.beq zz 11) (.pointer (some ⟨w.heap.size, 5, none⟩)) (zf zz), rfl, hB, Lib.hid (upd_fact2 (i := 11) (v := .pointer (some ⟨w.heap.size, 5, none⟩)) HF.out rfl), Lib.hid (fun h => (HX.out h))⟩
    · intro D aa wx HI hD hdep KK hKK
      obtain ⟨zf, rfl, hB, HF, HX⟩ := HI
      simp [Region.binds] at hdep
      have E11 : zf 11 = .pointer (some ⟨w.heap.size, 5, none⟩) := HF.out 11 rfl (by simp [hdep])
      obtain ⟨c0, c1, c2, c3, c4, c5⟩ := S.out.below hB
      simp only [E11, Act.put, List.toList_toArray, List.take_succ_cons, List.take_zero, List.drop_succ_cons, List.drop_zero, List.cons_append, List.nil_append, List.setIfInBounds_toArray, List.set_cons_zero, List.set_cons_succ]
      go_simp
      exact hKK _ _ ⟨fun zz => cond (Nat.beq zz 12) (.int .u64 (n : Int)) (cond (Nat.beq zz 11) (.pointer (some ⟨w.heap.size, 5, none⟩)) (zf zz)), rfl, hB, Lib.hid (upd_fact2 (i := 12) (v := .int .u64 (n : Int)) (cond_fact2 (j := 11) (v := .pointer (some ⟨w.heap.size, 5, none⟩)) HF.out rfl) rfl), Lib.hid (fun h => (HX.out h))⟩
    · intro D aa wx HI hD hdep KK hKK
      obtain ⟨zf, rfl, hB, HF, HX⟩ := HI
      simp [Region.binds] at hdep
      have E12 : zf 12 = .int .u64 (n : Int) := HF.out 12 rfl (by simp [hdep])
      simp only [E12, Act.put, List.toList_toArray, List.take_succ_cons, List.take_zero, List.drop_succ_cons, List.drop_zero, List.cons_append, List.nil_append, List.setIfInBounds_toArray, List.set_cons_zero, List.set_cons_succ]
      go_simp
      refine (H5.out _).mono ?_
      rintro e w5 ⟨rfl, hb⟩
      exact hKK _ _ ⟨fun zz => cond (Nat.beq zz 13) (.string M) (cond (Nat.beq zz 12) (.int .u64 (n : Int)) (zf zz)), rfl, below_to hB hb, Lib.hid (upd_fact2 (i := 13) (v := .string M) (cond_fact2 (j := 12) (v := .int .u64 (n : Int)) HF.out rfl) rfl), Lib.hid (fun h => (HX.out h).below hb)⟩
    · intro D aa wx HI hD hdep KK hKK
      obtain ⟨zf, rfl, hB, HF, HX⟩ := HI
      simp [Region.binds] at hdep
      have E4 : zf 4 = .string A := HF.out 4 rfl (by simp [hdep])
      have E7 : zf 7 = .string L := HF.out 7 rfl (by simp [hdep])
      have E10 : zf 10 = .string C := HF.out 10 rfl (by simp [hdep])
      have E13 : zf 13 = .string M := HF.out 13 rfl (by simp [hdep])
      simp only [E4, E7, E10, E13, Act.put, List.toList_toArray, List.take_succ_cons, List.take_zero, List.drop_succ_cons, List.drop_zero, List.cons_append, List.nil_append, List.setIfInBounds_toArray, List.set_cons_zero, List.set_cons_succ]
      go_simp
      have hb := below_box wx (.cells #[.string A, .string L, .string C, .string M] 9)
      exact hKK _ _ ⟨fun zz => cond (Nat.beq zz 14) (.slice (some ⟨wx.heap.size, 0, none⟩) 4 4) (cond (Nat.beq zz 13) (.string M) (cond (Nat.beq zz 10) (.string C) (cond (Nat.beq zz 7) (.string L) (cond (Nat.beq zz 4) (.string A) (zf zz))))), rfl, below_to hB hb, Lib.hid (upd_row (cond_fact2 (j := 13) (v := .string M) (cond_fact2 (j := 10) (v := .string C) (cond_fact2 (j := 7) (v := .string L) (cond_fact2 (j := 4) (v := .string A) HF.out rfl) rfl) rfl) rfl)), Lib.hid (fun _ => RowP.new wx _ 9)⟩
    · intro D aa wx HI hD hdep KK hKK
      obtain ⟨zf, rfl, hB, HF, HX⟩ := HI
      simp [Region.binds] at hdep
      have E0 : zf 0 = .bool false := HF.out 0 rfl (by simp [hdep])
      obtain ⟨B, E14, HCB⟩ := HX.out (by simp [hdep])
      replace HCB := Lib.hid HCB
      simp only [E0, E14, Act.put, List.toList_toArray, List.take_succ_cons, List.take_zero, List.drop_succ_cons, List.drop_zero, List.cons_append, List.nil_append, List.setIfInBounds_toArray, List.set_cons_zero, List.set_cons_succ]
      go_simp
      refine (encoded_any false [A, L, C, M] B _ HCB.out (by simp) hl).mono ?_
      rintro e w5 ⟨rfl, hb⟩
      exact hKK _ _ ⟨fun zz => cond (Nat.beq zz 15) (.tuple #[.string (encS false [A, L, C, M]), .int .i64 (argE false)]) (cond (Nat.beq zz 14) (.slice (some ⟨B, 0, none⟩) 4 4) (cond (Nat.beq zz 0) (.bool false) (zf zz))), rfl, below_to hB hb, Lib.hid (upd_fact2 (i := 15) (v := .tuple #[.string (encS false [A, L, C, M]), .int .i64 (argE false)]) (cond_row (cond_fact2 (j := 0) (v := .bool false) HF.out rfl)) rfl), Lib.hid (fun _ => (RowP.at HCB.out).below hb)⟩
    · intro D aa wx HI hD hdep KK hKK
      obtain ⟨zf, rfl, hB, HF, HX⟩ := HI
      simp [Region.binds] at hdep
      have E15 : zf 15 = .tuple #[.string (encS false [A, L, C, M]), .int .i64 (argE false)] := HF.out 15 rfl (by simp [hdep])
      simp only [E15, Act.put, List.toList_toArray, List.take_succ_cons, List.take_zero, List.drop_succ_cons, List.drop_zero, List.cons_append, List.nil_append, List.setIfInBounds_toArray, List.set_cons_zero, List.set_cons_succ]
      go_simp
      exact hKK _ _ ⟨fun zz => cond (Nat.beq zz 16) (.string (encS false [A, L, C, M])) (cond (Nat.beq zz 15) (.tuple #[.string (encS false [A, L, C, M]), .int .i64 (argE false)]) (zf zz)), rfl, hB, Lib.hid (upd_fact2 (i := 16) (v := .string (encS false [A, L, C, M])) (cond_fact2 (j := 15) (v := .tuple #[.string (encS false [A, L, C, M]), .int .i64 (argE false)]) HF.out rfl) rfl), Lib.hid (fun h => (HX.out h))⟩
    · intro D aa wx HI hD hdep KK hKK
      obtain ⟨zf, rfl, hB, HF, HX⟩ := HI
      simp [Region.binds] at hdep
      have E15 : zf 15 = .tuple #[.string (encS false [A, L, C, M]), .int .i64 (argE false)] := HF.out 15 rfl (by simp [hdep])
      simp only [E15, Act.put, List.toList_toArray, List.take_succ_cons, List.take_zero, List.drop_succ_cons, List.drop_zero, List.cons_append, List.nil_append, List.setIfInBounds_toArray, List.set_cons_zero, List.set_cons_succ]
      go_simp
      exact hKK _ _ ⟨fun zz => cond (Nat.beq zz 17) (.int .i64 (argE false)) (cond (Nat.beq zz 15) (.tuple #[.string (encS false [A, L, C, M]), .int .i64 (argE false)]) (zf zz)), rfl, hB, Lib.hid (upd_fact2 (i := 17) (v := .int .i64 (argE false)) (cond_fact2 (j := 15) (v := .tuple #[.string (encS false [A, L, C, M]), .int .i64 (argE false)]) HF.out rfl) rfl), Lib.hid (fun h => (HX.out h))⟩
    · intro D aa wx HI hD hdep KK hKK
      obtain ⟨zf, rfl, hB, HF, HX⟩ := HI
      simp [Region.binds] at hdep
      have E16 : zf 16 = .string (encS false [A, L, C, M]) := HF.out 16 rfl (by simp [hdep])
      simp only [E16, Act.put, List.toList_toArray, List.take_succ_cons, List.take_zero, List.drop_succ_cons, List.drop_zero, List.cons_append, List.nil_append, List.setIfInBounds_toArray, List.set_cons_zero, List.set_cons_succ]
      go_simp
      exact hKK _ _ ⟨fun zz => cond (Nat.beq zz 18) (.string (encS false [A, L, C, M])) (cond (Nat.beq zz 16) (.string (encS false [A, L, C, M])) (zf zz)), rfl, hB, Lib.hid (upd_fact2 (i := 18) (v := .string (encS false [A, L, C, M])) (cond_fact2 (j := 16) (v := .string (encS false [A, L, C, M])) HF.out rfl) rfl), Lib.hid (fun h => (HX.out h))⟩
    · intro D aa wx HI hD hdep KK hKK
      obtain ⟨zf, rfl, hB, HF, HX⟩ := HI
      simp [Region.binds] at hdep
      have E17 : zf 17 = .int .i64 (argE false) := HF.out 17 rfl (by simp [hdep])
      simp only [E17, Act.put, List.toList_toArray, List.take_succ_cons, List.take_zero, List.drop_succ_cons, List.drop_zero, List.cons_append, List.nil_append, List.setIfInBounds_toArray, List.set_cons_zero, List.set_cons_succ]
      go_simp
      exact hKK _ _ ⟨fun zz => cond (Nat.beq zz 19) (.int .i64 (argE false)) (cond (Nat.beq zz 17) (.int .i64 (argE false)) (zf zz)), rfl, hB, Lib.hid (upd_fact2 (i := 19) (v := .int .i64 (argE false)) (cond_fact2 (j := 17) (v := .int .i64 (argE false)) HF.out rfl) rfl), Lib.hid (fun h => (HX.out h))⟩
  intro D aa w7 HI hD
  obtain ⟨zf, rfl, hB, HF, HX⟩ := HI
  have e189 : zf 18 = .string (encS false [A, L, C, M]) := HF.out 18 rfl (hD 18 (by simp))
  have e199 : zf 19 = .int .i64 (argE false) := HF.out 19 rfl (hD 19 (by simp))
  simp only [e189, e199, Act.put, List.toList_toArray, List.take_succ_cons, List.take_zero, List.drop_succ_cons, List.drop_zero, List.cons_append, List.nil_append]
  clear HF HX hD
  go_wp2_with fail
  go_ret2
  exact ⟨rfl, below_to BB hB⟩
theorem putBucket3 (m a b c d : Int) (n um : Nat) (hm : IntKind.u64.wrap m = (um : Int)) (h1 : 0 ≤ m) (h2 : ¬ m < 3) (V : Bool) (A L C M : ByteArray) (hl : (joinB [A, L, C, M]).size ≤ 100000)
    (H1 : Hid (∀ w, Calls Try.prog 63 #[.agg #[.int .i64 a, .int .i64 b], .agg #[.int .i64 c, .int .i64 d]] w fun e w' => e = .returned (.bool V) ∧ Below w.heap.size w w'))
    (H2 : Hid (∀ w, Calls Try.prog 50 #[.int .i64 1, .int .u64 (um : Int)] w fun e w' => e = .returned (.string A) ∧ Below w.heap.size w w'))
    (H3 : Hid (∀ w, Calls Try.prog 64 #[.agg #[.int .i64 a, .int .i64 b]] w fun e w' => e = .returned (.string L) ∧ Below w.heap.size w w'))
    (H4 : Hid (∀ w, Calls Try.prog 65 #[.agg #[.int .i64 c, .int .i64 d]] w fun e w' => e = .returned (.string C) ∧ Below w.heap.size w w'))
    (H5 : Hid (∀ w, Calls Try.prog 50 #[.int .i64 8, .int .u64 (n : Int)] w fun e w' => e = .returned (.string M) ∧ Below w.heap.size w w'))
    (w : World) : Calls Try.prog 30 #[.agg #[.int .i64 m, .int .i64 a, .int .i64 b, .int .i64 c, .int .i64 d, .int .u64 (n : Int)]] w fun e w' => e = strErr (encS false [A, L, C, M]) (argE false) ∧ Below w.heap.size w w' := by
  have S := Cel6.new w (.int .i64 m) (.int .i64 a) (.int .i64 b) (.int .i64 c) (.int .i64 d) (.int .u64 (n : Int)) 51
  have BB := below_box w (.cells #[.int .i64 m, .int .i64 a, .int .i64 b, .int .i64 c, .int .i64 d, .int .u64 (n : Int)] 51)
  go_enter Try.func30, Try.ntmps30
  go_upto_region 2 with (fail)
  generalize w.alloc (.cells #[.int .i64 m, .int .i64 a, .int .i64 b, .int .i64 c, .int .i64 d, .int .u64 (n : Int)] 51) = w1 at S BB ⊢
  replace S := Lib.hid S
  refine wp_region_inv0 (InvPK w1 w.heap.size m a b c d n um false A L C M) (by kernel_rfl) (by decide) ?_ ?_ ?_
  · exact ⟨fun zz => cond (Nat.beq zz 19) (.int .i64 0) (cond (Nat.beq zz 18) (.string ⟨#[]⟩) (undef)), rfl, (Below.refl _ _).drew, Lib.hid (fun i _ h => by cases h), Lib.hid (fun h => by cases h)⟩
  · refine AllI.cons ?_ (AllI.cons ?_ (AllI.cons ?_ (AllI.cons ?_ (AllI.cons ?_ (AllI.cons ?_ (AllI.cons ?_ (AllI.cons ?_ (AllI.cons ?_ (AllI.cons ?_ (AllI.cons ?_ (AllI.cons ?_ (AllI.cons ?_ (AllI.cons ?_ (AllI.cons ?_ (AllI.cons ?_ (AllI.cons ?_ (AllI.cons ?_ (AllI.cons ?_ (AllI.cons ?_ AllI.nil)))))))))))))))))))
    · intro D aa wx HI hD hdep KK hKK
      obtain ⟨zf, rfl, hB, HF, HX⟩ := HI
      simp only [Act.put, List.toList_toArray, List.take_succ_cons, List.take_zero, List.drop_succ_cons, List.drop_zero, List.cons_append, List.nil_append, List.setIfInBounds_toArray, List.set_cons_zero, List.set_cons_succ]
      go_simp
      exact hKK _ _ ⟨fun zz => cond (Nat.beq zz 0) (.bool false) (zf zz), rfl, hB, Lib.hid (upd_fact2 (i := 0) (v := .bool false) HF.out rfl), Lib.hid (fun h => (HX.out h))⟩
    · intro D aa wx HI hD hdep KK hKK
      obtain ⟨zf, rfl, hB, HF, HX⟩ := HI
      simp only [Act.put, List.toList_toArray, List.take_succ_cons, List.take_zero, List.drop_succ_cons, List.drop_zero, List.cons_append, List.nil_append, List.setIfInBounds_toArray, List.set_cons_zero, List.set_cons_succ]
      go_simp
      exact hKK _ _ ⟨fun zz => cond (Nat.beq zz 1) (.pointer (some ⟨w.heap.size, 0, none⟩)) (zf zz), rfl, hB, Lib.hid (upd_fact2 (i := 1) (v := .pointer (some ⟨w.heap.size, 0, none⟩)) HF.out rfl), Lib.hid (fun h => (HX.out h))⟩
    · intro D aa wx HI hD hdep KK hKK
      obtain ⟨zf, rfl, hB, HF, HX⟩ := HI
      simp [Region.binds] at hdep
      have E1 : zf 1 = .pointer (some ⟨w.heap.size, 0, none⟩) := HF.out 1 rfl (by simp [hdep])
      obtain ⟨c0, c1, c2, c3, c4, c5⟩ := S.out.below hB
      simp only [E1, Act.put, List.toList_toArray, List.take_succ_cons, List.take_zero, List.drop_succ_cons, List.drop_zero, List.cons_append, List.nil_append, List.setIfInBounds_toArray, List.set_cons_zero, List.set_cons_succ]
      go_simp
      exact hKK _ _ ⟨fun zz => cond (Nat.beq zz 2) (.int .i64 m) (cond (Nat.beq zz 1) (.pointer (some ⟨w.heap.size, 0, none⟩)) (zf zz)), rfl, hB, Lib.hid (upd_fact2 (i := 2) (v := .int .i64 m) (cond_fact2 (j := 1) (v := .pointer (some ⟨w.heap.size, 0, none⟩)) HF.out rfl) rfl), Lib.hid (fun h => (HX.out h))⟩
    · intro D aa wx HI hD hdep KK hKK
      obtain ⟨zf, rfl, hB, HF, HX⟩ := HI
      simp [Region.binds] at hdep
      have E2 : zf 2 = .int .i64 m := HF.out 2 rfl (by simp [hdep])
      simp only [E2, Act.put, List.toList_toArray, List.take_succ_cons, List.take_zero, List.drop_succ_cons, List.drop_zero, List.cons_append, List.nil_append, List.setIfInBounds_toArray, List.set_cons_zero, List.set_cons_succ]
      go_simp
      exact hKK _ _ ⟨fun zz => cond (Nat.beq zz 3) (.int .u64 (um : Int)) (cond (Nat.beq zz 2) (.int .i64 m) (zf zz)), rfl, hB, Lib.hid (upd_fact2 (i := 3) (v := .int .u64 (um : Int)) (cond_fact2 (j := 2) (v := .int .i64 m) HF.out rfl) rfl), Lib.hid (fun h => (HX.out h))⟩
    · intro D aa wx HI hD hdep KK hKK
      obtain ⟨zf, rfl, hB, HF, HX⟩ := HI
      simp [Region.binds] at hdep
      have E3 : zf 3 = .int .u64 (um : Int) := HF.out 3 rfl (by simp [hdep])
      simp only [E3, Act.put, List.toList_toArray, List.take_succ_cons, List.take_zero, List.drop_succ_cons, List.drop_zero, List.cons_append, List.nil_append, List.setIfInBounds_toArray, List.set_cons_zero, List.set_cons_succ]
      go_simp
      refine (H2.out _).mono ?_
      rintro e w5 ⟨rfl, hb⟩
      exact hKK _ _ ⟨fun zz => cond (Nat.beq zz 4) (.string A) (cond (Nat.beq zz 3) (.int .u64 (um : Int)) (zf zz)), rfl, below_to hB hb, Lib.hid (upd_fact2 (i := 4) (v := .string A) (cond_fact2 (j := 3) (v := .int .u64 (um : Int)) HF.out rfl) rfl), Lib.hid (fun h => (HX.out h).below hb)⟩
    · intro D aa wx HI hD hdep KK hKK
      obtain ⟨zf, rfl, hB, HF, HX⟩ := HI
      simp only [Act.put, List.toList_toArray, List.take_succ_cons, List.take_zero, List.drop_succ_cons, List.drop_zero, List.cons_append, List.nil_append, List.setIfInBounds_toArray, List.set_cons_zero, List.set_cons_succ]
      go_simp
      exact hKK _ _ ⟨fun zz => cond (Nat.beq zz 5) (.pointer (some ⟨w.heap.size, 1, none⟩)) (zf zz), rfl, hB, Lib.hid (upd_fact2 (i := 5) (v := .pointer (some ⟨w.heap.size, 1, none⟩)) HF.out rfl), Lib.hid (fun h => (HX.out h))⟩
    · intro D aa wx HI hD hdep KK hKK
      obtain ⟨zf, rfl, hB, HF, HX⟩ := HI
      simp [Region.binds] at hdep
      have E5 : zf 5 = .pointer (some ⟨w.heap.size, 1, none⟩) := HF.out 5 rfl (by simp [hdep])
      obtain ⟨c0, c1, c2, c3, c4, c5⟩ := S.out.below hB
      simp only [E5, Act.put, List.toList_toArray, List.take_succ_cons, List.take_zero, List.drop_succ_cons, List.drop_zero, List.cons_append, List.nil_append, List.setIfInBounds_toArray, List.set_cons_zero, List.set_cons_succ]
      go_simp
      exact hKK _ _ ⟨fun zz => cond (Nat.beq zz 6) (.agg #[.int .i64 a, .int .i64 b]) (cond (Nat.beq zz 5) (.pointer (some ⟨w.heap.size, 1, none⟩)) (zf zz)), rfl, hB, Lib.hid (upd_fact2 (i := 6) (v := .agg #[.int .i64 a, .int .i64 b]) (cond_fact2 (j := 5) (v := .pointer (some ⟨w.heap.size, 1, none⟩)) HF.out rfl) rfl), Lib.hid (fun h => (HX.out h))⟩
    · intro D aa wx HI hD hdep KK hKK
      obtain ⟨zf, rfl, hB, HF, HX⟩ := HI
      simp [Region.binds] at hdep
      have E6 : zf 6 = .agg #[.int .i64 a, .int .i64 b] := HF.out 6 rfl (by simp [hdep])
      simp only [E6, Act.put, List.toList_toArray, List.take_succ_cons, List.take_zero, List.drop_succ_cons, List.drop_zero, List.cons_append, List.nil_append, List.setIfInBounds_toArray, List.set_cons_zero, List.set_cons_succ]
      go_simp
      refine (H3.out _).mono ?_
      rintro e w5 ⟨rfl, hb⟩
      exact hKK _ _ ⟨fun zz => cond (Nat.beq zz 7) (.string L) (cond (Nat.beq zz 6) (.agg #[.int .i64 a, .int .i64 b]) (zf zz)), rfl, below_to hB hb, Lib.hid (upd_fact2 (i := 7) (v := .string L) (cond_fact2 (j := 6) (v := .agg #[.int .i64 a, .int .i64 b]) HF.out rfl) rfl), Lib.hid (fun h => (HX.out h).below hb)⟩
    · intro D aa wx HI hD hdep KK hKK
      obtain ⟨zf, rfl, hB, HF, HX⟩ := HI
      simp only [Act.put, List.toList_toArray, List.take_succ_cons, List.take_zero, List.drop_succ_cons, List.drop_zero, List.cons_append, List.nil_append, List.setIfInBounds_toArray, List.set_cons_zero, List.set_cons_succ]
      go_simp
      exact hKK _ _ ⟨fun zz => cond (Nat.beq zz 8) (.pointer (some ⟨w.heap.size, 3, none⟩)) (zf zz), rfl, hB, Lib.hid (upd_fact2 (i := 8) (v := .pointer (some ⟨w.heap.size, 3, none⟩)) HF.out rfl), Lib.hid (fun h => (HX.out h))⟩
    · intro D aa wx HI hD hdep KK hKK
      obtain ⟨zf, rfl, hB, HF, HX⟩ := HI
      simp [Region.binds] at hdep
      have E8 : zf 8 = .pointer (some ⟨w.heap.size, 3, none⟩) := HF.out 8 rfl (by simp [hdep])
      obtain ⟨c0, c1, c2, c3, c4, c5⟩ := S.out.below hB
      simp only [E8, Act.put, List.toList_toArray, List.take_succ_cons, List.take_zero, List.drop_succ_cons, List.drop_zero, List.cons_append, List.nil_append, List.setIfInBounds_toArray, List.set_cons_zero, List.set_cons_succ]
      go_simp
      exact hKK _ _ ⟨fun zz => cond (Nat.beq zz 9) (.agg #[.int .i64 c, .int .i64 d]) (cond (Nat.beq zz 8) (.pointer (some ⟨w.heap.size, 3, none⟩)) (zf zz)), rfl, hB, Lib.hid (upd_fact2 (i := 9) (v := .agg #[.int .i64 c, .int .i64 d]) (cond_fact2 (j := 8) (v := .pointer (some ⟨w.heap.size, 3, none⟩)) HF.out rfl) rfl), Lib.hid (fun h => (HX.out h))⟩
    · intro D aa wx HI hD hdep KK hKK
      obtain ⟨zf, rfl, hB, HF, HX⟩ := HI
      simp [Region.binds] at hdep
      have E9 : zf 9 = .agg #[.int .i64 c, .int .i64 d] := HF.out 9 rfl (by simp [hdep])
      simp only [E9, Act.put, List.toList_toArray, List.take_succ_cons, List.take_zero, List.drop_succ_cons, List.drop_zero, List.cons_append, List.nil_append, List.setIfInBounds_toArray, List.set_cons_zero, List.set_cons_succ]
      go_simp
      refine (H4.out _).mono ?_
      rintro e w5 ⟨rfl, hb⟩
      exact hKK _ _ ⟨fun zz => cond (Nat.beq zz 10) (.string C) (cond (Nat.beq zz 9) (.agg #[.int .i64 c, .int .i64 d]) (zf zz)), rfl, below_to hB hb, Lib.hid (upd_fact2 (i := 10) (v := .string C) (cond_fact2 (j := 9) (v := .agg #[.int .i64 c, .int .i64 d]) HF.out rfl) rfl), Lib.hid (fun h => (HX.out h).below hb)⟩
    · intro D aa wx HI hD hdep KK hKK
      obtain ⟨zf, rfl, hB, HF, HX⟩ := HI
      simp only [Act.put, List.toList_toArray, List.take_succ_cons, List.take_zero, List.drop_succ_cons, List.drop_zero, List.cons_append, List.nil_append, List.setIfInBounds_toArray, List.set_cons_zero, List.set_cons_succ]
      go_simp
      exact hKK _ _ ⟨fun zz => cond (Nat.beq zz 11) (.pointer (some ⟨w.heap.size, 5, none⟩)) (zf zz), rfl, hB, Lib.hid (upd_fact2 (i := 11) (v := .pointer (some ⟨w.heap.size, 5, none⟩)) HF.out rfl), Lib.hid (fun h => (HX.out h))⟩
    · intro D aa wx HI hD hdep KK hKK
      obtain ⟨zf, rfl, hB, HF, HX⟩ := HI
      simp [Region.binds] at hdep
      have E11 : zf 11 = .pointer (some ⟨w.heap.size, 5, none⟩) := HF.out 11 rfl (by simp [hdep])
      obtain ⟨c0, c1, c2, c3, c4, c5⟩ := S.out.below hB
      simp only [E11, Act.put, List.toList_toArray, List.take_succ_cons, List.take_zero, List.drop_succ_cons, List.drop_zero, List.cons_append, List.nil_append, List.setIfInBounds_toArray, List.set_cons_zero, List.set_cons_succ]
      go_simp
      exact hKK _ _ ⟨fun zz => cond (Nat.beq zz 12) (.int .u64 (n : Int)) (cond (Nat.beq zz 11) (.pointer (some ⟨w.heap.size, 5, none⟩)) (zf zz)), rfl, hB, Lib.hid (upd_fact2 (i := 12) (v := .int .u64 (n : Int)) (cond_fact2 (j := 11) (v := .pointer (some ⟨w.heap.size, 5, none⟩)) HF.out rfl) rfl), Lib.hid (fun h => (HX.out h))⟩
    · intro D aa wx HI hD hdep KK hKK
      obtain ⟨zf, rfl, hB, HF, HX⟩ := HI
      simp [Region.binds] at hdep
      have E12 : zf 12 = .int .u64 (n : Int) := HF.out 12 rfl (by simp [hdep])
      simp only [E12, Act.put, List.toList_toArray, List.take_succ_cons, List.take_zero, List.drop_succ_cons, List.drop_zero, List.cons_append, List.nil_append, List.setIfInBounds_toArray, List.set_cons_zero, List.set_cons_succ]
      go_simp
      refine (H5.out _).mono ?_
      rintro e w5 ⟨rfl, hb⟩
      exact hKK _ _ ⟨fun zz => cond (Nat.beq zz 13) (.string M) (cond (Nat.beq zz 12) (.int .u64 (n : Int)) (zf zz)), rfl, below_to hB hb, Lib.hid (upd_fact2 (i := 13) (v := .string M) (cond_fact2 (j := 12) (v := .int .u64 (n : Int)) HF.out rfl) rfl), Lib.hid (fun h => (HX.out h).below hb)⟩
    · intro D aa wx HI hD hdep KK hKK
      obtain ⟨zf, rfl, hB, HF, HX⟩ := HI
      simp [Region.binds] at hdep
      have E4 : zf 4 = .string A := HF.out 4 rfl (by simp [hdep])
      have E7 : zf 7 = .string L := HF.out 7 rfl (by simp [hdep])
      have E10 : zf 10 = .string C := HF.out 10 rfl (by simp [hdep])
      have E13 : zf 13 = .string M := HF.out 13 rfl (by simp [hdep])
      simp only [E4, E7, E10, E13, Act.put, List.toList_toArray, List.take_succ_cons, List.take_zero, List.drop_succ_cons, List.drop_zero, List.cons_append, List.nil_append, List.setIfInBounds_toArray, List.set_cons_zero, List.set_cons_succ]
      go_simp
      have hb := below_box wx (.cells #[.string A, .string L, .string C, .string M] 9)
      exact hKK _ _ ⟨fun zz => cond (Nat.beq zz 14) (.slice (some ⟨wx.heap.size, 0, none⟩) 4 4) (cond (Nat.beq zz 13) (.string M) (cond (Nat.beq zz 10) (.string C) (cond (Nat.beq zz 7) (.string L) (cond (Nat.beq zz 4) (.string A) (zf zz))))), rfl, below_to hB hb, Lib.hid (upd_row (cond_fact2 (j := 13) (v := .string M) (cond_fact2 (j := 10) (v := .string C) (cond_fact2 (j := 7) (v := .string L) (cond_fact2 (j := 4) (v := .string A) HF.out rfl) rfl) rfl) rfl)), Lib.hid (fun _ => RowP.new wx _ 9)⟩
    · intro D aa wx HI hD hdep KK hKK
      obtain ⟨zf, rfl, hB, HF, HX⟩ := HI
      simp [Region.binds] at hdep
      have E0 : zf 0 = .bool false := HF.out 0 rfl (by simp [hdep])
      obtain ⟨B, E14, HCB⟩ := HX.out (by simp [hdep])
      replace HCB := Lib.hid HCB
      simp only [E0, E14, Act.put, List.toList_toArray, List.take_succ_cons, List.take_zero, List.drop_succ_cons, List.drop_zero, List.cons_append, List.nil_append, List.setIfInBounds_toArray, List.set_cons_zero, List.set_cons_succ]
      go_simp
      refine (encoded_any false [A, L, C, M] B _ HCB.out (by simp) hl).mono ?_
      rintro e w5 ⟨rfl, hb⟩
      exact hKK _ _ ⟨fun zz => cond (Nat.beq zz 15) (.tuple #[.string (encS false [A, L, C, M]), .int .i64 (argE false)]) (cond (Nat.beq zz 14) (.slice (some ⟨B, 0, none⟩) 4 4) (cond (Nat.beq zz 0) (.bool false) (zf zz))), rfl, below_to hB hb, Lib.hid (upd_fact2 (i := 15) (v := .tuple #[.string (encS false [A, L, C, M]), .int .i64 (argE false)]) (cond_row (cond_fact2 (j := 0) (v := .bool false) HF.out rfl)) rfl), Lib.hid (fun _ => (RowP.at HCB.out).below hb)⟩
    · intro D aa wx HI hD hdep KK hKK
      obtain ⟨zf, rfl, hB, HF, HX⟩ := HI
      simp [Region.binds] at hdep
      have E15 : zf 15 = .tuple #[.string (encS false [A, L, C, M]), .int .i64 (argE false)] := HF.out 15 rfl (by simp [hdep])
      simp only [E15, Act.put, List.toList_toArray, List.take_succ_cons, List.take_zero, List.drop_succ_cons, List.drop_zero, List.cons_append, List.nil_append, List.setIfInBounds_toArray, List.set_cons_zero, List.set_cons_succ]
      go_simp
      exact hKK _ _ ⟨fun zz => cond (Nat.beq zz 16) (.string (encS false [A, L, C, M])) (cond (Nat.beq zz 15) (.tuple #[.string (encS false [A, L, C, M]), .int .i64 (argE false)]) (zf zz)), rfl, hB, Lib.hid (upd_fact2 (i := 16) (v := .string (encS false [A, L, C, M])) (cond_fact2 (j := 15) (v := .tuple #[.string (encS false [A, L, C, M]), .int .i64 (argE false)]) HF.out rfl) rfl), Lib.hid (fun h => (HX.out h))⟩
    · intro D aa wx HI hD hdep KK hKK
      obtain ⟨zf, rfl, hB, HF, HX⟩ := HI
      simp [Region.binds] at hdep
      have E15 : zf 15 = .tuple #[.string (encS false [A, L, C, M]), .int .i64 (argE false)] := HF.out 15 rfl (by simp [hdep])
      simp only [E15, Act.put, List.toList_toArray, List.take_succ_cons, List.take_zero, List.drop_succ_cons, List.drop_zero, List.cons_append, List.nil_append, List.setIfInBounds_toArray, List.set_cons_zero, List.set_cons_succ]
      go_simp
      exact hKK _ _ ⟨fun zz => cond (Nat.beq zz 17) (.int .i64 (argE false)) (cond (Nat.beq zz 15) (.tuple #[.string (encS false [A, L, C, M]), .int .i64 (argE false)]) (zf zz)), rfl, hB, Lib.hid (upd_fact2 (i := 17) (v := .int .i64 (argE false)) (cond_fact2 (j := 15) (v := .tuple #[.string (encS false [A, L, C, M]), .int .i64 (argE false)]) HF.out rfl) rfl), Lib.hid (fun h => (HX.out h))⟩
    · intro D aa wx HI hD hdep KK hKK
      obtain ⟨zf, rfl, hB, HF, HX⟩ := HI
      simp [Region.binds] at hdep
      have E16 : zf 16 = .string (encS false [A, L, C, M]) := HF.out 16 rfl (by simp [hdep])
      simp only [E16, Act.put, List.toList_toArray, List.take_succ_cons, List.take_zero, List.drop_succ_cons, List.drop_zero, List.cons_append, List.nil_append, List.setIfInBounds_toArray, List.set_cons_zero, List.set_cons_succ]
      go_simp
      exact hKK _ _ ⟨fun zz => cond (Nat.beq zz 18) (.string (encS false [A, L, C, M])) (cond (Nat.beq zz 16) (.string (encS false [A, L, C, M])) (zf zz)), rfl, hB, Lib.hid (upd_fact2 (i := 18) (v := .string (encS false [A, L, C, M])) (cond_fact2 (j := 16) (v := .string (encS false [A, L, C, M])) HF.out rfl) rfl), Lib.hid (fun h => (HX.out h))⟩
    · intro D aa wx HI hD hdep KK hKK
      obtain ⟨zf, rfl, hB, HF, HX⟩ := HI
      simp [Region.binds] at hdep
      have E17 : zf 17 = .int .i64 (argE false) := HF.out 17 rfl (by simp [hdep])
      simp only [E17, Act.put, List.toList_toArray, List.take_succ_cons, List.take_zero, List.drop_succ_cons, List.drop_zero, List.cons_append, List.nil_append, List.setIfInBounds_toArray, List.set_cons_zero, List.set_cons_succ]
      go_simp
      exact hKK _ _ ⟨fun zz => cond (Nat.beq zz 19) (.int .i64 (argE false)) (cond (Nat.beq zz 17) (.int .i64 (argE false)) (zf zz)), rfl, hB, Lib.hid (upd_fact2 (i := 19) (v := .int .i64 (argE false)) (cond_fact2 (j := 17) (v := .int .i64 (argE false)) HF.out rfl) rfl), Lib.hid (fun h => (HX.out h))⟩
  intro D aa w7 HI hD
  obtain ⟨zf, rfl, hB, HF, HX⟩ := HI
  have e189 : zf 18 = .string (encS false [A, L, C, M]) := HF.out 18 rfl (hD 18 (by simp))
  have e199 : zf 19 = .int .i64 (argE false) := HF.out 19 rfl (hD 19 (by simp))
  simp only [e189, e199, Act.put, List.toList_toArray, List.take_succ_cons, List.take_zero, List.drop_succ_cons, List.drop_zero, List.cons_append, List.nil_append]
  clear HF HX hD
  go_wp2_with fail
  go_ret2
  exact ⟨rfl, below_to BB hB⟩
theorem putBucket_any (m a b c d : Int) (n : Nat) (hn : n < 18446744073709551616) (w : World) : Calls Try.prog 30 #[.agg #[.int .i64 m, .int .i64 a, .int .i64 b, .int .i64 c, .int .i64 d, .int .u64 (n : Int)]] w fun e w' => e = strErr (bucketS m a b c d n) (argE (okBu m a b c d)) ∧ Below w.heap.size w w' := by
  have H2 := Lib.hid (fun w => num_ok 1 (u64N m) w (by omega) (by omega) (u64N_lt m))
  have H5 := Lib.hid (fun w => num_ok 8 n w (by omega) (by omega) hn)
  unfold bucketS okBu
  by_cases h1 : 0 ≤ m
  · by_cases h2 : m < 3
    · rw [decide_eq_true h1, decide_eq_true h2, Bool.true_and, Bool.true_and]
      exact putBucket1 m a b c d n _ (u64N_wrap m) h1 h2 _ _ _ _ _ (by rw [joinB_size]; simp [pairS_size, bs_size, numL_length]) (Lib.hid (isUsage_any a b c d)) H2 (Lib.hid (limit_any a b)) (Lib.hid (count_any c d)) H5 w
    · rw [decide_eq_true h1, decide_eq_false h2, Bool.true_and, Bool.false_and]
      exact putBucket3 m a b c d n _ (u64N_wrap m) h1 h2 _ _ _ _ _ (by rw [joinB_size]; simp [pairS_size, bs_size, numL_length]) (Lib.hid (isUsage_any a b c d)) H2 (Lib.hid (limit_any a b)) (Lib.hid (count_any c d)) H5 w
  · rw [decide_eq_false h1, Bool.false_and, Bool.false_and]
    exact putBucket2 m a b c d n _ (u64N_wrap m) h1 _ _ _ _ _ (by rw [joinB_size]; simp [pairS_size, bs_size, numL_length]) (Lib.hid (isUsage_any a b c d)) H2 (Lib.hid (limit_any a b)) (Lib.hid (count_any c d)) H5 w
end Go.Proofs.Yteekjndhehnpaaa
