/- Contracts: PutVersion. -/
import Derived.Test.YteekjndhehnpaaaSH
import Derived.Deep.Cut
namespace Go.Proofs.Yteekjndhehnpaaa
open Go.RowKit
set_option maxRecDepth 100000
set_option linter.unusedVariables false
set_option linter.unusedSimpArgs false
set_option maxHeartbeats 8000000
def InvPV0_v (g : Nat) (i : Nat) (n : Nat) (f : Int) (s : Int) (V : Bool) (A : ByteArray) (M : ByteArray) (L : ByteArray) (C : ByteArray) (zi : Nat) : Value := ([.bool V, .pointer (some ⟨g, 0, none⟩), .int .u64 (i : Int), .string A, .int .u64 0, .string M, .pointer (some ⟨g, 2, none⟩), .int .u32 (n : Int), .string L, .pointer (some ⟨g, 3, none⟩), .agg #[.int .i64 f, .int .i64 s], .string C, undef, .tuple #[.string (encS V [A, M, L, C]), .int .i64 (argE V)], .string (encS V [A, M, L, C]), .int .i64 (argE V), .string (encS V [A, M, L, C]), .int .i64 (argE V)] : List Value).getD zi undef
def InvPV0 (W1 : World) (g : Nat) (i : Nat) (n : Nat) (f : Int) (s : Int) (V : Bool) (A : ByteArray) (M : ByteArray) (L : ByteArray) (C : ByteArray) (a0 : Act) (D : Nat → Bool) (act : Act) (w : World) : Prop :=
  ∃ zf : Nat → Value, act = ⟨(a0.tmps.toList.take 2 ++ zf 16 :: zf 17 :: ((a0.tmps.toList.drop 4).take 16 ++ zf 0 :: zf 1 :: zf 2 :: zf 3 :: zf 4 :: zf 5 :: zf 6 :: zf 7 :: zf 8 :: zf 9 :: zf 10 :: zf 11 :: zf 12 :: zf 13 :: zf 14 :: zf 15 :: a0.tmps.toList.drop 36)).toArray, []⟩ ∧ Below W1.heap.size W1 w ∧ Hid (∀ zi, Nat.beq zi 12 = false → D zi = true → zf zi = InvPV0_v g i n f s V A M L C zi) ∧ Hid (D 12 = true → RowP [A, M, L, C] w (zf 12))
theorem putVersion0 (i n : Nat) (f s : Int) (V : Bool) (A M L C : ByteArray) (hl : (joinB [A, M, L, C]).size ≤ 100000)
    (H1 : Hid (∀ w, Calls Try.prog 69 #[.agg #[.int .i64 f, .int .i64 s]] w fun e w' => e = .returned (.bool V) ∧ Below w.heap.size w w'))
    (H2 : Hid (∀ w, Calls Try.prog 50 #[.int .i64 8, .int .u64 (i : Int)] w fun e w' => e = .returned (.string A) ∧ Below w.heap.size w w'))
    (H3 : Hid (∀ w, Calls Try.prog 50 #[.int .i64 1, .int .u64 0] w fun e w' => e = .returned (.string M) ∧ Below w.heap.size w w'))
    (H4 : Hid (∀ w, Calls Try.prog 70 #[.int .u32 (n : Int)] w fun e w' => e = .returned (.string L) ∧ Below w.heap.size w w'))
    (H5 : Hid (∀ w, Calls Try.prog 71 #[.agg #[.int .i64 f, .int .i64 s]] w fun e w' => e = .returned (.string C) ∧ Below w.heap.size w w'))
    (w : World) : Calls Try.prog 32 #[.agg #[.int .u64 (i : Int), .bool false, .int .u32 (n : Int), .int .i64 f, .int .i64 s]] w fun e w' => e = strErr (encS V [A, M, L, C]) (argE V) ∧ Below w.heap.size w w' := by
  go_enter Try.func32, Try.ntmps32
  go_wp2_with fail
  have S := Cel5.new w (.int .u64 (i : Int)) (.bool false) (.int .u32 (n : Int)) (.int .i64 f) (.int .i64 s) 56
  have BB := below_box w (.cells #[.int .u64 (i : Int), .bool false, .int .u32 (n : Int), .int .i64 f, .int .i64 s] 56)
  refine (H1.out _).mono ?_
  rintro e w1 ⟨rfl, hb⟩
  replace S := S.below hb
  replace BB := below_to BB hb
  clear hb
  have c0 := S.c0
  have c1 := S.c1
  have c2 := S.c2
  have c3 := S.c3
  have c4 := S.c4
  go_upto_region 6 with (fail)
  clear c0 c1 c2 c3 c4
  replace S := Lib.hid S
  refine wp_region_inv0 (InvPV0 w1 w.heap.size i n f s V A M L C) (by kernel_rfl) (by decide) ?_ ?_ ?_
  · exact ⟨fun zz => cond (Nat.beq zz 17) (.int .i64 0) (cond (Nat.beq zz 16) (.string ⟨#[]⟩) (undef)), rfl, (Below.refl _ _).drew, Lib.hid (fun i _ h => by cases h), Lib.hid (fun h => by cases h)⟩
  · refine AllI.cons ?_ (AllI.cons ?_ (AllI.cons ?_ (AllI.cons ?_ (AllI.cons ?_ (AllI.cons ?_ (AllI.cons ?_ (AllI.cons ?_ (AllI.cons ?_ (AllI.cons ?_ (AllI.cons ?_ (AllI.cons ?_ (AllI.cons ?_ (AllI.cons ?_ (AllI.cons ?_ (AllI.cons ?_ (AllI.cons ?_ (AllI.cons ?_ AllI.nil)))))))))))))))))
    · intro D aa wx HI hD hdep KK hKK
      obtain ⟨zf, rfl, hB, HF, HX⟩ := HI
      simp only [Act.put, List.toList_toArray, List.take_succ_cons, List.take_zero, List.drop_succ_cons, List.drop_zero, List.cons_append, List.nil_append, List.setIfInBounds_toArray, List.set_cons_zero, List.set_cons_succ]
      go_simp
      exact hKK _ _ ⟨fun zz => cond (Nat.beq zz 0) (.bool V) (zf zz), rfl, hB, Lib.hid (upd_fact2 (i := 0) (v := .bool V) HF.out rfl), Lib.hid (fun h => (HX.out h))⟩
    · intro D aa wx HI hD hdep KK hKK
      obtain ⟨zf, rfl, hB, HF, HX⟩ := HI
      simp only [Act.put, List.toList_toArray, List.take_succ_cons, List.take_zero, List.drop_succ_cons, List.drop_zero, List.cons_append, List.nil_append, List.setIfInBounds_toArray, List.set_cons_zero, List.set_cons_succ]
      go_simp
      exact hKK _ _ ⟨fun zz => cond (Nat.beq zz 1) (.pointer (some ⟨w.heap.size, 0, none⟩)) (zf zz), rfl, hB, Lib.hid (upd_fact2 (i := 1) (v := .pointer (some ⟨w.heap.size, 0, none⟩)) HF.out rfl), Lib.hid (fun h => (HX.out h))⟩
    · intro D aa wx HI hD hdep KK hKK
      obtain ⟨zf, rfl, hB, HF, HX⟩ := HI
      simp [Region.binds] at hdep
      have E1 : zf 1 = .pointer (some ⟨w.heap.size, 0, none⟩) := HF.out 1 rfl (by simp [hdep])
      obtain ⟨c0, c1, c2, c3, c4⟩ := S.out.below hB
      simp only [E1, Act.put, List.toList_toArray, List.take_succ_cons, List.take_zero, List.drop_succ_cons, List.drop_zero, List.cons_append, List.nil_append, List.setIfInBounds_toArray, List.set_cons_zero, List.set_cons_succ]
      go_simp
      exact hKK _ _ ⟨fun zz => cond (Nat.beq zz 2) (.int .u64 (i : Int)) (cond (Nat.beq zz 1) (.pointer (some ⟨w.heap.size, 0, none⟩)) (zf zz)), rfl, hB, Lib.hid (upd_fact2 (i := 2) (v := .int .u64 (i : Int)) (cond_fact2 (j := 1) (v := .pointer (some ⟨w.heap.size, 0, none⟩)) HF.out rfl) rfl), Lib.hid (fun h => (HX.out h))⟩
    · intro D aa wx HI hD hdep KK hKK
      obtain ⟨zf, rfl, hB, HF, HX⟩ := HI
      simp [Region.binds] at hdep
      have E2 : zf 2 = .int .u64 (i : Int) := HF.out 2 rfl (by simp [hdep])
      simp only [E2, Act.put, List.toList_toArray, List.take_succ_cons, List.take_zero, List.drop_succ_cons, List.drop_zero, List.cons_append, List.nil_append, List.setIfInBounds_toArray, List.set_cons_zero, List.set_cons_succ]
      go_simp
      refine (H2.out _).mono ?_
      rintro e w5 ⟨rfl, hb⟩
      exact hKK _ _ ⟨fun zz => cond (Nat.beq zz 3) (.string A) (cond (Nat.beq zz 2) (.int .u64 (i : Int)) (zf zz)), rfl, below_to hB hb, Lib.hid (upd_fact2 (i := 3) (v := .string A) (cond_fact2 (j := 2) (v := .int .u64 (i : Int)) HF.out rfl) rfl), Lib.hid (fun h => (HX.out h).below hb)⟩
    · intro D aa wx HI hD hdep KK hKK
      obtain ⟨zf, rfl, hB, HF, HX⟩ := HI
      simp only [Act.put, List.toList_toArray, List.take_succ_cons, List.take_zero, List.drop_succ_cons, List.drop_zero, List.cons_append, List.nil_append, List.setIfInBounds_toArray, List.set_cons_zero, List.set_cons_succ]
      go_simp
      exact hKK _ _ ⟨fun zz => cond (Nat.beq zz 4) (.int .u64 0) (zf zz), rfl, hB, Lib.hid (upd_fact2 (i := 4) (v := .int .u64 0) HF.out rfl), Lib.hid (fun h => (HX.out h))⟩
    · intro D aa wx HI hD hdep KK hKK
      obtain ⟨zf, rfl, hB, HF, HX⟩ := HI
      simp [Region.binds] at hdep
      have E4 : zf 4 = .int .u64 0 := HF.out 4 rfl (by simp [hdep])
      simp only [E4, Act.put, List.toList_toArray, List.take_succ_cons, List.take_zero, List.drop_succ_cons, List.drop_zero, List.cons_append, List.nil_append, List.setIfInBounds_toArray, List.set_cons_zero, List.set_cons_succ]
      go_simp
      refine (H3.out _).mono ?_
      rintro e w5 ⟨rfl, hb⟩
      exact hKK _ _ ⟨fun zz => cond (Nat.beq zz 5) (.string M) (cond (Nat.beq zz 4) (.int .u64 0) (zf zz)), rfl, below_to hB hb, Lib.hid (upd_fact2 (i := 5) (v := .string M) (cond_fact2 (j := 4) (v := .int .u64 0) HF.out rfl) rfl), Lib.hid (fun h => (HX.out h).below hb)⟩
    · intro D aa wx HI hD hdep KK hKK
      obtain ⟨zf, rfl, hB, HF, HX⟩ := HI
      simp only [Act.put, List.toList_toArray, List.take_succ_cons, List.take_zero, List.drop_succ_cons, List.drop_zero, List.cons_append, List.nil_append, List.setIfInBounds_toArray, List.set_cons_zero, List.set_cons_succ]
      go_simp
      exact hKK _ _ ⟨fun zz => cond (Nat.beq zz 6) (.pointer (some ⟨w.heap.size, 2, none⟩)) (zf zz), rfl, hB, Lib.hid (upd_fact2 (i := 6) (v := .pointer (some ⟨w.heap.size, 2, none⟩)) HF.out rfl), Lib.hid (fun h => (HX.out h))⟩
    · intro D aa wx HI hD hdep KK hKK
      obtain ⟨zf, rfl, hB, HF, HX⟩ := HI
      simp [Region.binds] at hdep
      have E6 : zf 6 = .pointer (some ⟨w.heap.size, 2, none⟩) := HF.out 6 rfl (by simp [hdep])
      obtain ⟨c0, c1, c2, c3, c4⟩ := S.out.below hB
      simp only [E6, Act.put, List.toList_toArray, List.take_succ_cons, List.take_zero, List.drop_succ_cons, List.drop_zero, List.cons_append, List.nil_append, List.setIfInBounds_toArray, List.set_cons_zero, List.set_cons_succ]
      go_simp
      exact hKK _ _ ⟨fun zz => cond (Nat.beq zz 7) (.int .u32 (n : Int)) (cond (Nat.beq zz 6) (.pointer (some ⟨w.heap.size, 2, none⟩)) (zf zz)), rfl, hB, Lib.hid (upd_fact2 (i := 7) (v := .int .u32 (n : Int)) (cond_fact2 (j := 6) (v := .pointer (some ⟨w.heap.size, 2, none⟩)) HF.out rfl) rfl), Lib.hid (fun h => (HX.out h))⟩
    · intro D aa wx HI hD hdep KK hKK
      obtain ⟨zf, rfl, hB, HF, HX⟩ := HI
      simp [Region.binds] at hdep
      have E7 : zf 7 = .int .u32 (n : Int) := HF.out 7 rfl (by simp [hdep])
      simp only [E7, Act.put, List.toList_toArray, List.take_succ_cons, List.take_zero, List.drop_succ_cons, List.drop_zero, List.cons_append, List.nil_append, List.setIfInBounds_toArray, List.set_cons_zero, List.set_cons_succ]
      go_simp
      refine (H4.out _).mono ?_
      rintro e w5 ⟨rfl, hb⟩
      exact hKK _ _ ⟨fun zz => cond (Nat.beq zz 8) (.string L) (cond (Nat.beq zz 7) (.int .u32 (n : Int)) (zf zz)), rfl, below_to hB hb, Lib.hid (upd_fact2 (i := 8) (v := .string L) (cond_fact2 (j := 7) (v := .int .u32 (n : Int)) HF.out rfl) rfl), Lib.hid (fun h => (HX.out h).below hb)⟩
    · intro D aa wx HI hD hdep KK hKK
      obtain ⟨zf, rfl, hB, HF, HX⟩ := HI
      simp only [Act.put, List.toList_toArray, List.take_succ_cons, List.take_zero, List.drop_succ_cons, List.drop_zero, List.cons_append, List.nil_append, List.setIfInBounds_toArray, List.set_cons_zero, List.set_cons_succ]
      go_simp
      exact hKK _ _ ⟨fun zz => cond (Nat.beq zz 9) (.pointer (some ⟨w.heap.size, 3, none⟩)) (zf zz), rfl, hB, Lib.hid (upd_fact2 (i := 9) (v := .pointer (some ⟨w.heap.size, 3, none⟩)) HF.out rfl), Lib.hid (fun h => (HX.out h))⟩
    · intro D aa wx HI hD hdep KK hKK
      obtain ⟨zf, rfl, hB, HF, HX⟩ := HI
      simp [Region.binds] at hdep
      have E9 : zf 9 = .pointer (some ⟨w.heap.size, 3, none⟩) := HF.out 9 rfl (by simp [hdep])
      obtain ⟨c0, c1, c2, c3, c4⟩ := S.out.below hB
      simp only [E9, Act.put, List.toList_toArray, List.take_succ_cons, List.take_zero, List.drop_succ_cons, List.drop_zero, List.cons_append, List.nil_append, List.setIfInBounds_toArray, List.set_cons_zero, List.set_cons_succ]
      go_simp
      exact hKK _ _ ⟨fun zz => cond (Nat.beq zz 10) (.agg #[.int .i64 f, .int .i64 s]) (cond (Nat.beq zz 9) (.pointer (some ⟨w.heap.size, 3, none⟩)) (zf zz)), rfl, hB, Lib.hid (upd_fact2 (i := 10) (v := .agg #[.int .i64 f, .int .i64 s]) (cond_fact2 (j := 9) (v := .pointer (some ⟨w.heap.size, 3, none⟩)) HF.out rfl) rfl), Lib.hid (fun h => (HX.out h))⟩
    · intro D aa wx HI hD hdep KK hKK
      obtain ⟨zf, rfl, hB, HF, HX⟩ := HI
      simp [Region.binds] at hdep
      have E10 : zf 10 = .agg #[.int .i64 f, .int .i64 s] := HF.out 10 rfl (by simp [hdep])
      simp only [E10, Act.put, List.toList_toArray, List.take_succ_cons, List.take_zero, List.drop_succ_cons, List.drop_zero, List.cons_append, List.nil_append, List.setIfInBounds_toArray, List.set_cons_zero, List.set_cons_succ]
      go_simp
      refine (H5.out _).mono ?_
      rintro e w5 ⟨rfl, hb⟩
      exact hKK _ _ ⟨fun zz => cond (Nat.beq zz 11) (.string C) (cond (Nat.beq zz 10) (.agg #[.int .i64 f, .int .i64 s]) (zf zz)), rfl, below_to hB hb, Lib.hid (upd_fact2 (i := 11) (v := .string C) (cond_fact2 (j := 10) (v := .agg #[.int .i64 f, .int .i64 s]) HF.out rfl) rfl), Lib.hid (fun h => (HX.out h).below hb)⟩
    · intro D aa wx HI hD hdep KK hKK
      obtain ⟨zf, rfl, hB, HF, HX⟩ := HI
      simp [Region.binds] at hdep
      have E3 : zf 3 = .string A := HF.out 3 rfl (by simp [hdep])
      have E5 : zf 5 = .string M := HF.out 5 rfl (by simp [hdep])
      have E8 : zf 8 = .string L := HF.out 8 rfl (by simp [hdep])
      have E11 : zf 11 = .string C := HF.out 11 rfl (by simp [hdep])
      simp only [E3, E5, E8, E11, Act.put, List.toList_toArray, List.take_succ_cons, List.take_zero, List.drop_succ_cons, List.drop_zero, List.cons_append, List.nil_append, List.setIfInBounds_toArray, List.set_cons_zero, List.set_cons_succ]
      go_simp
      have hb := below_box wx (.cells #[.string A, .string M, .string L, .string C] 9)
      exact hKK _ _ ⟨fun zz => cond (Nat.beq zz 12) (.slice (some ⟨wx.heap.size, 0, none⟩) 4 4) (cond (Nat.beq zz 11) (.string C) (cond (Nat.beq zz 8) (.string L) (cond (Nat.beq zz 5) (.string M) (cond (Nat.beq zz 3) (.string A) (zf zz))))), rfl, below_to hB hb, Lib.hid (upd_row (cond_fact2 (j := 11) (v := .string C) (cond_fact2 (j := 8) (v := .string L) (cond_fact2 (j := 5) (v := .string M) (cond_fact2 (j := 3) (v := .string A) HF.out rfl) rfl) rfl) rfl)), Lib.hid (fun _ => RowP.new wx _ 9)⟩
    · intro D aa wx HI hD hdep KK hKK
      obtain ⟨zf, rfl, hB, HF, HX⟩ := HI
      simp [Region.binds] at hdep
      have E0 : zf 0 = .bool V := HF.out 0 rfl (by simp [hdep])
      obtain ⟨B, E12, HCB⟩ := HX.out (by simp [hdep])
      replace HCB := Lib.hid HCB
      simp only [E0, E12, Act.put, List.toList_toArray, List.take_succ_cons, List.take_zero, List.drop_succ_cons, List.drop_zero, List.cons_append, List.nil_append, List.setIfInBounds_toArray, List.set_cons_zero, List.set_cons_succ]
      go_simp
      refine (encoded_any V [A, M, L, C] B _ HCB.out (by simp) hl).mono ?_
      rintro e w5 ⟨rfl, hb⟩
      exact hKK _ _ ⟨fun zz => cond (Nat.beq zz 13) (.tuple #[.string (encS V [A, M, L, C]), .int .i64 (argE V)]) (cond (Nat.beq zz 12) (.slice (some ⟨B, 0, none⟩) 4 4) (cond (Nat.beq zz 0) (.bool V) (zf zz))), rfl, below_to hB hb, Lib.hid (upd_fact2 (i := 13) (v := .tuple #[.string (encS V [A, M, L, C]), .int .i64 (argE V)]) (cond_row (cond_fact2 (j := 0) (v := .bool V) HF.out rfl)) rfl), Lib.hid (fun _ => (RowP.at HCB.out).below hb)⟩
    · intro D aa wx HI hD hdep KK hKK
      obtain ⟨zf, rfl, hB, HF, HX⟩ := HI
      simp [Region.binds] at hdep
      have E13 : zf 13 = .tuple #[.string (encS V [A, M, L, C]), .int .i64 (argE V)] := HF.out 13 rfl (by simp [hdep])
      simp only [E13, Act.put, List.toList_toArray, List.take_succ_cons, List.take_zero, List.drop_succ_cons, List.drop_zero, List.cons_append, List.nil_append, List.setIfInBounds_toArray, List.set_cons_zero, List.set_cons_succ]
      go_simp
      exact hKK _ _ ⟨fun zz => cond (Nat.beq zz 14) (.string (encS V [A, M, L, C])) (cond (Nat.beq zz 13) (.tuple #[.string (encS V [A, M, L, C]), .int .i64 (argE V)]) (zf zz)), rfl, hB, Lib.hid (upd_fact2 (i := 14) (v := .string (encS V [A, M, L, C])) (cond_fact2 (j := 13) (v := .tuple #[.string (encS V [A, M, L, C]), .int .i64 (argE V)]) HF.out rfl) rfl), Lib.hid (fun h => (HX.out h))⟩
    · intro D aa wx HI hD hdep KK hKK
      obtain ⟨zf, rfl, hB, HF, HX⟩ := HI
      simp [Region.binds] at hdep
      have E13 : zf 13 = .tuple #[.string (encS V [A, M, L, C]), .int .i64 (argE V)] := HF.out 13 rfl (by simp [hdep])
      simp only [E13, Act.put, List.toList_toArray, List.take_succ_cons, List.take_zero, List.drop_succ_cons, List.drop_zero, List.cons_append, List.nil_append, List.setIfInBounds_toArray, List.set_cons_zero, List.set_cons_succ]
      go_simp
      exact hKK _ _ ⟨fun zz => cond (Nat.beq zz 15) (.int .i64 (argE V)) (cond (Nat.beq zz 13) (.tuple #[.string (encS V [A, M, L, C]), .int .i64 (argE V)]) (zf zz)), rfl, hB, Lib.hid (upd_fact2 (i := 15) (v := .int .i64 (argE V)) (cond_fact2 (j := 13) (v := .tuple #[.string (encS V [A, M, L, C]), .int .i64 (argE V)]) HF.out rfl) rfl), Lib.hid (fun h => (HX.out h))⟩
    · intro D aa wx HI hD hdep KK hKK
      obtain ⟨zf, rfl, hB, HF, HX⟩ := HI
      simp [Region.binds] at hdep
      have E14 : zf 14 = .string (encS V [A, M, L, C]) := HF.out 14 rfl (by simp [hdep])
      simp only [E14, Act.put, List.toList_toArray, List.take_succ_cons, List.take_zero, List.drop_succ_cons, List.drop_zero, List.cons_append, List.nil_append, List.setIfInBounds_toArray, List.set_cons_zero, List.set_cons_succ]
      go_simp
      exact hKK _ _ ⟨fun zz => cond (Nat.beq zz 16) (.string (encS V [A, M, L, C])) (cond (Nat.beq zz 14) (.string (encS V [A, M, L, C])) (zf zz)), rfl, hB, Lib.hid (upd_fact2 (i := 16) (v := .string (encS V [A, M, L, C])) (cond_fact2 (j := 14) (v := .string (encS V [A, M, L, C])) HF.out rfl) rfl), Lib.hid (fun h => (HX.out h))⟩
    · intro D aa wx HI hD hdep KK hKK
      obtain ⟨zf, rfl, hB, HF, HX⟩ := HI
      simp [Region.binds] at hdep
      have E15 : zf 15 = .int .i64 (argE V) := HF.out 15 rfl (by simp [hdep])
      simp only [E15, Act.put, List.toList_toArray, List.take_succ_cons, List.take_zero, List.drop_succ_cons, List.drop_zero, List.cons_append, List.nil_append, List.setIfInBounds_toArray, List.set_cons_zero, List.set_cons_succ]
      go_simp
      exact hKK _ _ ⟨fun zz => cond (Nat.beq zz 17) (.int .i64 (argE V)) (cond (Nat.beq zz 15) (.int .i64 (argE V)) (zf zz)), rfl, hB, Lib.hid (upd_fact2 (i := 17) (v := .int .i64 (argE V)) (cond_fact2 (j := 15) (v := .int .i64 (argE V)) HF.out rfl) rfl), Lib.hid (fun h => (HX.out h))⟩
  intro D aa w7 HI hD
  obtain ⟨zf, rfl, hB, HF, HX⟩ := HI
  have e169 : zf 16 = .string (encS V [A, M, L, C]) := HF.out 16 rfl (hD 16 (by simp))
  have e179 : zf 17 = .int .i64 (argE V) := HF.out 17 rfl (hD 17 (by simp))
  simp only [e169, e179, Act.put, List.toList_toArray, List.take_succ_cons, List.take_zero, List.drop_succ_cons, List.drop_zero, List.cons_append, List.nil_append]
  clear HF HX hD
  go_wp2_with fail
  go_ret2
  exact ⟨rfl, below_to BB hB⟩
def InvPV1_v (g : Nat) (i : Nat) (n : Nat) (f : Int) (s : Int) (V : Bool) (A : ByteArray) (M : ByteArray) (L : ByteArray) (C : ByteArray) (zi : Nat) : Value := ([.bool V, .pointer (some ⟨g, 0, none⟩), .int .u64 (i : Int), .string A, .int .u64 1, .string M, .pointer (some ⟨g, 2, none⟩), .int .u32 (n : Int), .string L, .pointer (some ⟨g, 3, none⟩), .agg #[.int .i64 f, .int .i64 s], .string C, undef, .tuple #[.string (encS V [A, M, L, C]), .int .i64 (argE V)], .string (encS V [A, M, L, C]), .int .i64 (argE V), .string (encS V [A, M, L, C]), .int .i64 (argE V)] : List Value).getD zi undef
def InvPV1 (W1 : World) (g : Nat) (i : Nat) (n : Nat) (f : Int) (s : Int) (V : Bool) (A : ByteArray) (M : ByteArray) (L : ByteArray) (C : ByteArray) (a0 : Act) (D : Nat → Bool) (act : Act) (w : World) : Prop :=
  ∃ zf : Nat → Value, act = ⟨(a0.tmps.toList.take 2 ++ zf 16 :: zf 17 :: ((a0.tmps.toList.drop 4).take 16 ++ zf 0 :: zf 1 :: zf 2 :: zf 3 :: zf 4 :: zf 5 :: zf 6 :: zf 7 :: zf 8 :: zf 9 :: zf 10 :: zf 11 :: zf 12 :: zf 13 :: zf 14 :: zf 15 :: a0.tmps.toList.drop 36)).toArray, []⟩ ∧ Below W1.heap.size W1 w ∧ Hid (∀ zi, Nat.beq zi 12 = false → D zi = true → zf zi = InvPV1_v g i n f s V A M L C zi) ∧ Hid (D 12 = true → RowP [A, M, L, C] w (zf 12))
theorem putVersion1 (i n : Nat) (f s : Int) (V0 : Bool) (V : Bool) (qn qb : Bool) (hqn : ((n : Int) == 0) = qn) (hqb : ∀ w, (binOp .eql 54 (.agg #[.int .i64 f, .int .i64 s]) (.agg #[.int .i64 0, .int .i64 0])).run Try.prog w = .ok (.bool qb) w) (hV : (qn && qb) = V) (A M L C : ByteArray) (hl : (joinB [A, M, L, C]).size ≤ 100000)
    (H1 : Hid (∀ w, Calls Try.prog 69 #[.agg #[.int .i64 f, .int .i64 s]] w fun e w' => e = .returned (.bool V0) ∧ Below w.heap.size w w'))
    (H2 : Hid (∀ w, Calls Try.prog 50 #[.int .i64 8, .int .u64 (i : Int)] w fun e w' => e = .returned (.string A) ∧ Below w.heap.size w w'))
    (H3 : Hid (∀ w, Calls Try.prog 50 #[.int .i64 1, .int .u64 1] w fun e w' => e = .returned (.string M) ∧ Below w.heap.size w w'))
    (H4 : Hid (∀ w, Calls Try.prog 70 #[.int .u32 (n : Int)] w fun e w' => e = .returned (.string L) ∧ Below w.heap.size w w'))
    (H5 : Hid (∀ w, Calls Try.prog 71 #[.agg #[.int .i64 f, .int .i64 s]] w fun e w' => e = .returned (.string C) ∧ Below w.heap.size w w'))
    (w : World) : Calls Try.prog 32 #[.agg #[.int .u64 (i : Int), .bool true, .int .u32 (n : Int), .int .i64 f, .int .i64 s]] w fun e w' => e = strErr (encS V [A, M, L, C]) (argE V) ∧ Below w.heap.size w w' := by
  subst hV
  cases qn with
  | false =>
    cases qb with
    | false =>
      show Calls _ _ _ _ fun e w' => e = strErr (encS false [A, M, L, C]) (argE false) ∧ Below w.heap.size w w'
      go_enter Try.func32, Try.ntmps32
      go_wp2_with fail
      have S := Cel5.new w (.int .u64 (i : Int)) (.bool true) (.int .u32 (n : Int)) (.int .i64 f) (.int .i64 s) 56
      have BB := below_box w (.cells #[.int .u64 (i : Int), .bool true, .int .u32 (n : Int), .int .i64 f, .int .i64 s] 56)
      refine (H1.out _).mono ?_
      rintro e w1 ⟨rfl, hb⟩
      replace S := S.below hb
      replace BB := below_to BB hb
      clear hb
      have c0 := S.c0
      have c1 := S.c1
      have c2 := S.c2
      have c3 := S.c3
      have c4 := S.c4
      go_upto_region 6 with (fail)
      clear c0 c1 c2 c3 c4
      replace S := Lib.hid S
      refine wp_region_inv0 (InvPV1 w1 w.heap.size i n f s false A M L C) (by kernel_rfl) (by decide) ?_ ?_ ?_
      · exact ⟨fun zz => cond (Nat.beq zz 17) (.int .i64 0) (cond (Nat.beq zz 16) (.string ⟨#[]⟩) (undef)), rfl, (Below.refl _ _).drew, Lib.hid (fun i _ h => by cases h), Lib.hid (fun h => by cases h)⟩
      · refine AllI.cons ?_ (AllI.cons ?_ (AllI.cons ?_ (AllI.cons ?_ (AllI.cons ?_ (AllI.cons ?_ (AllI.cons ?_ (AllI.cons ?_ (AllI.cons ?_ (AllI.cons ?_ (AllI.cons ?_ (AllI.cons ?_ (AllI.cons ?_ (AllI.cons ?_ (AllI.cons ?_ (AllI.cons ?_ (AllI.cons ?_ (AllI.cons ?_ AllI.nil)))))))))))))))))
        · intro D aa wx HI hD hdep KK hKK
          obtain ⟨zf, rfl, hB, HF, HX⟩ := HI
          simp only [Act.put, List.toList_toArray, List.take_succ_cons, List.take_zero, List.drop_succ_cons, List.drop_zero, List.cons_append, List.nil_append, List.setIfInBounds_toArray, List.set_cons_zero, List.set_cons_succ]
          go_simp
          exact hKK _ _ ⟨fun zz => cond (Nat.beq zz 0) (.bool false) (zf zz), rfl, hB, Lib.hid (upd_fact2 (i := 0) (v := .bool false) HF.out rfl), Lib.hid (fun h => (HX.out h))⟩
        · intro D aa wx HI hD hdep KK hKK
          obtain ⟨zf, rfl, hB, HF, HX⟩ := HI
          simp only [Act.put, List.toList_toArray, List.take_succ_cons, List.take_zero, List.drop_succ_cons, List.drop_zero, List.cons_append, List.nil_append, List.setIfInBounds_toArray, List.set_cons_zero, List.set_cons_succ]
          go_simp
          exact hKK _ _ ⟨fun zz => cond (Nat.beq zz 1) (.pointer (some ⟨w.heap.size, 0, none⟩)) (zf zz), rfl, hB, Lib.hid (upd_fact2 (i := 1) (v := .pointer (some ⟨w.heap.size, 0, none⟩)) HF.out rfl), Lib.hid (fun h => (HX.out h))⟩
        · intro D aa wx HI hD hdep KK hKK
          obtain ⟨zf, rfl, hB, HF, HX⟩ := HI
          simp [Region.binds] at hdep
          have E1 : zf 1 = .pointer (some ⟨w.heap.size, 0, none⟩) := HF.out 1 rfl (by simp [hdep])
          obtain ⟨c0, c1, c2, c3, c4⟩ := S.out.below hB
          simp only [E1, Act.put, List.toList_toArray, List.take_succ_cons, List.take_zero, List.drop_succ_cons, List.drop_zero, List.cons_append, List.nil_append, List.setIfInBounds_toArray, List.set_cons_zero, List.set_cons_succ]
          go_simp
          exact hKK _ _ ⟨fun zz => cond (Nat.beq zz 2) (.int .u64 (i : Int)) (cond (Nat.beq zz 1) (.pointer (some ⟨w.heap.size, 0, none⟩)) (zf zz)), rfl, hB, Lib.hid (upd_fact2 (i := 2) (v := .int .u64 (i : Int)) (cond_fact2 (j := 1) (v := .pointer (some ⟨w.heap.size, 0, none⟩)) HF.out rfl) rfl), Lib.hid (fun h => (HX.out h))⟩
        · intro D aa wx HI hD hdep KK hKK
          obtain ⟨zf, rfl, hB, HF, HX⟩ := HI
          simp [Region.binds] at hdep
          have E2 : zf 2 = .int .u64 (i : Int) := HF.out 2 rfl (by simp [hdep])
          simp only [E2, Act.put, List.toList_toArray, List.take_succ_cons, List.take_zero, List.drop_succ_cons, List.drop_zero, List.cons_append, List.nil_append, List.setIfInBounds_toArray, List.set_cons_zero, List.set_cons_succ]
          go_simp
          refine (H2.out _).mono ?_
          rintro e w5 ⟨rfl, hb⟩
          exact hKK _ _ ⟨fun zz => cond (Nat.beq zz 3) (.string A) (cond (Nat.beq zz 2) (.int .u64 (i : Int)) (zf zz)), rfl, below_to hB hb, Lib.hid (upd_fact2 (i := 3) (v := .string A) (cond_fact2 (j := 2) (v := .int .u64 (i : Int)) HF.out rfl) rfl), Lib.hid (fun h => (HX.out h).below hb)⟩
        · intro D aa wx HI hD hdep KK hKK
          obtain ⟨zf, rfl, hB, HF, HX⟩ := HI
          simp only [Act.put, List.toList_toArray, List.take_succ_cons, List.take_zero, List.drop_succ_cons, List.drop_zero, List.cons_append, List.nil_append, List.setIfInBounds_toArray, List.set_cons_zero, List.set_cons_succ]
          go_simp
          exact hKK _ _ ⟨fun zz => cond (Nat.beq zz 4) (.int .u64 1) (zf zz), rfl, hB, Lib.hid (upd_fact2 (i := 4) (v := .int .u64 1) HF.out rfl), Lib.hid (fun h => (HX.out h))⟩
        · intro D aa wx HI hD hdep KK hKK
          obtain ⟨zf, rfl, hB, HF, HX⟩ := HI
          simp [Region.binds] at hdep
          have E4 : zf 4 = .int .u64 1 := HF.out 4 rfl (by simp [hdep])
          simp only [E4, Act.put, List.toList_toArray, List.take_succ_cons, List.take_zero, List.drop_succ_cons, List.drop_zero, List.cons_append, List.nil_append, List.setIfInBounds_toArray, List.set_cons_zero, List.set_cons_succ]
          go_simp
          refine (H3.out _).mono ?_
          rintro e w5 ⟨rfl, hb⟩
          exact hKK _ _ ⟨fun zz => cond (Nat.beq zz 5) (.string M) (cond (Nat.beq zz 4) (.int .u64 1) (zf zz)), rfl, below_to hB hb, Lib.hid (upd_fact2 (i := 5) (v := .string M) (cond_fact2 (j := 4) (v := .int .u64 1) HF.out rfl) rfl), Lib.hid (fun h => (HX.out h).below hb)⟩
        · intro D aa wx HI hD hdep KK hKK
          obtain ⟨zf, rfl, hB, HF, HX⟩ := HI
          simp only [Act.put, List.toList_toArray, List.take_succ_cons, List.take_zero, List.drop_succ_cons, List.drop_zero, List.cons_append, List.nil_append, List.setIfInBounds_toArray, List.set_cons_zero, List.set_cons_succ]
          go_simp
          exact hKK _ _ ⟨fun zz => cond (Nat.beq zz 6) (.pointer (some ⟨w.heap.size, 2, none⟩)) (zf zz), rfl, hB, Lib.hid (upd_fact2 (i := 6) (v := .pointer (some ⟨w.heap.size, 2, none⟩)) HF.out rfl), Lib.hid (fun h => (HX.out h))⟩
        · intro D aa wx HI hD hdep KK hKK
          obtain ⟨zf, rfl, hB, HF, HX⟩ := HI
          simp [Region.binds] at hdep
          have E6 : zf 6 = .pointer (some ⟨w.heap.size, 2, none⟩) := HF.out 6 rfl (by simp [hdep])
          obtain ⟨c0, c1, c2, c3, c4⟩ := S.out.below hB
          simp only [E6, Act.put, List.toList_toArray, List.take_succ_cons, List.take_zero, List.drop_succ_cons, List.drop_zero, List.cons_append, List.nil_append, List.setIfInBounds_toArray, List.set_cons_zero, List.set_cons_succ]
          go_simp
          exact hKK _ _ ⟨fun zz => cond (Nat.beq zz 7) (.int .u32 (n : Int)) (cond (Nat.beq zz 6) (.pointer (some ⟨w.heap.size, 2, none⟩)) (zf zz)), rfl, hB, Lib.hid (upd_fact2 (i := 7) (v := .int .u32 (n : Int)) (cond_fact2 (j := 6) (v := .pointer (some ⟨w.heap.size, 2, none⟩)) HF.out rfl) rfl), Lib.hid (fun h => (HX.out h))⟩
        · intro D aa wx HI hD hdep KK hKK
          obtain ⟨zf, rfl, hB, HF, HX⟩ := HI
          simp [Region.binds] at hdep
          have E7 : zf 7 = .int .u32 (n : Int) := HF.out 7 rfl (by simp [hdep])
          simp only [E7, Act.put, List.toList_toArray, List.take_succ_cons, List.take_zero, List.drop_succ_cons, List.drop_zero, List.cons_append, List.nil_append, List.setIfInBounds_toArray, List.set_cons_zero, List.set_cons_succ]
          go_simp
          refine (H4.out _).mono ?_
          rintro e w5 ⟨rfl, hb⟩
          exact hKK _ _ ⟨fun zz => cond (Nat.beq zz 8) (.string L) (cond (Nat.beq zz 7) (.int .u32 (n : Int)) (zf zz)), rfl, below_to hB hb, Lib.hid (upd_fact2 (i := 8) (v := .string L) (cond_fact2 (j := 7) (v := .int .u32 (n : Int)) HF.out rfl) rfl), Lib.hid (fun h => (HX.out h).below hb)⟩
        · intro D aa wx HI hD hdep KK hKK
          obtain ⟨zf, rfl, hB, HF, HX⟩ := HI
          simp only [Act.put, List.toList_toArray, List.take_succ_cons, List.take_zero, List.drop_succ_cons, List.drop_zero, List.cons_append, List.nil_append, List.setIfInBounds_toArray, List.set_cons_zero, List.set_cons_succ]
          go_simp
          exact hKK _ _ ⟨fun zz => cond (Nat.beq zz 9) (.pointer (some ⟨w.heap.size, 3, none⟩)) (zf zz), rfl, hB, Lib.hid (upd_fact2 (i := 9) (v := .pointer (some ⟨w.heap.size, 3, none⟩)) HF.out rfl), Lib.hid (fun h => (HX.out h))⟩
        · intro D aa wx HI hD hdep KK hKK
          obtain ⟨zf, rfl, hB, HF, HX⟩ := HI
          simp [Region.binds] at hdep
          have E9 : zf 9 = .pointer (some ⟨w.heap.size, 3, none⟩) := HF.out 9 rfl (by simp [hdep])
          obtain ⟨c0, c1, c2, c3, c4⟩ := S.out.below hB
          simp only [E9, Act.put, List.toList_toArray, List.take_succ_cons, List.take_zero, List.drop_succ_cons, List.drop_zero, List.cons_append, List.nil_append, List.setIfInBounds_toArray, List.set_cons_zero, List.set_cons_succ]
          go_simp
          exact hKK _ _ ⟨fun zz => cond (Nat.beq zz 10) (.agg #[.int .i64 f, .int .i64 s]) (cond (Nat.beq zz 9) (.pointer (some ⟨w.heap.size, 3, none⟩)) (zf zz)), rfl, hB, Lib.hid (upd_fact2 (i := 10) (v := .agg #[.int .i64 f, .int .i64 s]) (cond_fact2 (j := 9) (v := .pointer (some ⟨w.heap.size, 3, none⟩)) HF.out rfl) rfl), Lib.hid (fun h => (HX.out h))⟩
        · intro D aa wx HI hD hdep KK hKK
          obtain ⟨zf, rfl, hB, HF, HX⟩ := HI
          simp [Region.binds] at hdep
          have E10 : zf 10 = .agg #[.int .i64 f, .int .i64 s] := HF.out 10 rfl (by simp [hdep])
          simp only [E10, Act.put, List.toList_toArray, List.take_succ_cons, List.take_zero, List.drop_succ_cons, List.drop_zero, List.cons_append, List.nil_append, List.setIfInBounds_toArray, List.set_cons_zero, List.set_cons_succ]
          go_simp
          refine (H5.out _).mono ?_
          rintro e w5 ⟨rfl, hb⟩
          exact hKK _ _ ⟨fun zz => cond (Nat.beq zz 11) (.string C) (cond (Nat.beq zz 10) (.agg #[.int .i64 f, .int .i64 s]) (zf zz)), rfl, below_to hB hb, Lib.hid (upd_fact2 (i := 11) (v := .string C) (cond_fact2 (j := 10) (v := .agg #[.int .i64 f, .int .i64 s]) HF.out rfl) rfl), Lib.hid (fun h => (HX.out h).below hb)⟩
        · intro D aa wx HI hD hdep KK hKK
          obtain ⟨zf, rfl, hB, HF, HX⟩ := HI
          simp [Region.binds] at hdep
          have E3 : zf 3 = .string A := HF.out 3 rfl (by simp [hdep])
          have E5 : zf 5 = .string M := HF.out 5 rfl (by simp [hdep])
          have E8 : zf 8 = .string L := HF.out 8 rfl (by simp [hdep])
          have E11 : zf 11 = .string C := HF.out 11 rfl (by simp [hdep])
          simp only [E3, E5, E8, E11, Act.put, List.toList_toArray, List.take_succ_cons, List.take_zero, List.drop_succ_cons, List.drop_zero, List.cons_append, List.nil_append, List.setIfInBounds_toArray, List.set_cons_zero, List.set_cons_succ]
          go_simp
          have hb := below_box wx (.cells #[.string A, .string M, .string L, .string C] 9)
          exact hKK _ _ ⟨fun zz => cond (Nat.beq zz 12) (.slice (some ⟨wx.heap.size, 0, none⟩) 4 4) (cond (Nat.beq zz 11) (.string C) (cond (Nat.beq zz 8) (.string L) (cond (Nat.beq zz 5) (.string M) (cond (Nat.beq zz 3) (.string A) (zf zz))))), rfl, below_to hB hb, Lib.hid (upd_row (cond_fact2 (j := 11) (v := .string C) (cond_fact2 (j := 8) (v := .string L) (cond_fact2 (j := 5) (v := .string M) (cond_fact2 (j := 3) (v := .string A) HF.out rfl) rfl) rfl) rfl)), Lib.hid (fun _ => RowP.new wx _ 9)⟩
        · intro D aa wx HI hD hdep KK hKK
          obtain ⟨zf, rfl, hB, HF, HX⟩ := HI
          simp [Region.binds] at hdep
          have E0 : zf 0 = .bool false := HF.out 0 rfl (by simp [hdep])
          obtain ⟨B, E12, HCB⟩ := HX.out (by simp [hdep])
          replace HCB := Lib.hid HCB
          simp only [E0, E12, Act.put, List.toList_toArray, List.take_succ_cons, List.take_zero, List.drop_succ_cons, List.drop_zero, List.cons_append, List.nil_append, List.setIfInBounds_toArray, List.set_cons_zero, List.set_cons_succ]
          go_simp
          refine (encoded_any false [A, M, L, C] B _ HCB.out (by simp) hl).mono ?_
          rintro e w5 ⟨rfl, hb⟩
          exact hKK _ _ ⟨fun zz => cond (Nat.beq zz 13) (.tuple #[.string (encS false [A, M, L, C]), .int .i64 (argE false)]) (cond (Nat.beq zz 12) (.slice (some ⟨B, 0, none⟩) 4 4) (cond (Nat.beq zz 0) (.bool false) (zf zz))), rfl, below_to hB hb, Lib.hid (upd_fact2 (i := 13) (v := .tuple #[.string (encS false [A, M, L, C]), .int .i64 (argE false)]) (cond_row (cond_fact2 (j := 0) (v := .bool false) HF.out rfl)) rfl), Lib.hid (fun _ => (RowP.at HCB.out).below hb)⟩
        · intro D aa wx HI hD hdep KK hKK
          obtain ⟨zf, rfl, hB, HF, HX⟩ := HI
          simp [Region.binds] at hdep
          have E13 : zf 13 = .tuple #[.string (encS false [A, M, L, C]), .int .i64 (argE false)] := HF.out 13 rfl (by simp [hdep])
          simp only [E13, Act.put, List.toList_toArray, List.take_succ_cons, List.take_zero, List.drop_succ_cons, List.drop_zero, List.cons_append, List.nil_append, List.setIfInBounds_toArray, List.set_cons_zero, List.set_cons_succ]
          go_simp
          exact hKK _ _ ⟨fun zz => cond (Nat.beq zz 14) (.string (encS false [A, M, L, C])) (cond (Nat.beq zz 13) (.tuple #[.string (encS false [A, M, L, C]), .int .i64 (argE false)]) (zf zz)), rfl, hB, Lib.hid (upd_fact2 (i := 14) (v := .string (encS false [A, M, L, C])) (cond_fact2 (j := 13) (v := .tuple #[.string (encS false [A, M, L, C]), .int .i64 (argE false)]) HF.out rfl) rfl), Lib.hid (fun h => (HX.out h))⟩
        · intro D aa wx HI hD hdep KK hKK
          obtain ⟨zf, rfl, hB, HF, HX⟩ := HI
          simp [Region.binds] at hdep
          have E13 : zf 13 = .tuple #[.string (encS false [A, M, L, C]), .int .i64 (argE false)] := HF.out 13 rfl (by simp [hdep])
          simp only [E13, Act.put, List.toList_toArray, List.take_succ_cons, List.take_zero, List.drop_succ_cons, List.drop_zero, List.cons_append, List.nil_append, List.setIfInBounds_toArray, List.set_cons_zero, List.set_cons_succ]
          go_simp
          exact hKK _ _ ⟨fun zz => cond (Nat.beq zz 15) (.int .i64 (argE false)) (cond (Nat.beq zz 13) (.tuple #[.string (encS false [A, M, L, C]), .int .i64 (argE false)]) (zf zz)), rfl, hB, Lib.hid (upd_fact2 (i := 15) (v := .int .i64 (argE false)) (cond_fact2 (j := 13) (v := .tuple #[.string (encS false [A, M, L, C]), .int .i64 (argE false)]) HF.out rfl) rfl), Lib.hid (fun h => (HX.out h))⟩
        · intro D aa wx HI hD hdep KK hKK
          obtain ⟨zf, rfl, hB, HF, HX⟩ := HI
          simp [Region.binds] at hdep
          have E14 : zf 14 = .string (encS false [A, M, L, C]) := HF.out 14 rfl (by simp [hdep])
          simp only [E14, Act.put, List.toList_toArray, List.take_succ_cons, List.take_zero, List.drop_succ_cons, List.drop_zero, List.cons_append, List.nil_append, List.setIfInBounds_toArray, List.set_cons_zero, List.set_cons_succ]
          go_simp
          exact hKK _ _ ⟨fun zz => cond (Nat.beq zz 16) (.string (encS false [A, M, L, C])) (cond (Nat.beq zz 14) (.string (encS false [A, M, L, C])) (zf zz)), rfl, hB, Lib.hid (upd_fact2 (i := 16) (v := .string (encS false [A, M, L, C])) (cond_fact2 (j := 14) (v := .string (encS false [A, M, L, C])) HF.out rfl) rfl), Lib.hid (fun h => (HX.out h))⟩
        · intro D aa wx HI hD hdep KK hKK
          obtain ⟨zf, rfl, hB, HF, HX⟩ := HI
          simp [Region.binds] at hdep
          have E15 : zf 15 = .int .i64 (argE false) := HF.out 15 rfl (by simp [hdep])
          simp only [E15, Act.put, List.toList_toArray, List.take_succ_cons, List.take_zero, List.drop_succ_cons, List.drop_zero, List.cons_append, List.nil_append, List.setIfInBounds_toArray, List.set_cons_zero, List.set_cons_succ]
          go_simp
          exact hKK _ _ ⟨fun zz => cond (Nat.beq zz 17) (.int .i64 (argE false)) (cond (Nat.beq zz 15) (.int .i64 (argE false)) (zf zz)), rfl, hB, Lib.hid (upd_fact2 (i := 17) (v := .int .i64 (argE false)) (cond_fact2 (j := 15) (v := .int .i64 (argE false)) HF.out rfl) rfl), Lib.hid (fun h => (HX.out h))⟩
      intro D aa w7 HI hD
      obtain ⟨zf, rfl, hB, HF, HX⟩ := HI
      have e169 : zf 16 = .string (encS false [A, M, L, C]) := HF.out 16 rfl (hD 16 (by simp))
      have e179 : zf 17 = .int .i64 (argE false) := HF.out 17 rfl (hD 17 (by simp))
      simp only [e169, e179, Act.put, List.toList_toArray, List.take_succ_cons, List.take_zero, List.drop_succ_cons, List.drop_zero, List.cons_append, List.nil_append]
      clear HF HX hD
      go_wp2_with fail
      go_ret2
      exact ⟨rfl, below_to BB hB⟩
    | true =>
      show Calls _ _ _ _ fun e w' => e = strErr (encS false [A, M, L, C]) (argE false) ∧ Below w.heap.size w w'
      go_enter Try.func32, Try.ntmps32
      go_wp2_with fail
      have S := Cel5.new w (.int .u64 (i : Int)) (.bool true) (.int .u32 (n : Int)) (.int .i64 f) (.int .i64 s) 56
      have BB := below_box w (.cells #[.int .u64 (i : Int), .bool true, .int .u32 (n : Int), .int .i64 f, .int .i64 s] 56)
      refine (H1.out _).mono ?_
      rintro e w1 ⟨rfl, hb⟩
      replace S := S.below hb
      replace BB := below_to BB hb
      clear hb
      have c0 := S.c0
      have c1 := S.c1
      have c2 := S.c2
      have c3 := S.c3
      have c4 := S.c4
      go_upto_region 6 with (fail)
      clear c0 c1 c2 c3 c4
      replace S := Lib.hid S
      refine wp_region_inv0 (InvPV1 w1 w.heap.size i n f s false A M L C) (by kernel_rfl) (by decide) ?_ ?_ ?_
      · exact ⟨fun zz => cond (Nat.beq zz 17) (.int .i64 0) (cond (Nat.beq zz 16) (.string ⟨#[]⟩) (undef)), rfl, (Below.refl _ _).drew, Lib.hid (fun i _ h => by cases h), Lib.hid (fun h => by cases h)⟩
      · refine AllI.cons ?_ (AllI.cons ?_ (AllI.cons ?_ (AllI.cons ?_ (AllI.cons ?_ (AllI.cons ?_ (AllI.cons ?_ (AllI.cons ?_ (AllI.cons ?_ (AllI.cons ?_ (AllI.cons ?_ (AllI.cons ?_ (AllI.cons ?_ (AllI.cons ?_ (AllI.cons ?_ (AllI.cons ?_ (AllI.cons ?_ (AllI.cons ?_ AllI.nil)))))))))))))))))
        · intro D aa wx HI hD hdep KK hKK
          obtain ⟨zf, rfl, hB, HF, HX⟩ := HI
          simp only [Act.put, List.toList_toArray, List.take_succ_cons, List.take_zero, List.drop_succ_cons, List.drop_zero, List.cons_append, List.nil_append, List.setIfInBounds_toArray, List.set_cons_zero, List.set_cons_succ]
          go_simp
          exact hKK _ _ ⟨fun zz => cond (Nat.beq zz 0) (.bool false) (zf zz), rfl, hB, Lib.hid (upd_fact2 (i := 0) (v := .bool false) HF.out rfl), Lib.hid (fun h => (HX.out h))⟩
        · intro D aa wx HI hD hdep KK hKK
          obtain ⟨zf, rfl, hB, HF, HX⟩ := HI
          simp only [Act.put, List.toList_toArray, List.take_succ_cons, List.take_zero, List.drop_succ_cons, List.drop_zero, List.cons_append, List.nil_append, List.setIfInBounds_toArray, List.set_cons_zero, List.set_cons_succ]
          go_simp
          exact hKK _ _ ⟨fun zz => cond (Nat.beq zz 1) (.pointer (some ⟨w.heap.size, 0, none⟩)) (zf zz), rfl, hB, Lib.hid (upd_fact2 (i := 1) (v := .pointer (some ⟨w.heap.size, 0, none⟩)) HF.out rfl), Lib.hid (fun h => (HX.out h))⟩
        · intro D aa wx HI hD hdep KK hKK
          obtain ⟨zf, rfl, hB, HF, HX⟩ := HI
          simp [Region.binds] at hdep
          have E1 : zf 1 = .pointer (some ⟨w.heap.size, 0, none⟩) := HF.out 1 rfl (by simp [hdep])
          obtain ⟨c0, c1, c2, c3, c4⟩ := S.out.below hB
          simp only [E1, Act.put, List.toList_toArray, List.take_succ_cons, List.take_zero, List.drop_succ_cons, List.drop_zero, List.cons_append, List.nil_append, List.setIfInBounds_toArray, List.set_cons_zero, List.set_cons_succ]
          go_simp
          exact hKK _ _ ⟨fun zz => cond (Nat.beq zz 2) (.int .u64 (i : Int)) (cond (Nat.beq zz 1) (.pointer (some ⟨w.heap.size, 0, none⟩)) (zf zz)), rfl, hB, Lib.hid (upd_fact2 (i := 2) (v := .int .u64 (i : Int)) (cond_fact2 (j := 1) (v := .pointer (some ⟨w.heap.size, 0, none⟩)) HF.out rfl) rfl), Lib.hid (fun h => (HX.out h))⟩
        · intro D aa wx HI hD hdep KK hKK
          obtain ⟨zf, rfl, hB, HF, HX⟩ := HI
          simp [Region.binds] at hdep
          have E2 : zf 2 = .int .u64 (i : Int) := HF.out 2 rfl (by simp [hdep])
          simp only [E2, Act.put, List.toList_toArray, List.take_succ_cons, List.take_zero, List.drop_succ_cons, List.drop_zero, List.cons_append, List.nil_append, List.setIfInBounds_toArray, List.set_cons_zero, List.set_cons_succ]
          go_simp
          refine (H2.out _).mono ?_
          rintro e w5 ⟨rfl, hb⟩
          exact hKK _ _ ⟨fun zz => cond (Nat.beq zz 3) (.string A) (cond (Nat.beq zz 2) (.int .u64 (i : Int)) (zf zz)), rfl, below_to hB hb, Lib.hid (upd_fact2 (i := 3) (v := .string A) (cond_fact2 (j := 2) (v := .int .u64 (i : Int)) HF.out rfl) rfl), Lib.hid (fun h => (HX.out h).below hb)⟩
        · intro D aa wx HI hD hdep KK hKK
          obtain ⟨zf, rfl, hB, HF, HX⟩ := HI
          simp only [Act.put, List.toList_toArray, List.take_succ_cons, List.take_zero, List.drop_succ_cons, List.drop_zero, List.cons_append, List.nil_append, List.setIfInBounds_toArray, List.set_cons_zero, List.set_cons_succ]
          go_simp
          exact hKK _ _ ⟨fun zz => cond (Nat.beq zz 4) (.int .u64 1) (zf zz), rfl, hB, Lib.hid (upd_fact2 (i := 4) (v := .int .u64 1) HF.out rfl), Lib.hid (fun h => (HX.out h))⟩
        · intro D aa wx HI hD hdep KK hKK
          obtain ⟨zf, rfl, hB, HF, HX⟩ := HI
          simp [Region.binds] at hdep
          have E4 : zf 4 = .int .u64 1 := HF.out 4 rfl (by simp [hdep])
          simp only [E4, Act.put, List.toList_toArray, List.take_succ_cons, List.take_zero, List.drop_succ_cons, List.drop_zero, List.cons_append, List.nil_append, List.setIfInBounds_toArray, List.set_cons_zero, List.set_cons_succ]
          go_simp
          refine (H3.out _).mono ?_
          rintro e w5 ⟨rfl, hb⟩
          exact hKK _ _ ⟨fun zz => cond (Nat.beq zz 5) (.string M) (cond (Nat.beq zz 4) (.int .u64 1) (zf zz)), rfl, below_to hB hb, Lib.hid (upd_fact2 (i := 5) (v := .string M) (cond_fact2 (j := 4) (v := .int .u64 1) HF.out rfl) rfl), Lib.hid (fun h => (HX.out h).below hb)⟩
        · intro D aa wx HI hD hdep KK hKK
          obtain ⟨zf, rfl, hB, HF, HX⟩ := HI
          simp only [Act.put, List.toList_toArray, List.take_succ_cons, List.take_zero, List.drop_succ_cons, List.drop_zero, List.cons_append, List.nil_append, List.setIfInBounds_toArray, List.set_cons_zero, List.set_cons_succ]
          go_simp
          exact hKK _ _ ⟨fun zz => cond (Nat.beq zz 6) (.pointer (some ⟨w.heap.size, 2, none⟩)) (zf zz), rfl, hB, Lib.hid (upd_fact2 (i := 6) (v := .pointer (some ⟨w.heap.size, 2, none⟩)) HF.out rfl), Lib.hid (fun h => (HX.out h))⟩
        · intro D aa wx HI hD hdep KK hKK
          obtain ⟨zf, rfl, hB, HF, HX⟩ := HI
          simp [Region.binds] at hdep
          have E6 : zf 6 = .pointer (some ⟨w.heap.size, 2, none⟩) := HF.out 6 rfl (by simp [hdep])
          obtain ⟨c0, c1, c2, c3, c4⟩ := S.out.below hB
          simp only [E6, Act.put, List.toList_toArray, List.take_succ_cons, List.take_zero, List.drop_succ_cons, List.drop_zero, List.cons_append, List.nil_append, List.setIfInBounds_toArray, List.set_cons_zero, List.set_cons_succ]
          go_simp
          exact hKK _ _ ⟨fun zz => cond (Nat.beq zz 7) (.int .u32 (n : Int)) (cond (Nat.beq zz 6) (.pointer (some ⟨w.heap.size, 2, none⟩)) (zf zz)), rfl, hB, Lib.hid (upd_fact2 (i := 7) (v := .int .u32 (n : Int)) (cond_fact2 (j := 6) (v := .pointer (some ⟨w.heap.size, 2, none⟩)) HF.out rfl) rfl), Lib.hid (fun h => (HX.out h))⟩
        · intro D aa wx HI hD hdep KK hKK
          obtain ⟨zf, rfl, hB, HF, HX⟩ := HI
          simp [Region.binds] at hdep
          have E7 : zf 7 = .int .u32 (n : Int) := HF.out 7 rfl (by simp [hdep])
          simp only [E7, Act.put, List.toList_toArray, List.take_succ_cons, List.take_zero, List.drop_succ_cons, List.drop_zero, List.cons_append, List.nil_append, List.setIfInBounds_toArray, List.set_cons_zero, List.set_cons_succ]
          go_simp
          refine (H4.out _).mono ?_
          rintro e w5 ⟨rfl, hb⟩
          exact hKK _ _ ⟨fun zz => cond (Nat.beq zz 8) (.string L) (cond (Nat.beq zz 7) (.int .u32 (n : Int)) (zf zz)), rfl, below_to hB hb, Lib.hid (upd_fact2 (i := 8) (v := .string L) (cond_fact2 (j := 7) (v := .int .u32 (n : Int)) HF.out rfl) rfl), Lib.hid (fun h => (HX.out h).below hb)⟩
        · intro D aa wx HI hD hdep KK hKK
          obtain ⟨zf, rfl, hB, HF, HX⟩ := HI
          simp only [Act.put, List.toList_toArray, List.take_succ_cons, List.take_zero, List.drop_succ_cons, List.drop_zero, List.cons_append, List.nil_append, List.setIfInBounds_toArray, List.set_cons_zero, List.set_cons_succ]
          go_simp
          exact hKK _ _ ⟨fun zz => cond (Nat.beq zz 9) (.pointer (some ⟨w.heap.size, 3, none⟩)) (zf zz), rfl, hB, Lib.hid (upd_fact2 (i := 9) (v := .pointer (some ⟨w.heap.size, 3, none⟩)) HF.out rfl), Lib.hid (fun h => (HX.out h))⟩
        · intro D aa wx HI hD hdep KK hKK
          obtain ⟨zf, rfl, hB, HF, HX⟩ := HI
          simp [Region.binds] at hdep
          have E9 : zf 9 = .pointer (some ⟨w.heap.size, 3, none⟩) := HF.out 9 rfl (by simp [hdep])
          obtain ⟨c0, c1, c2, c3, c4⟩ := S.out.below hB
          simp only [E9, Act.put, List.toList_toArray, List.take_succ_cons, List.take_zero, List.drop_succ_cons, List.drop_zero, List.cons_append, List.nil_append, List.setIfInBounds_toArray, List.set_cons_zero, List.set_cons_succ]
          go_simp
          exact hKK _ _ ⟨fun zz => cond (Nat.beq zz 10) (.agg #[.int .i64 f, .int .i64 s]) (cond (Nat.beq zz 9) (.pointer (some ⟨w.heap.size, 3, none⟩)) (zf zz)), rfl, hB, Lib.hid (upd_fact2 (i := 10) (v := .agg #[.int .i64 f, .int .i64 s]) (cond_fact2 (j := 9) (v := .pointer (some ⟨w.heap.size, 3, none⟩)) HF.out rfl) rfl), Lib.hid (fun h => (HX.out h))⟩
        · intro D aa wx HI hD hdep KK hKK
          obtain ⟨zf, rfl, hB, HF, HX⟩ := HI
          simp [Region.binds] at hdep
          have E10 : zf 10 = .agg #[.int .i64 f, .int .i64 s] := HF.out 10 rfl (by simp [hdep])
          simp only [E10, Act.put, List.toList_toArray, List.take_succ_cons, List.take_zero, List.drop_succ_cons, List.drop_zero, List.cons_append, List.nil_append, List.setIfInBounds_toArray, List.set_cons_zero, List.set_cons_succ]
          go_simp
          refine (H5.out _).mono ?_
          rintro e w5 ⟨rfl, hb⟩
          exact hKK _ _ ⟨fun zz => cond (Nat.beq zz 11) (.string C) (cond (Nat.beq zz 10) (.agg #[.int .i64 f, .int .i64 s]) (zf zz)), rfl, below_to hB hb, Lib.hid (upd_fact2 (i := 11) (v := .string C) (cond_fact2 (j := 10) (v := .agg #[.int .i64 f, .int .i64 s]) HF.out rfl) rfl), Lib.hid (fun h => (HX.out h).below hb)⟩
        · intro D aa wx HI hD hdep KK hKK
          obtain ⟨zf, rfl, hB, HF, HX⟩ := HI
          simp [Region.binds] at hdep
          have E3 : zf 3 = .string A := HF.out 3 rfl (by simp [hdep])
          have E5 : zf 5 = .string M := HF.out 5 rfl (by simp [hdep])
          have E8 : zf 8 = .string L := HF.out 8 rfl (by simp [hdep])
          have E11 : zf 11 = .string C := HF.out 11 rfl (by simp [hdep])
          simp only [E3, E5, E8, E11, Act.put, List.toList_toArray, List.take_succ_cons, List.take_zero, List.drop_succ_cons, List.drop_zero, List.cons_append, List.nil_append, List.setIfInBounds_toArray, List.set_cons_zero, List.set_cons_succ]
          go_simp
          have hb := below_box wx (.cells #[.string A, .string M, .string L, .string C] 9)
          exact hKK _ _ ⟨fun zz => cond (Nat.beq zz 12) (.slice (some ⟨wx.heap.size, 0, none⟩) 4 4) (cond (Nat.beq zz 11) (.string C) (cond (Nat.beq zz 8) (.string L) (cond (Nat.beq zz 5) (.string M) (cond (Nat.beq zz 3) (.string A) (zf zz))))), rfl, below_to hB hb, Lib.hid (upd_row (cond_fact2 (j := 11) (v := .string C) (cond_fact2 (j := 8) (v := .string L) (cond_fact2 (j := 5) (v := .string M) (cond_fact2 (j := 3) (v := .string A) HF.out rfl) rfl) rfl) rfl)), Lib.hid (fun _ => RowP.new wx _ 9)⟩
        · intro D aa wx HI hD hdep KK hKK
          obtain ⟨zf, rfl, hB, HF, HX⟩ := HI
          simp [Region.binds] at hdep
          have E0 : zf 0 = .bool false := HF.out 0 rfl (by simp [hdep])
          obtain ⟨B, E12, HCB⟩ := HX.out (by simp [hdep])
          replace HCB := Lib.hid HCB
          simp only [E0, E12, Act.put, List.toList_toArray, List.take_succ_cons, List.take_zero, List.drop_succ_cons, List.drop_zero, List.cons_append, List.nil_append, List.setIfInBounds_toArray, List.set_cons_zero, List.set_cons_succ]
          go_simp
          refine (encoded_any false [A, M, L, C] B _ HCB.out (by simp) hl).mono ?_
          rintro e w5 ⟨rfl, hb⟩
          exact hKK _ _ ⟨fun zz => cond (Nat.beq zz 13) (.tuple #[.string (encS false [A, M, L, C]), .int .i64 (argE false)]) (cond (Nat.beq zz 12) (.slice (some ⟨B, 0, none⟩) 4 4) (cond (Nat.beq zz 0) (.bool false) (zf zz))), rfl, below_to hB hb, Lib.hid (upd_fact2 (i := 13) (v := .tuple #[.string (encS false [A, M, L, C]), .int .i64 (argE false)]) (cond_row (cond_fact2 (j := 0) (v := .bool false) HF.out rfl)) rfl), Lib.hid (fun _ => (RowP.at HCB.out).below hb)⟩
        · intro D aa wx HI hD hdep KK hKK
          obtain ⟨zf, rfl, hB, HF, HX⟩ := HI
          simp [Region.binds] at hdep
          have E13 : zf 13 = .tuple #[.string (encS false [A, M, L, C]), .int .i64 (argE false)] := HF.out 13 rfl (by simp [hdep])
          simp only [E13, Act.put, List.toList_toArray, List.take_succ_cons, List.take_zero, List.drop_succ_cons, List.drop_zero, List.cons_append, List.nil_append, List.setIfInBounds_toArray, List.set_cons_zero, List.set_cons_succ]
          go_simp
          exact hKK _ _ ⟨fun zz => cond (Nat.beq zz 14) (.string (encS false [A, M, L, C])) (cond (Nat.beq zz 13) (.tuple #[.string (encS false [A, M, L, C]), .int .i64 (argE false)]) (zf zz)), rfl, hB, Lib.hid (upd_fact2 (i := 14) (v := .string (encS false [A, M, L, C])) (cond_fact2 (j := 13) (v := .tuple #[.string (encS false [A, M, L, C]), .int .i64 (argE false)]) HF.out rfl) rfl), Lib.hid (fun h => (HX.out h))⟩
        · intro D aa wx HI hD hdep KK hKK
          obtain ⟨zf, rfl, hB, HF, HX⟩ := HI
          simp [Region.binds] at hdep
          have E13 : zf 13 = .tuple #[.string (encS false [A, M, L, C]), .int .i64 (argE false)] := HF.out 13 rfl (by simp [hdep])
          simp only [E13, Act.put, List.toList_toArray, List.take_succ_cons, List.take_zero, List.drop_succ_cons, List.drop_zero, List.cons_append, List.nil_append, List.setIfInBounds_toArray, List.set_cons_zero, List.set_cons_succ]
          go_simp
          exact hKK _ _ ⟨fun zz => cond (Nat.beq zz 15) (.int .i64 (argE false)) (cond (Nat.beq zz 13) (.tuple #[.string (encS false [A, M, L, C]), .int .i64 (argE false)]) (zf zz)), rfl, hB, Lib.hid (upd_fact2 (i := 15) (v := .int .i64 (argE false)) (cond_fact2 (j := 13) (v := .tuple #[.string (encS false [A, M, L, C]), .int .i64 (argE false)]) HF.out rfl) rfl), Lib.hid (fun h => (HX.out h))⟩
        · intro D aa wx HI hD hdep KK hKK
          obtain ⟨zf, rfl, hB, HF, HX⟩ := HI
          simp [Region.binds] at hdep
          have E14 : zf 14 = .string (encS false [A, M, L, C]) := HF.out 14 rfl (by simp [hdep])
          simp only [E14, Act.put, List.toList_toArray, List.take_succ_cons, List.take_zero, List.drop_succ_cons, List.drop_zero, List.cons_append, List.nil_append, List.setIfInBounds_toArray, List.set_cons_zero, List.set_cons_succ]
          go_simp
          exact hKK _ _ ⟨fun zz => cond (Nat.beq zz 16) (.string (encS false [A, M, L, C])) (cond (Nat.beq zz 14) (.string (encS false [A, M, L, C])) (zf zz)), rfl, hB, Lib.hid (upd_fact2 (i := 16) (v := .string (encS false [A, M, L, C])) (cond_fact2 (j := 14) (v := .string (encS false [A, M, L, C])) HF.out rfl) rfl), Lib.hid (fun h => (HX.out h))⟩
        · intro D aa wx HI hD hdep KK hKK
          obtain ⟨zf, rfl, hB, HF, HX⟩ := HI
          simp [Region.binds] at hdep
          have E15 : zf 15 = .int .i64 (argE false) := HF.out 15 rfl (by simp [hdep])
          simp only [E15, Act.put, List.toList_toArray, List.take_succ_cons, List.take_zero, List.drop_succ_cons, List.drop_zero, List.cons_append, List.nil_append, List.setIfInBounds_toArray, List.set_cons_zero, List.set_cons_succ]
          go_simp
          exact hKK _ _ ⟨fun zz => cond (Nat.beq zz 17) (.int .i64 (argE false)) (cond (Nat.beq zz 15) (.int .i64 (argE false)) (zf zz)), rfl, hB, Lib.hid (upd_fact2 (i := 17) (v := .int .i64 (argE false)) (cond_fact2 (j := 15) (v := .int .i64 (argE false)) HF.out rfl) rfl), Lib.hid (fun h => (HX.out h))⟩
      intro D aa w7 HI hD
      obtain ⟨zf, rfl, hB, HF, HX⟩ := HI
      have e169 : zf 16 = .string (encS false [A, M, L, C]) := HF.out 16 rfl (hD 16 (by simp))
      have e179 : zf 17 = .int .i64 (argE false) := HF.out 17 rfl (hD 17 (by simp))
      simp only [e169, e179, Act.put, List.toList_toArray, List.take_succ_cons, List.take_zero, List.drop_succ_cons, List.drop_zero, List.cons_append, List.nil_append]
      clear HF HX hD
      go_wp2_with fail
      go_ret2
      exact ⟨rfl, below_to BB hB⟩
  | true =>
    cases qb with
    | false =>
      show Calls _ _ _ _ fun e w' => e = strErr (encS false [A, M, L, C]) (argE false) ∧ Below w.heap.size w w'
      go_enter Try.func32, Try.ntmps32
      go_wp2_with fail
      have S := Cel5.new w (.int .u64 (i : Int)) (.bool true) (.int .u32 (n : Int)) (.int .i64 f) (.int .i64 s) 56
      have BB := below_box w (.cells #[.int .u64 (i : Int), .bool true, .int .u32 (n : Int), .int .i64 f, .int .i64 s] 56)
      refine (H1.out _).mono ?_
      rintro e w1 ⟨rfl, hb⟩
      replace S := S.below hb
      replace BB := below_to BB hb
      clear hb
      have c0 := S.c0
      have c1 := S.c1
      have c2 := S.c2
      have c3 := S.c3
      have c4 := S.c4
      go_upto_region 6 with (fail)
      clear c0 c1 c2 c3 c4
      replace S := Lib.hid S
      refine wp_region_inv0 (InvPV1 w1 w.heap.size i n f s false A M L C) (by kernel_rfl) (by decide) ?_ ?_ ?_
      · exact ⟨fun zz => cond (Nat.beq zz 17) (.int .i64 0) (cond (Nat.beq zz 16) (.string ⟨#[]⟩) (undef)), rfl, (Below.refl _ _).drew, Lib.hid (fun i _ h => by cases h), Lib.hid (fun h => by cases h)⟩
      · refine AllI.cons ?_ (AllI.cons ?_ (AllI.cons ?_ (AllI.cons ?_ (AllI.cons ?_ (AllI.cons ?_ (AllI.cons ?_ (AllI.cons ?_ (AllI.cons ?_ (AllI.cons ?_ (AllI.cons ?_ (AllI.cons ?_ (AllI.cons ?_ (AllI.cons ?_ (AllI.cons ?_ (AllI.cons ?_ (AllI.cons ?_ (AllI.cons ?_ AllI.nil)))))))))))))))))
        · intro D aa wx HI hD hdep KK hKK
          obtain ⟨zf, rfl, hB, HF, HX⟩ := HI
          simp only [Act.put, List.toList_toArray, List.take_succ_cons, List.take_zero, List.drop_succ_cons, List.drop_zero, List.cons_append, List.nil_append, List.setIfInBounds_toArray, List.set_cons_zero, List.set_cons_succ]
          go_simp
          exact hKK _ _ ⟨fun zz => cond (Nat.beq zz 0) (.bool false) (zf zz), rfl, hB, Lib.hid (upd_fact2 (i := 0) (v := .bool false) HF.out rfl), Lib.hid (fun h => (HX.out h))⟩
        · intro D aa wx HI hD hdep KK hKK
          obtain ⟨zf, rfl, hB, HF, HX⟩ := HI
          simp only [Act.put, List.toList_toArray, List.take_succ_cons, List.take_zero, List.drop_succ_cons, List.drop_zero, List.cons_append, List.nil_append, List.setIfInBounds_toArray, List.set_cons_zero, List.set_cons_succ]
          go_simp
          exact hKK _ _ ⟨fun zz => cond (Nat.beq zz 1) (.pointer (some ⟨w.heap.size, 0, none⟩)) (zf zz), rfl, hB, Lib.hid (upd_fact2 (i := 1) (v := .pointer (some ⟨w.heap.size, 0, none⟩)) HF.out rfl), Lib.hid (fun h => (HX.out h))⟩
        · intro D aa wx HI hD hdep KK hKK
          obtain ⟨zf, rfl, hB, HF, HX⟩ := HI
          simp [Region.binds] at hdep
          have E1 : zf 1 = .pointer (some ⟨w.heap.size, 0, none⟩) := HF.out 1 rfl (by simp [hdep])
          obtain ⟨c0, c1, c2, c3, c4⟩ := S.out.below hB
          simp only [E1, Act.put, List.toList_toArray, List.take_succ_cons, List.take_zero, List.drop_succ_cons, List.drop_zero, List.cons_append, List.nil_append, List.setIfInBounds_toArray, List.set_cons_zero, List.set_cons_succ]
          go_simp
          exact hKK _ _ ⟨fun zz => cond (Nat.beq zz 2) (.int .u64 (i : Int)) (cond (Nat.beq zz 1) (.pointer (some ⟨w.heap.size, 0, none⟩)) (zf zz)), rfl, hB, Lib.hid (upd_fact2 (i := 2) (v := .int .u64 (i : Int)) (cond_fact2 (j := 1) (v := .pointer (some ⟨w.heap.size, 0, none⟩)) HF.out rfl) rfl), Lib.hid (fun h => (HX.out h))⟩
        · intro D aa wx HI hD hdep KK hKK
          obtain ⟨zf, rfl, hB, HF, HX⟩ := HI
          simp [Region.binds] at hdep
          have E2 : zf 2 = .int .u64 (i : Int) := HF.out 2 rfl (by simp [hdep])
          simp only [E2, Act.put, List.toList_toArray, List.take_succ_cons, List.take_zero, List.drop_succ_cons, List.drop_zero, List.cons_append, List.nil_append, List.setIfInBounds_toArray, List.set_cons_zero, List.set_cons_succ]
          go_simp
          refine (H2.out _).mono ?_
          rintro e w5 ⟨rfl, hb⟩
          exact hKK _ _ ⟨fun zz => cond (Nat.beq zz 3) (.string A) (cond (Nat.beq zz 2) (.int .u64 (i : Int)) (zf zz)), rfl, below_to hB hb, Lib.hid (upd_fact2 (i := 3) (v := .string A) (cond_fact2 (j := 2) (v := .int .u64 (i : Int)) HF.out rfl) rfl), Lib.hid (fun h => (HX.out h).below hb)⟩
        · intro D aa wx HI hD hdep KK hKK
          obtain ⟨zf, rfl, hB, HF, HX⟩ := HI
          simp only [Act.put, List.toList_toArray, List.take_succ_cons, List.take_zero, List.drop_succ_cons, List.drop_zero, List.cons_append, List.nil_append, List.setIfInBounds_toArray, List.set_cons_zero, List.set_cons_succ]
          go_simp
          exact hKK _ _ ⟨fun zz => cond (Nat.beq zz 4) (.int .u64 1) (zf zz), rfl, hB, Lib.hid (upd_fact2 (i := 4) (v := .int .u64 1) HF.out rfl), Lib.hid (fun h => (HX.out h))⟩
        · intro D aa wx HI hD hdep KK hKK
          obtain ⟨zf, rfl, hB, HF, HX⟩ := HI
          simp [Region.binds] at hdep
          have E4 : zf 4 = .int .u64 1 := HF.out 4 rfl (by simp [hdep])
          simp only [E4, Act.put, List.toList_toArray, List.take_succ_cons, List.take_zero, List.drop_succ_cons, List.drop_zero, List.cons_append, List.nil_append, List.setIfInBounds_toArray, List.set_cons_zero, List.set_cons_succ]
          go_simp
          refine (H3.out _).mono ?_
          rintro e w5 ⟨rfl, hb⟩
          exact hKK _ _ ⟨fun zz => cond (Nat.beq zz 5) (.string M) (cond (Nat.beq zz 4) (.int .u64 1) (zf zz)), rfl, below_to hB hb, Lib.hid (upd_fact2 (i := 5) (v := .string M) (cond_fact2 (j := 4) (v := .int .u64 1) HF.out rfl) rfl), Lib.hid (fun h => (HX.out h).below hb)⟩
        · intro D aa wx HI hD hdep KK hKK
          obtain ⟨zf, rfl, hB, HF, HX⟩ := HI
          simp only [Act.put, List.toList_toArray, List.take_succ_cons, List.take_zero, List.drop_succ_cons, List.drop_zero, List.cons_append, List.nil_append, List.setIfInBounds_toArray, List.set_cons_zero, List.set_cons_succ]
          go_simp
          exact hKK _ _ ⟨fun zz => cond (Nat.beq zz 6) (.pointer (some ⟨w.heap.size, 2, none⟩)) (zf zz), rfl, hB, Lib.hid (upd_fact2 (i := 6) (v := .pointer (some ⟨w.heap.size, 2, none⟩)) HF.out rfl), Lib.hid (fun h => (HX.out h))⟩
        · intro D aa wx HI hD hdep KK hKK
          obtain ⟨zf, rfl, hB, HF, HX⟩ := HI
          simp [Region.binds] at hdep
          have E6 : zf 6 = .pointer (some ⟨w.heap.size, 2, none⟩) := HF.out 6 rfl (by simp [hdep])
          obtain ⟨c0, c1, c2, c3, c4⟩ := S.out.below hB
          simp only [E6, Act.put, List.toList_toArray, List.take_succ_cons, List.take_zero, List.drop_succ_cons, List.drop_zero, List.cons_append, List.nil_append, List.setIfInBounds_toArray, List.set_cons_zero, List.set_cons_succ]
          go_simp
          exact hKK _ _ ⟨fun zz => cond (Nat.beq zz 7) (.int .u32 (n : Int)) (cond (Nat.beq zz 6) (.pointer (some ⟨w.heap.size, 2, none⟩)) (zf zz)), rfl, hB, Lib.hid (upd_fact2 (i := 7) (v := .int .u32 (n : Int)) (cond_fact2 (j := 6) (v := .pointer (some ⟨w.heap.size, 2, none⟩)) HF.out rfl) rfl), Lib.hid (fun h => (HX.out h))⟩
        · intro D aa wx HI hD hdep KK hKK
          obtain ⟨zf, rfl, hB, HF, HX⟩ := HI
          simp [Region.binds] at hdep
          have E7 : zf 7 = .int .u32 (n : Int) := HF.out 7 rfl (by simp [hdep])
          simp only [E7, Act.put, List.toList_toArray, List.take_succ_cons, List.take_zero, List.drop_succ_cons, List.drop_zero, List.cons_append, List.nil_append, List.setIfInBounds_toArray, List.set_cons_zero, List.set_cons_succ]
          go_simp
          refine (H4.out _).mono ?_
          rintro e w5 ⟨rfl, hb⟩
          exact hKK _ _ ⟨fun zz => cond (Nat.beq zz 8) (.string L) (cond (Nat.beq zz 7) (.int .u32 (n : Int)) (zf zz)), rfl, below_to hB hb, Lib.hid (upd_fact2 (i := 8) (v := .string L) (cond_fact2 (j := 7) (v := .int .u32 (n : Int)) HF.out rfl) rfl), Lib.hid (fun h => (HX.out h).below hb)⟩
        · intro D aa wx HI hD hdep KK hKK
          obtain ⟨zf, rfl, hB, HF, HX⟩ := HI
          simp only [Act.put, List.toList_toArray, List.take_succ_cons, List.take_zero, List.drop_succ_cons, List.drop_zero, List.cons_append, List.nil_append, List.setIfInBounds_toArray, List.set_cons_zero, List.set_cons_succ]
          go_simp
          exact hKK _ _ ⟨fun zz => cond (Nat.beq zz 9) (.pointer (some ⟨w.heap.size, 3, none⟩)) (zf zz), rfl, hB, Lib.hid (upd_fact2 (i := 9) (v := .pointer (some ⟨w.heap.size, 3, none⟩)) HF.out rfl), Lib.hid (fun h => (HX.out h))⟩
        · intro D aa wx HI hD hdep KK hKK
          obtain ⟨zf, rfl, hB, HF, HX⟩ := HI
          simp [Region.binds] at hdep
          have E9 : zf 9 = .pointer (some ⟨w.heap.size, 3, none⟩) := HF.out 9 rfl (by simp [hdep])
          obtain ⟨c0, c1, c2, c3, c4⟩ := S.out.below hB
          simp only [E9, Act.put, List.toList_toArray, List.take_succ_cons, List.take_zero, List.drop_succ_cons, List.drop_zero, List.cons_append, List.nil_append, List.setIfInBounds_toArray, List.set_cons_zero, List.set_cons_succ]
          go_simp
          exact hKK _ _ ⟨fun zz => cond (Nat.beq zz 10) (.agg #[.int .i64 f, .int .i64 s]) (cond (Nat.beq zz 9) (.pointer (some ⟨w.heap.size, 3, none⟩)) (zf zz)), rfl, hB, Lib.hid (upd_fact2 (i := 10) (v := .agg #[.int .i64 f, .int .i64 s]) (cond_fact2 (j := 9) (v := .pointer (some ⟨w.heap.size, 3, none⟩)) HF.out rfl) rfl), Lib.hid (fun h => (HX.out h))⟩
        · intro D aa wx HI hD hdep KK hKK
          obtain ⟨zf, rfl, hB, HF, HX⟩ := HI
          simp [Region.binds] at hdep
          have E10 : zf 10 = .agg #[.int .i64 f, .int .i64 s] := HF.out 10 rfl (by simp [hdep])
          simp only [E10, Act.put, List.toList_toArray, List.take_succ_cons, List.take_zero, List.drop_succ_cons, List.drop_zero, List.cons_append, List.nil_append, List.setIfInBounds_toArray, List.set_cons_zero, List.set_cons_succ]
          go_simp
          refine (H5.out _).mono ?_
          rintro e w5 ⟨rfl, hb⟩
          exact hKK _ _ ⟨fun zz => cond (Nat.beq zz 11) (.string C) (cond (Nat.beq zz 10) (.agg #[.int .i64 f, .int .i64 s]) (zf zz)), rfl, below_to hB hb, Lib.hid (upd_fact2 (i := 11) (v := .string C) (cond_fact2 (j := 10) (v := .agg #[.int .i64 f, .int .i64 s]) HF.out rfl) rfl), Lib.hid (fun h => (HX.out h).below hb)⟩
        · intro D aa wx HI hD hdep KK hKK
          obtain ⟨zf, rfl, hB, HF, HX⟩ := HI
          simp [Region.binds] at hdep
          have E3 : zf 3 = .string A := HF.out 3 rfl (by simp [hdep])
          have E5 : zf 5 = .string M := HF.out 5 rfl (by simp [hdep])
          have E8 : zf 8 = .string L := HF.out 8 rfl (by simp [hdep])
          have E11 : zf 11 = .string C := HF.out 11 rfl (by simp [hdep])
          simp only [E3, E5, E8, E11, Act.put, List.toList_toArray, List.take_succ_cons, List.take_zero, List.drop_succ_cons, List.drop_zero, List.cons_append, List.nil_append, List.setIfInBounds_toArray, List.set_cons_zero, List.set_cons_succ]
          go_simp
          have hb := below_box wx (.cells #[.string A, .string M, .string L, .string C] 9)
          exact hKK _ _ ⟨fun zz => cond (Nat.beq zz 12) (.slice (some ⟨wx.heap.size, 0, none⟩) 4 4) (cond (Nat.beq zz 11) (.string C) (cond (Nat.beq zz 8) (.string L) (cond (Nat.beq zz 5) (.string M) (cond (Nat.beq zz 3) (.string A) (zf zz))))), rfl, below_to hB hb, Lib.hid (upd_row (cond_fact2 (j := 11) (v := .string C) (cond_fact2 (j := 8) (v := .string L) (cond_fact2 (j := 5) (v := .string M) (cond_fact2 (j := 3) (v := .string A) HF.out rfl) rfl) rfl) rfl)), Lib.hid (fun _ => RowP.new wx _ 9)⟩
        · intro D aa wx HI hD hdep KK hKK
          obtain ⟨zf, rfl, hB, HF, HX⟩ := HI
          simp [Region.binds] at hdep
          have E0 : zf 0 = .bool false := HF.out 0 rfl (by simp [hdep])
          obtain ⟨B, E12, HCB⟩ := HX.out (by simp [hdep])
          replace HCB := Lib.hid HCB
          simp only [E0, E12, Act.put, List.toList_toArray, List.take_succ_cons, List.take_zero, List.drop_succ_cons, List.drop_zero, List.cons_append, List.nil_append, List.setIfInBounds_toArray, List.set_cons_zero, List.set_cons_succ]
          go_simp
          refine (encoded_any false [A, M, L, C] B _ HCB.out (by simp) hl).mono ?_
          rintro e w5 ⟨rfl, hb⟩
          exact hKK _ _ ⟨fun zz => cond (Nat.beq zz 13) (.tuple #[.string (encS false [A, M, L, C]), .int .i64 (argE false)]) (cond (Nat.beq zz 12) (.slice (some ⟨B, 0, none⟩) 4 4) (cond (Nat.beq zz 0) (.bool false) (zf zz))), rfl, below_to hB hb, Lib.hid (upd_fact2 (i := 13) (v := .tuple #[.string (encS false [A, M, L, C]), .int .i64 (argE false)]) (cond_row (cond_fact2 (j := 0) (v := .bool false) HF.out rfl)) rfl), Lib.hid (fun _ => (RowP.at HCB.out).below hb)⟩
        · intro D aa wx HI hD hdep KK hKK
          obtain ⟨zf, rfl, hB, HF, HX⟩ := HI
          simp [Region.binds] at hdep
          have E13 : zf 13 = .tuple #[.string (encS false [A, M, L, C]), .int .i64 (argE false)] := HF.out 13 rfl (by simp [hdep])
          simp only [E13, Act.put, List.toList_toArray, List.take_succ_cons, List.take_zero, List.drop_succ_cons, List.drop_zero, List.cons_append, List.nil_append, List.setIfInBounds_toArray, List.set_cons_zero, List.set_cons_succ]
          go_simp
          exact hKK _ _ ⟨fun zz => cond (Nat.beq zz 14) (.string (encS false [A, M, L, C])) (cond (Nat.beq zz 13) (.tuple #[.string (encS false [A, M, L, C]), .int .i64 (argE false)]) (zf zz)), rfl, hB, Lib.hid (upd_fact2 (i := 14) (v := .string (encS false [A, M, L, C])) (cond_fact2 (j := 13) (v := .tuple #[.string (encS false [A, M, L, C]), .int .i64 (argE false)]) HF.out rfl) rfl), Lib.hid (fun h => (HX.out h))⟩
        · intro D aa wx HI hD hdep KK hKK
          obtain ⟨zf, rfl, hB, HF, HX⟩ := HI
          simp [Region.binds] at hdep
          have E13 : zf 13 = .tuple #[.string (encS false [A, M, L, C]), .int .i64 (argE false)] := HF.out 13 rfl (by simp [hdep])
          simp only [E13, Act.put, List.toList_toArray, List.take_succ_cons, List.take_zero, List.drop_succ_cons, List.drop_zero, List.cons_append, List.nil_append, List.setIfInBounds_toArray, List.set_cons_zero, List.set_cons_succ]
          go_simp
          exact hKK _ _ ⟨fun zz => cond (Nat.beq zz 15) (.int .i64 (argE false)) (cond (Nat.beq zz 13) (.tuple #[.string (encS false [A, M, L, C]), .int .i64 (argE false)]) (zf zz)), rfl, hB, Lib.hid (upd_fact2 (i := 15) (v := .int .i64 (argE false)) (cond_fact2 (j := 13) (v := .tuple #[.string (encS false [A, M, L, C]), .int .i64 (argE false)]) HF.out rfl) rfl), Lib.hid (fun h => (HX.out h))⟩
        · intro D aa wx HI hD hdep KK hKK
          obtain ⟨zf, rfl, hB, HF, HX⟩ := HI
          simp [Region.binds] at hdep
          have E14 : zf 14 = .string (encS false [A, M, L, C]) := HF.out 14 rfl (by simp [hdep])
          simp only [E14, Act.put, List.toList_toArray, List.take_succ_cons, List.take_zero, List.drop_succ_cons, List.drop_zero, List.cons_append, List.nil_append, List.setIfInBounds_toArray, List.set_cons_zero, List.set_cons_succ]
          go_simp
          exact hKK _ _ ⟨fun zz => cond (Nat.beq zz 16) (.string (encS false [A, M, L, C])) (cond (Nat.beq zz 14) (.string (encS false [A, M, L, C])) (zf zz)), rfl, hB, Lib.hid (upd_fact2 (i := 16) (v := .string (encS false [A, M, L, C])) (cond_fact2 (j := 14) (v := .string (encS false [A, M, L, C])) HF.out rfl) rfl), Lib.hid (fun h => (HX.out h))⟩
        · intro D aa wx HI hD hdep KK hKK
          obtain ⟨zf, rfl, hB, HF, HX⟩ := HI
          simp [Region.binds] at hdep
          have E15 : zf 15 = .int .i64 (argE false) := HF.out 15 rfl (by simp [hdep])
          simp only [E15, Act.put, List.toList_toArray, List.take_succ_cons, List.take_zero, List.drop_succ_cons, List.drop_zero, List.cons_append, List.nil_append, List.setIfInBounds_toArray, List.set_cons_zero, List.set_cons_succ]
          go_simp
          exact hKK _ _ ⟨fun zz => cond (Nat.beq zz 17) (.int .i64 (argE false)) (cond (Nat.beq zz 15) (.int .i64 (argE false)) (zf zz)), rfl, hB, Lib.hid (upd_fact2 (i := 17) (v := .int .i64 (argE false)) (cond_fact2 (j := 15) (v := .int .i64 (argE false)) HF.out rfl) rfl), Lib.hid (fun h => (HX.out h))⟩
      intro D aa w7 HI hD
      obtain ⟨zf, rfl, hB, HF, HX⟩ := HI
      have e169 : zf 16 = .string (encS false [A, M, L, C]) := HF.out 16 rfl (hD 16 (by simp))
      have e179 : zf 17 = .int .i64 (argE false) := HF.out 17 rfl (hD 17 (by simp))
      simp only [e169, e179, Act.put, List.toList_toArray, List.take_succ_cons, List.take_zero, List.drop_succ_cons, List.drop_zero, List.cons_append, List.nil_append]
      clear HF HX hD
      go_wp2_with fail
      go_ret2
      exact ⟨rfl, below_to BB hB⟩
    | true =>
      show Calls _ _ _ _ fun e w' => e = strErr (encS true [A, M, L, C]) (argE true) ∧ Below w.heap.size w w'
      go_enter Try.func32, Try.ntmps32
      go_wp2_with fail
      have S := Cel5.new w (.int .u64 (i : Int)) (.bool true) (.int .u32 (n : Int)) (.int .i64 f) (.int .i64 s) 56
      have BB := below_box w (.cells #[.int .u64 (i : Int), .bool true, .int .u32 (n : Int), .int .i64 f, .int .i64 s] 56)
      refine (H1.out _).mono ?_
      rintro e w1 ⟨rfl, hb⟩
      replace S := S.below hb
      replace BB := below_to BB hb
      clear hb
      have c0 := S.c0
      have c1 := S.c1
      have c2 := S.c2
      have c3 := S.c3
      have c4 := S.c4
      go_upto_region 6 with (fail)
      clear c0 c1 c2 c3 c4
      replace S := Lib.hid S
      refine wp_region_inv0 (InvPV1 w1 w.heap.size i n f s true A M L C) (by kernel_rfl) (by decide) ?_ ?_ ?_
      · exact ⟨fun zz => cond (Nat.beq zz 17) (.int .i64 0) (cond (Nat.beq zz 16) (.string ⟨#[]⟩) (undef)), rfl, (Below.refl _ _).drew, Lib.hid (fun i _ h => by cases h), Lib.hid (fun h => by cases h)⟩
      · refine AllI.cons ?_ (AllI.cons ?_ (AllI.cons ?_ (AllI.cons ?_ (AllI.cons ?_ (AllI.cons ?_ (AllI.cons ?_ (AllI.cons ?_ (AllI.cons ?_ (AllI.cons ?_ (AllI.cons ?_ (AllI.cons ?_ (AllI.cons ?_ (AllI.cons ?_ (AllI.cons ?_ (AllI.cons ?_ (AllI.cons ?_ (AllI.cons ?_ AllI.nil)))))))))))))))))
        · intro D aa wx HI hD hdep KK hKK
          obtain ⟨zf, rfl, hB, HF, HX⟩ := HI
          simp only [Act.put, List.toList_toArray, List.take_succ_cons, List.take_zero, List.drop_succ_cons, List.drop_zero, List.cons_append, List.nil_append, List.setIfInBounds_toArray, List.set_cons_zero, List.set_cons_succ]
          go_simp
          exact hKK _ _ ⟨fun zz => cond (Nat.beq zz 0) (.bool true) (zf zz), rfl, hB, Lib.hid (upd_fact2 (i := 0) (v := .bool true) HF.out rfl), Lib.hid (fun h => (HX.out h))⟩
        · intro D aa wx HI hD hdep KK hKK
          obtain ⟨zf, rfl, hB, HF, HX⟩ := HI
          simp only [Act.put, List.toList_toArray, List.take_succ_cons, List.take_zero, List.drop_succ_cons, List.drop_zero, List.cons_append, List.nil_append, List.setIfInBounds_toArray, List.set_cons_zero, List.set_cons_succ]
          go_simp
          exact hKK _ _ ⟨fun zz => cond (Nat.beq zz 1) (.pointer (some ⟨w.heap.size, 0, none⟩)) (zf zz), rfl, hB, Lib.hid (upd_fact2 (i := 1) (v := .pointer (some ⟨w.heap.size, 0, none⟩)) HF.out rfl), Lib.hid (fun h => (HX.out h))⟩
        · intro D aa wx HI hD hdep KK hKK
          obtain ⟨zf, rfl, hB, HF, HX⟩ := HI
          simp [Region.binds] at hdep
          have E1 : zf 1 = .pointer (some ⟨w.heap.size, 0, none⟩) := HF.out 1 rfl (by simp [hdep])
          obtain ⟨c0, c1, c2, c3, c4⟩ := S.out.below hB
          simp only [E1, Act.put, List.toList_toArray, List.take_succ_cons, List.take_zero, List.drop_succ_cons, List.drop_zero, List.cons_append, List.nil_append, List.setIfInBounds_toArray, List.set_cons_zero, List.set_cons_succ]
          go_simp
          exact hKK _ _ ⟨fun zz => cond (Nat.beq zz 2) (.int .u64 (i : Int)) (cond (Nat.beq zz 1) (.pointer (some ⟨w.heap.size, 0, none⟩)) (zf zz)), rfl, hB, Lib.hid (upd_fact2 (i := 2) (v := .int .u64 (i : Int)) (cond_fact2 (j := 1) (v := .pointer (some ⟨w.heap.size, 0, none⟩)) HF.out rfl) rfl), Lib.hid (fun h => (HX.out h))⟩
        · intro D aa wx HI hD hdep KK hKK
          obtain ⟨zf, rfl, hB, HF, HX⟩ := HI
          simp [Region.binds] at hdep
          have E2 : zf 2 = .int .u64 (i : Int) := HF.out 2 rfl (by simp [hdep])
          simp only [E2, Act.put, List.toList_toArray, List.take_succ_cons, List.take_zero, List.drop_succ_cons, List.drop_zero, List.cons_append, List.nil_append, List.setIfInBounds_toArray, List.set_cons_zero, List.set_cons_succ]
          go_simp
          refine (H2.out _).mono ?_
          rintro e w5 ⟨rfl, hb⟩
          exact hKK _ _ ⟨fun zz => cond (Nat.beq zz 3) (.string A) (cond (Nat.beq zz 2) (.int .u64 (i : Int)) (zf zz)), rfl, below_to hB hb, Lib.hid (upd_fact2 (i := 3) (v := .string A) (cond_fact2 (j := 2) (v := .int .u64 (i : Int)) HF.out rfl) rfl), Lib.hid (fun h => (HX.out h).below hb)⟩
        · intro D aa wx HI hD hdep KK hKK
          obtain ⟨zf, rfl, hB, HF, HX⟩ := HI
          simp only [Act.put, List.toList_toArray, List.take_succ_cons, List.take_zero, List.drop_succ_cons, List.drop_zero, List.cons_append, List.nil_append, List.setIfInBounds_toArray, List.set_cons_zero, List.set_cons_succ]
          go_simp
          exact hKK _ _ ⟨fun zz => cond (Nat.beq zz 4) (.int .u64 1) (zf zz), rfl, hB, Lib.hid (upd_fact2 (i := 4) (v := .int .u64 1) HF.out rfl), Lib.hid (fun h => (HX.out h))⟩
        · intro D aa wx HI hD hdep KK hKK
          obtain ⟨zf, rfl, hB, HF, HX⟩ := HI
          simp [Region.binds] at hdep
          have E4 : zf 4 = .int .u64 1 := HF.out 4 rfl (by simp [hdep])
          simp only [E4, Act.put, List.toList_toArray, List.take_succ_cons, List.take_zero, List.drop_succ_cons, List.drop_zero, List.cons_append, List.nil_append, List.setIfInBounds_toArray, List.set_cons_zero, List.set_cons_succ]
          go_simp
          refine (H3.out _).mono ?_
          rintro e w5 ⟨rfl, hb⟩
          exact hKK _ _ ⟨fun zz => cond (Nat.beq zz 5) (.string M) (cond (Nat.beq zz 4) (.int .u64 1) (zf zz)), rfl, below_to hB hb, Lib.hid (upd_fact2 (i := 5) (v := .string M) (cond_fact2 (j := 4) (v := .int .u64 1) HF.out rfl) rfl), Lib.hid (fun h => (HX.out h).below hb)⟩
        · intro D aa wx HI hD hdep KK hKK
          obtain ⟨zf, rfl, hB, HF, HX⟩ := HI
          simp only [Act.put, List.toList_toArray, List.take_succ_cons, List.take_zero, List.drop_succ_cons, List.drop_zero, List.cons_append, List.nil_append, List.setIfInBounds_toArray, List.set_cons_zero, List.set_cons_succ]
          go_simp
          exact hKK _ _ ⟨fun zz => cond (Nat.beq zz 6) (.pointer (some ⟨w.heap.size, 2, none⟩)) (zf zz), rfl, hB, Lib.hid (upd_fact2 (i := 6) (v := .pointer (some ⟨w.heap.size, 2, none⟩)) HF.out rfl), Lib.hid (fun h => (HX.out h))⟩
        · intro D aa wx HI hD hdep KK hKK
          obtain ⟨zf, rfl, hB, HF, HX⟩ := HI
          simp [Region.binds] at hdep
          have E6 : zf 6 = .pointer (some ⟨w.heap.size, 2, none⟩) := HF.out 6 rfl (by simp [hdep])
          obtain ⟨c0, c1, c2, c3, c4⟩ := S.out.below hB
          simp only [E6, Act.put, List.toList_toArray, List.take_succ_cons, List.take_zero, List.drop_succ_cons, List.drop_zero, List.cons_append, List.nil_append, List.setIfInBounds_toArray, List.set_cons_zero, List.set_cons_succ]
          go_simp
          exact hKK _ _ ⟨fun zz => cond (Nat.beq zz 7) (.int .u32 (n : Int)) (cond (Nat.beq zz 6) (.pointer (some ⟨w.heap.size, 2, none⟩)) (zf zz)), rfl, hB, Lib.hid (upd_fact2 (i := 7) (v := .int .u32 (n : Int)) (cond_fact2 (j := 6) (v := .pointer (some ⟨w.heap.size, 2, none⟩)) HF.out rfl) rfl), Lib.hid (fun h => (HX.out h))⟩
        · intro D aa wx HI hD hdep KK hKK
          obtain ⟨zf, rfl, hB, HF, HX⟩ := HI
          simp [Region.binds] at hdep
          have E7 : zf 7 = .int .u32 (n : Int) := HF.out 7 rfl (by simp [hdep])
          simp only [E7, Act.put, List.toList_toArray, List.take_succ_cons, List.take_zero, List.drop_succ_cons, List.drop_zero, List.cons_append, List.nil_append, List.setIfInBounds_toArray, List.set_cons_zero, List.set_cons_succ]
          go_simp
          refine (H4.out _).mono ?_
          rintro e w5 ⟨rfl, hb⟩
          exact hKK _ _ ⟨fun zz => cond (Nat.beq zz 8) (.string L) (cond (Nat.beq zz 7) (.int .u32 (n : Int)) (zf zz)), rfl, below_to hB hb, Lib.hid (upd_fact2 (i := 8) (v := .string L) (cond_fact2 (j := 7) (v := .int .u32 (n : Int)) HF.out rfl) rfl), Lib.hid (fun h => (HX.out h).below hb)⟩
        · intro D aa wx HI hD hdep KK hKK
          obtain ⟨zf, rfl, hB, HF, HX⟩ := HI
          simp only [Act.put, List.toList_toArray, List.take_succ_cons, List.take_zero, List.drop_succ_cons, List.drop_zero, List.cons_append, List.nil_append, List.setIfInBounds_toArray, List.set_cons_zero, List.set_cons_succ]
          go_simp
          exact hKK _ _ ⟨fun zz => cond (Nat.beq zz 9) (.pointer (some ⟨w.heap.size, 3, none⟩)) (zf zz), rfl, hB, Lib.hid (upd_fact2 (i := 9) (v := .pointer (some ⟨w.heap.size, 3, none⟩)) HF.out rfl), Lib.hid (fun h => (HX.out h))⟩
        · intro D aa wx HI hD hdep KK hKK
          obtain ⟨zf, rfl, hB, HF, HX⟩ := HI
          simp [Region.binds] at hdep
          have E9 : zf 9 = .pointer (some ⟨w.heap.size, 3, none⟩) := HF.out 9 rfl (by simp [hdep])
          obtain ⟨c0, c1, c2, c3, c4⟩ := S.out.below hB
          simp only [E9, Act.put, List.toList_toArray, List.take_succ_cons, List.take_zero, List.drop_succ_cons, List.drop_zero, List.cons_append, List.nil_append, List.setIfInBounds_toArray, List.set_cons_zero, List.set_cons_succ]
          go_simp
          exact hKK _ _ ⟨fun zz => cond (Nat.beq zz 10) (.agg #[.int .i64 f, .int .i64 s]) (cond (Nat.beq zz 9) (.pointer (some ⟨w.heap.size, 3, none⟩)) (zf zz)), rfl, hB, Lib.hid (upd_fact2 (i := 10) (v := .agg #[.int .i64 f, .int .i64 s]) (cond_fact2 (j := 9) (v := .pointer (some ⟨w.heap.size, 3, none⟩)) HF.out rfl) rfl), Lib.hid (fun h => (HX.out h))⟩
        · intro D aa wx HI hD hdep KK hKK
          obtain ⟨zf, rfl, hB, HF, HX⟩ := HI
          simp [Region.binds] at hdep
          have E10 : zf 10 = .agg #[.int .i64 f, .int .i64 s] := HF.out 10 rfl (by simp [hdep])
          simp only [E10, Act.put, List.toList_toArray, List.take_succ_cons, List.take_zero, List.drop_succ_cons, List.drop_zero, List.cons_append, List.nil_append, List.setIfInBounds_toArray, List.set_cons_zero, List.set_cons_succ]
          go_simp
          refine (H5.out _).mono ?_
          rintro e w5 ⟨rfl, hb⟩
          exact hKK _ _ ⟨fun zz => cond (Nat.beq zz 11) (.string C) (cond (Nat.beq zz 10) (.agg #[.int .i64 f, .int .i64 s]) (zf zz)), rfl, below_to hB hb, Lib.hid (upd_fact2 (i := 11) (v := .string C) (cond_fact2 (j := 10) (v := .agg #[.int .i64 f, .int .i64 s]) HF.out rfl) rfl), Lib.hid (fun h => (HX.out h).below hb)⟩
        · intro D aa wx HI hD hdep KK hKK
          obtain ⟨zf, rfl, hB, HF, HX⟩ := HI
          simp [Region.binds] at hdep
          have E3 : zf 3 = .string A := HF.out 3 rfl (by simp [hdep])
          have E5 : zf 5 = .string M := HF.out 5 rfl (by simp [hdep])
          have E8 : zf 8 = .string L := HF.out 8 rfl (by simp [hdep])
          have E11 : zf 11 = .string C := HF.out 11 rfl (by simp [hdep])
          simp only [E3, E5, E8, E11, Act.put, List.toList_toArray, List.take_succ_cons, List.take_zero, List.drop_succ_cons, List.drop_zero, List.cons_append, List.nil_append, List.setIfInBounds_toArray, List.set_cons_zero, List.set_cons_succ]
          go_simp
          have hb := below_box wx (.cells #[.string A, .string M, .string L, .string C] 9)
          exact hKK _ _ ⟨fun zz => cond (Nat.beq zz 12) (.slice (some ⟨wx.heap.size, 0, none⟩) 4 4) (cond (Nat.beq zz 11) (.string C) (cond (Nat.beq zz 8) (.string L) (cond (Nat.beq zz 5) (.string M) (cond (Nat.beq zz 3) (.string A) (zf zz))))), rfl, below_to hB hb, Lib.hid (upd_row (cond_fact2 (j := 11) (v := .string C) (cond_fact2 (j := 8) (v := .string L) (cond_fact2 (j := 5) (v := .string M) (cond_fact2 (j := 3) (v := .string A) HF.out rfl) rfl) rfl) rfl)), Lib.hid (fun _ => RowP.new wx _ 9)⟩
        · intro D aa wx HI hD hdep KK hKK
          obtain ⟨zf, rfl, hB, HF, HX⟩ := HI
          simp [Region.binds] at hdep
          have E0 : zf 0 = .bool true := HF.out 0 rfl (by simp [hdep])
          obtain ⟨B, E12, HCB⟩ := HX.out (by simp [hdep])
          replace HCB := Lib.hid HCB
          simp only [E0, E12, Act.put, List.toList_toArray, List.take_succ_cons, List.take_zero, List.drop_succ_cons, List.drop_zero, List.cons_append, List.nil_append, List.setIfInBounds_toArray, List.set_cons_zero, List.set_cons_succ]
          go_simp
          refine (encoded_any true [A, M, L, C] B _ HCB.out (by simp) hl).mono ?_
          rintro e w5 ⟨rfl, hb⟩
          exact hKK _ _ ⟨fun zz => cond (Nat.beq zz 13) (.tuple #[.string (encS true [A, M, L, C]), .int .i64 (argE true)]) (cond (Nat.beq zz 12) (.slice (some ⟨B, 0, none⟩) 4 4) (cond (Nat.beq zz 0) (.bool true) (zf zz))), rfl, below_to hB hb, Lib.hid (upd_fact2 (i := 13) (v := .tuple #[.string (encS true [A, M, L, C]), .int .i64 (argE true)]) (cond_row (cond_fact2 (j := 0) (v := .bool true) HF.out rfl)) rfl), Lib.hid (fun _ => (RowP.at HCB.out).below hb)⟩
        · intro D aa wx HI hD hdep KK hKK
          obtain ⟨zf, rfl, hB, HF, HX⟩ := HI
          simp [Region.binds] at hdep
          have E13 : zf 13 = .tuple #[.string (encS true [A, M, L, C]), .int .i64 (argE true)] := HF.out 13 rfl (by simp [hdep])
          simp only [E13, Act.put, List.toList_toArray, List.take_succ_cons, List.take_zero, List.drop_succ_cons, List.drop_zero, List.cons_append, List.nil_append, List.setIfInBounds_toArray, List.set_cons_zero, List.set_cons_succ]
          go_simp
          exact hKK _ _ ⟨fun zz => cond (Nat.beq zz 14) (.string (encS true [A, M, L, C])) (cond (Nat.beq zz 13) (.tuple #[.string (encS true [A, M, L, C]), .int .i64 (argE true)]) (zf zz)), rfl, hB, Lib.hid (upd_fact2 (i := 14) (v := .string (encS true [A, M, L, C])) (cond_fact2 (j := 13) (v := .tuple #[.string (encS true [A, M, L, C]), .int .i64 (argE true)]) HF.out rfl) rfl), Lib.hid (fun h => (HX.out h))⟩
        · intro D aa wx HI hD hdep KK hKK
          obtain ⟨zf, rfl, hB, HF, HX⟩ := HI
          simp [Region.binds] at hdep
          have E13 : zf 13 = .tuple #[.string (encS true [A, M, L, C]), .int .i64 (argE true)] := HF.out 13 rfl (by simp [hdep])
          simp only [E13, Act.put, List.toList_toArray, List.take_succ_cons, List.take_zero, List.drop_succ_cons, List.drop_zero, List.cons_append, List.nil_append, List.setIfInBounds_toArray, List.set_cons_zero, List.set_cons_succ]
          go_simp
          exact hKK _ _ ⟨fun zz => cond (Nat.beq zz 15) (.int .i64 (argE true)) (cond (Nat.beq zz 13) (.tuple #[.string (encS true [A, M, L, C]), .int .i64 (argE true)]) (zf zz)), rfl, hB, Lib.hid (upd_fact2 (i := 15) (v := .int .i64 (argE true)) (cond_fact2 (j := 13) (v := .tuple #[.string (encS true [A, M, L, C]), .int .i64 (argE true)]) HF.out rfl) rfl), Lib.hid (fun h => (HX.out h))⟩
        · intro D aa wx HI hD hdep KK hKK
          obtain ⟨zf, rfl, hB, HF, HX⟩ := HI
          simp [Region.binds] at hdep
          have E14 : zf 14 = .string (encS true [A, M, L, C]) := HF.out 14 rfl (by simp [hdep])
          simp only [E14, Act.put, List.toList_toArray, List.take_succ_cons, List.take_zero, List.drop_succ_cons, List.drop_zero, List.cons_append, List.nil_append, List.setIfInBounds_toArray, List.set_cons_zero, List.set_cons_succ]
          go_simp
          exact hKK _ _ ⟨fun zz => cond (Nat.beq zz 16) (.string (encS true [A, M, L, C])) (cond (Nat.beq zz 14) (.string (encS true [A, M, L, C])) (zf zz)), rfl, hB, Lib.hid (upd_fact2 (i := 16) (v := .string (encS true [A, M, L, C])) (cond_fact2 (j := 14) (v := .string (encS true [A, M, L, C])) HF.out rfl) rfl), Lib.hid (fun h => (HX.out h))⟩
        · intro D aa wx HI hD hdep KK hKK
          obtain ⟨zf, rfl, hB, HF, HX⟩ := HI
          simp [Region.binds] at hdep
          have E15 : zf 15 = .int .i64 (argE true) := HF.out 15 rfl (by simp [hdep])
          simp only [E15, Act.put, List.toList_toArray, List.take_succ_cons, List.take_zero, List.drop_succ_cons, List.drop_zero, List.cons_append, List.nil_append, List.setIfInBounds_toArray, List.set_cons_zero, List.set_cons_succ]
          go_simp
          exact hKK _ _ ⟨fun zz => cond (Nat.beq zz 17) (.int .i64 (argE true)) (cond (Nat.beq zz 15) (.int .i64 (argE true)) (zf zz)), rfl, hB, Lib.hid (upd_fact2 (i := 17) (v := .int .i64 (argE true)) (cond_fact2 (j := 15) (v := .int .i64 (argE true)) HF.out rfl) rfl), Lib.hid (fun h => (HX.out h))⟩
      intro D aa w7 HI hD
      obtain ⟨zf, rfl, hB, HF, HX⟩ := HI
      have e169 : zf 16 = .string (encS true [A, M, L, C]) := HF.out 16 rfl (hD 16 (by simp))
      have e179 : zf 17 = .int .i64 (argE true) := HF.out 17 rfl (hD 17 (by simp))
      simp only [e169, e179, Act.put, List.toList_toArray, List.take_succ_cons, List.take_zero, List.drop_succ_cons, List.drop_zero, List.cons_append, List.nil_append]
      clear HF HX hD
      go_wp2_with fail
      go_ret2
      exact ⟨rfl, below_to BB hB⟩
theorem putVersion_any (i : Nat) (hi : i < 18446744073709551616) (mk : Bool) (n : Nat) (hn : n < 4294967296) (f s : Int) (w : World) : Calls Try.prog 32 #[.agg #[.int .u64 (i : Int), .bool mk, .int .u32 (n : Int), .int .i64 f, .int .i64 s]] w fun e w' => e = strErr (verS i mk n f s) (argE (okVer mk n f s)) ∧ Below w.heap.size w w' := by
  have H2 := Lib.hid (fun w => num_ok 8 i w (by omega) (by omega) hi)
  have H4 := Lib.hid (rsum_any n hn)
  have H5 := Lib.hid (blob_any f s)
  cases mk with
  | false => exact putVersion0 i n f s _ _ _ _ _ (by rw [joinB_size]; simp [pairS_size, bs_size, numL_length]) (Lib.hid (isBlob_any f s)) H2 (Lib.hid (fun w => num_ok 1 0 w (by omega) (by omega) (by omega))) H4 H5 w
  | true =>
    have e : decide (n = 0) = ((n : Int) == 0) := by rw [Bool.eq_iff_iff]; simp
    have := putVersion1 i n f s _ (((n : Int) == 0) && decide (f = 0 ∧ s = 0)) _ _ rfl (fun w => eql54 f s 0 0 w) rfl _ _ _ _ (by rw [joinB_size]; simp [pairS_size, bs_size, numL_length]) (Lib.hid (isBlob_any f s)) H2 (Lib.hid (fun w => num_ok 1 1 w (by omega) (by omega) (by omega))) H4 H5 w
    unfold verS okVer
    simp only [e]
    exact this
end Go.Proofs.Yteekjndhehnpaaa
