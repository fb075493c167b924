/- Contracts: PutPart. -/
import Derived.Test.YteekjndhehnpaaaSE
namespace Go.Proofs.Yteekjndhehnpaaa
open Go.RowKit
set_option maxRecDepth 100000
set_option linter.unusedVariables false
set_option linter.unusedSimpArgs false
set_option maxHeartbeats 8000000
def InvPP_v (g : Nat) (n : Nat) (f : Int) (s : Int) (V : Bool) (L : ByteArray) (C : ByteArray) (i : Nat) : Value := ([.pointer (some ⟨g, 1, none⟩), .agg #[.int .i64 f, .int .i64 s], .bool V, .pointer (some ⟨g, 0, none⟩), .int .u32 (n : Int), .string L, .pointer (some ⟨g, 1, none⟩), .agg #[.int .i64 f, .int .i64 s], .string C, undef, .tuple #[.string (encS V [L, C]), .int .i64 (argE V)], .string (encS V [L, C]), .int .i64 (argE V), .string (encS V [L, C]), .int .i64 (argE V)] : List Value).getD i undef
def InvPP (W1 : World) (g : Nat) (n : Nat) (f : Int) (s : Int) (V : Bool) (L : ByteArray) (C : ByteArray) (a0 : Act) (D : Nat → Bool) (act : Act) (w : World) : Prop :=
  ∃ zf : Nat → Value, act = ⟨(a0.tmps.toList.take 2 ++ zf 13 :: zf 14 :: zf 0 :: zf 1 :: zf 2 :: zf 3 :: zf 4 :: zf 5 :: zf 6 :: zf 7 :: zf 8 :: zf 9 :: zf 10 :: zf 11 :: zf 12 :: a0.tmps.toList.drop 17).toArray, []⟩ ∧ Below W1.heap.size W1 w ∧ Hid (∀ i, Nat.beq i 9 = false → D i = true → zf i = InvPP_v g n f s V L C i) ∧ Hid (D 9 = true → RowP [L, C] w (zf 9))
theorem putPart_main (n : Nat) (f s : Int) (V : Bool) (L C : ByteArray) (hl : (joinB [L, C]).size ≤ 100000)
    (H1 : Hid (∀ w, Calls Try.prog 69 #[.agg #[.int .i64 f, .int .i64 s]] w fun e w' => e = .returned (.bool V) ∧ Below w.heap.size w w'))
    (H2 : Hid (∀ w, Calls Try.prog 70 #[.int .u32 (n : Int)] w fun e w' => e = .returned (.string L) ∧ Below w.heap.size w w'))
    (H3 : Hid (∀ w, Calls Try.prog 71 #[.agg #[.int .i64 f, .int .i64 s]] w fun e w' => e = .returned (.string C) ∧ Below w.heap.size w w'))
    (w : World) : Calls Try.prog 36 #[.agg #[.int .u32 (n : Int), .int .i64 f, .int .i64 s]] w fun e w' => e = strErr (encS V [L, C]) (argE V) ∧ Below w.heap.size w w' := by
  go_enter Try.func36, Try.ntmps36
  go_wp2_with fail
  have S := Lib.hid (Cel3.new w (.int .u32 (n : Int)) (.int .i64 f) (.int .i64 s) 69)
  have BB := below_box w (.cells #[.int .u32 (n : Int), .int .i64 f, .int .i64 s] 69)
  generalize w.alloc (.cells #[.int .u32 (n : Int), .int .i64 f, .int .i64 s] 69) = w1 at S BB ⊢
  refine wp_region_inv0 (InvPP w1 w.heap.size n f s V L C) (by kernel_rfl) (by decide) ?_ ?_ ?_
  · exact ⟨fun zz => cond (Nat.beq zz 14) (.int .i64 0) (cond (Nat.beq zz 13) (.string ⟨#[]⟩) (undef)), rfl, (Below.refl _ _).drew, Lib.hid (fun i _ h => by cases h), Lib.hid (fun h => by cases h)⟩
  · refine AllI.cons ?_ (AllI.cons ?_ (AllI.cons ?_ (AllI.cons ?_ (AllI.cons ?_ (AllI.cons ?_ (AllI.cons ?_ (AllI.cons ?_ (AllI.cons ?_ (AllI.cons ?_ (AllI.cons ?_ (AllI.cons ?_ (AllI.cons ?_ (AllI.cons ?_ (AllI.cons ?_ AllI.nil))))))))))))))
    · intro D aa wx HI hD hdep KK hKK
      obtain ⟨zf, rfl, hB, HF, HX⟩ := HI
      simp only [Act.put, List.toList_toArray, List.take_succ_cons, List.take_zero, List.drop_succ_cons, List.drop_zero, List.cons_append, List.nil_append, List.setIfInBounds_toArray, List.set_cons_zero, List.set_cons_succ]
      go_simp
      exact hKK _ _ ⟨fun zz => cond (Nat.beq zz 0) (.pointer (some ⟨w.heap.size, 1, none⟩)) (zf zz), rfl, hB, Lib.hid (upd_fact2 (i := 0) (v := .pointer (some ⟨w.heap.size, 1, none⟩)) HF.out rfl), Lib.hid (fun h => (HX.out h))⟩
    · intro D aa wx HI hD hdep KK hKK
      obtain ⟨zf, rfl, hB, HF, HX⟩ := HI
      simp [Region.binds] at hdep
      have E0 : zf 0 = .pointer (some ⟨w.heap.size, 1, none⟩) := HF.out 0 rfl (by simp [hdep])
      obtain ⟨c0, c1, c2⟩ := S.out.below hB
      simp only [E0, Act.put, List.toList_toArray, List.take_succ_cons, List.take_zero, List.drop_succ_cons, List.drop_zero, List.cons_append, List.nil_append, List.setIfInBounds_toArray, List.set_cons_zero, List.set_cons_succ]
      go_simp
      exact hKK _ _ ⟨fun zz => cond (Nat.beq zz 1) (.agg #[.int .i64 f, .int .i64 s]) (cond (Nat.beq zz 0) (.pointer (some ⟨w.heap.size, 1, none⟩)) (zf zz)), rfl, hB, Lib.hid (upd_fact2 (i := 1) (v := .agg #[.int .i64 f, .int .i64 s]) (cond_fact2 (j := 0) (v := .pointer (some ⟨w.heap.size, 1, none⟩)) HF.out rfl) rfl), Lib.hid (fun h => (HX.out h))⟩
    · intro D aa wx HI hD hdep KK hKK
      obtain ⟨zf, rfl, hB, HF, HX⟩ := HI
      simp [Region.binds] at hdep
      have E1 : zf 1 = .agg #[.int .i64 f, .int .i64 s] := HF.out 1 rfl (by simp [hdep])
      simp only [E1, Act.put, List.toList_toArray, List.take_succ_cons, List.take_zero, List.drop_succ_cons, List.drop_zero, List.cons_append, List.nil_append, List.setIfInBounds_toArray, List.set_cons_zero, List.set_cons_succ]
      go_simp
      refine (H1.out _).mono ?_
      rintro e w5 ⟨rfl, hb⟩
      exact hKK _ _ ⟨fun zz => cond (Nat.beq zz 2) (.bool V) (cond (Nat.beq zz 1) (.agg #[.int .i64 f, .int .i64 s]) (zf zz)), rfl, below_to hB hb, Lib.hid (upd_fact2 (i := 2) (v := .bool V) (cond_fact2 (j := 1) (v := .agg #[.int .i64 f, .int .i64 s]) HF.out rfl) rfl), Lib.hid (fun h => (HX.out h).below hb)⟩
    · intro D aa wx HI hD hdep KK hKK
      obtain ⟨zf, rfl, hB, HF, HX⟩ := HI
      simp only [Act.put, List.toList_toArray, List.take_succ_cons, List.take_zero, List.drop_succ_cons, List.drop_zero, List.cons_append, List.nil_append, List.setIfInBounds_toArray, List.set_cons_zero, List.set_cons_succ]
      go_simp
      exact hKK _ _ ⟨fun zz => cond (Nat.beq zz 3) (.pointer (some ⟨w.heap.size, 0, none⟩)) (zf zz), rfl, hB, Lib.hid (upd_fact2 (i := 3) (v := .pointer (some ⟨w.heap.size, 0, none⟩)) HF.out rfl), Lib.hid (fun h => (HX.out h))⟩
    · intro D aa wx HI hD hdep KK hKK
      obtain ⟨zf, rfl, hB, HF, HX⟩ := HI
      simp [Region.binds] at hdep
      have E3 : zf 3 = .pointer (some ⟨w.heap.size, 0, none⟩) := HF.out 3 rfl (by simp [hdep])
      obtain ⟨c0, c1, c2⟩ := S.out.below hB
      simp only [E3, Act.put, List.toList_toArray, List.take_succ_cons, List.take_zero, List.drop_succ_cons, List.drop_zero, List.cons_append, List.nil_append, List.setIfInBounds_toArray, List.set_cons_zero, List.set_cons_succ]
      go_simp
      exact hKK _ _ ⟨fun zz => cond (Nat.beq zz 4) (.int .u32 (n : Int)) (cond (Nat.beq zz 3) (.pointer (some ⟨w.heap.size, 0, none⟩)) (zf zz)), rfl, hB, Lib.hid (upd_fact2 (i := 4) (v := .int .u32 (n : Int)) (cond_fact2 (j := 3) (v := .pointer (some ⟨w.heap.size, 0, none⟩)) HF.out rfl) rfl), Lib.hid (fun h => (HX.out h))⟩
    · intro D aa wx HI hD hdep KK hKK
      obtain ⟨zf, rfl, hB, HF, HX⟩ := HI
      simp [Region.binds] at hdep
      have E4 : zf 4 = .int .u32 (n : Int) := HF.out 4 rfl (by simp [hdep])
      simp only [E4, Act.put, List.toList_toArray, List.take_succ_cons, List.take_zero, List.drop_succ_cons, List.drop_zero, List.cons_append, List.nil_append, List.setIfInBounds_toArray, List.set_cons_zero, List.set_cons_succ]
      go_simp
      refine (H2.out _).mono ?_
      rintro e w5 ⟨rfl, hb⟩
      exact hKK _ _ ⟨fun zz => cond (Nat.beq zz 5) (.string L) (cond (Nat.beq zz 4) (.int .u32 (n : Int)) (zf zz)), rfl, below_to hB hb, Lib.hid (upd_fact2 (i := 5) (v := .string L) (cond_fact2 (j := 4) (v := .int .u32 (n : Int)) HF.out rfl) rfl), Lib.hid (fun h => (HX.out h).below hb)⟩
    · intro D aa wx HI hD hdep KK hKK
      obtain ⟨zf, rfl, hB, HF, HX⟩ := HI
      simp only [Act.put, List.toList_toArray, List.take_succ_cons, List.take_zero, List.drop_succ_cons, List.drop_zero, List.cons_append, List.nil_append, List.setIfInBounds_toArray, List.set_cons_zero, List.set_cons_succ]
      go_simp
      exact hKK _ _ ⟨fun zz => cond (Nat.beq zz 6) (.pointer (some ⟨w.heap.size, 1, none⟩)) (zf zz), rfl, hB, Lib.hid (upd_fact2 (i := 6) (v := .pointer (some ⟨w.heap.size, 1, none⟩)) HF.out rfl), Lib.hid (fun h => (HX.out h))⟩
    · intro D aa wx HI hD hdep KK hKK
      obtain ⟨zf, rfl, hB, HF, HX⟩ := HI
      simp [Region.binds] at hdep
      have E6 : zf 6 = .pointer (some ⟨w.heap.size, 1, none⟩) := HF.out 6 rfl (by simp [hdep])
      obtain ⟨c0, c1, c2⟩ := S.out.below hB
      simp only [E6, Act.put, List.toList_toArray, List.take_succ_cons, List.take_zero, List.drop_succ_cons, List.drop_zero, List.cons_append, List.nil_append, List.setIfInBounds_toArray, List.set_cons_zero, List.set_cons_succ]
      go_simp
      exact hKK _ _ ⟨fun zz => cond (Nat.beq zz 7) (.agg #[.int .i64 f, .int .i64 s]) (cond (Nat.beq zz 6) (.pointer (some ⟨w.heap.size, 1, none⟩)) (zf zz)), rfl, hB, Lib.hid (upd_fact2 (i := 7) (v := .agg #[.int .i64 f, .int .i64 s]) (cond_fact2 (j := 6) (v := .pointer (some ⟨w.heap.size, 1, none⟩)) HF.out rfl) rfl), Lib.hid (fun h => (HX.out h))⟩
    · intro D aa wx HI hD hdep KK hKK
      obtain ⟨zf, rfl, hB, HF, HX⟩ := HI
      simp [Region.binds] at hdep
      have E7 : zf 7 = .agg #[.int .i64 f, .int .i64 s] := HF.out 7 rfl (by simp [hdep])
      simp only [E7, Act.put, List.toList_toArray, List.take_succ_cons, List.take_zero, List.drop_succ_cons, List.drop_zero, List.cons_append, List.nil_append, List.setIfInBounds_toArray, List.set_cons_zero, List.set_cons_succ]
      go_simp
      refine (H3.out _).mono ?_
      rintro e w5 ⟨rfl, hb⟩
      exact hKK _ _ ⟨fun zz => cond (Nat.beq zz 8) (.string C) (cond (Nat.beq zz 7) (.agg #[.int .i64 f, .int .i64 s]) (zf zz)), rfl, below_to hB hb, Lib.hid (upd_fact2 (i := 8) (v := .string C) (cond_fact2 (j := 7) (v := .agg #[.int .i64 f, .int .i64 s]) HF.out rfl) rfl), Lib.hid (fun h => (HX.out h).below hb)⟩
    · intro D aa wx HI hD hdep KK hKK
      obtain ⟨zf, rfl, hB, HF, HX⟩ := HI
      simp [Region.binds] at hdep
      have E5 : zf 5 = .string L := HF.out 5 rfl (by simp [hdep])
      have E8 : zf 8 = .string C := HF.out 8 rfl (by simp [hdep])
      simp only [E5, E8, Act.put, List.toList_toArray, List.take_succ_cons, List.take_zero, List.drop_succ_cons, List.drop_zero, List.cons_append, List.nil_append, List.setIfInBounds_toArray, List.set_cons_zero, List.set_cons_succ]
      go_simp
      have hb := below_box wx (.cells #[.string L, .string C] 9)
      exact hKK _ _ ⟨fun zz => cond (Nat.beq zz 9) (.slice (some ⟨wx.heap.size, 0, none⟩) 2 2) (cond (Nat.beq zz 8) (.string C) (cond (Nat.beq zz 5) (.string L) (zf zz))), rfl, below_to hB hb, Lib.hid (upd_row (cond_fact2 (j := 8) (v := .string C) (cond_fact2 (j := 5) (v := .string L) HF.out rfl) rfl)), Lib.hid (fun _ => RowP.new wx _ 9)⟩
    · intro D aa wx HI hD hdep KK hKK
      obtain ⟨zf, rfl, hB, HF, HX⟩ := HI
      simp [Region.binds] at hdep
      have E2 : zf 2 = .bool V := HF.out 2 rfl (by simp [hdep])
      obtain ⟨B, E9, HCB⟩ := HX.out (by simp [hdep])
      replace HCB := Lib.hid HCB
      simp only [E2, E9, Act.put, List.toList_toArray, List.take_succ_cons, List.take_zero, List.drop_succ_cons, List.drop_zero, List.cons_append, List.nil_append, List.setIfInBounds_toArray, List.set_cons_zero, List.set_cons_succ]
      go_simp
      refine (encoded_any V [L, C] B _ HCB.out (by simp) hl).mono ?_
      rintro e w5 ⟨rfl, hb⟩
      exact hKK _ _ ⟨fun zz => cond (Nat.beq zz 10) (.tuple #[.string (encS V [L, C]), .int .i64 (argE V)]) (cond (Nat.beq zz 9) (.slice (some ⟨B, 0, none⟩) 2 2) (cond (Nat.beq zz 2) (.bool V) (zf zz))), rfl, below_to hB hb, Lib.hid (upd_fact2 (i := 10) (v := .tuple #[.string (encS V [L, C]), .int .i64 (argE V)]) (cond_row (cond_fact2 (j := 2) (v := .bool V) HF.out rfl)) rfl), Lib.hid (fun _ => (RowP.at HCB.out).below hb)⟩
    · intro D aa wx HI hD hdep KK hKK
      obtain ⟨zf, rfl, hB, HF, HX⟩ := HI
      simp [Region.binds] at hdep
      have E10 : zf 10 = .tuple #[.string (encS V [L, C]), .int .i64 (argE V)] := HF.out 10 rfl (by simp [hdep])
      simp only [E10, Act.put, List.toList_toArray, List.take_succ_cons, List.take_zero, List.drop_succ_cons, List.drop_zero, List.cons_append, List.nil_append, List.setIfInBounds_toArray, List.set_cons_zero, List.set_cons_succ]
      go_simp
      exact hKK _ _ ⟨fun zz => cond (Nat.beq zz 11) (.string (encS V [L, C])) (cond (Nat.beq zz 10) (.tuple #[.string (encS V [L, C]), .int .i64 (argE V)]) (zf zz)), rfl, hB, Lib.hid (upd_fact2 (i := 11) (v := .string (encS V [L, C])) (cond_fact2 (j := 10) (v := .tuple #[.string (encS V [L, C]), .int .i64 (argE V)]) HF.out rfl) rfl), Lib.hid (fun h => (HX.out h))⟩
    · intro D aa wx HI hD hdep KK hKK
      obtain ⟨zf, rfl, hB, HF, HX⟩ := HI
      simp [Region.binds] at hdep
      have E10 : zf 10 = .tuple #[.string (encS V [L, C]), .int .i64 (argE V)] := HF.out 10 rfl (by simp [hdep])
      simp only [E10, Act.put, List.toList_toArray, List.take_succ_cons, List.take_zero, List.drop_succ_cons, List.drop_zero, List.cons_append, List.nil_append, List.setIfInBounds_toArray, List.set_cons_zero, List.set_cons_succ]
      go_simp
      exact hKK _ _ ⟨fun zz => cond (Nat.beq zz 12) (.int .i64 (argE V)) (cond (Nat.beq zz 10) (.tuple #[.string (encS V [L, C]), .int .i64 (argE V)]) (zf zz)), rfl, hB, Lib.hid (upd_fact2 (i := 12) (v := .int .i64 (argE V)) (cond_fact2 (j := 10) (v := .tuple #[.string (encS V [L, C]), .int .i64 (argE V)]) HF.out rfl) rfl), Lib.hid (fun h => (HX.out h))⟩
    · intro D aa wx HI hD hdep KK hKK
      obtain ⟨zf, rfl, hB, HF, HX⟩ := HI
      simp [Region.binds] at hdep
      have E11 : zf 11 = .string (encS V [L, C]) := HF.out 11 rfl (by simp [hdep])
      simp only [E11, Act.put, List.toList_toArray, List.take_succ_cons, List.take_zero, List.drop_succ_cons, List.drop_zero, List.cons_append, List.nil_append, List.setIfInBounds_toArray, List.set_cons_zero, List.set_cons_succ]
      go_simp
      exact hKK _ _ ⟨fun zz => cond (Nat.beq zz 13) (.string (encS V [L, C])) (cond (Nat.beq zz 11) (.string (encS V [L, C])) (zf zz)), rfl, hB, Lib.hid (upd_fact2 (i := 13) (v := .string (encS V [L, C])) (cond_fact2 (j := 11) (v := .string (encS V [L, C])) HF.out rfl) rfl), Lib.hid (fun h => (HX.out h))⟩
    · intro D aa wx HI hD hdep KK hKK
      obtain ⟨zf, rfl, hB, HF, HX⟩ := HI
      simp [Region.binds] at hdep
      have E12 : zf 12 = .int .i64 (argE V) := HF.out 12 rfl (by simp [hdep])
      simp only [E12, Act.put, List.toList_toArray, List.take_succ_cons, List.take_zero, List.drop_succ_cons, List.drop_zero, List.cons_append, List.nil_append, List.setIfInBounds_toArray, List.set_cons_zero, List.set_cons_succ]
      go_simp
      exact hKK _ _ ⟨fun zz => cond (Nat.beq zz 14) (.int .i64 (argE V)) (cond (Nat.beq zz 12) (.int .i64 (argE V)) (zf zz)), rfl, hB, Lib.hid (upd_fact2 (i := 14) (v := .int .i64 (argE V)) (cond_fact2 (j := 12) (v := .int .i64 (argE V)) HF.out rfl) rfl), Lib.hid (fun h => (HX.out h))⟩
  intro D aa w7 HI hD
  obtain ⟨zf, rfl, hB, HF, HX⟩ := HI
  have e139 : zf 13 = .string (encS V [L, C]) := HF.out 13 rfl (hD 13 (by simp))
  have e149 : zf 14 = .int .i64 (argE V) := HF.out 14 rfl (hD 14 (by simp))
  simp only [e139, e149, Act.put, List.toList_toArray, List.take_succ_cons, List.take_zero, List.drop_succ_cons, List.drop_zero, List.cons_append, List.nil_append]
  clear HF HX hD
  go_wp2_with fail
  go_ret2
  exact ⟨rfl, below_to BB hB⟩
/-- A part's bytes. -/
def partS (n : Nat) (f s : Int) : ByteArray := encS (okBl f s) [bs (numL 4 n), pairS 2 f s]
theorem putPart_any (n : Nat) (hn : n < 4294967296) (f s : Int) (w : World) : Calls Try.prog 36 #[.agg #[.int .u32 (n : Int), .int .i64 f, .int .i64 s]] w fun e w' => e = strErr (partS n f s) (argE (okBl f s)) ∧ Below w.heap.size w w' :=
  putPart_main n f s _ _ _ (by rw [joinB_size]; simp [pairS_size, bs_size, numL_length]) (Lib.hid (isBlob_any f s)) (Lib.hid (rsum_any n hn)) (Lib.hid (blob_any f s)) w
end Go.Proofs.Yteekjndhehnpaaa
