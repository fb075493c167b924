/- Contracts: PutTenant. -/
import Derived.Test.YteekjndhehnpaaaSC
namespace Go.Proofs.Yteekjndhehnpaaa
open Go.RowKit
set_option maxRecDepth 100000
set_option linter.unusedVariables false
set_option linter.unusedSimpArgs false
set_option maxHeartbeats 8000000
/-- Block g holds four numbers. -/
structure Quad (w : World) (g : Nat) (a b c d : Value) : Prop where
  c0 : w.cell? ⟨g, 0, none⟩ = some a
  c1 : w.cell? ⟨g, 1, none⟩ = some b
  c2 : w.cell? ⟨g, 2, none⟩ = some c
  c3 : w.cell? ⟨g, 3, none⟩ = some d
theorem Quad.lt {w : World} {g : Nat} {a b c d : Value} (h : Quad w g a b c d) : g < w.heap.size := World.block_lt_of_cell? w _ h.c0
theorem Quad.below {w w1 : World} {g : Nat} {a b c d : Value} (h : Quad w g a b c d) (B : Below w.heap.size w w1) : Quad w1 g a b c d :=
  ⟨(B.cell (p := ⟨g, 0, none⟩) h.lt).trans h.c0, (B.cell (p := ⟨g, 1, none⟩) h.lt).trans h.c1, (B.cell (p := ⟨g, 2, none⟩) h.lt).trans h.c2, (B.cell (p := ⟨g, 3, none⟩) h.lt).trans h.c3⟩
theorem Quad.new (w : World) (a b c d : Value) (T : TypeId) : Quad (w.alloc (.cells #[a, b, c, d] T)) w.heap.size a b c d := ⟨by simp [go_sem], by simp [go_sem], by simp [go_sem], by simp [go_sem]⟩
def InvPT_v (g : Nat) (a : Int) (b : Int) (c : Int) (d : Int) (V : Bool) (L : ByteArray) (C : ByteArray) (i : Nat) : Value := ([.pointer (some ⟨g, 0, none⟩), .agg #[.int .i64 a, .int .i64 b], .pointer (some ⟨g, 2, none⟩), .agg #[.int .i64 c, .int .i64 d], .bool V, .pointer (some ⟨g, 0, none⟩), .agg #[.int .i64 a, .int .i64 b], .string L, .pointer (some ⟨g, 2, none⟩), .agg #[.int .i64 c, .int .i64 d], .string C, undef, .tuple #[.string (encS V [L, C]), .int .i64 (argE V)], .string (encS V [L, C]), .int .i64 (argE V), .string (encS V [L, C]), .int .i64 (argE V)] : List Value).getD i undef
def InvPT (W1 : World) (g : Nat) (a : Int) (b : Int) (c : Int) (d : Int) (V : Bool) (L : ByteArray) (C : ByteArray) (a0 : Act) (D : Nat → Bool) (act : Act) (w : World) : Prop :=
  ∃ f : Nat → Value, act = ⟨(a0.tmps.toList.take 2 ++ f 15 :: f 16 :: f 0 :: f 1 :: f 2 :: f 3 :: f 4 :: f 5 :: f 6 :: f 7 :: f 8 :: f 9 :: f 10 :: f 11 :: f 12 :: f 13 :: f 14 :: a0.tmps.toList.drop 19).toArray, []⟩ ∧ Below W1.heap.size W1 w ∧ Hid (∀ i, Nat.beq i 11 = false → D i = true → f i = InvPT_v g a b c d V L C i) ∧ Hid (D 11 = true → RowP [L, C] w (f 11))
theorem putTenant_main (a b c d : Int) (V : Bool) (L C : ByteArray) (hl : (joinB [L, C]).size ≤ 100000)
    (H1 : Hid (∀ w, Calls Try.prog 63 #[.agg #[.int .i64 a, .int .i64 b], .agg #[.int .i64 c, .int .i64 d]] w fun e w' => e = .returned (.bool V) ∧ Below w.heap.size w w'))
    (H2 : Hid (∀ w, Calls Try.prog 64 #[.agg #[.int .i64 a, .int .i64 b]] w fun e w' => e = .returned (.string L) ∧ Below w.heap.size w w'))
    (H3 : Hid (∀ w, Calls Try.prog 65 #[.agg #[.int .i64 c, .int .i64 d]] w fun e w' => e = .returned (.string C) ∧ Below w.heap.size w w')) (w : World) :
    Calls Try.prog 28 #[.agg #[.int .i64 a, .int .i64 b, .int .i64 c, .int .i64 d]] w fun e w' => e = strErr (encS V [L, C]) (argE V) ∧ Below w.heap.size w w' := by
  go_enter Try.func28, Try.ntmps28
  go_wp2_with fail
  have S := Lib.hid (Quad.new w (.int .i64 a) (.int .i64 b) (.int .i64 c) (.int .i64 d) 60)
  have BB := below_box w (.cells #[.int .i64 a, .int .i64 b, .int .i64 c, .int .i64 d] 60)
  generalize w.alloc (.cells #[.int .i64 a, .int .i64 b, .int .i64 c, .int .i64 d] 60) = w1 at S BB ⊢
  refine wp_region_inv0 (InvPT w1 w.heap.size a b c d V L C) (by kernel_rfl) (by decide) ?_ ?_ ?_
  · exact ⟨fun zz => cond (Nat.beq zz 16) (.int .i64 0) (cond (Nat.beq zz 15) (.string ⟨#[]⟩) (undef)), rfl, (Below.refl _ _).drew, Lib.hid (fun i _ h => by cases h), Lib.hid (fun h => by cases h)⟩
  · refine AllI.cons ?_ (AllI.cons ?_ (AllI.cons ?_ (AllI.cons ?_ (AllI.cons ?_ (AllI.cons ?_ (AllI.cons ?_ (AllI.cons ?_ (AllI.cons ?_ (AllI.cons ?_ (AllI.cons ?_ (AllI.cons ?_ (AllI.cons ?_ (AllI.cons ?_ (AllI.cons ?_ (AllI.cons ?_ (AllI.cons ?_ AllI.nil))))))))))))))))
    · intro D aa wx HI hD hdep KK hKK
      obtain ⟨f, rfl, hB, HF, HX⟩ := HI
      simp only [Act.put, List.toList_toArray, List.take_succ_cons, List.take_zero, List.drop_succ_cons, List.drop_zero, List.cons_append, List.nil_append, List.setIfInBounds_toArray, List.set_cons_zero, List.set_cons_succ]
      go_simp
      exact hKK _ _ ⟨fun zz => cond (Nat.beq zz 0) (.pointer (some ⟨w.heap.size, 0, none⟩)) (f zz), rfl, hB, Lib.hid (upd_fact2 (i := 0) (v := .pointer (some ⟨w.heap.size, 0, none⟩)) HF.out rfl), Lib.hid (fun h => (HX.out h))⟩
    · intro D aa wx HI hD hdep KK hKK
      obtain ⟨f, rfl, hB, HF, HX⟩ := HI
      simp [Region.binds] at hdep
      have E0 : f 0 = .pointer (some ⟨w.heap.size, 0, none⟩) := HF.out 0 rfl (by simp [hdep])
      obtain ⟨c0, c1, c2, c3⟩ := S.out.below hB
      simp only [E0, Act.put, List.toList_toArray, List.take_succ_cons, List.take_zero, List.drop_succ_cons, List.drop_zero, List.cons_append, List.nil_append, List.setIfInBounds_toArray, List.set_cons_zero, List.set_cons_succ]
      go_simp
      exact hKK _ _ ⟨fun zz => cond (Nat.beq zz 1) (.agg #[.int .i64 a, .int .i64 b]) (cond (Nat.beq zz 0) (.pointer (some ⟨w.heap.size, 0, none⟩)) (f zz)), rfl, hB, Lib.hid (upd_fact2 (i := 1) (v := .agg #[.int .i64 a, .int .i64 b]) (cond_fact2 (j := 0) (v := .pointer (some ⟨w.heap.size, 0, none⟩)) HF.out rfl) rfl), Lib.hid (fun h => (HX.out h))⟩
    · intro D aa wx HI hD hdep KK hKK
      obtain ⟨f, rfl, hB, HF, HX⟩ := HI
      simp only [Act.put, List.toList_toArray, List.take_succ_cons, List.take_zero, List.drop_succ_cons, List.drop_zero, List.cons_append, List.nil_append, List.setIfInBounds_toArray, List.set_cons_zero, List.set_cons_succ]
      go_simp
      exact hKK _ _ ⟨fun zz => cond (Nat.beq zz 2) (.pointer (some ⟨w.heap.size, 2, none⟩)) (f zz), rfl, hB, Lib.hid (upd_fact2 (i := 2) (v := .pointer (some ⟨w.heap.size, 2, none⟩)) HF.out rfl), Lib.hid (fun h => (HX.out h))⟩
    · intro D aa wx HI hD hdep KK hKK
      obtain ⟨f, rfl, hB, HF, HX⟩ := HI
      simp [Region.binds] at hdep
      have E2 : f 2 = .pointer (some ⟨w.heap.size, 2, none⟩) := HF.out 2 rfl (by simp [hdep])
      obtain ⟨c0, c1, c2, c3⟩ := S.out.below hB
      simp only [E2, Act.put, List.toList_toArray, List.take_succ_cons, List.take_zero, List.drop_succ_cons, List.drop_zero, List.cons_append, List.nil_append, List.setIfInBounds_toArray, List.set_cons_zero, List.set_cons_succ]
      go_simp
      exact hKK _ _ ⟨fun zz => cond (Nat.beq zz 3) (.agg #[.int .i64 c, .int .i64 d]) (cond (Nat.beq zz 2) (.pointer (some ⟨w.heap.size, 2, none⟩)) (f zz)), rfl, hB, Lib.hid (upd_fact2 (i := 3) (v := .agg #[.int .i64 c, .int .i64 d]) (cond_fact2 (j := 2) (v := .pointer (some ⟨w.heap.size, 2, none⟩)) HF.out rfl) rfl), Lib.hid (fun h => (HX.out h))⟩
    · intro D aa wx HI hD hdep KK hKK
      obtain ⟨f, rfl, hB, HF, HX⟩ := HI
      simp [Region.binds] at hdep
      have E1 : f 1 = .agg #[.int .i64 a, .int .i64 b] := HF.out 1 rfl (by simp [hdep])
      have E3 : f 3 = .agg #[.int .i64 c, .int .i64 d] := HF.out 3 rfl (by simp [hdep])
      simp only [E1, E3, Act.put, List.toList_toArray, List.take_succ_cons, List.take_zero, List.drop_succ_cons, List.drop_zero, List.cons_append, List.nil_append, List.setIfInBounds_toArray, List.set_cons_zero, List.set_cons_succ]
      go_simp
      refine (H1.out _).mono ?_
      rintro e w5 ⟨rfl, hb⟩
      exact hKK _ _ ⟨fun zz => cond (Nat.beq zz 4) (.bool V) (cond (Nat.beq zz 3) (.agg #[.int .i64 c, .int .i64 d]) (cond (Nat.beq zz 1) (.agg #[.int .i64 a, .int .i64 b]) (f zz))), rfl, below_to hB hb, Lib.hid (upd_fact2 (i := 4) (v := .bool V) (cond_fact2 (j := 3) (v := .agg #[.int .i64 c, .int .i64 d]) (cond_fact2 (j := 1) (v := .agg #[.int .i64 a, .int .i64 b]) HF.out rfl) rfl) rfl), Lib.hid (fun h => (HX.out h).below hb)⟩
    · intro D aa wx HI hD hdep KK hKK
      obtain ⟨f, rfl, hB, HF, HX⟩ := HI
      simp only [Act.put, List.toList_toArray, List.take_succ_cons, List.take_zero, List.drop_succ_cons, List.drop_zero, List.cons_append, List.nil_append, List.setIfInBounds_toArray, List.set_cons_zero, List.set_cons_succ]
      go_simp
      exact hKK _ _ ⟨fun zz => cond (Nat.beq zz 5) (.pointer (some ⟨w.heap.size, 0, none⟩)) (f zz), rfl, hB, Lib.hid (upd_fact2 (i := 5) (v := .pointer (some ⟨w.heap.size, 0, none⟩)) HF.out rfl), Lib.hid (fun h => (HX.out h))⟩
    · intro D aa wx HI hD hdep KK hKK
      obtain ⟨f, rfl, hB, HF, HX⟩ := HI
      simp [Region.binds] at hdep
      have E5 : f 5 = .pointer (some ⟨w.heap.size, 0, none⟩) := HF.out 5 rfl (by simp [hdep])
      obtain ⟨c0, c1, c2, c3⟩ := S.out.below hB
      simp only [E5, Act.put, List.toList_toArray, List.take_succ_cons, List.take_zero, List.drop_succ_cons, List.drop_zero, List.cons_append, List.nil_append, List.setIfInBounds_toArray, List.set_cons_zero, List.set_cons_succ]
      go_simp
      exact hKK _ _ ⟨fun zz => cond (Nat.beq zz 6) (.agg #[.int .i64 a, .int .i64 b]) (cond (Nat.beq zz 5) (.pointer (some ⟨w.heap.size, 0, none⟩)) (f zz)), rfl, hB, Lib.hid (upd_fact2 (i := 6) (v := .agg #[.int .i64 a, .int .i64 b]) (cond_fact2 (j := 5) (v := .pointer (some ⟨w.heap.size, 0, none⟩)) HF.out rfl) rfl), Lib.hid (fun h => (HX.out h))⟩
    · intro D aa wx HI hD hdep KK hKK
      obtain ⟨f, rfl, hB, HF, HX⟩ := HI
      simp [Region.binds] at hdep
      have E6 : f 6 = .agg #[.int .i64 a, .int .i64 b] := HF.out 6 rfl (by simp [hdep])
      simp only [E6, Act.put, List.toList_toArray, List.take_succ_cons, List.take_zero, List.drop_succ_cons, List.drop_zero, List.cons_append, List.nil_append, List.setIfInBounds_toArray, List.set_cons_zero, List.set_cons_succ]
      go_simp
      refine (H2.out _).mono ?_
      rintro e w5 ⟨rfl, hb⟩
      exact hKK _ _ ⟨fun zz => cond (Nat.beq zz 7) (.string L) (cond (Nat.beq zz 6) (.agg #[.int .i64 a, .int .i64 b]) (f zz)), rfl, below_to hB hb, Lib.hid (upd_fact2 (i := 7) (v := .string L) (cond_fact2 (j := 6) (v := .agg #[.int .i64 a, .int .i64 b]) HF.out rfl) rfl), Lib.hid (fun h => (HX.out h).below hb)⟩
    · intro D aa wx HI hD hdep KK hKK
      obtain ⟨f, rfl, hB, HF, HX⟩ := HI
      simp only [Act.put, List.toList_toArray, List.take_succ_cons, List.take_zero, List.drop_succ_cons, List.drop_zero, List.cons_append, List.nil_append, List.setIfInBounds_toArray, List.set_cons_zero, List.set_cons_succ]
      go_simp
      exact hKK _ _ ⟨fun zz => cond (Nat.beq zz 8) (.pointer (some ⟨w.heap.size, 2, none⟩)) (f zz), rfl, hB, Lib.hid (upd_fact2 (i := 8) (v := .pointer (some ⟨w.heap.size, 2, none⟩)) HF.out rfl), Lib.hid (fun h => (HX.out h))⟩
    · intro D aa wx HI hD hdep KK hKK
      obtain ⟨f, rfl, hB, HF, HX⟩ := HI
      simp [Region.binds] at hdep
      have E8 : f 8 = .pointer (some ⟨w.heap.size, 2, none⟩) := HF.out 8 rfl (by simp [hdep])
      obtain ⟨c0, c1, c2, c3⟩ := S.out.below hB
      simp only [E8, Act.put, List.toList_toArray, List.take_succ_cons, List.take_zero, List.drop_succ_cons, List.drop_zero, List.cons_append, List.nil_append, List.setIfInBounds_toArray, List.set_cons_zero, List.set_cons_succ]
      go_simp
      exact hKK _ _ ⟨fun zz => cond (Nat.beq zz 9) (.agg #[.int .i64 c, .int .i64 d]) (cond (Nat.beq zz 8) (.pointer (some ⟨w.heap.size, 2, none⟩)) (f zz)), rfl, hB, Lib.hid (upd_fact2 (i := 9) (v := .agg #[.int .i64 c, .int .i64 d]) (cond_fact2 (j := 8) (v := .pointer (some ⟨w.heap.size, 2, none⟩)) HF.out rfl) rfl), Lib.hid (fun h => (HX.out h))⟩
    · intro D aa wx HI hD hdep KK hKK
      obtain ⟨f, rfl, hB, HF, HX⟩ := HI
      simp [Region.binds] at hdep
      have E9 : f 9 = .agg #[.int .i64 c, .int .i64 d] := HF.out 9 rfl (by simp [hdep])
      simp only [E9, Act.put, List.toList_toArray, List.take_succ_cons, List.take_zero, List.drop_succ_cons, List.drop_zero, List.cons_append, List.nil_append, List.setIfInBounds_toArray, List.set_cons_zero, List.set_cons_succ]
      go_simp
      refine (H3.out _).mono ?_
      rintro e w5 ⟨rfl, hb⟩
      exact hKK _ _ ⟨fun zz => cond (Nat.beq zz 10) (.string C) (cond (Nat.beq zz 9) (.agg #[.int .i64 c, .int .i64 d]) (f zz)), rfl, below_to hB hb, Lib.hid (upd_fact2 (i := 10) (v := .string C) (cond_fact2 (j := 9) (v := .agg #[.int .i64 c, .int .i64 d]) HF.out rfl) rfl), Lib.hid (fun h => (HX.out h).below hb)⟩
    · intro D aa wx HI hD hdep KK hKK
      obtain ⟨f, rfl, hB, HF, HX⟩ := HI
      simp [Region.binds] at hdep
      have E7 : f 7 = .string L := HF.out 7 rfl (by simp [hdep])
      have E10 : f 10 = .string C := HF.out 10 rfl (by simp [hdep])
      simp only [E7, E10, Act.put, List.toList_toArray, List.take_succ_cons, List.take_zero, List.drop_succ_cons, List.drop_zero, List.cons_append, List.nil_append, List.setIfInBounds_toArray, List.set_cons_zero, List.set_cons_succ]
      go_simp
      have hb := below_box wx (.cells #[.string L, .string C] 9)
      exact hKK _ _ ⟨fun zz => cond (Nat.beq zz 11) (.slice (some ⟨wx.heap.size, 0, none⟩) 2 2) (cond (Nat.beq zz 10) (.string C) (cond (Nat.beq zz 7) (.string L) (f zz))), rfl, below_to hB hb, Lib.hid (upd_row (cond_fact2 (j := 10) (v := .string C) (cond_fact2 (j := 7) (v := .string L) HF.out rfl) rfl)), Lib.hid (fun _ => RowP.new wx _ 9)⟩
    · intro D aa wx HI hD hdep KK hKK
      obtain ⟨f, rfl, hB, HF, HX⟩ := HI
      simp [Region.binds] at hdep
      have E4 : f 4 = .bool V := HF.out 4 rfl (by simp [hdep])
      obtain ⟨B, E11, HCB⟩ := HX.out (by simp [hdep])
      replace HCB := Lib.hid HCB
      simp only [E4, E11, Act.put, List.toList_toArray, List.take_succ_cons, List.take_zero, List.drop_succ_cons, List.drop_zero, List.cons_append, List.nil_append, List.setIfInBounds_toArray, List.set_cons_zero, List.set_cons_succ]
      go_simp
      refine (encoded_any V [L, C] B _ HCB.out (by simp) hl).mono ?_
      rintro e w5 ⟨rfl, hb⟩
      exact hKK _ _ ⟨fun zz => cond (Nat.beq zz 12) (.tuple #[.string (encS V [L, C]), .int .i64 (argE V)]) (cond (Nat.beq zz 11) (.slice (some ⟨B, 0, none⟩) 2 2) (cond (Nat.beq zz 4) (.bool V) (f zz))), rfl, below_to hB hb, Lib.hid (upd_fact2 (i := 12) (v := .tuple #[.string (encS V [L, C]), .int .i64 (argE V)]) (cond_row (cond_fact2 (j := 4) (v := .bool V) HF.out rfl)) rfl), Lib.hid (fun _ => (RowP.at HCB.out).below hb)⟩
    · intro D aa wx HI hD hdep KK hKK
      obtain ⟨f, rfl, hB, HF, HX⟩ := HI
      simp [Region.binds] at hdep
      have E12 : f 12 = .tuple #[.string (encS V [L, C]), .int .i64 (argE V)] := HF.out 12 rfl (by simp [hdep])
      simp only [E12, Act.put, List.toList_toArray, List.take_succ_cons, List.take_zero, List.drop_succ_cons, List.drop_zero, List.cons_append, List.nil_append, List.setIfInBounds_toArray, List.set_cons_zero, List.set_cons_succ]
      go_simp
      exact hKK _ _ ⟨fun zz => cond (Nat.beq zz 13) (.string (encS V [L, C])) (cond (Nat.beq zz 12) (.tuple #[.string (encS V [L, C]), .int .i64 (argE V)]) (f zz)), rfl, hB, Lib.hid (upd_fact2 (i := 13) (v := .string (encS V [L, C])) (cond_fact2 (j := 12) (v := .tuple #[.string (encS V [L, C]), .int .i64 (argE V)]) HF.out rfl) rfl), Lib.hid (fun h => (HX.out h))⟩
    · intro D aa wx HI hD hdep KK hKK
      obtain ⟨f, rfl, hB, HF, HX⟩ := HI
      simp [Region.binds] at hdep
      have E12 : f 12 = .tuple #[.string (encS V [L, C]), .int .i64 (argE V)] := HF.out 12 rfl (by simp [hdep])
      simp only [E12, Act.put, List.toList_toArray, List.take_succ_cons, List.take_zero, List.drop_succ_cons, List.drop_zero, List.cons_append, List.nil_append, List.setIfInBounds_toArray, List.set_cons_zero, List.set_cons_succ]
      go_simp
      exact hKK _ _ ⟨fun zz => cond (Nat.beq zz 14) (.int .i64 (argE V)) (cond (Nat.beq zz 12) (.tuple #[.string (encS V [L, C]), .int .i64 (argE V)]) (f zz)), rfl, hB, Lib.hid (upd_fact2 (i := 14) (v := .int .i64 (argE V)) (cond_fact2 (j := 12) (v := .tuple #[.string (encS V [L, C]), .int .i64 (argE V)]) HF.out rfl) rfl), Lib.hid (fun h => (HX.out h))⟩
    · intro D aa wx HI hD hdep KK hKK
      obtain ⟨f, rfl, hB, HF, HX⟩ := HI
      simp [Region.binds] at hdep
      have E13 : f 13 = .string (encS V [L, C]) := HF.out 13 rfl (by simp [hdep])
      simp only [E13, Act.put, List.toList_toArray, List.take_succ_cons, List.take_zero, List.drop_succ_cons, List.drop_zero, List.cons_append, List.nil_append, List.setIfInBounds_toArray, List.set_cons_zero, List.set_cons_succ]
      go_simp
      exact hKK _ _ ⟨fun zz => cond (Nat.beq zz 15) (.string (encS V [L, C])) (cond (Nat.beq zz 13) (.string (encS V [L, C])) (f zz)), rfl, hB, Lib.hid (upd_fact2 (i := 15) (v := .string (encS V [L, C])) (cond_fact2 (j := 13) (v := .string (encS V [L, C])) HF.out rfl) rfl), Lib.hid (fun h => (HX.out h))⟩
    · intro D aa wx HI hD hdep KK hKK
      obtain ⟨f, rfl, hB, HF, HX⟩ := HI
      simp [Region.binds] at hdep
      have E14 : f 14 = .int .i64 (argE V) := HF.out 14 rfl (by simp [hdep])
      simp only [E14, Act.put, List.toList_toArray, List.take_succ_cons, List.take_zero, List.drop_succ_cons, List.drop_zero, List.cons_append, List.nil_append, List.setIfInBounds_toArray, List.set_cons_zero, List.set_cons_succ]
      go_simp
      exact hKK _ _ ⟨fun zz => cond (Nat.beq zz 16) (.int .i64 (argE V)) (cond (Nat.beq zz 14) (.int .i64 (argE V)) (f zz)), rfl, hB, Lib.hid (upd_fact2 (i := 16) (v := .int .i64 (argE V)) (cond_fact2 (j := 14) (v := .int .i64 (argE V)) HF.out rfl) rfl), Lib.hid (fun h => (HX.out h))⟩
  intro D aa w7 HI hD
  obtain ⟨f, rfl, hB, HF, HX⟩ := HI
  have e159 : f 15 = .string (encS V [L, C]) := HF.out 15 rfl (hD 15 (by simp))
  have e169 : f 16 = .int .i64 (argE V) := HF.out 16 rfl (hD 16 (by simp))
  simp only [e159, e169, Act.put, List.toList_toArray, List.take_succ_cons, List.take_zero, List.drop_succ_cons, List.drop_zero, List.cons_append, List.nil_append]
  clear HF HX hD
  go_wp2_with fail
  go_ret2
  exact ⟨rfl, below_to BB hB⟩
theorem joinB_size (xs : List ByteArray) : (joinB xs).size = (xs.map (·.size)).sum := by
  unfold joinB
  rw [bs_size]
  induction xs with
  | nil => rfl
  | cons x r ih => simp only [List.map_cons, List.flatten_cons, List.length_append, List.sum_cons, ih]; rw [← blen]
/-- A tenant's bytes. -/
def tenantS (a b c d : Int) : ByteArray := encS (limB a b && okB c d) [pairS 8 (IntKind.i64.wrap (a + 1)) (IntKind.i64.wrap (b + 1)), pairS 8 c d]
theorem putTenant_any (a b c d : Int) (w : World) : Calls Try.prog 28 #[.agg #[.int .i64 a, .int .i64 b, .int .i64 c, .int .i64 d]] w fun e w' => e = strErr (tenantS a b c d) (argE (limB a b && okB c d)) ∧ Below w.heap.size w w' :=
  putTenant_main a b c d _ _ _ (by rw [joinB_size]; simp [pairS_size]) (Lib.hid (isUsage_any a b c d)) (Lib.hid (limit_any a b)) (Lib.hid (count_any c d)) w
end Go.Proofs.Yteekjndhehnpaaa
