/- Contracts: PutUpload; blocks of three, five, six cells. -/
import Derived.Test.YteekjndhehnpaaaSI
import Derived.Test.YteekjndhehnpaaaKJ
namespace Go.Proofs.Yteekjndhehnpaaa
open Go.RowKit
set_option maxRecDepth 100000
set_option linter.unusedVariables false
set_option linter.unusedSimpArgs false
set_option maxHeartbeats 8000000
structure Cel3 (w : World) (g : Nat) (a b c : Value) : Prop where
  c0 : w.cell? ⟨g, 0, none⟩ = some a
  c1 : w.cell? ⟨g, 1, none⟩ = some b
  c2 : w.cell? ⟨g, 2, none⟩ = some c
theorem Cel3.lt {w : World} {g : Nat} {a b c : Value} (h : Cel3 w g a b c) : g < w.heap.size := World.block_lt_of_cell? w _ h.c0
theorem Cel3.below {w w1 : World} {g : Nat} {a b c : Value} (h : Cel3 w g a b c) (B : Below w.heap.size w w1) : Cel3 w1 g a b c :=
  ⟨(B.cell (p := ⟨g, 0, none⟩) h.lt).trans h.c0, (B.cell (p := ⟨g, 1, none⟩) h.lt).trans h.c1, (B.cell (p := ⟨g, 2, none⟩) h.lt).trans h.c2⟩
theorem Cel3.new (w : World) (a b c : Value) (T : TypeId) : Cel3 (w.alloc (.cells #[a, b, c] T)) w.heap.size a b c := ⟨by simp [go_sem], by simp [go_sem], by simp [go_sem]⟩
structure Cel6 (w : World) (g : Nat) (a b c d e f : Value) : Prop where
  c0 : w.cell? ⟨g, 0, none⟩ = some a
  c1 : w.cell? ⟨g, 1, none⟩ = some b
  c2 : w.cell? ⟨g, 2, none⟩ = some c
  c3 : w.cell? ⟨g, 3, none⟩ = some d
  c4 : w.cell? ⟨g, 4, none⟩ = some e
  c5 : w.cell? ⟨g, 5, none⟩ = some f
theorem Cel6.lt {w : World} {g : Nat} {a b c d e f : Value} (h : Cel6 w g a b c d e f) : g < w.heap.size := World.block_lt_of_cell? w _ h.c0
theorem Cel6.below {w w1 : World} {g : Nat} {a b c d e f : Value} (h : Cel6 w g a b c d e f) (B : Below w.heap.size w w1) : Cel6 w1 g a b c d e f :=
  ⟨(B.cell (p := ⟨g, 0, none⟩) h.lt).trans h.c0, (B.cell (p := ⟨g, 1, none⟩) h.lt).trans h.c1, (B.cell (p := ⟨g, 2, none⟩) h.lt).trans h.c2, (B.cell (p := ⟨g, 3, none⟩) h.lt).trans h.c3, (B.cell (p := ⟨g, 4, none⟩) h.lt).trans h.c4, (B.cell (p := ⟨g, 5, none⟩) h.lt).trans h.c5⟩
theorem Cel6.new (w : World) (a b c d e f : Value) (T : TypeId) : Cel6 (w.alloc (.cells #[a, b, c, d, e, f] T)) w.heap.size a b c d e f := ⟨by simp [go_sem], by simp [go_sem], by simp [go_sem], by simp [go_sem], by simp [go_sem], by simp [go_sem]⟩
structure Cel5 (w : World) (g : Nat) (a b c d e : Value) : Prop where
  c0 : w.cell? ⟨g, 0, none⟩ = some a
  c1 : w.cell? ⟨g, 1, none⟩ = some b
  c2 : w.cell? ⟨g, 2, none⟩ = some c
  c3 : w.cell? ⟨g, 3, none⟩ = some d
  c4 : w.cell? ⟨g, 4, none⟩ = some e
theorem Cel5.lt {w : World} {g : Nat} {a b c d e : Value} (h : Cel5 w g a b c d e) : g < w.heap.size := World.block_lt_of_cell? w _ h.c0
theorem Cel5.below {w w1 : World} {g : Nat} {a b c d e : Value} (h : Cel5 w g a b c d e) (B : Below w.heap.size w w1) : Cel5 w1 g a b c d e :=
  ⟨(B.cell (p := ⟨g, 0, none⟩) h.lt).trans h.c0, (B.cell (p := ⟨g, 1, none⟩) h.lt).trans h.c1, (B.cell (p := ⟨g, 2, none⟩) h.lt).trans h.c2, (B.cell (p := ⟨g, 3, none⟩) h.lt).trans h.c3, (B.cell (p := ⟨g, 4, none⟩) h.lt).trans h.c4⟩
theorem Cel5.new (w : World) (a b c d e : Value) (T : TypeId) : Cel5 (w.alloc (.cells #[a, b, c, d, e] T)) w.heap.size a b c d e := ⟨by simp [go_sem], by simp [go_sem], by simp [go_sem], by simp [go_sem], by simp [go_sem]⟩
def InvPU_v (g : Nat) (k : ByteArray) (V : Bool) (i : Nat) : Value := ([.pointer (some ⟨g, 0, none⟩), .string k, .int .i64 (argE V), .bool V, .pointer (some ⟨g, 0, none⟩), .string k, undef, .tuple #[.string (encS V [k]), .int .i64 (argE V)], .string (encS V [k]), .int .i64 (argE V), .string (encS V [k]), .int .i64 (argE V)] : List Value).getD i undef
def InvPU (W1 : World) (g : Nat) (k : ByteArray) (V : Bool) (a0 : Act) (D : Nat → Bool) (act : Act) (w : World) : Prop :=
  ∃ f : Nat → Value, act = ⟨(a0.tmps.toList.take 2 ++ f 10 :: f 11 :: f 0 :: f 1 :: f 2 :: f 3 :: f 4 :: f 5 :: f 6 :: f 7 :: f 8 :: f 9 :: a0.tmps.toList.drop 14).toArray, []⟩ ∧ Below W1.heap.size W1 w ∧ Hid (∀ i, Nat.beq i 6 = false → D i = true → f i = InvPU_v g k V i) ∧ Hid (D 6 = true → RowP [k] w (f 6))
theorem One.below {w w1 : World} {g : Nat} {a : Value} (h : w.cell? ⟨g, 0, none⟩ = some a) (B : Below w.heap.size w w1) : w1.cell? ⟨g, 0, none⟩ = some a := (B.cell (p := ⟨g, 0, none⟩) (World.block_lt_of_cell? w _ h)).trans h
theorem putUpload_main (k : ByteArray) (V : Bool) (hV : (argE V == 0) = V) (hl : (joinB [k]).size ≤ 100000)
    (H1 : Hid (∀ w, Calls Try.prog 58 #[.string k] w fun e w' => e = .returned (.int .i64 (argE V)) ∧ Below w.heap.size w w'))
    (w : World) : Calls Try.prog 34 #[.agg #[.string k]] w fun e w' => e = strErr (encS V [k]) (argE V) ∧ Below w.heap.size w w' := by
  go_enter Try.func34, Try.ntmps34
  go_wp2_with fail
  have S : Hid ((w.alloc (.cells #[.string k] 66)).cell? ⟨w.heap.size, 0, none⟩ = some (.string k)) := Lib.hid (by simp [go_sem])
  have BB := below_box w (.cells #[.string k] 66)
  generalize w.alloc (.cells #[.string k] 66) = w1 at S BB ⊢
  refine wp_region_inv0 (InvPU w1 w.heap.size k V) (by kernel_rfl) (by decide) ?_ ?_ ?_
  · exact ⟨fun zz => cond (Nat.beq zz 11) (.int .i64 0) (cond (Nat.beq zz 10) (.string ⟨#[]⟩) (undef)), rfl, (Below.refl _ _).drew, Lib.hid (fun i _ h => by cases h), Lib.hid (fun h => by cases h)⟩
  · refine AllI.cons ?_ (AllI.cons ?_ (AllI.cons ?_ (AllI.cons ?_ (AllI.cons ?_ (AllI.cons ?_ (AllI.cons ?_ (AllI.cons ?_ (AllI.cons ?_ (AllI.cons ?_ (AllI.cons ?_ (AllI.cons ?_ AllI.nil)))))))))))
    · intro D aa wx HI hD hdep KK hKK
      obtain ⟨f, rfl, hB, HF, HX⟩ := HI
      simp only [Act.put, List.toList_toArray, List.take_succ_cons, List.take_zero, List.drop_succ_cons, List.drop_zero, List.cons_append, List.nil_append, List.setIfInBounds_toArray, List.set_cons_zero, List.set_cons_succ]
      go_simp
      exact hKK _ _ ⟨fun zz => cond (Nat.beq zz 0) (.pointer (some ⟨w.heap.size, 0, none⟩)) (f zz), rfl, hB, Lib.hid (upd_fact2 (i := 0) (v := .pointer (some ⟨w.heap.size, 0, none⟩)) HF.out rfl), Lib.hid (fun h => (HX.out h))⟩
    · intro D aa wx HI hD hdep KK hKK
      obtain ⟨f, rfl, hB, HF, HX⟩ := HI
      simp [Region.binds] at hdep
      have E0 : f 0 = .pointer (some ⟨w.heap.size, 0, none⟩) := HF.out 0 rfl (by simp [hdep])
      have c0 := One.below S.out hB
      simp only [E0, Act.put, List.toList_toArray, List.take_succ_cons, List.take_zero, List.drop_succ_cons, List.drop_zero, List.cons_append, List.nil_append, List.setIfInBounds_toArray, List.set_cons_zero, List.set_cons_succ]
      go_simp
      exact hKK _ _ ⟨fun zz => cond (Nat.beq zz 1) (.string k) (cond (Nat.beq zz 0) (.pointer (some ⟨w.heap.size, 0, none⟩)) (f zz)), rfl, hB, Lib.hid (upd_fact2 (i := 1) (v := .string k) (cond_fact2 (j := 0) (v := .pointer (some ⟨w.heap.size, 0, none⟩)) HF.out rfl) rfl), Lib.hid (fun h => (HX.out h))⟩
    · intro D aa wx HI hD hdep KK hKK
      obtain ⟨f, rfl, hB, HF, HX⟩ := HI
      simp [Region.binds] at hdep
      have E1 : f 1 = .string k := HF.out 1 rfl (by simp [hdep])
      simp only [E1, Act.put, List.toList_toArray, List.take_succ_cons, List.take_zero, List.drop_succ_cons, List.drop_zero, List.cons_append, List.nil_append, List.setIfInBounds_toArray, List.set_cons_zero, List.set_cons_succ]
      go_simp
      refine (H1.out _).mono ?_
      rintro e w5 ⟨rfl, hb⟩
      exact hKK _ _ ⟨fun zz => cond (Nat.beq zz 2) (.int .i64 (argE V)) (cond (Nat.beq zz 1) (.string k) (f zz)), rfl, below_to hB hb, Lib.hid (upd_fact2 (i := 2) (v := .int .i64 (argE V)) (cond_fact2 (j := 1) (v := .string k) HF.out rfl) rfl), Lib.hid (fun h => (HX.out h).below hb)⟩
    · intro D aa wx HI hD hdep KK hKK
      obtain ⟨f, rfl, hB, HF, HX⟩ := HI
      simp [Region.binds] at hdep
      have E2 : f 2 = .int .i64 (argE V) := HF.out 2 rfl (by simp [hdep])
      simp only [E2, Act.put, List.toList_toArray, List.take_succ_cons, List.take_zero, List.drop_succ_cons, List.drop_zero, List.cons_append, List.nil_append, List.setIfInBounds_toArray, List.set_cons_zero, List.set_cons_succ]
      go_simp
      exact hKK _ _ ⟨fun zz => cond (Nat.beq zz 3) (.bool V) (cond (Nat.beq zz 2) (.int .i64 (argE V)) (f zz)), rfl, hB, Lib.hid (upd_fact2 (i := 3) (v := .bool V) (cond_fact2 (j := 2) (v := .int .i64 (argE V)) HF.out rfl) rfl), Lib.hid (fun h => (HX.out h))⟩
    · intro D aa wx HI hD hdep KK hKK
      obtain ⟨f, rfl, hB, HF, HX⟩ := HI
      simp only [Act.put, List.toList_toArray, List.take_succ_cons, List.take_zero, List.drop_succ_cons, List.drop_zero, List.cons_append, List.nil_append, List.setIfInBounds_toArray, List.set_cons_zero, List.set_cons_succ]
      go_simp
      exact hKK _ _ ⟨fun zz => cond (Nat.beq zz 4) (.pointer (some ⟨w.heap.size, 0, none⟩)) (f zz), rfl, hB, Lib.hid (upd_fact2 (i := 4) (v := .pointer (some ⟨w.heap.size, 0, none⟩)) HF.out rfl), Lib.hid (fun h => (HX.out h))⟩
    · intro D aa wx HI hD hdep KK hKK
      obtain ⟨f, rfl, hB, HF, HX⟩ := HI
      simp [Region.binds] at hdep
      have E4 : f 4 = .pointer (some ⟨w.heap.size, 0, none⟩) := HF.out 4 rfl (by simp [hdep])
      have c0 := One.below S.out hB
      simp only [E4, Act.put, List.toList_toArray, List.take_succ_cons, List.take_zero, List.drop_succ_cons, List.drop_zero, List.cons_append, List.nil_append, List.setIfInBounds_toArray, List.set_cons_zero, List.set_cons_succ]
      go_simp
      exact hKK _ _ ⟨fun zz => cond (Nat.beq zz 5) (.string k) (cond (Nat.beq zz 4) (.pointer (some ⟨w.heap.size, 0, none⟩)) (f zz)), rfl, hB, Lib.hid (upd_fact2 (i := 5) (v := .string k) (cond_fact2 (j := 4) (v := .pointer (some ⟨w.heap.size, 0, none⟩)) HF.out rfl) rfl), Lib.hid (fun h => (HX.out h))⟩
    · intro D aa wx HI hD hdep KK hKK
      obtain ⟨f, rfl, hB, HF, HX⟩ := HI
      simp [Region.binds] at hdep
      have E5 : f 5 = .string k := HF.out 5 rfl (by simp [hdep])
      simp only [E5, Act.put, List.toList_toArray, List.take_succ_cons, List.take_zero, List.drop_succ_cons, List.drop_zero, List.cons_append, List.nil_append, List.setIfInBounds_toArray, List.set_cons_zero, List.set_cons_succ]
      go_simp
      have hb := below_box wx (.cells #[.string k] 9)
      exact hKK _ _ ⟨fun zz => cond (Nat.beq zz 6) (.slice (some ⟨wx.heap.size, 0, none⟩) 1 1) (cond (Nat.beq zz 5) (.string k) (f zz)), rfl, below_to hB hb, Lib.hid (upd_row (cond_fact2 (j := 5) (v := .string k) HF.out rfl)), Lib.hid (fun _ => RowP.new wx _ 9)⟩
    · intro D aa wx HI hD hdep KK hKK
      obtain ⟨f, rfl, hB, HF, HX⟩ := HI
      simp [Region.binds] at hdep
      have E3 : f 3 = .bool V := HF.out 3 rfl (by simp [hdep])
      obtain ⟨B, E6, HCB⟩ := HX.out (by simp [hdep])
      replace HCB := Lib.hid HCB
      simp only [E3, E6, Act.put, List.toList_toArray, List.take_succ_cons, List.take_zero, List.drop_succ_cons, List.drop_zero, List.cons_append, List.nil_append, List.setIfInBounds_toArray, List.set_cons_zero, List.set_cons_succ]
      go_simp
      refine (encoded_any V [k] B _ HCB.out (by simp) hl).mono ?_
      rintro e w5 ⟨rfl, hb⟩
      exact hKK _ _ ⟨fun zz => cond (Nat.beq zz 7) (.tuple #[.string (encS V [k]), .int .i64 (argE V)]) (cond (Nat.beq zz 6) (.slice (some ⟨B, 0, none⟩) 1 1) (cond (Nat.beq zz 3) (.bool V) (f zz))), rfl, below_to hB hb, Lib.hid (upd_fact2 (i := 7) (v := .tuple #[.string (encS V [k]), .int .i64 (argE V)]) (cond_row (cond_fact2 (j := 3) (v := .bool V) HF.out rfl)) rfl), Lib.hid (fun _ => (RowP.at HCB.out).below hb)⟩
    · intro D aa wx HI hD hdep KK hKK
      obtain ⟨f, rfl, hB, HF, HX⟩ := HI
      simp [Region.binds] at hdep
      have E7 : f 7 = .tuple #[.string (encS V [k]), .int .i64 (argE V)] := HF.out 7 rfl (by simp [hdep])
      simp only [E7, Act.put, List.toList_toArray, List.take_succ_cons, List.take_zero, List.drop_succ_cons, List.drop_zero, List.cons_append, List.nil_append, List.setIfInBounds_toArray, List.set_cons_zero, List.set_cons_succ]
      go_simp
      exact hKK _ _ ⟨fun zz => cond (Nat.beq zz 8) (.string (encS V [k])) (cond (Nat.beq zz 7) (.tuple #[.string (encS V [k]), .int .i64 (argE V)]) (f zz)), rfl, hB, Lib.hid (upd_fact2 (i := 8) (v := .string (encS V [k])) (cond_fact2 (j := 7) (v := .tuple #[.string (encS V [k]), .int .i64 (argE V)]) HF.out rfl) rfl), Lib.hid (fun h => (HX.out h))⟩
    · intro D aa wx HI hD hdep KK hKK
      obtain ⟨f, rfl, hB, HF, HX⟩ := HI
      simp [Region.binds] at hdep
      have E7 : f 7 = .tuple #[.string (encS V [k]), .int .i64 (argE V)] := HF.out 7 rfl (by simp [hdep])
      simp only [E7, Act.put, List.toList_toArray, List.take_succ_cons, List.take_zero, List.drop_succ_cons, List.drop_zero, List.cons_append, List.nil_append, List.setIfInBounds_toArray, List.set_cons_zero, List.set_cons_succ]
      go_simp
      exact hKK _ _ ⟨fun zz => cond (Nat.beq zz 9) (.int .i64 (argE V)) (cond (Nat.beq zz 7) (.tuple #[.string (encS V [k]), .int .i64 (argE V)]) (f zz)), rfl, hB, Lib.hid (upd_fact2 (i := 9) (v := .int .i64 (argE V)) (cond_fact2 (j := 7) (v := .tuple #[.string (encS V [k]), .int .i64 (argE V)]) HF.out rfl) rfl), Lib.hid (fun h => (HX.out h))⟩
    · intro D aa wx HI hD hdep KK hKK
      obtain ⟨f, rfl, hB, HF, HX⟩ := HI
      simp [Region.binds] at hdep
      have E8 : f 8 = .string (encS V [k]) := HF.out 8 rfl (by simp [hdep])
      simp only [E8, Act.put, List.toList_toArray, List.take_succ_cons, List.take_zero, List.drop_succ_cons, List.drop_zero, List.cons_append, List.nil_append, List.setIfInBounds_toArray, List.set_cons_zero, List.set_cons_succ]
      go_simp
      exact hKK _ _ ⟨fun zz => cond (Nat.beq zz 10) (.string (encS V [k])) (cond (Nat.beq zz 8) (.string (encS V [k])) (f zz)), rfl, hB, Lib.hid (upd_fact2 (i := 10) (v := .string (encS V [k])) (cond_fact2 (j := 8) (v := .string (encS V [k])) HF.out rfl) rfl), Lib.hid (fun h => (HX.out h))⟩
    · intro D aa wx HI hD hdep KK hKK
      obtain ⟨f, rfl, hB, HF, HX⟩ := HI
      simp [Region.binds] at hdep
      have E9 : f 9 = .int .i64 (argE V) := HF.out 9 rfl (by simp [hdep])
      simp only [E9, Act.put, List.toList_toArray, List.take_succ_cons, List.take_zero, List.drop_succ_cons, List.drop_zero, List.cons_append, List.nil_append, List.setIfInBounds_toArray, List.set_cons_zero, List.set_cons_succ]
      go_simp
      exact hKK _ _ ⟨fun zz => cond (Nat.beq zz 11) (.int .i64 (argE V)) (cond (Nat.beq zz 9) (.int .i64 (argE V)) (f zz)), rfl, hB, Lib.hid (upd_fact2 (i := 11) (v := .int .i64 (argE V)) (cond_fact2 (j := 9) (v := .int .i64 (argE V)) HF.out rfl) rfl), Lib.hid (fun h => (HX.out h))⟩
  intro D aa w7 HI hD
  obtain ⟨f, rfl, hB, HF, HX⟩ := HI
  have e109 : f 10 = .string (encS V [k]) := HF.out 10 rfl (hD 10 (by simp))
  have e119 : f 11 = .int .i64 (argE V) := HF.out 11 rfl (hD 11 (by simp))
  simp only [e109, e119, Act.put, List.toList_toArray, List.take_succ_cons, List.take_zero, List.drop_succ_cons, List.drop_zero, List.cons_append, List.nil_append]
  clear HF HX hD
  go_wp2_with fail
  go_ret2
  exact ⟨rfl, below_to BB hB⟩
theorem putUpload_any (k : ByteArray) (hk : k.size ≤ 1000) (w : World) : Calls Try.prog 34 #[.agg #[.string k]] w fun e w' => e = strErr (encS (nameB k) [k]) (argE (nameB k)) ∧ Below w.heap.size w w' :=
  putUpload_main k _ (by cases nameB k <;> rfl) (by rw [joinB_size]; simp; omega) (Lib.hid (kname_any k (Nat.le_trans hk (by decide)))) w
end Go.Proofs.Yteekjndhehnpaaa
