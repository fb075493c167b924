/- The walk of KeysBegin, kind by kind. -/
import Derived.Deep.Cut
import Derived.Test.YteekjndhehnpaaaKT
namespace Go.Proofs.Yteekjndhehnpaaa
open Go.RowKit
set_option maxRecDepth 100000
set_option linter.unusedVariables false
set_option linter.unusedSimpArgs false
set_option maxHeartbeats 20000000
def InvG40 (W1 : World) (g6 : Nat) (A : ByteArray) (FB : ByteArray) (t : Int) (t2 : Int) (a0 : Act) (D : Nat → Bool) (act : Act) (w : World) : Prop :=
  ∃ x46 x47 x48 x49 x50 x51 x52 x53 x54 x55 x56 x57 x58 x59, act = ⟨(a0.tmps.toList.take 46 ++ x46 :: x47 :: x48 :: x49 :: x50 :: x51 :: x52 :: x53 :: x54 :: x55 :: x56 :: x57 :: x58 :: x59 :: a0.tmps.toList.drop 60).toArray, []⟩ ∧ Below W1.heap.size W1 w ∧ Hid ((D 0 = true → x46 = .string A) ∧ (D 1 = true → x47 = .int .i64 t2) ∧ (D 2 = true → x48 = .string FB) ∧ (D 3 = true → x49 = .bool false) ∧ (D 4 = true → x50 = .pointer (some ⟨g6, 0, none⟩)) ∧ (D 5 = true → x51 = .int .i64 4) ∧ (D 6 = true → x52 = .bool false) ∧ (D 7 = true → x53 = .bool false) ∧ (D 8 = true → x54 = undef) ∧ (D 9 = true → x55 = undef) ∧ (D 10 = true → x56 = undef) ∧ (D 11 = true → x57 = undef) ∧ (D 12 = true → x58 = .bool false) ∧ (D 13 = true → x59 = .bool false))
theorem keysBegin4 (t : Int) (b n : ByteArray) (u : Nat) (p : Int) (k2 t2 : Int) (b2 n2 : ByteArray) (u2 : Nat) (A FB FA FC FP : ByteArray) (ea : Int) (h0 : ea = 0) (tq bq xq : Bool) (ht : (t == t2) = tq) (hbq : (b.toList == b2.toList) = bq) 
    (HA : Hid (∀ w, Calls Try.prog 11 #[.agg #[.int .i64 4, .int .i64 t, .string b, .string n, .int .u64 (u : Int), .int .i64 p]] w fun x w' => x = .returned (.tuple #[.string A, .int .i64 ea]) ∧ Below w.heap.size w w'))
    (H18 : Hid (∀ w, Calls Try.prog 18 #[.int .i64 t2] w fun x w' => x = .returned (.string FB) ∧ Below w.heap.size w w'))
    (H20 : Hid (∀ w, Calls Try.prog 20 #[.int .i64 k2, .int .i64 t2, .string b2] w fun x w' => x = .returned (.string FA) ∧ Below w.heap.size w w'))
    (H22 : Hid (∀ w, Calls Try.prog 22 #[.int .i64 t2, .string b2, .string n2] w fun x w' => x = .returned (.string FC) ∧ Below w.heap.size w w'))
    (H24 : Hid (∀ w, Calls Try.prog 24 #[.int .i64 t2, .string b2, .int .u64 (u2 : Int)] w fun x w' => x = .returned (.string FP) ∧ Below w.heap.size w w'))
    (HG1 : Hid (ea = 0 → ∀ w, Calls Try.prog 26 #[.string A, .string FB] w fun x w' => x = .returned (.bool false) ∧ w = w'))
    (HG2 : Hid (ea = 0 → 3 ≤ k2 → k2 ≤ 5 → ∀ w, Calls Try.prog 26 #[.string A, .string FA] w fun x w' => x = .returned (.bool (if k2 = 4 then tq && bq else false)) ∧ w = w'))
    (HG3 : Hid (ea = 0 → ∀ w, Calls Try.prog 26 #[.string A, .string FC] w fun x w' => x = .returned (.bool false) ∧ w = w'))
    (HG4 : Hid (ea = 0 → ∀ w, Calls Try.prog 26 #[.string A, .string FP] w fun x w' => x = .returned (.bool false) ∧ w = w')) (w : World) :
    Calls Try.prog 6 #[.agg #[.int .i64 4, .int .i64 t, .string b, .string n, .int .u64 (u : Int), .int .i64 p], .int .i64 k2, .int .i64 t2, .string b2, .string n2, .int .u64 (u2 : Int)] w fun e w' => e = .returned (.bool true) ∧ Below w.heap.size w w' := by
  by_cases ha : ea = 0
  · replace HG1 := Lib.hid (HG1.out ha)
    replace HG2 := Lib.hid (HG2.out ha)
    replace HG3 := Lib.hid (HG3.out ha)
    replace HG4 := Lib.hid (HG4.out ha)
    subst ha
    cases tq with
    | false =>
      cases bq with
      | false =>
        go_enter Try.func6, Try.ntmps6
        go_wp2_with fail
        have S := Six.new w (.int .i64 4) (.int .i64 t) (.string b) (.string n) (.int .u64 (u : Int)) (.int .i64 p) 24
        have BB := below_box w (.cells #[.int .i64 4, .int .i64 t, .string b, .string n, .int .u64 (u : Int), .int .i64 p] 24)
        refine (lives_any _).mono ?_
        rintro e wn ⟨rfl, hb⟩
        replace S := S.below hb
        replace BB := below_to BB hb
        clear hb
        have c0 := S.c0
        have c1 := S.c1
        have c2 := S.c2
        have c3 := S.c3
        have c4 := S.c4
        have c5 := S.c5
        go_wp2_with fail
        clear c0 c1 c2 c3 c4 c5
        refine (ours_any _ _ _ _ _ _ _).mono ?_
        rintro e wn ⟨rfl, hb⟩
        replace S := S.below hb
        replace BB := below_to BB hb
        clear hb
        go_wp2_with fail
        refine (HA.out _).mono ?_
        rintro e wn ⟨rfl, hb⟩
        replace S := S.below hb
        replace BB := below_to BB hb
        clear hb
        have c0 := S.c0
        have c1 := S.c1
        have c2 := S.c2
        have c3 := S.c3
        have c4 := S.c4
        have c5 := S.c5
        go_wp2_with fail
        clear c0 c1 c2 c3 c4 c5
        refine (H22.out _).mono ?_
        rintro e wn ⟨rfl, hb⟩
        replace S := S.below hb
        replace BB := below_to BB hb
        clear hb
        go_wp2_with fail
        refine (H24.out _).mono ?_
        rintro e wn ⟨rfl, hb⟩
        replace S := S.below hb
        replace BB := below_to BB hb
        clear hb
        go_wp2_with fail
        replace S := Lib.hid S
        refine wp_region_inv0 (InvG40 wn w.heap.size A FB t t2) (by kernel_rfl) (by decide) ?_ ?_ ?_
        · exact ⟨_, _, _, _, _, _, _, _, _, _, _, _, _, _, rfl, (Below.refl _ _).drew, Lib.hid ⟨(by intro h; cases h), (by intro h; cases h), (by intro h; cases h), (by intro h; cases h), (by intro h; cases h), (by intro h; cases h), (by intro h; cases h), (by intro h; cases h), (by intro h; cases h), (by intro h; cases h), (by intro h; cases h), (by intro h; cases h), (by intro h; cases h), (by intro h; cases h)⟩⟩
        · refine AllI.cons ?_ (AllI.cons ?_ (AllI.cons ?_ (AllI.cons ?_ (AllI.cons ?_ (AllI.cons ?_ (AllI.cons ?_ (AllI.cons ?_ (AllI.cons ?_ (AllI.cons ?_ (AllI.cons ?_ (AllI.cons ?_ (AllI.cons ?_ (AllI.cons ?_ AllI.nil)))))))))))))
          · rintro D aa wx ⟨x46, x47, x48, x49, x50, x51, x52, x53, x54, x55, x56, x57, x58, x59, rfl, hB, HF⟩ hD hdep KK hKK
            simp only [Act.put, List.toList_toArray, List.take_succ_cons, List.take_zero, List.drop_succ_cons, List.drop_zero, List.cons_append, List.nil_append, List.setIfInBounds_toArray, List.set_cons_zero, List.set_cons_succ]
            go_simp
            exact hKK _ _ ⟨_, _, _, _, _, _, _, _, _, _, _, _, _, _, rfl, hB, Lib.hid (by obtain ⟨f0, f1, f2, f3, f4, f5, f6, f7, f8, f9, f10, f11, f12, f13⟩ := HF.out; exact ⟨fun _ => rfl, f1, f2, f3, f4, f5, f6, f7, f8, f9, f10, f11, f12, f13⟩)⟩
          · rintro D aa wx ⟨x46, x47, x48, x49, x50, x51, x52, x53, x54, x55, x56, x57, x58, x59, rfl, hB, HF⟩ hD hdep KK hKK
            simp only [Act.put, List.toList_toArray, List.take_succ_cons, List.take_zero, List.drop_succ_cons, List.drop_zero, List.cons_append, List.nil_append, List.setIfInBounds_toArray, List.set_cons_zero, List.set_cons_succ]
            go_simp
            exact hKK _ _ ⟨_, _, _, _, _, _, _, _, _, _, _, _, _, _, rfl, hB, Lib.hid (by obtain ⟨f0, f1, f2, f3, f4, f5, f6, f7, f8, f9, f10, f11, f12, f13⟩ := HF.out; exact ⟨f0, fun _ => rfl, f2, f3, f4, f5, f6, f7, f8, f9, f10, f11, f12, f13⟩)⟩
          · rintro D aa wx ⟨x46, x47, x48, x49, x50, x51, x52, x53, x54, x55, x56, x57, x58, x59, rfl, hB, HF⟩ hD hdep KK hKK
            simp [Region.binds] at hdep
            have h1 : D 1 = true := by simp [hdep]
            have HE := Lib.hid (show x47 = .int .i64 t2 by obtain ⟨f0, f1, f2, f3, f4, f5, f6, f7, f8, f9, f10, f11, f12, f13⟩ := HF.out; exact f1 h1)
            obtain rfl := HE.out
            clear HE
            simp only [Act.put, List.toList_toArray, List.take_succ_cons, List.take_zero, List.drop_succ_cons, List.drop_zero, List.cons_append, List.nil_append, List.setIfInBounds_toArray, List.set_cons_zero, List.set_cons_succ]
            go_simp
            refine (H18.out _).mono ?_
            rintro e w5 ⟨rfl, hb⟩
            exact hKK _ _ ⟨_, _, _, _, _, _, _, _, _, _, _, _, _, _, rfl, below_to hB hb, Lib.hid (by obtain ⟨f0, f1, f2, f3, f4, f5, f6, f7, f8, f9, f10, f11, f12, f13⟩ := HF.out; exact ⟨f0, fun _ => rfl, fun _ => rfl, f3, f4, f5, f6, f7, f8, f9, f10, f11, f12, f13⟩)⟩
          · rintro D aa wx ⟨x46, x47, x48, x49, x50, x51, x52, x53, x54, x55, x56, x57, x58, x59, rfl, hB, HF⟩ hD hdep KK hKK
            simp [Region.binds] at hdep
            have h0 : D 0 = true := by simp [hdep]
            have h2 : D 2 = true := by simp [hdep]
            have HE := Lib.hid (show x46 = .string A ∧ x48 = .string FB by obtain ⟨f0, f1, f2, f3, f4, f5, f6, f7, f8, f9, f10, f11, f12, f13⟩ := HF.out; exact ⟨f0 h0, f2 h2⟩)
            obtain ⟨rfl, rfl⟩ := HE.out
            clear HE
            simp only [Act.put, List.toList_toArray, List.take_succ_cons, List.take_zero, List.drop_succ_cons, List.drop_zero, List.cons_append, List.nil_append, List.setIfInBounds_toArray, List.set_cons_zero, List.set_cons_succ]
            go_simp
            refine (HG1.out _).mono ?_
            rintro e w5 ⟨rfl, hw5⟩
            subst hw5
            have hb := Below.refl wx.heap.size wx
            exact hKK _ _ ⟨_, _, _, _, _, _, _, _, _, _, _, _, _, _, rfl, below_to hB hb, Lib.hid (by obtain ⟨f0, f1, f2, f3, f4, f5, f6, f7, f8, f9, f10, f11, f12, f13⟩ := HF.out; exact ⟨fun _ => rfl, f1, fun _ => rfl, fun _ => rfl, f4, f5, f6, f7, f8, f9, f10, f11, f12, f13⟩)⟩
          · rintro D aa wx ⟨x46, x47, x48, x49, x50, x51, x52, x53, x54, x55, x56, x57, x58, x59, rfl, hB, HF⟩ hD hdep KK hKK
            simp only [Act.put, List.toList_toArray, List.take_succ_cons, List.take_zero, List.drop_succ_cons, List.drop_zero, List.cons_append, List.nil_append, List.setIfInBounds_toArray, List.set_cons_zero, List.set_cons_succ]
            go_simp
            exact hKK _ _ ⟨_, _, _, _, _, _, _, _, _, _, _, _, _, _, rfl, hB, Lib.hid (by obtain ⟨f0, f1, f2, f3, f4, f5, f6, f7, f8, f9, f10, f11, f12, f13⟩ := HF.out; exact ⟨f0, f1, f2, f3, fun _ => rfl, f5, f6, f7, f8, f9, f10, f11, f12, f13⟩)⟩
          · rintro D aa wx ⟨x46, x47, x48, x49, x50, x51, x52, x53, x54, x55, x56, x57, x58, x59, rfl, hB, HF⟩ hD hdep KK hKK
            simp [Region.binds] at hdep
            have h4 : D 4 = true := by simp [hdep]
            have HE := Lib.hid (show x50 = .pointer (some ⟨w.heap.size, 0, none⟩) by obtain ⟨f0, f1, f2, f3, f4, f5, f6, f7, f8, f9, f10, f11, f12, f13⟩ := HF.out; exact f4 h4)
            obtain rfl := HE.out
            clear HE
            obtain ⟨c0, c1, c2, c3, c4, c5, f0, f1, f2, f3, f4, f5⟩ := S.out.below hB
            clear f0 f1 f2 f3 f4 f5 c2 c3 c4 c5
            simp only [Act.put, List.toList_toArray, List.take_succ_cons, List.take_zero, List.drop_succ_cons, List.drop_zero, List.cons_append, List.nil_append, List.setIfInBounds_toArray, List.set_cons_zero, List.set_cons_succ]
            go_simp
            exact hKK _ _ ⟨_, _, _, _, _, _, _, _, _, _, _, _, _, _, rfl, hB, Lib.hid (by obtain ⟨f0, f1, f2, f3, f4, f5, f6, f7, f8, f9, f10, f11, f12, f13⟩ := HF.out; exact ⟨f0, f1, f2, f3, fun _ => rfl, fun _ => rfl, f6, f7, f8, f9, f10, f11, f12, f13⟩)⟩
          · rintro D aa wx ⟨x46, x47, x48, x49, x50, x51, x52, x53, x54, x55, x56, x57, x58, x59, rfl, hB, HF⟩ hD hdep KK hKK
            simp [Region.binds] at hdep
            have h5 : D 5 = true := by simp [hdep]
            have HE := Lib.hid (show x51 = .int .i64 4 by obtain ⟨f0, f1, f2, f3, f4, f5, f6, f7, f8, f9, f10, f11, f12, f13⟩ := HF.out; exact f5 h5)
            obtain rfl := HE.out
            clear HE
            simp only [Act.put, List.toList_toArray, List.take_succ_cons, List.take_zero, List.drop_succ_cons, List.drop_zero, List.cons_append, List.nil_append, List.setIfInBounds_toArray, List.set_cons_zero, List.set_cons_succ]
            go_simp
            exact hKK _ _ ⟨_, _, _, _, _, _, _, _, _, _, _, _, _, _, rfl, hB, Lib.hid (by obtain ⟨f0, f1, f2, f3, f4, f5, f6, f7, f8, f9, f10, f11, f12, f13⟩ := HF.out; exact ⟨f0, f1, f2, f3, f4, fun _ => rfl, fun _ => rfl, f7, f8, f9, f10, f11, f12, f13⟩)⟩
          · rintro D aa wx ⟨x46, x47, x48, x49, x50, x51, x52, x53, x54, x55, x56, x57, x58, x59, rfl, hB, HF⟩ hD hdep KK hKK
            simp [Region.binds] at hdep
            have h6 : D 6 = true := by simp [hdep]
            have HE := Lib.hid (show x52 = .bool false by obtain ⟨f0, f1, f2, f3, f4, f5, f6, f7, f8, f9, f10, f11, f12, f13⟩ := HF.out; exact f6 h6)
            obtain rfl := HE.out
            clear HE
            simp only [Act.put, List.toList_toArray, List.take_succ_cons, List.take_zero, List.drop_succ_cons, List.drop_zero, List.cons_append, List.nil_append, List.setIfInBounds_toArray, List.set_cons_zero, List.set_cons_succ]
            go_simp
            exact hKK _ _ ⟨_, _, _, _, _, _, _, _, _, _, _, _, _, _, rfl, hB, Lib.hid (by obtain ⟨f0, f1, f2, f3, f4, f5, f6, f7, f8, f9, f10, f11, f12, f13⟩ := HF.out; exact ⟨f0, f1, f2, f3, f4, f5, fun _ => rfl, fun _ => rfl, f8, f9, f10, f11, f12, f13⟩)⟩
          · rintro D aa wx ⟨x46, x47, x48, x49, x50, x51, x52, x53, x54, x55, x56, x57, x58, x59, rfl, hB, HF⟩ hD hdep KK hKK
            simp [Region.binds] at hdep
            have h7 : D 7 = true := by simp [hdep]
            have HE := Lib.hid (show x53 = .bool false by obtain ⟨f0, f1, f2, f3, f4, f5, f6, f7, f8, f9, f10, f11, f12, f13⟩ := HF.out; exact f7 h7)
            obtain rfl := HE.out
            clear HE
            simp only [Act.put, List.toList_toArray, List.take_succ_cons, List.take_zero, List.drop_succ_cons, List.drop_zero, List.cons_append, List.nil_append, List.setIfInBounds_toArray, List.set_cons_zero, List.set_cons_succ]
            go_simp
            exact hKK _ _ ⟨_, _, _, _, _, _, _, _, _, _, _, _, _, _, rfl, hB, Lib.hid (by obtain ⟨f0, f1, f2, f3, f4, f5, f6, f7, f8, f9, f10, f11, f12, f13⟩ := HF.out; exact ⟨f0, f1, f2, f3, f4, f5, f6, fun _ => rfl, fun _ => rfl, f9, f10, f11, f12, f13⟩)⟩
          · rintro D aa wx ⟨x46, x47, x48, x49, x50, x51, x52, x53, x54, x55, x56, x57, x58, x59, rfl, hB, HF⟩ hD hdep KK hKK
            simp [Region.binds] at hdep
            have h7 : D 7 = true := by simp [hdep]
            have h8 : D 8 = true := by simp [hdep]
            have HE := Lib.hid (show x53 = .bool false ∧ x54 = undef by obtain ⟨f0, f1, f2, f3, f4, f5, f6, f7, f8, f9, f10, f11, f12, f13⟩ := HF.out; exact ⟨f7 h7, f8 h8⟩)
            obtain ⟨rfl, rfl⟩ := HE.out
            clear HE
            obtain ⟨c0, c1, c2, c3, c4, c5, f0, f1, f2, f3, f4, f5⟩ := S.out.below hB
            clear f0 f1 f2 f3 f4 f5 c2 c3 c4 c5
            simp only [Act.put, List.toList_toArray, List.take_succ_cons, List.take_zero, List.drop_succ_cons, List.drop_zero, List.cons_append, List.nil_append, List.setIfInBounds_toArray, List.set_cons_zero, List.set_cons_succ]
            go_simp
            exact hKK _ _ ⟨_, _, _, _, _, _, _, _, _, _, _, _, _, _, rfl, hB, Lib.hid (by obtain ⟨f0, f1, f2, f3, f4, f5, f6, f7, f8, f9, f10, f11, f12, f13⟩ := HF.out; exact ⟨f0, f1, f2, f3, f4, f5, f6, fun _ => rfl, fun _ => rfl, fun _ => rfl, f10, f11, f12, f13⟩)⟩
          · rintro D aa wx ⟨x46, x47, x48, x49, x50, x51, x52, x53, x54, x55, x56, x57, x58, x59, rfl, hB, HF⟩ hD hdep KK hKK
            simp [Region.binds] at hdep
            have h7 : D 7 = true := by simp [hdep]
            have HE := Lib.hid (show x53 = .bool false by obtain ⟨f0, f1, f2, f3, f4, f5, f6, f7, f8, f9, f10, f11, f12, f13⟩ := HF.out; exact f7 h7)
            obtain rfl := HE.out
            clear HE
            simp only [Act.put, List.toList_toArray, List.take_succ_cons, List.take_zero, List.drop_succ_cons, List.drop_zero, List.cons_append, List.nil_append, List.setIfInBounds_toArray, List.set_cons_zero, List.set_cons_succ]
            go_simp
            exact hKK _ _ ⟨_, _, _, _, _, _, _, _, _, _, _, _, _, _, rfl, hB, Lib.hid (by obtain ⟨f0, f1, f2, f3, f4, f5, f6, f7, f8, f9, f10, f11, f12, f13⟩ := HF.out; exact ⟨f0, f1, f2, f3, f4, f5, f6, fun _ => rfl, f8, f9, fun _ => rfl, f11, f12, f13⟩)⟩
          · rintro D aa wx ⟨x46, x47, x48, x49, x50, x51, x52, x53, x54, x55, x56, x57, x58, x59, rfl, hB, HF⟩ hD hdep KK hKK
            simp [Region.binds] at hdep
            have h7 : D 7 = true := by simp [hdep]
            have h9 : D 9 = true := by simp [hdep]
            have h10 : D 10 = true := by simp [hdep]
            have HE := Lib.hid (show x53 = .bool false ∧ x55 = undef ∧ x56 = undef by obtain ⟨f0, f1, f2, f3, f4, f5, f6, f7, f8, f9, f10, f11, f12, f13⟩ := HF.out; exact ⟨f7 h7, f9 h9, f10 h10⟩)
            obtain ⟨rfl, rfl, rfl⟩ := HE.out
            clear HE
            simp only [Act.put, List.toList_toArray, List.take_succ_cons, List.take_zero, List.drop_succ_cons, List.drop_zero, List.cons_append, List.nil_append, List.setIfInBounds_toArray, List.set_cons_zero, List.set_cons_succ]
            go_simp
            exact hKK _ _ ⟨_, _, _, _, _, _, _, _, _, _, _, _, _, _, rfl, hB, Lib.hid (by obtain ⟨f0, f1, f2, f3, f4, f5, f6, f7, f8, f9, f10, f11, f12, f13⟩ := HF.out; exact ⟨f0, f1, f2, f3, f4, f5, f6, fun _ => rfl, f8, fun _ => rfl, fun _ => rfl, fun _ => rfl, f12, f13⟩)⟩
          · rintro D aa wx ⟨x46, x47, x48, x49, x50, x51, x52, x53, x54, x55, x56, x57, x58, x59, rfl, hB, HF⟩ hD hdep KK hKK
            simp [Region.binds] at hdep
            have h7 : D 7 = true := by simp [hdep]
            have h11 : D 11 = true := by simp [hdep]
            have HE := Lib.hid (show x53 = .bool false ∧ x57 = undef by obtain ⟨f0, f1, f2, f3, f4, f5, f6, f7, f8, f9, f10, f11, f12, f13⟩ := HF.out; exact ⟨f7 h7, f11 h11⟩)
            obtain ⟨rfl, rfl⟩ := HE.out
            clear HE
            simp only [Act.put, List.toList_toArray, List.take_succ_cons, List.take_zero, List.drop_succ_cons, List.drop_zero, List.cons_append, List.nil_append, List.setIfInBounds_toArray, List.set_cons_zero, List.set_cons_succ]
            go_simp
            exact hKK _ _ ⟨_, _, _, _, _, _, _, _, _, _, _, _, _, _, rfl, hB, Lib.hid (by obtain ⟨f0, f1, f2, f3, f4, f5, f6, f7, f8, f9, f10, f11, f12, f13⟩ := HF.out; exact ⟨f0, f1, f2, f3, f4, f5, f6, fun _ => rfl, f8, f9, f10, fun _ => rfl, fun _ => rfl, f13⟩)⟩
          · rintro D aa wx ⟨x46, x47, x48, x49, x50, x51, x52, x53, x54, x55, x56, x57, x58, x59, rfl, hB, HF⟩ hD hdep KK hKK
            simp [Region.binds] at hdep
            have h3 : D 3 = true := by simp [hdep]
            have h12 : D 12 = true := by simp [hdep]
            have HE := Lib.hid (show x49 = .bool false ∧ x58 = .bool false by obtain ⟨f0, f1, f2, f3, f4, f5, f6, f7, f8, f9, f10, f11, f12, f13⟩ := HF.out; exact ⟨f3 h3, f12 h12⟩)
            obtain ⟨rfl, rfl⟩ := HE.out
            clear HE
            simp only [Act.put, List.toList_toArray, List.take_succ_cons, List.take_zero, List.drop_succ_cons, List.drop_zero, List.cons_append, List.nil_append, List.setIfInBounds_toArray, List.set_cons_zero, List.set_cons_succ]
            go_simp
            exact hKK _ _ ⟨_, _, _, _, _, _, _, _, _, _, _, _, _, _, rfl, hB, Lib.hid (by obtain ⟨f0, f1, f2, f3, f4, f5, f6, f7, f8, f9, f10, f11, f12, f13⟩ := HF.out; exact ⟨f0, f1, f2, fun _ => rfl, f4, f5, f6, f7, f8, f9, f10, f11, fun _ => rfl, fun _ => rfl⟩)⟩
        rintro D aa w7 ⟨x46, x47, x48, x49, x50, x51, x52, x53, x54, x55, x56, x57, x58, x59, rfl, hB, HF⟩ hD
        obtain e13 : x59 = .bool false := by obtain ⟨f0, f1, f2, f3, f4, f5, f6, f7, f8, f9, f10, f11, f12, f13⟩ := HF.out; exact f13 (hD 13 (by simp))
        subst e13
        simp only [Act.put, List.toList_toArray, List.take_succ_cons, List.take_zero, List.drop_succ_cons, List.drop_zero, List.cons_append, List.nil_append]
        clear HF hD
        replace S := S.out.below hB
        replace BB := below_to BB hB
        clear hB
        by_cases r1 : 3 ≤ k2
        · by_cases r2 : k2 ≤ 5
          · replace HG2 := Lib.hid (HG2.out r1 r2)
            by_cases r3 : k2 = 4
            · subst r3
              rw [if_pos rfl] at HG2
              try simp only [Bool.and_true, Bool.and_false, Bool.true_and, Bool.false_and, Bool.and_self] at HG2
              try simp only [Bool.and_true, Bool.and_false, Bool.true_and, Bool.false_and, Bool.and_self] at HG3
              try simp only [Bool.and_true, Bool.and_false, Bool.true_and, Bool.false_and, Bool.and_self] at HG4
              go_wp2_with fail
              refine (H20.out _).mono ?_
              rintro e wn ⟨rfl, hb⟩
              replace S := S.below hb
              replace BB := below_to BB hb
              clear hb
              have c0 := S.c0
              have c1 := S.c1
              have c2 := S.c2
              have c3 := S.c3
              have c4 := S.c4
              have c5 := S.c5
              go_wp2_with fail
              refine (HG2.out _).mono ?_
              rintro e wk ⟨rfl, rfl⟩
              go_wp2_with fail
              refine (HG3.out _).mono ?_
              rintro e wk ⟨rfl, rfl⟩
              go_wp2_with fail
              refine (HG4.out _).mono ?_
              rintro e wk ⟨rfl, rfl⟩
              go_wp2_with fail
              go_ret
              exact ⟨rfl, BB⟩
            · rw [if_neg r3] at HG2
              have r4 : (4 == k2) = false := by rw [beq_eq_false_iff_ne]; omega
              try simp only [Bool.and_true, Bool.and_false, Bool.true_and, Bool.false_and, Bool.and_self] at HG2
              try simp only [Bool.and_true, Bool.and_false, Bool.true_and, Bool.false_and, Bool.and_self] at HG3
              try simp only [Bool.and_true, Bool.and_false, Bool.true_and, Bool.false_and, Bool.and_self] at HG4
              go_wp2_with fail
              refine (H20.out _).mono ?_
              rintro e wn ⟨rfl, hb⟩
              replace S := S.below hb
              replace BB := below_to BB hb
              clear hb
              have c0 := S.c0
              have c1 := S.c1
              have c2 := S.c2
              have c3 := S.c3
              have c4 := S.c4
              have c5 := S.c5
              go_wp2_with fail
              refine (HG2.out _).mono ?_
              rintro e wk ⟨rfl, rfl⟩
              go_wp2_with fail
              refine (HG3.out _).mono ?_
              rintro e wk ⟨rfl, rfl⟩
              go_wp2_with fail
              refine (HG4.out _).mono ?_
              rintro e wk ⟨rfl, rfl⟩
              go_wp2_with fail
              go_ret
              exact ⟨rfl, BB⟩
          · clear HG2
            try simp only [Bool.and_true, Bool.and_false, Bool.true_and, Bool.false_and, Bool.and_self] at HG3
            try simp only [Bool.and_true, Bool.and_false, Bool.true_and, Bool.false_and, Bool.and_self] at HG4
            go_wp2_with fail
            refine (HG3.out _).mono ?_
            rintro e wk ⟨rfl, rfl⟩
            have c0 := S.c0
            have c1 := S.c1
            have c2 := S.c2
            have c3 := S.c3
            have c4 := S.c4
            have c5 := S.c5
            go_wp2_with fail
            refine (HG4.out _).mono ?_
            rintro e wk ⟨rfl, rfl⟩
            go_wp2_with fail
            go_ret
            exact ⟨rfl, BB⟩
        · clear HG2
          try simp only [Bool.and_true, Bool.and_false, Bool.true_and, Bool.false_and, Bool.and_self] at HG3
          try simp only [Bool.and_true, Bool.and_false, Bool.true_and, Bool.false_and, Bool.and_self] at HG4
          go_wp2_with fail
          refine (HG3.out _).mono ?_
          rintro e wk ⟨rfl, rfl⟩
          have c0 := S.c0
          have c1 := S.c1
          have c2 := S.c2
          have c3 := S.c3
          have c4 := S.c4
          have c5 := S.c5
          go_wp2_with fail
          refine (HG4.out _).mono ?_
          rintro e wk ⟨rfl, rfl⟩
          go_wp2_with fail
          go_ret
          exact ⟨rfl, BB⟩
      | true =>
        go_enter Try.func6, Try.ntmps6
        go_wp2_with fail
        have S := Six.new w (.int .i64 4) (.int .i64 t) (.string b) (.string n) (.int .u64 (u : Int)) (.int .i64 p) 24
        have BB := below_box w (.cells #[.int .i64 4, .int .i64 t, .string b, .string n, .int .u64 (u : Int), .int .i64 p] 24)
        refine (lives_any _).mono ?_
        rintro e wn ⟨rfl, hb⟩
        replace S := S.below hb
        replace BB := below_to BB hb
        clear hb
        have c0 := S.c0
        have c1 := S.c1
        have c2 := S.c2
        have c3 := S.c3
        have c4 := S.c4
        have c5 := S.c5
        go_wp2_with fail
        clear c0 c1 c2 c3 c4 c5
        refine (ours_any _ _ _ _ _ _ _).mono ?_
        rintro e wn ⟨rfl, hb⟩
        replace S := S.below hb
        replace BB := below_to BB hb
        clear hb
        go_wp2_with fail
        refine (HA.out _).mono ?_
        rintro e wn ⟨rfl, hb⟩
        replace S := S.below hb
        replace BB := below_to BB hb
        clear hb
        have c0 := S.c0
        have c1 := S.c1
        have c2 := S.c2
        have c3 := S.c3
        have c4 := S.c4
        have c5 := S.c5
        go_wp2_with fail
        clear c0 c1 c2 c3 c4 c5
        refine (H22.out _).mono ?_
        rintro e wn ⟨rfl, hb⟩
        replace S := S.below hb
        replace BB := below_to BB hb
        clear hb
        go_wp2_with fail
        refine (H24.out _).mono ?_
        rintro e wn ⟨rfl, hb⟩
        replace S := S.below hb
        replace BB := below_to BB hb
        clear hb
        go_wp2_with fail
        replace S := Lib.hid S
        refine wp_region_inv0 (InvG40 wn w.heap.size A FB t t2) (by kernel_rfl) (by decide) ?_ ?_ ?_
        · exact ⟨_, _, _, _, _, _, _, _, _, _, _, _, _, _, rfl, (Below.refl _ _).drew, Lib.hid ⟨(by intro h; cases h), (by intro h; cases h), (by intro h; cases h), (by intro h; cases h), (by intro h; cases h), (by intro h; cases h), (by intro h; cases h), (by intro h; cases h), (by intro h; cases h), (by intro h; cases h), (by intro h; cases h), (by intro h; cases h), (by intro h; cases h), (by intro h; cases h)⟩⟩
        · refine AllI.cons ?_ (AllI.cons ?_ (AllI.cons ?_ (AllI.cons ?_ (AllI.cons ?_ (AllI.cons ?_ (AllI.cons ?_ (AllI.cons ?_ (AllI.cons ?_ (AllI.cons ?_ (AllI.cons ?_ (AllI.cons ?_ (AllI.cons ?_ (AllI.cons ?_ AllI.nil)))))))))))))
          · rintro D aa wx ⟨x46, x47, x48, x49, x50, x51, x52, x53, x54, x55, x56, x57, x58, x59, rfl, hB, HF⟩ hD hdep KK hKK
            simp only [Act.put, List.toList_toArray, List.take_succ_cons, List.take_zero, List.drop_succ_cons, List.drop_zero, List.cons_append, List.nil_append, List.setIfInBounds_toArray, List.set_cons_zero, List.set_cons_succ]
            go_simp
            exact hKK _ _ ⟨_, _, _, _, _, _, _, _, _, _, _, _, _, _, rfl, hB, Lib.hid (by obtain ⟨f0, f1, f2, f3, f4, f5, f6, f7, f8, f9, f10, f11, f12, f13⟩ := HF.out; exact ⟨fun _ => rfl, f1, f2, f3, f4, f5, f6, f7, f8, f9, f10, f11, f12, f13⟩)⟩
          · rintro D aa wx ⟨x46, x47, x48, x49, x50, x51, x52, x53, x54, x55, x56, x57, x58, x59, rfl, hB, HF⟩ hD hdep KK hKK
            simp only [Act.put, List.toList_toArray, List.take_succ_cons, List.take_zero, List.drop_succ_cons, List.drop_zero, List.cons_append, List.nil_append, List.setIfInBounds_toArray, List.set_cons_zero, List.set_cons_succ]
            go_simp
            exact hKK _ _ ⟨_, _, _, _, _, _, _, _, _, _, _, _, _, _, rfl, hB, Lib.hid (by obtain ⟨f0, f1, f2, f3, f4, f5, f6, f7, f8, f9, f10, f11, f12, f13⟩ := HF.out; exact ⟨f0, fun _ => rfl, f2, f3, f4, f5, f6, f7, f8, f9, f10, f11, f12, f13⟩)⟩
          · rintro D aa wx ⟨x46, x47, x48, x49, x50, x51, x52, x53, x54, x55, x56, x57, x58, x59, rfl, hB, HF⟩ hD hdep KK hKK
            simp [Region.binds] at hdep
            have h1 : D 1 = true := by simp [hdep]
            have HE := Lib.hid (show x47 = .int .i64 t2 by obtain ⟨f0, f1, f2, f3, f4, f5, f6, f7, f8, f9, f10, f11, f12, f13⟩ := HF.out; exact f1 h1)
            obtain rfl := HE.out
            clear HE
            simp only [Act.put, List.toList_toArray, List.take_succ_cons, List.take_zero, List.drop_succ_cons, List.drop_zero, List.cons_append, List.nil_append, List.setIfInBounds_toArray, List.set_cons_zero, List.set_cons_succ]
            go_simp
            refine (H18.out _).mono ?_
            rintro e w5 ⟨rfl, hb⟩
            exact hKK _ _ ⟨_, _, _, _, _, _, _, _, _, _, _, _, _, _, rfl, below_to hB hb, Lib.hid (by obtain ⟨f0, f1, f2, f3, f4, f5, f6, f7, f8, f9, f10, f11, f12, f13⟩ := HF.out; exact ⟨f0, fun _ => rfl, fun _ => rfl, f3, f4, f5, f6, f7, f8, f9, f10, f11, f12, f13⟩)⟩
          · rintro D aa wx ⟨x46, x47, x48, x49, x50, x51, x52, x53, x54, x55, x56, x57, x58, x59, rfl, hB, HF⟩ hD hdep KK hKK
            simp [Region.binds] at hdep
            have h0 : D 0 = true := by simp [hdep]
            have h2 : D 2 = true := by simp [hdep]
            have HE := Lib.hid (show x46 = .string A ∧ x48 = .string FB by obtain ⟨f0, f1, f2, f3, f4, f5, f6, f7, f8, f9, f10, f11, f12, f13⟩ := HF.out; exact ⟨f0 h0, f2 h2⟩)
            obtain ⟨rfl, rfl⟩ := HE.out
            clear HE
            simp only [Act.put, List.toList_toArray, List.take_succ_cons, List.take_zero, List.drop_succ_cons, List.drop_zero, List.cons_append, List.nil_append, List.setIfInBounds_toArray, List.set_cons_zero, List.set_cons_succ]
            go_simp
            refine (HG1.out _).mono ?_
            rintro e w5 ⟨rfl, hw5⟩
            subst hw5
            have hb := Below.refl wx.heap.size wx
            exact hKK _ _ ⟨_, _, _, _, _, _, _, _, _, _, _, _, _, _, rfl, below_to hB hb, Lib.hid (by obtain ⟨f0, f1, f2, f3, f4, f5, f6, f7, f8, f9, f10, f11, f12, f13⟩ := HF.out; exact ⟨fun _ => rfl, f1, fun _ => rfl, fun _ => rfl, f4, f5, f6, f7, f8, f9, f10, f11, f12, f13⟩)⟩
          · rintro D aa wx ⟨x46, x47, x48, x49, x50, x51, x52, x53, x54, x55, x56, x57, x58, x59, rfl, hB, HF⟩ hD hdep KK hKK
            simp only [Act.put, List.toList_toArray, List.take_succ_cons, List.take_zero, List.drop_succ_cons, List.drop_zero, List.cons_append, List.nil_append, List.setIfInBounds_toArray, List.set_cons_zero, List.set_cons_succ]
            go_simp
            exact hKK _ _ ⟨_, _, _, _, _, _, _, _, _, _, _, _, _, _, rfl, hB, Lib.hid (by obtain ⟨f0, f1, f2, f3, f4, f5, f6, f7, f8, f9, f10, f11, f12, f13⟩ := HF.out; exact ⟨f0, f1, f2, f3, fun _ => rfl, f5, f6, f7, f8, f9, f10, f11, f12, f13⟩)⟩
          · rintro D aa wx ⟨x46, x47, x48, x49, x50, x51, x52, x53, x54, x55, x56, x57, x58, x59, rfl, hB, HF⟩ hD hdep KK hKK
            simp [Region.binds] at hdep
            have h4 : D 4 = true := by simp [hdep]
            have HE := Lib.hid (show x50 = .pointer (some ⟨w.heap.size, 0, none⟩) by obtain ⟨f0, f1, f2, f3, f4, f5, f6, f7, f8, f9, f10, f11, f12, f13⟩ := HF.out; exact f4 h4)
            obtain rfl := HE.out
            clear HE
            obtain ⟨c0, c1, c2, c3, c4, c5, f0, f1, f2, f3, f4, f5⟩ := S.out.below hB
            clear f0 f1 f2 f3 f4 f5 c2 c3 c4 c5
            simp only [Act.put, List.toList_toArray, List.take_succ_cons, List.take_zero, List.drop_succ_cons, List.drop_zero, List.cons_append, List.nil_append, List.setIfInBounds_toArray, List.set_cons_zero, List.set_cons_succ]
            go_simp
            exact hKK _ _ ⟨_, _, _, _, _, _, _, _, _, _, _, _, _, _, rfl, hB, Lib.hid (by obtain ⟨f0, f1, f2, f3, f4, f5, f6, f7, f8, f9, f10, f11, f12, f13⟩ := HF.out; exact ⟨f0, f1, f2, f3, fun _ => rfl, fun _ => rfl, f6, f7, f8, f9, f10, f11, f12, f13⟩)⟩
          · rintro D aa wx ⟨x46, x47, x48, x49, x50, x51, x52, x53, x54, x55, x56, x57, x58, x59, rfl, hB, HF⟩ hD hdep KK hKK
            simp [Region.binds] at hdep
            have h5 : D 5 = true := by simp [hdep]
            have HE := Lib.hid (show x51 = .int .i64 4 by obtain ⟨f0, f1, f2, f3, f4, f5, f6, f7, f8, f9, f10, f11, f12, f13⟩ := HF.out; exact f5 h5)
            obtain rfl := HE.out
            clear HE
            simp only [Act.put, List.toList_toArray, List.take_succ_cons, List.take_zero, List.drop_succ_cons, List.drop_zero, List.cons_append, List.nil_append, List.setIfInBounds_toArray, List.set_cons_zero, List.set_cons_succ]
            go_simp
            exact hKK _ _ ⟨_, _, _, _, _, _, _, _, _, _, _, _, _, _, rfl, hB, Lib.hid (by obtain ⟨f0, f1, f2, f3, f4, f5, f6, f7, f8, f9, f10, f11, f12, f13⟩ := HF.out; exact ⟨f0, f1, f2, f3, f4, fun _ => rfl, fun _ => rfl, f7, f8, f9, f10, f11, f12, f13⟩)⟩
          · rintro D aa wx ⟨x46, x47, x48, x49, x50, x51, x52, x53, x54, x55, x56, x57, x58, x59, rfl, hB, HF⟩ hD hdep KK hKK
            simp [Region.binds] at hdep
            have h6 : D 6 = true := by simp [hdep]
            have HE := Lib.hid (show x52 = .bool false by obtain ⟨f0, f1, f2, f3, f4, f5, f6, f7, f8, f9, f10, f11, f12, f13⟩ := HF.out; exact f6 h6)
            obtain rfl := HE.out
            clear HE
            simp only [Act.put, List.toList_toArray, List.take_succ_cons, List.take_zero, List.drop_succ_cons, List.drop_zero, List.cons_append, List.nil_append, List.setIfInBounds_toArray, List.set_cons_zero, List.set_cons_succ]
            go_simp
            exact hKK _ _ ⟨_, _, _, _, _, _, _, _, _, _, _, _, _, _, rfl, hB, Lib.hid (by obtain ⟨f0, f1, f2, f3, f4, f5, f6, f7, f8, f9, f10, f11, f12, f13⟩ := HF.out; exact ⟨f0, f1, f2, f3, f4, f5, fun _ => rfl, fun _ => rfl, f8, f9, f10, f11, f12, f13⟩)⟩
          · rintro D aa wx ⟨x46, x47, x48, x49, x50, x51, x52, x53, x54, x55, x56, x57, x58, x59, rfl, hB, HF⟩ hD hdep KK hKK
            simp [Region.binds] at hdep
            have h7 : D 7 = true := by simp [hdep]
            have HE := Lib.hid (show x53 = .bool false by obtain ⟨f0, f1, f2, f3, f4, f5, f6, f7, f8, f9, f10, f11, f12, f13⟩ := HF.out; exact f7 h7)
            obtain rfl := HE.out
            clear HE
            simp only [Act.put, List.toList_toArray, List.take_succ_cons, List.take_zero, List.drop_succ_cons, List.drop_zero, List.cons_append, List.nil_append, List.setIfInBounds_toArray, List.set_cons_zero, List.set_cons_succ]
            go_simp
            exact hKK _ _ ⟨_, _, _, _, _, _, _, _, _, _, _, _, _, _, rfl, hB, Lib.hid (by obtain ⟨f0, f1, f2, f3, f4, f5, f6, f7, f8, f9, f10, f11, f12, f13⟩ := HF.out; exact ⟨f0, f1, f2, f3, f4, f5, f6, fun _ => rfl, fun _ => rfl, f9, f10, f11, f12, f13⟩)⟩
          · rintro D aa wx ⟨x46, x47, x48, x49, x50, x51, x52, x53, x54, x55, x56, x57, x58, x59, rfl, hB, HF⟩ hD hdep KK hKK
            simp [Region.binds] at hdep
            have h7 : D 7 = true := by simp [hdep]
            have h8 : D 8 = true := by simp [hdep]
            have HE := Lib.hid (show x53 = .bool false ∧ x54 = undef by obtain ⟨f0, f1, f2, f3, f4, f5, f6, f7, f8, f9, f10, f11, f12, f13⟩ := HF.out; exact ⟨f7 h7, f8 h8⟩)
            obtain ⟨rfl, rfl⟩ := HE.out
            clear HE
            obtain ⟨c0, c1, c2, c3, c4, c5, f0, f1, f2, f3, f4, f5⟩ := S.out.below hB
            clear f0 f1 f2 f3 f4 f5 c2 c3 c4 c5
            simp only [Act.put, List.toList_toArray, List.take_succ_cons, List.take_zero, List.drop_succ_cons, List.drop_zero, List.cons_append, List.nil_append, List.setIfInBounds_toArray, List.set_cons_zero, List.set_cons_succ]
            go_simp
            exact hKK _ _ ⟨_, _, _, _, _, _, _, _, _, _, _, _, _, _, rfl, hB, Lib.hid (by obtain ⟨f0, f1, f2, f3, f4, f5, f6, f7, f8, f9, f10, f11, f12, f13⟩ := HF.out; exact ⟨f0, f1, f2, f3, f4, f5, f6, fun _ => rfl, fun _ => rfl, fun _ => rfl, f10, f11, f12, f13⟩)⟩
          · rintro D aa wx ⟨x46, x47, x48, x49, x50, x51, x52, x53, x54, x55, x56, x57, x58, x59, rfl, hB, HF⟩ hD hdep KK hKK
            simp [Region.binds] at hdep
            have h7 : D 7 = true := by simp [hdep]
            have HE := Lib.hid (show x53 = .bool false by obtain ⟨f0, f1, f2, f3, f4, f5, f6, f7, f8, f9, f10, f11, f12, f13⟩ := HF.out; exact f7 h7)
            obtain rfl := HE.out
            clear HE
            simp only [Act.put, List.toList_toArray, List.take_succ_cons, List.take_zero, List.drop_succ_cons, List.drop_zero, List.cons_append, List.nil_append, List.setIfInBounds_toArray, List.set_cons_zero, List.set_cons_succ]
            go_simp
            exact hKK _ _ ⟨_, _, _, _, _, _, _, _, _, _, _, _, _, _, rfl, hB, Lib.hid (by obtain ⟨f0, f1, f2, f3, f4, f5, f6, f7, f8, f9, f10, f11, f12, f13⟩ := HF.out; exact ⟨f0, f1, f2, f3, f4, f5, f6, fun _ => rfl, f8, f9, fun _ => rfl, f11, f12, f13⟩)⟩
          · rintro D aa wx ⟨x46, x47, x48, x49, x50, x51, x52, x53, x54, x55, x56, x57, x58, x59, rfl, hB, HF⟩ hD hdep KK hKK
            simp [Region.binds] at hdep
            have h7 : D 7 = true := by simp [hdep]
            have h9 : D 9 = true := by simp [hdep]
            have h10 : D 10 = true := by simp [hdep]
            have HE := Lib.hid (show x53 = .bool false ∧ x55 = undef ∧ x56 = undef by obtain ⟨f0, f1, f2, f3, f4, f5, f6, f7, f8, f9, f10, f11, f12, f13⟩ := HF.out; exact ⟨f7 h7, f9 h9, f10 h10⟩)
            obtain ⟨rfl, rfl, rfl⟩ := HE.out
            clear HE
            simp only [Act.put, List.toList_toArray, List.take_succ_cons, List.take_zero, List.drop_succ_cons, List.drop_zero, List.cons_append, List.nil_append, List.setIfInBounds_toArray, List.set_cons_zero, List.set_cons_succ]
            go_simp
            exact hKK _ _ ⟨_, _, _, _, _, _, _, _, _, _, _, _, _, _, rfl, hB, Lib.hid (by obtain ⟨f0, f1, f2, f3, f4, f5, f6, f7, f8, f9, f10, f11, f12, f13⟩ := HF.out; exact ⟨f0, f1, f2, f3, f4, f5, f6, fun _ => rfl, f8, fun _ => rfl, fun _ => rfl, fun _ => rfl, f12, f13⟩)⟩
          · rintro D aa wx ⟨x46, x47, x48, x49, x50, x51, x52, x53, x54, x55, x56, x57, x58, x59, rfl, hB, HF⟩ hD hdep KK hKK
            simp [Region.binds] at hdep
            have h7 : D 7 = true := by simp [hdep]
            have h11 : D 11 = true := by simp [hdep]
            have HE := Lib.hid (show x53 = .bool false ∧ x57 = undef by obtain ⟨f0, f1, f2, f3, f4, f5, f6, f7, f8, f9, f10, f11, f12, f13⟩ := HF.out; exact ⟨f7 h7, f11 h11⟩)
            obtain ⟨rfl, rfl⟩ := HE.out
            clear HE
            simp only [Act.put, List.toList_toArray, List.take_succ_cons, List.take_zero, List.drop_succ_cons, List.drop_zero, List.cons_append, List.nil_append, List.setIfInBounds_toArray, List.set_cons_zero, List.set_cons_succ]
            go_simp
            exact hKK _ _ ⟨_, _, _, _, _, _, _, _, _, _, _, _, _, _, rfl, hB, Lib.hid (by obtain ⟨f0, f1, f2, f3, f4, f5, f6, f7, f8, f9, f10, f11, f12, f13⟩ := HF.out; exact ⟨f0, f1, f2, f3, f4, f5, f6, fun _ => rfl, f8, f9, f10, fun _ => rfl, fun _ => rfl, f13⟩)⟩
          · rintro D aa wx ⟨x46, x47, x48, x49, x50, x51, x52, x53, x54, x55, x56, x57, x58, x59, rfl, hB, HF⟩ hD hdep KK hKK
            simp [Region.binds] at hdep
            have h3 : D 3 = true := by simp [hdep]
            have h12 : D 12 = true := by simp [hdep]
            have HE := Lib.hid (show x49 = .bool false ∧ x58 = .bool false by obtain ⟨f0, f1, f2, f3, f4, f5, f6, f7, f8, f9, f10, f11, f12, f13⟩ := HF.out; exact ⟨f3 h3, f12 h12⟩)
            obtain ⟨rfl, rfl⟩ := HE.out
            clear HE
            simp only [Act.put, List.toList_toArray, List.take_succ_cons, List.take_zero, List.drop_succ_cons, List.drop_zero, List.cons_append, List.nil_append, List.setIfInBounds_toArray, List.set_cons_zero, List.set_cons_succ]
            go_simp
            exact hKK _ _ ⟨_, _, _, _, _, _, _, _, _, _, _, _, _, _, rfl, hB, Lib.hid (by obtain ⟨f0, f1, f2, f3, f4, f5, f6, f7, f8, f9, f10, f11, f12, f13⟩ := HF.out; exact ⟨f0, f1, f2, fun _ => rfl, f4, f5, f6, f7, f8, f9, f10, f11, fun _ => rfl, fun _ => rfl⟩)⟩
        rintro D aa w7 ⟨x46, x47, x48, x49, x50, x51, x52, x53, x54, x55, x56, x57, x58, x59, rfl, hB, HF⟩ hD
        obtain e13 : x59 = .bool false := by obtain ⟨f0, f1, f2, f3, f4, f5, f6, f7, f8, f9, f10, f11, f12, f13⟩ := HF.out; exact f13 (hD 13 (by simp))
        subst e13
        simp only [Act.put, List.toList_toArray, List.take_succ_cons, List.take_zero, List.drop_succ_cons, List.drop_zero, List.cons_append, List.nil_append]
        clear HF hD
        replace S := S.out.below hB
        replace BB := below_to BB hB
        clear hB
        by_cases r1 : 3 ≤ k2
        · by_cases r2 : k2 ≤ 5
          · replace HG2 := Lib.hid (HG2.out r1 r2)
            by_cases r3 : k2 = 4
            · subst r3
              rw [if_pos rfl] at HG2
              try simp only [Bool.and_true, Bool.and_false, Bool.true_and, Bool.false_and, Bool.and_self] at HG2
              try simp only [Bool.and_true, Bool.and_false, Bool.true_and, Bool.false_and, Bool.and_self] at HG3
              try simp only [Bool.and_true, Bool.and_false, Bool.true_and, Bool.false_and, Bool.and_self] at HG4
              go_wp2_with fail
              refine (H20.out _).mono ?_
              rintro e wn ⟨rfl, hb⟩
              replace S := S.below hb
              replace BB := below_to BB hb
              clear hb
              have c0 := S.c0
              have c1 := S.c1
              have c2 := S.c2
              have c3 := S.c3
              have c4 := S.c4
              have c5 := S.c5
              go_wp2_with fail
              refine (HG2.out _).mono ?_
              rintro e wk ⟨rfl, rfl⟩
              go_wp2_with fail
              refine (HG3.out _).mono ?_
              rintro e wk ⟨rfl, rfl⟩
              go_wp2_with fail
              refine (HG4.out _).mono ?_
              rintro e wk ⟨rfl, rfl⟩
              go_wp2_with fail
              go_ret
              exact ⟨rfl, BB⟩
            · rw [if_neg r3] at HG2
              have r4 : (4 == k2) = false := by rw [beq_eq_false_iff_ne]; omega
              try simp only [Bool.and_true, Bool.and_false, Bool.true_and, Bool.false_and, Bool.and_self] at HG2
              try simp only [Bool.and_true, Bool.and_false, Bool.true_and, Bool.false_and, Bool.and_self] at HG3
              try simp only [Bool.and_true, Bool.and_false, Bool.true_and, Bool.false_and, Bool.and_self] at HG4
              go_wp2_with fail
              refine (H20.out _).mono ?_
              rintro e wn ⟨rfl, hb⟩
              replace S := S.below hb
              replace BB := below_to BB hb
              clear hb
              have c0 := S.c0
              have c1 := S.c1
              have c2 := S.c2
              have c3 := S.c3
              have c4 := S.c4
              have c5 := S.c5
              go_wp2_with fail
              refine (HG2.out _).mono ?_
              rintro e wk ⟨rfl, rfl⟩
              go_wp2_with fail
              refine (HG3.out _).mono ?_
              rintro e wk ⟨rfl, rfl⟩
              go_wp2_with fail
              refine (HG4.out _).mono ?_
              rintro e wk ⟨rfl, rfl⟩
              go_wp2_with fail
              go_ret
              exact ⟨rfl, BB⟩
          · clear HG2
            try simp only [Bool.and_true, Bool.and_false, Bool.true_and, Bool.false_and, Bool.and_self] at HG3
            try simp only [Bool.and_true, Bool.and_false, Bool.true_and, Bool.false_and, Bool.and_self] at HG4
            go_wp2_with fail
            refine (HG3.out _).mono ?_
            rintro e wk ⟨rfl, rfl⟩
            have c0 := S.c0
            have c1 := S.c1
            have c2 := S.c2
            have c3 := S.c3
            have c4 := S.c4
            have c5 := S.c5
            go_wp2_with fail
            refine (HG4.out _).mono ?_
            rintro e wk ⟨rfl, rfl⟩
            go_wp2_with fail
            go_ret
            exact ⟨rfl, BB⟩
        · clear HG2
          try simp only [Bool.and_true, Bool.and_false, Bool.true_and, Bool.false_and, Bool.and_self] at HG3
          try simp only [Bool.and_true, Bool.and_false, Bool.true_and, Bool.false_and, Bool.and_self] at HG4
          go_wp2_with fail
          refine (HG3.out _).mono ?_
          rintro e wk ⟨rfl, rfl⟩
          have c0 := S.c0
          have c1 := S.c1
          have c2 := S.c2
          have c3 := S.c3
          have c4 := S.c4
          have c5 := S.c5
          go_wp2_with fail
          refine (HG4.out _).mono ?_
          rintro e wk ⟨rfl, rfl⟩
          go_wp2_with fail
          go_ret
          exact ⟨rfl, BB⟩
    | true =>
      cases bq with
      | false =>
        go_enter Try.func6, Try.ntmps6
        go_wp2_with fail
        have S := Six.new w (.int .i64 4) (.int .i64 t) (.string b) (.string n) (.int .u64 (u : Int)) (.int .i64 p) 24
        have BB := below_box w (.cells #[.int .i64 4, .int .i64 t, .string b, .string n, .int .u64 (u : Int), .int .i64 p] 24)
        refine (lives_any _).mono ?_
        rintro e wn ⟨rfl, hb⟩
        replace S := S.below hb
        replace BB := below_to BB hb
        clear hb
        have c0 := S.c0
        have c1 := S.c1
        have c2 := S.c2
        have c3 := S.c3
        have c4 := S.c4
        have c5 := S.c5
        go_wp2_with fail
        clear c0 c1 c2 c3 c4 c5
        refine (ours_any _ _ _ _ _ _ _).mono ?_
        rintro e wn ⟨rfl, hb⟩
        replace S := S.below hb
        replace BB := below_to BB hb
        clear hb
        go_wp2_with fail
        refine (HA.out _).mono ?_
        rintro e wn ⟨rfl, hb⟩
        replace S := S.below hb
        replace BB := below_to BB hb
        clear hb
        have c0 := S.c0
        have c1 := S.c1
        have c2 := S.c2
        have c3 := S.c3
        have c4 := S.c4
        have c5 := S.c5
        go_wp2_with fail
        clear c0 c1 c2 c3 c4 c5
        refine (H22.out _).mono ?_
        rintro e wn ⟨rfl, hb⟩
        replace S := S.below hb
        replace BB := below_to BB hb
        clear hb
        go_wp2_with fail
        refine (H24.out _).mono ?_
        rintro e wn ⟨rfl, hb⟩
        replace S := S.below hb
        replace BB := below_to BB hb
        clear hb
        go_wp2_with fail
        replace S := Lib.hid S
        refine wp_region_inv0 (InvG40 wn w.heap.size A FB t t2) (by kernel_rfl) (by decide) ?_ ?_ ?_
        · exact ⟨_, _, _, _, _, _, _, _, _, _, _, _, _, _, rfl, (Below.refl _ _).drew, Lib.hid ⟨(by intro h; cases h), (by intro h; cases h), (by intro h; cases h), (by intro h; cases h), (by intro h; cases h), (by intro h; cases h), (by intro h; cases h), (by intro h; cases h), (by intro h; cases h), (by intro h; cases h), (by intro h; cases h), (by intro h; cases h), (by intro h; cases h), (by intro h; cases h)⟩⟩
        · refine AllI.cons ?_ (AllI.cons ?_ (AllI.cons ?_ (AllI.cons ?_ (AllI.cons ?_ (AllI.cons ?_ (AllI.cons ?_ (AllI.cons ?_ (AllI.cons ?_ (AllI.cons ?_ (AllI.cons ?_ (AllI.cons ?_ (AllI.cons ?_ (AllI.cons ?_ AllI.nil)))))))))))))
          · rintro D aa wx ⟨x46, x47, x48, x49, x50, x51, x52, x53, x54, x55, x56, x57, x58, x59, rfl, hB, HF⟩ hD hdep KK hKK
            simp only [Act.put, List.toList_toArray, List.take_succ_cons, List.take_zero, List.drop_succ_cons, List.drop_zero, List.cons_append, List.nil_append, List.setIfInBounds_toArray, List.set_cons_zero, List.set_cons_succ]
            go_simp
            exact hKK _ _ ⟨_, _, _, _, _, _, _, _, _, _, _, _, _, _, rfl, hB, Lib.hid (by obtain ⟨f0, f1, f2, f3, f4, f5, f6, f7, f8, f9, f10, f11, f12, f13⟩ := HF.out; exact ⟨fun _ => rfl, f1, f2, f3, f4, f5, f6, f7, f8, f9, f10, f11, f12, f13⟩)⟩
          · rintro D aa wx ⟨x46, x47, x48, x49, x50, x51, x52, x53, x54, x55, x56, x57, x58, x59, rfl, hB, HF⟩ hD hdep KK hKK
            simp only [Act.put, List.toList_toArray, List.take_succ_cons, List.take_zero, List.drop_succ_cons, List.drop_zero, List.cons_append, List.nil_append, List.setIfInBounds_toArray, List.set_cons_zero, List.set_cons_succ]
            go_simp
            exact hKK _ _ ⟨_, _, _, _, _, _, _, _, _, _, _, _, _, _, rfl, hB, Lib.hid (by obtain ⟨f0, f1, f2, f3, f4, f5, f6, f7, f8, f9, f10, f11, f12, f13⟩ := HF.out; exact ⟨f0, fun _ => rfl, f2, f3, f4, f5, f6, f7, f8, f9, f10, f11, f12, f13⟩)⟩
          · rintro D aa wx ⟨x46, x47, x48, x49, x50, x51, x52, x53, x54, x55, x56, x57, x58, x59, rfl, hB, HF⟩ hD hdep KK hKK
            simp [Region.binds] at hdep
            have h1 : D 1 = true := by simp [hdep]
            have HE := Lib.hid (show x47 = .int .i64 t2 by obtain ⟨f0, f1, f2, f3, f4, f5, f6, f7, f8, f9, f10, f11, f12, f13⟩ := HF.out; exact f1 h1)
            obtain rfl := HE.out
            clear HE
            simp only [Act.put, List.toList_toArray, List.take_succ_cons, List.take_zero, List.drop_succ_cons, List.drop_zero, List.cons_append, List.nil_append, List.setIfInBounds_toArray, List.set_cons_zero, List.set_cons_succ]
            go_simp
            refine (H18.out _).mono ?_
            rintro e w5 ⟨rfl, hb⟩
            exact hKK _ _ ⟨_, _, _, _, _, _, _, _, _, _, _, _, _, _, rfl, below_to hB hb, Lib.hid (by obtain ⟨f0, f1, f2, f3, f4, f5, f6, f7, f8, f9, f10, f11, f12, f13⟩ := HF.out; exact ⟨f0, fun _ => rfl, fun _ => rfl, f3, f4, f5, f6, f7, f8, f9, f10, f11, f12, f13⟩)⟩
          · rintro D aa wx ⟨x46, x47, x48, x49, x50, x51, x52, x53, x54, x55, x56, x57, x58, x59, rfl, hB, HF⟩ hD hdep KK hKK
            simp [Region.binds] at hdep
            have h0 : D 0 = true := by simp [hdep]
            have h2 : D 2 = true := by simp [hdep]
            have HE := Lib.hid (show x46 = .string A ∧ x48 = .string FB by obtain ⟨f0, f1, f2, f3, f4, f5, f6, f7, f8, f9, f10, f11, f12, f13⟩ := HF.out; exact ⟨f0 h0, f2 h2⟩)
            obtain ⟨rfl, rfl⟩ := HE.out
            clear HE
            simp only [Act.put, List.toList_toArray, List.take_succ_cons, List.take_zero, List.drop_succ_cons, List.drop_zero, List.cons_append, List.nil_append, List.setIfInBounds_toArray, List.set_cons_zero, List.set_cons_succ]
            go_simp
            refine (HG1.out _).mono ?_
            rintro e w5 ⟨rfl, hw5⟩
            subst hw5
            have hb := Below.refl wx.heap.size wx
            exact hKK _ _ ⟨_, _, _, _, _, _, _, _, _, _, _, _, _, _, rfl, below_to hB hb, Lib.hid (by obtain ⟨f0, f1, f2, f3, f4, f5, f6, f7, f8, f9, f10, f11, f12, f13⟩ := HF.out; exact ⟨fun _ => rfl, f1, fun _ => rfl, fun _ => rfl, f4, f5, f6, f7, f8, f9, f10, f11, f12, f13⟩)⟩
          · rintro D aa wx ⟨x46, x47, x48, x49, x50, x51, x52, x53, x54, x55, x56, x57, x58, x59, rfl, hB, HF⟩ hD hdep KK hKK
            simp only [Act.put, List.toList_toArray, List.take_succ_cons, List.take_zero, List.drop_succ_cons, List.drop_zero, List.cons_append, List.nil_append, List.setIfInBounds_toArray, List.set_cons_zero, List.set_cons_succ]
            go_simp
            exact hKK _ _ ⟨_, _, _, _, _, _, _, _, _, _, _, _, _, _, rfl, hB, Lib.hid (by obtain ⟨f0, f1, f2, f3, f4, f5, f6, f7, f8, f9, f10, f11, f12, f13⟩ := HF.out; exact ⟨f0, f1, f2, f3, fun _ => rfl, f5, f6, f7, f8, f9, f10, f11, f12, f13⟩)⟩
          · rintro D aa wx ⟨x46, x47, x48, x49, x50, x51, x52, x53, x54, x55, x56, x57, x58, x59, rfl, hB, HF⟩ hD hdep KK hKK
            simp [Region.binds] at hdep
            have h4 : D 4 = true := by simp [hdep]
            have HE := Lib.hid (show x50 = .pointer (some ⟨w.heap.size, 0, none⟩) by obtain ⟨f0, f1, f2, f3, f4, f5, f6, f7, f8, f9, f10, f11, f12, f13⟩ := HF.out; exact f4 h4)
            obtain rfl := HE.out
            clear HE
            obtain ⟨c0, c1, c2, c3, c4, c5, f0, f1, f2, f3, f4, f5⟩ := S.out.below hB
            clear f0 f1 f2 f3 f4 f5 c2 c3 c4 c5
            simp only [Act.put, List.toList_toArray, List.take_succ_cons, List.take_zero, List.drop_succ_cons, List.drop_zero, List.cons_append, List.nil_append, List.setIfInBounds_toArray, List.set_cons_zero, List.set_cons_succ]
            go_simp
            exact hKK _ _ ⟨_, _, _, _, _, _, _, _, _, _, _, _, _, _, rfl, hB, Lib.hid (by obtain ⟨f0, f1, f2, f3, f4, f5, f6, f7, f8, f9, f10, f11, f12, f13⟩ := HF.out; exact ⟨f0, f1, f2, f3, fun _ => rfl, fun _ => rfl, f6, f7, f8, f9, f10, f11, f12, f13⟩)⟩
          · rintro D aa wx ⟨x46, x47, x48, x49, x50, x51, x52, x53, x54, x55, x56, x57, x58, x59, rfl, hB, HF⟩ hD hdep KK hKK
            simp [Region.binds] at hdep
            have h5 : D 5 = true := by simp [hdep]
            have HE := Lib.hid (show x51 = .int .i64 4 by obtain ⟨f0, f1, f2, f3, f4, f5, f6, f7, f8, f9, f10, f11, f12, f13⟩ := HF.out; exact f5 h5)
            obtain rfl := HE.out
            clear HE
            simp only [Act.put, List.toList_toArray, List.take_succ_cons, List.take_zero, List.drop_succ_cons, List.drop_zero, List.cons_append, List.nil_append, List.setIfInBounds_toArray, List.set_cons_zero, List.set_cons_succ]
            go_simp
            exact hKK _ _ ⟨_, _, _, _, _, _, _, _, _, _, _, _, _, _, rfl, hB, Lib.hid (by obtain ⟨f0, f1, f2, f3, f4, f5, f6, f7, f8, f9, f10, f11, f12, f13⟩ := HF.out; exact ⟨f0, f1, f2, f3, f4, fun _ => rfl, fun _ => rfl, f7, f8, f9, f10, f11, f12, f13⟩)⟩
          · rintro D aa wx ⟨x46, x47, x48, x49, x50, x51, x52, x53, x54, x55, x56, x57, x58, x59, rfl, hB, HF⟩ hD hdep KK hKK
            simp [Region.binds] at hdep
            have h6 : D 6 = true := by simp [hdep]
            have HE := Lib.hid (show x52 = .bool false by obtain ⟨f0, f1, f2, f3, f4, f5, f6, f7, f8, f9, f10, f11, f12, f13⟩ := HF.out; exact f6 h6)
            obtain rfl := HE.out
            clear HE
            simp only [Act.put, List.toList_toArray, List.take_succ_cons, List.take_zero, List.drop_succ_cons, List.drop_zero, List.cons_append, List.nil_append, List.setIfInBounds_toArray, List.set_cons_zero, List.set_cons_succ]
            go_simp
            exact hKK _ _ ⟨_, _, _, _, _, _, _, _, _, _, _, _, _, _, rfl, hB, Lib.hid (by obtain ⟨f0, f1, f2, f3, f4, f5, f6, f7, f8, f9, f10, f11, f12, f13⟩ := HF.out; exact ⟨f0, f1, f2, f3, f4, f5, fun _ => rfl, fun _ => rfl, f8, f9, f10, f11, f12, f13⟩)⟩
          · rintro D aa wx ⟨x46, x47, x48, x49, x50, x51, x52, x53, x54, x55, x56, x57, x58, x59, rfl, hB, HF⟩ hD hdep KK hKK
            simp [Region.binds] at hdep
            have h7 : D 7 = true := by simp [hdep]
            have HE := Lib.hid (show x53 = .bool false by obtain ⟨f0, f1, f2, f3, f4, f5, f6, f7, f8, f9, f10, f11, f12, f13⟩ := HF.out; exact f7 h7)
            obtain rfl := HE.out
            clear HE
            simp only [Act.put, List.toList_toArray, List.take_succ_cons, List.take_zero, List.drop_succ_cons, List.drop_zero, List.cons_append, List.nil_append, List.setIfInBounds_toArray, List.set_cons_zero, List.set_cons_succ]
            go_simp
            exact hKK _ _ ⟨_, _, _, _, _, _, _, _, _, _, _, _, _, _, rfl, hB, Lib.hid (by obtain ⟨f0, f1, f2, f3, f4, f5, f6, f7, f8, f9, f10, f11, f12, f13⟩ := HF.out; exact ⟨f0, f1, f2, f3, f4, f5, f6, fun _ => rfl, fun _ => rfl, f9, f10, f11, f12, f13⟩)⟩
          · rintro D aa wx ⟨x46, x47, x48, x49, x50, x51, x52, x53, x54, x55, x56, x57, x58, x59, rfl, hB, HF⟩ hD hdep KK hKK
            simp [Region.binds] at hdep
            have h7 : D 7 = true := by simp [hdep]
            have h8 : D 8 = true := by simp [hdep]
            have HE := Lib.hid (show x53 = .bool false ∧ x54 = undef by obtain ⟨f0, f1, f2, f3, f4, f5, f6, f7, f8, f9, f10, f11, f12, f13⟩ := HF.out; exact ⟨f7 h7, f8 h8⟩)
            obtain ⟨rfl, rfl⟩ := HE.out
            clear HE
            obtain ⟨c0, c1, c2, c3, c4, c5, f0, f1, f2, f3, f4, f5⟩ := S.out.below hB
            clear f0 f1 f2 f3 f4 f5 c2 c3 c4 c5
            simp only [Act.put, List.toList_toArray, List.take_succ_cons, List.take_zero, List.drop_succ_cons, List.drop_zero, List.cons_append, List.nil_append, List.setIfInBounds_toArray, List.set_cons_zero, List.set_cons_succ]
            go_simp
            exact hKK _ _ ⟨_, _, _, _, _, _, _, _, _, _, _, _, _, _, rfl, hB, Lib.hid (by obtain ⟨f0, f1, f2, f3, f4, f5, f6, f7, f8, f9, f10, f11, f12, f13⟩ := HF.out; exact ⟨f0, f1, f2, f3, f4, f5, f6, fun _ => rfl, fun _ => rfl, fun _ => rfl, f10, f11, f12, f13⟩)⟩
          · rintro D aa wx ⟨x46, x47, x48, x49, x50, x51, x52, x53, x54, x55, x56, x57, x58, x59, rfl, hB, HF⟩ hD hdep KK hKK
            simp [Region.binds] at hdep
            have h7 : D 7 = true := by simp [hdep]
            have HE := Lib.hid (show x53 = .bool false by obtain ⟨f0, f1, f2, f3, f4, f5, f6, f7, f8, f9, f10, f11, f12, f13⟩ := HF.out; exact f7 h7)
            obtain rfl := HE.out
            clear HE
            simp only [Act.put, List.toList_toArray, List.take_succ_cons, List.take_zero, List.drop_succ_cons, List.drop_zero, List.cons_append, List.nil_append, List.setIfInBounds_toArray, List.set_cons_zero, List.set_cons_succ]
            go_simp
            exact hKK _ _ ⟨_, _, _, _, _, _, _, _, _, _, _, _, _, _, rfl, hB, Lib.hid (by obtain ⟨f0, f1, f2, f3, f4, f5, f6, f7, f8, f9, f10, f11, f12, f13⟩ := HF.out; exact ⟨f0, f1, f2, f3, f4, f5, f6, fun _ => rfl, f8, f9, fun _ => rfl, f11, f12, f13⟩)⟩
          · rintro D aa wx ⟨x46, x47, x48, x49, x50, x51, x52, x53, x54, x55, x56, x57, x58, x59, rfl, hB, HF⟩ hD hdep KK hKK
            simp [Region.binds] at hdep
            have h7 : D 7 = true := by simp [hdep]
            have h9 : D 9 = true := by simp [hdep]
            have h10 : D 10 = true := by simp [hdep]
            have HE := Lib.hid (show x53 = .bool false ∧ x55 = undef ∧ x56 = undef by obtain ⟨f0, f1, f2, f3, f4, f5, f6, f7, f8, f9, f10, f11, f12, f13⟩ := HF.out; exact ⟨f7 h7, f9 h9, f10 h10⟩)
            obtain ⟨rfl, rfl, rfl⟩ := HE.out
            clear HE
            simp only [Act.put, List.toList_toArray, List.take_succ_cons, List.take_zero, List.drop_succ_cons, List.drop_zero, List.cons_append, List.nil_append, List.setIfInBounds_toArray, List.set_cons_zero, List.set_cons_succ]
            go_simp
            exact hKK _ _ ⟨_, _, _, _, _, _, _, _, _, _, _, _, _, _, rfl, hB, Lib.hid (by obtain ⟨f0, f1, f2, f3, f4, f5, f6, f7, f8, f9, f10, f11, f12, f13⟩ := HF.out; exact ⟨f0, f1, f2, f3, f4, f5, f6, fun _ => rfl, f8, fun _ => rfl, fun _ => rfl, fun _ => rfl, f12, f13⟩)⟩
          · rintro D aa wx ⟨x46, x47, x48, x49, x50, x51, x52, x53, x54, x55, x56, x57, x58, x59, rfl, hB, HF⟩ hD hdep KK hKK
            simp [Region.binds] at hdep
            have h7 : D 7 = true := by simp [hdep]
            have h11 : D 11 = true := by simp [hdep]
            have HE := Lib.hid (show x53 = .bool false ∧ x57 = undef by obtain ⟨f0, f1, f2, f3, f4, f5, f6, f7, f8, f9, f10, f11, f12, f13⟩ := HF.out; exact ⟨f7 h7, f11 h11⟩)
            obtain ⟨rfl, rfl⟩ := HE.out
            clear HE
            simp only [Act.put, List.toList_toArray, List.take_succ_cons, List.take_zero, List.drop_succ_cons, List.drop_zero, List.cons_append, List.nil_append, List.setIfInBounds_toArray, List.set_cons_zero, List.set_cons_succ]
            go_simp
            exact hKK _ _ ⟨_, _, _, _, _, _, _, _, _, _, _, _, _, _, rfl, hB, Lib.hid (by obtain ⟨f0, f1, f2, f3, f4, f5, f6, f7, f8, f9, f10, f11, f12, f13⟩ := HF.out; exact ⟨f0, f1, f2, f3, f4, f5, f6, fun _ => rfl, f8, f9, f10, fun _ => rfl, fun _ => rfl, f13⟩)⟩
          · rintro D aa wx ⟨x46, x47, x48, x49, x50, x51, x52, x53, x54, x55, x56, x57, x58, x59, rfl, hB, HF⟩ hD hdep KK hKK
            simp [Region.binds] at hdep
            have h3 : D 3 = true := by simp [hdep]
            have h12 : D 12 = true := by simp [hdep]
            have HE := Lib.hid (show x49 = .bool false ∧ x58 = .bool false by obtain ⟨f0, f1, f2, f3, f4, f5, f6, f7, f8, f9, f10, f11, f12, f13⟩ := HF.out; exact ⟨f3 h3, f12 h12⟩)
            obtain ⟨rfl, rfl⟩ := HE.out
            clear HE
            simp only [Act.put, List.toList_toArray, List.take_succ_cons, List.take_zero, List.drop_succ_cons, List.drop_zero, List.cons_append, List.nil_append, List.setIfInBounds_toArray, List.set_cons_zero, List.set_cons_succ]
            go_simp
            exact hKK _ _ ⟨_, _, _, _, _, _, _, _, _, _, _, _, _, _, rfl, hB, Lib.hid (by obtain ⟨f0, f1, f2, f3, f4, f5, f6, f7, f8, f9, f10, f11, f12, f13⟩ := HF.out; exact ⟨f0, f1, f2, fun _ => rfl, f4, f5, f6, f7, f8, f9, f10, f11, fun _ => rfl, fun _ => rfl⟩)⟩
        rintro D aa w7 ⟨x46, x47, x48, x49, x50, x51, x52, x53, x54, x55, x56, x57, x58, x59, rfl, hB, HF⟩ hD
        obtain e13 : x59 = .bool false := by obtain ⟨f0, f1, f2, f3, f4, f5, f6, f7, f8, f9, f10, f11, f12, f13⟩ := HF.out; exact f13 (hD 13 (by simp))
        subst e13
        simp only [Act.put, List.toList_toArray, List.take_succ_cons, List.take_zero, List.drop_succ_cons, List.drop_zero, List.cons_append, List.nil_append]
        clear HF hD
        replace S := S.out.below hB
        replace BB := below_to BB hB
        clear hB
        by_cases r1 : 3 ≤ k2
        · by_cases r2 : k2 ≤ 5
          · replace HG2 := Lib.hid (HG2.out r1 r2)
            by_cases r3 : k2 = 4
            · subst r3
              rw [if_pos rfl] at HG2
              try simp only [Bool.and_true, Bool.and_false, Bool.true_and, Bool.false_and, Bool.and_self] at HG2
              try simp only [Bool.and_true, Bool.and_false, Bool.true_and, Bool.false_and, Bool.and_self] at HG3
              try simp only [Bool.and_true, Bool.and_false, Bool.true_and, Bool.false_and, Bool.and_self] at HG4
              go_wp2_with fail
              refine (H20.out _).mono ?_
              rintro e wn ⟨rfl, hb⟩
              replace S := S.below hb
              replace BB := below_to BB hb
              clear hb
              have c0 := S.c0
              have c1 := S.c1
              have c2 := S.c2
              have c3 := S.c3
              have c4 := S.c4
              have c5 := S.c5
              go_wp2_with fail
              refine (HG2.out _).mono ?_
              rintro e wk ⟨rfl, rfl⟩
              go_wp2_with fail
              refine (HG3.out _).mono ?_
              rintro e wk ⟨rfl, rfl⟩
              go_wp2_with fail
              refine (HG4.out _).mono ?_
              rintro e wk ⟨rfl, rfl⟩
              go_wp2_with fail
              go_ret
              exact ⟨rfl, BB⟩
            · rw [if_neg r3] at HG2
              have r4 : (4 == k2) = false := by rw [beq_eq_false_iff_ne]; omega
              try simp only [Bool.and_true, Bool.and_false, Bool.true_and, Bool.false_and, Bool.and_self] at HG2
              try simp only [Bool.and_true, Bool.and_false, Bool.true_and, Bool.false_and, Bool.and_self] at HG3
              try simp only [Bool.and_true, Bool.and_false, Bool.true_and, Bool.false_and, Bool.and_self] at HG4
              go_wp2_with fail
              refine (H20.out _).mono ?_
              rintro e wn ⟨rfl, hb⟩
              replace S := S.below hb
              replace BB := below_to BB hb
              clear hb
              have c0 := S.c0
              have c1 := S.c1
              have c2 := S.c2
              have c3 := S.c3
              have c4 := S.c4
              have c5 := S.c5
              go_wp2_with fail
              refine (HG2.out _).mono ?_
              rintro e wk ⟨rfl, rfl⟩
              go_wp2_with fail
              refine (HG3.out _).mono ?_
              rintro e wk ⟨rfl, rfl⟩
              go_wp2_with fail
              refine (HG4.out _).mono ?_
              rintro e wk ⟨rfl, rfl⟩
              go_wp2_with fail
              go_ret
              exact ⟨rfl, BB⟩
          · clear HG2
            try simp only [Bool.and_true, Bool.and_false, Bool.true_and, Bool.false_and, Bool.and_self] at HG3
            try simp only [Bool.and_true, Bool.and_false, Bool.true_and, Bool.false_and, Bool.and_self] at HG4
            go_wp2_with fail
            refine (HG3.out _).mono ?_
            rintro e wk ⟨rfl, rfl⟩
            have c0 := S.c0
            have c1 := S.c1
            have c2 := S.c2
            have c3 := S.c3
            have c4 := S.c4
            have c5 := S.c5
            go_wp2_with fail
            refine (HG4.out _).mono ?_
            rintro e wk ⟨rfl, rfl⟩
            go_wp2_with fail
            go_ret
            exact ⟨rfl, BB⟩
        · clear HG2
          try simp only [Bool.and_true, Bool.and_false, Bool.true_and, Bool.false_and, Bool.and_self] at HG3
          try simp only [Bool.and_true, Bool.and_false, Bool.true_and, Bool.false_and, Bool.and_self] at HG4
          go_wp2_with fail
          refine (HG3.out _).mono ?_
          rintro e wk ⟨rfl, rfl⟩
          have c0 := S.c0
          have c1 := S.c1
          have c2 := S.c2
          have c3 := S.c3
          have c4 := S.c4
          have c5 := S.c5
          go_wp2_with fail
          refine (HG4.out _).mono ?_
          rintro e wk ⟨rfl, rfl⟩
          go_wp2_with fail
          go_ret
          exact ⟨rfl, BB⟩
      | true =>
        go_enter Try.func6, Try.ntmps6
        go_wp2_with fail
        have S := Six.new w (.int .i64 4) (.int .i64 t) (.string b) (.string n) (.int .u64 (u : Int)) (.int .i64 p) 24
        have BB := below_box w (.cells #[.int .i64 4, .int .i64 t, .string b, .string n, .int .u64 (u : Int), .int .i64 p] 24)
        refine (lives_any _).mono ?_
        rintro e wn ⟨rfl, hb⟩
        replace S := S.below hb
        replace BB := below_to BB hb
        clear hb
        have c0 := S.c0
        have c1 := S.c1
        have c2 := S.c2
        have c3 := S.c3
        have c4 := S.c4
        have c5 := S.c5
        go_wp2_with fail
        clear c0 c1 c2 c3 c4 c5
        refine (ours_any _ _ _ _ _ _ _).mono ?_
        rintro e wn ⟨rfl, hb⟩
        replace S := S.below hb
        replace BB := below_to BB hb
        clear hb
        go_wp2_with fail
        refine (HA.out _).mono ?_
        rintro e wn ⟨rfl, hb⟩
        replace S := S.below hb
        replace BB := below_to BB hb
        clear hb
        have c0 := S.c0
        have c1 := S.c1
        have c2 := S.c2
        have c3 := S.c3
        have c4 := S.c4
        have c5 := S.c5
        go_wp2_with fail
        clear c0 c1 c2 c3 c4 c5
        refine (H22.out _).mono ?_
        rintro e wn ⟨rfl, hb⟩
        replace S := S.below hb
        replace BB := below_to BB hb
        clear hb
        go_wp2_with fail
        refine (H24.out _).mono ?_
        rintro e wn ⟨rfl, hb⟩
        replace S := S.below hb
        replace BB := below_to BB hb
        clear hb
        go_wp2_with fail
        replace S := Lib.hid S
        refine wp_region_inv0 (InvG40 wn w.heap.size A FB t t2) (by kernel_rfl) (by decide) ?_ ?_ ?_
        · exact ⟨_, _, _, _, _, _, _, _, _, _, _, _, _, _, rfl, (Below.refl _ _).drew, Lib.hid ⟨(by intro h; cases h), (by intro h; cases h), (by intro h; cases h), (by intro h; cases h), (by intro h; cases h), (by intro h; cases h), (by intro h; cases h), (by intro h; cases h), (by intro h; cases h), (by intro h; cases h), (by intro h; cases h), (by intro h; cases h), (by intro h; cases h), (by intro h; cases h)⟩⟩
        · refine AllI.cons ?_ (AllI.cons ?_ (AllI.cons ?_ (AllI.cons ?_ (AllI.cons ?_ (AllI.cons ?_ (AllI.cons ?_ (AllI.cons ?_ (AllI.cons ?_ (AllI.cons ?_ (AllI.cons ?_ (AllI.cons ?_ (AllI.cons ?_ (AllI.cons ?_ AllI.nil)))))))))))))
          · rintro D aa wx ⟨x46, x47, x48, x49, x50, x51, x52, x53, x54, x55, x56, x57, x58, x59, rfl, hB, HF⟩ hD hdep KK hKK
            simp only [Act.put, List.toList_toArray, List.take_succ_cons, List.take_zero, List.drop_succ_cons, List.drop_zero, List.cons_append, List.nil_append, List.setIfInBounds_toArray, List.set_cons_zero, List.set_cons_succ]
            go_simp
            exact hKK _ _ ⟨_, _, _, _, _, _, _, _, _, _, _, _, _, _, rfl, hB, Lib.hid (by obtain ⟨f0, f1, f2, f3, f4, f5, f6, f7, f8, f9, f10, f11, f12, f13⟩ := HF.out; exact ⟨fun _ => rfl, f1, f2, f3, f4, f5, f6, f7, f8, f9, f10, f11, f12, f13⟩)⟩
          · rintro D aa wx ⟨x46, x47, x48, x49, x50, x51, x52, x53, x54, x55, x56, x57, x58, x59, rfl, hB, HF⟩ hD hdep KK hKK
            simp only [Act.put, List.toList_toArray, List.take_succ_cons, List.take_zero, List.drop_succ_cons, List.drop_zero, List.cons_append, List.nil_append, List.setIfInBounds_toArray, List.set_cons_zero, List.set_cons_succ]
            go_simp
            exact hKK _ _ ⟨_, _, _, _, _, _, _, _, _, _, _, _, _, _, rfl, hB, Lib.hid (by obtain ⟨f0, f1, f2, f3, f4, f5, f6, f7, f8, f9, f10, f11, f12, f13⟩ := HF.out; exact ⟨f0, fun _ => rfl, f2, f3, f4, f5, f6, f7, f8, f9, f10, f11, f12, f13⟩)⟩
          · rintro D aa wx ⟨x46, x47, x48, x49, x50, x51, x52, x53, x54, x55, x56, x57, x58, x59, rfl, hB, HF⟩ hD hdep KK hKK
            simp [Region.binds] at hdep
            have h1 : D 1 = true := by simp [hdep]
            have HE := Lib.hid (show x47 = .int .i64 t2 by obtain ⟨f0, f1, f2, f3, f4, f5, f6, f7, f8, f9, f10, f11, f12, f13⟩ := HF.out; exact f1 h1)
            obtain rfl := HE.out
            clear HE
            simp only [Act.put, List.toList_toArray, List.take_succ_cons, List.take_zero, List.drop_succ_cons, List.drop_zero, List.cons_append, List.nil_append, List.setIfInBounds_toArray, List.set_cons_zero, List.set_cons_succ]
            go_simp
            refine (H18.out _).mono ?_
            rintro e w5 ⟨rfl, hb⟩
            exact hKK _ _ ⟨_, _, _, _, _, _, _, _, _, _, _, _, _, _, rfl, below_to hB hb, Lib.hid (by obtain ⟨f0, f1, f2, f3, f4, f5, f6, f7, f8, f9, f10, f11, f12, f13⟩ := HF.out; exact ⟨f0, fun _ => rfl, fun _ => rfl, f3, f4, f5, f6, f7, f8, f9, f10, f11, f12, f13⟩)⟩
          · rintro D aa wx ⟨x46, x47, x48, x49, x50, x51, x52, x53, x54, x55, x56, x57, x58, x59, rfl, hB, HF⟩ hD hdep KK hKK
            simp [Region.binds] at hdep
            have h0 : D 0 = true := by simp [hdep]
            have h2 : D 2 = true := by simp [hdep]
            have HE := Lib.hid (show x46 = .string A ∧ x48 = .string FB by obtain ⟨f0, f1, f2, f3, f4, f5, f6, f7, f8, f9, f10, f11, f12, f13⟩ := HF.out; exact ⟨f0 h0, f2 h2⟩)
            obtain ⟨rfl, rfl⟩ := HE.out
            clear HE
            simp only [Act.put, List.toList_toArray, List.take_succ_cons, List.take_zero, List.drop_succ_cons, List.drop_zero, List.cons_append, List.nil_append, List.setIfInBounds_toArray, List.set_cons_zero, List.set_cons_succ]
            go_simp
            refine (HG1.out _).mono ?_
            rintro e w5 ⟨rfl, hw5⟩
            subst hw5
            have hb := Below.refl wx.heap.size wx
            exact hKK _ _ ⟨_, _, _, _, _, _, _, _, _, _, _, _, _, _, rfl, below_to hB hb, Lib.hid (by obtain ⟨f0, f1, f2, f3, f4, f5, f6, f7, f8, f9, f10, f11, f12, f13⟩ := HF.out; exact ⟨fun _ => rfl, f1, fun _ => rfl, fun _ => rfl, f4, f5, f6, f7, f8, f9, f10, f11, f12, f13⟩)⟩
          · rintro D aa wx ⟨x46, x47, x48, x49, x50, x51, x52, x53, x54, x55, x56, x57, x58, x59, rfl, hB, HF⟩ hD hdep KK hKK
            simp only [Act.put, List.toList_toArray, List.take_succ_cons, List.take_zero, List.drop_succ_cons, List.drop_zero, List.cons_append, List.nil_append, List.setIfInBounds_toArray, List.set_cons_zero, List.set_cons_succ]
            go_simp
            exact hKK _ _ ⟨_, _, _, _, _, _, _, _, _, _, _, _, _, _, rfl, hB, Lib.hid (by obtain ⟨f0, f1, f2, f3, f4, f5, f6, f7, f8, f9, f10, f11, f12, f13⟩ := HF.out; exact ⟨f0, f1, f2, f3, fun _ => rfl, f5, f6, f7, f8, f9, f10, f11, f12, f13⟩)⟩
          · rintro D aa wx ⟨x46, x47, x48, x49, x50, x51, x52, x53, x54, x55, x56, x57, x58, x59, rfl, hB, HF⟩ hD hdep KK hKK
            simp [Region.binds] at hdep
            have h4 : D 4 = true := by simp [hdep]
            have HE := Lib.hid (show x50 = .pointer (some ⟨w.heap.size, 0, none⟩) by obtain ⟨f0, f1, f2, f3, f4, f5, f6, f7, f8, f9, f10, f11, f12, f13⟩ := HF.out; exact f4 h4)
            obtain rfl := HE.out
            clear HE
            obtain ⟨c0, c1, c2, c3, c4, c5, f0, f1, f2, f3, f4, f5⟩ := S.out.below hB
            clear f0 f1 f2 f3 f4 f5 c2 c3 c4 c5
            simp only [Act.put, List.toList_toArray, List.take_succ_cons, List.take_zero, List.drop_succ_cons, List.drop_zero, List.cons_append, List.nil_append, List.setIfInBounds_toArray, List.set_cons_zero, List.set_cons_succ]
            go_simp
            exact hKK _ _ ⟨_, _, _, _, _, _, _, _, _, _, _, _, _, _, rfl, hB, Lib.hid (by obtain ⟨f0, f1, f2, f3, f4, f5, f6, f7, f8, f9, f10, f11, f12, f13⟩ := HF.out; exact ⟨f0, f1, f2, f3, fun _ => rfl, fun _ => rfl, f6, f7, f8, f9, f10, f11, f12, f13⟩)⟩
          · rintro D aa wx ⟨x46, x47, x48, x49, x50, x51, x52, x53, x54, x55, x56, x57, x58, x59, rfl, hB, HF⟩ hD hdep KK hKK
            simp [Region.binds] at hdep
            have h5 : D 5 = true := by simp [hdep]
            have HE := Lib.hid (show x51 = .int .i64 4 by obtain ⟨f0, f1, f2, f3, f4, f5, f6, f7, f8, f9, f10, f11, f12, f13⟩ := HF.out; exact f5 h5)
            obtain rfl := HE.out
            clear HE
            simp only [Act.put, List.toList_toArray, List.take_succ_cons, List.take_zero, List.drop_succ_cons, List.drop_zero, List.cons_append, List.nil_append, List.setIfInBounds_toArray, List.set_cons_zero, List.set_cons_succ]
            go_simp
            exact hKK _ _ ⟨_, _, _, _, _, _, _, _, _, _, _, _, _, _, rfl, hB, Lib.hid (by obtain ⟨f0, f1, f2, f3, f4, f5, f6, f7, f8, f9, f10, f11, f12, f13⟩ := HF.out; exact ⟨f0, f1, f2, f3, f4, fun _ => rfl, fun _ => rfl, f7, f8, f9, f10, f11, f12, f13⟩)⟩
          · rintro D aa wx ⟨x46, x47, x48, x49, x50, x51, x52, x53, x54, x55, x56, x57, x58, x59, rfl, hB, HF⟩ hD hdep KK hKK
            simp [Region.binds] at hdep
            have h6 : D 6 = true := by simp [hdep]
            have HE := Lib.hid (show x52 = .bool false by obtain ⟨f0, f1, f2, f3, f4, f5, f6, f7, f8, f9, f10, f11, f12, f13⟩ := HF.out; exact f6 h6)
            obtain rfl := HE.out
            clear HE
            simp only [Act.put, List.toList_toArray, List.take_succ_cons, List.take_zero, List.drop_succ_cons, List.drop_zero, List.cons_append, List.nil_append, List.setIfInBounds_toArray, List.set_cons_zero, List.set_cons_succ]
            go_simp
            exact hKK _ _ ⟨_, _, _, _, _, _, _, _, _, _, _, _, _, _, rfl, hB, Lib.hid (by obtain ⟨f0, f1, f2, f3, f4, f5, f6, f7, f8, f9, f10, f11, f12, f13⟩ := HF.out; exact ⟨f0, f1, f2, f3, f4, f5, fun _ => rfl, fun _ => rfl, f8, f9, f10, f11, f12, f13⟩)⟩
          · rintro D aa wx ⟨x46, x47, x48, x49, x50, x51, x52, x53, x54, x55, x56, x57, x58, x59, rfl, hB, HF⟩ hD hdep KK hKK
            simp [Region.binds] at hdep
            have h7 : D 7 = true := by simp [hdep]
            have HE := Lib.hid (show x53 = .bool false by obtain ⟨f0, f1, f2, f3, f4, f5, f6, f7, f8, f9, f10, f11, f12, f13⟩ := HF.out; exact f7 h7)
            obtain rfl := HE.out
            clear HE
            simp only [Act.put, List.toList_toArray, List.take_succ_cons, List.take_zero, List.drop_succ_cons, List.drop_zero, List.cons_append, List.nil_append, List.setIfInBounds_toArray, List.set_cons_zero, List.set_cons_succ]
            go_simp
            exact hKK _ _ ⟨_, _, _, _, _, _, _, _, _, _, _, _, _, _, rfl, hB, Lib.hid (by obtain ⟨f0, f1, f2, f3, f4, f5, f6, f7, f8, f9, f10, f11, f12, f13⟩ := HF.out; exact ⟨f0, f1, f2, f3, f4, f5, f6, fun _ => rfl, fun _ => rfl, f9, f10, f11, f12, f13⟩)⟩
          · rintro D aa wx ⟨x46, x47, x48, x49, x50, x51, x52, x53, x54, x55, x56, x57, x58, x59, rfl, hB, HF⟩ hD hdep KK hKK
            simp [Region.binds] at hdep
            have h7 : D 7 = true := by simp [hdep]
            have h8 : D 8 = true := by simp [hdep]
            have HE := Lib.hid (show x53 = .bool false ∧ x54 = undef by obtain ⟨f0, f1, f2, f3, f4, f5, f6, f7, f8, f9, f10, f11, f12, f13⟩ := HF.out; exact ⟨f7 h7, f8 h8⟩)
            obtain ⟨rfl, rfl⟩ := HE.out
            clear HE
            obtain ⟨c0, c1, c2, c3, c4, c5, f0, f1, f2, f3, f4, f5⟩ := S.out.below hB
            clear f0 f1 f2 f3 f4 f5 c2 c3 c4 c5
            simp only [Act.put, List.toList_toArray, List.take_succ_cons, List.take_zero, List.drop_succ_cons, List.drop_zero, List.cons_append, List.nil_append, List.setIfInBounds_toArray, List.set_cons_zero, List.set_cons_succ]
            go_simp
            exact hKK _ _ ⟨_, _, _, _, _, _, _, _, _, _, _, _, _, _, rfl, hB, Lib.hid (by obtain ⟨f0, f1, f2, f3, f4, f5, f6, f7, f8, f9, f10, f11, f12, f13⟩ := HF.out; exact ⟨f0, f1, f2, f3, f4, f5, f6, fun _ => rfl, fun _ => rfl, fun _ => rfl, f10, f11, f12, f13⟩)⟩
          · rintro D aa wx ⟨x46, x47, x48, x49, x50, x51, x52, x53, x54, x55, x56, x57, x58, x59, rfl, hB, HF⟩ hD hdep KK hKK
            simp [Region.binds] at hdep
            have h7 : D 7 = true := by simp [hdep]
            have HE := Lib.hid (show x53 = .bool false by obtain ⟨f0, f1, f2, f3, f4, f5, f6, f7, f8, f9, f10, f11, f12, f13⟩ := HF.out; exact f7 h7)
            obtain rfl := HE.out
            clear HE
            simp only [Act.put, List.toList_toArray, List.take_succ_cons, List.take_zero, List.drop_succ_cons, List.drop_zero, List.cons_append, List.nil_append, List.setIfInBounds_toArray, List.set_cons_zero, List.set_cons_succ]
            go_simp
            exact hKK _ _ ⟨_, _, _, _, _, _, _, _, _, _, _, _, _, _, rfl, hB, Lib.hid (by obtain ⟨f0, f1, f2, f3, f4, f5, f6, f7, f8, f9, f10, f11, f12, f13⟩ := HF.out; exact ⟨f0, f1, f2, f3, f4, f5, f6, fun _ => rfl, f8, f9, fun _ => rfl, f11, f12, f13⟩)⟩
          · rintro D aa wx ⟨x46, x47, x48, x49, x50, x51, x52, x53, x54, x55, x56, x57, x58, x59, rfl, hB, HF⟩ hD hdep KK hKK
            simp [Region.binds] at hdep
            have h7 : D 7 = true := by simp [hdep]
            have h9 : D 9 = true := by simp [hdep]
            have h10 : D 10 = true := by simp [hdep]
            have HE := Lib.hid (show x53 = .bool false ∧ x55 = undef ∧ x56 = undef by obtain ⟨f0, f1, f2, f3, f4, f5, f6, f7, f8, f9, f10, f11, f12, f13⟩ := HF.out; exact ⟨f7 h7, f9 h9, f10 h10⟩)
            obtain ⟨rfl, rfl, rfl⟩ := HE.out
            clear HE
            simp only [Act.put, List.toList_toArray, List.take_succ_cons, List.take_zero, List.drop_succ_cons, List.drop_zero, List.cons_append, List.nil_append, List.setIfInBounds_toArray, List.set_cons_zero, List.set_cons_succ]
            go_simp
            exact hKK _ _ ⟨_, _, _, _, _, _, _, _, _, _, _, _, _, _, rfl, hB, Lib.hid (by obtain ⟨f0, f1, f2, f3, f4, f5, f6, f7, f8, f9, f10, f11, f12, f13⟩ := HF.out; exact ⟨f0, f1, f2, f3, f4, f5, f6, fun _ => rfl, f8, fun _ => rfl, fun _ => rfl, fun _ => rfl, f12, f13⟩)⟩
          · rintro D aa wx ⟨x46, x47, x48, x49, x50, x51, x52, x53, x54, x55, x56, x57, x58, x59, rfl, hB, HF⟩ hD hdep KK hKK
            simp [Region.binds] at hdep
            have h7 : D 7 = true := by simp [hdep]
            have h11 : D 11 = true := by simp [hdep]
            have HE := Lib.hid (show x53 = .bool false ∧ x57 = undef by obtain ⟨f0, f1, f2, f3, f4, f5, f6, f7, f8, f9, f10, f11, f12, f13⟩ := HF.out; exact ⟨f7 h7, f11 h11⟩)
            obtain ⟨rfl, rfl⟩ := HE.out
            clear HE
            simp only [Act.put, List.toList_toArray, List.take_succ_cons, List.take_zero, List.drop_succ_cons, List.drop_zero, List.cons_append, List.nil_append, List.setIfInBounds_toArray, List.set_cons_zero, List.set_cons_succ]
            go_simp
            exact hKK _ _ ⟨_, _, _, _, _, _, _, _, _, _, _, _, _, _, rfl, hB, Lib.hid (by obtain ⟨f0, f1, f2, f3, f4, f5, f6, f7, f8, f9, f10, f11, f12, f13⟩ := HF.out; exact ⟨f0, f1, f2, f3, f4, f5, f6, fun _ => rfl, f8, f9, f10, fun _ => rfl, fun _ => rfl, f13⟩)⟩
          · rintro D aa wx ⟨x46, x47, x48, x49, x50, x51, x52, x53, x54, x55, x56, x57, x58, x59, rfl, hB, HF⟩ hD hdep KK hKK
            simp [Region.binds] at hdep
            have h3 : D 3 = true := by simp [hdep]
            have h12 : D 12 = true := by simp [hdep]
            have HE := Lib.hid (show x49 = .bool false ∧ x58 = .bool false by obtain ⟨f0, f1, f2, f3, f4, f5, f6, f7, f8, f9, f10, f11, f12, f13⟩ := HF.out; exact ⟨f3 h3, f12 h12⟩)
            obtain ⟨rfl, rfl⟩ := HE.out
            clear HE
            simp only [Act.put, List.toList_toArray, List.take_succ_cons, List.take_zero, List.drop_succ_cons, List.drop_zero, List.cons_append, List.nil_append, List.setIfInBounds_toArray, List.set_cons_zero, List.set_cons_succ]
            go_simp
            exact hKK _ _ ⟨_, _, _, _, _, _, _, _, _, _, _, _, _, _, rfl, hB, Lib.hid (by obtain ⟨f0, f1, f2, f3, f4, f5, f6, f7, f8, f9, f10, f11, f12, f13⟩ := HF.out; exact ⟨f0, f1, f2, fun _ => rfl, f4, f5, f6, f7, f8, f9, f10, f11, fun _ => rfl, fun _ => rfl⟩)⟩
        rintro D aa w7 ⟨x46, x47, x48, x49, x50, x51, x52, x53, x54, x55, x56, x57, x58, x59, rfl, hB, HF⟩ hD
        obtain e13 : x59 = .bool false := by obtain ⟨f0, f1, f2, f3, f4, f5, f6, f7, f8, f9, f10, f11, f12, f13⟩ := HF.out; exact f13 (hD 13 (by simp))
        subst e13
        simp only [Act.put, List.toList_toArray, List.take_succ_cons, List.take_zero, List.drop_succ_cons, List.drop_zero, List.cons_append, List.nil_append]
        clear HF hD
        replace S := S.out.below hB
        replace BB := below_to BB hB
        clear hB
        by_cases r1 : 3 ≤ k2
        · by_cases r2 : k2 ≤ 5
          · replace HG2 := Lib.hid (HG2.out r1 r2)
            by_cases r3 : k2 = 4
            · subst r3
              rw [if_pos rfl] at HG2
              try simp only [Bool.and_true, Bool.and_false, Bool.true_and, Bool.false_and, Bool.and_self] at HG2
              try simp only [Bool.and_true, Bool.and_false, Bool.true_and, Bool.false_and, Bool.and_self] at HG3
              try simp only [Bool.and_true, Bool.and_false, Bool.true_and, Bool.false_and, Bool.and_self] at HG4
              go_wp2_with fail
              refine (H20.out _).mono ?_
              rintro e wn ⟨rfl, hb⟩
              replace S := S.below hb
              replace BB := below_to BB hb
              clear hb
              have c0 := S.c0
              have c1 := S.c1
              have c2 := S.c2
              have c3 := S.c3
              have c4 := S.c4
              have c5 := S.c5
              go_wp2_with fail
              refine (HG2.out _).mono ?_
              rintro e wk ⟨rfl, rfl⟩
              go_wp2_with fail
              refine (HG3.out _).mono ?_
              rintro e wk ⟨rfl, rfl⟩
              go_wp2_with fail
              refine (HG4.out _).mono ?_
              rintro e wk ⟨rfl, rfl⟩
              go_wp2_with fail
              go_ret
              exact ⟨rfl, BB⟩
            · rw [if_neg r3] at HG2
              have r4 : (4 == k2) = false := by rw [beq_eq_false_iff_ne]; omega
              try simp only [Bool.and_true, Bool.and_false, Bool.true_and, Bool.false_and, Bool.and_self] at HG2
              try simp only [Bool.and_true, Bool.and_false, Bool.true_and, Bool.false_and, Bool.and_self] at HG3
              try simp only [Bool.and_true, Bool.and_false, Bool.true_and, Bool.false_and, Bool.and_self] at HG4
              go_wp2_with fail
              refine (H20.out _).mono ?_
              rintro e wn ⟨rfl, hb⟩
              replace S := S.below hb
              replace BB := below_to BB hb
              clear hb
              have c0 := S.c0
              have c1 := S.c1
              have c2 := S.c2
              have c3 := S.c3
              have c4 := S.c4
              have c5 := S.c5
              go_wp2_with fail
              refine (HG2.out _).mono ?_
              rintro e wk ⟨rfl, rfl⟩
              go_wp2_with fail
              refine (HG3.out _).mono ?_
              rintro e wk ⟨rfl, rfl⟩
              go_wp2_with fail
              refine (HG4.out _).mono ?_
              rintro e wk ⟨rfl, rfl⟩
              go_wp2_with fail
              go_ret
              exact ⟨rfl, BB⟩
          · clear HG2
            try simp only [Bool.and_true, Bool.and_false, Bool.true_and, Bool.false_and, Bool.and_self] at HG3
            try simp only [Bool.and_true, Bool.and_false, Bool.true_and, Bool.false_and, Bool.and_self] at HG4
            go_wp2_with fail
            refine (HG3.out _).mono ?_
            rintro e wk ⟨rfl, rfl⟩
            have c0 := S.c0
            have c1 := S.c1
            have c2 := S.c2
            have c3 := S.c3
            have c4 := S.c4
            have c5 := S.c5
            go_wp2_with fail
            refine (HG4.out _).mono ?_
            rintro e wk ⟨rfl, rfl⟩
            go_wp2_with fail
            go_ret
            exact ⟨rfl, BB⟩
        · clear HG2
          try simp only [Bool.and_true, Bool.and_false, Bool.true_and, Bool.false_and, Bool.and_self] at HG3
          try simp only [Bool.and_true, Bool.and_false, Bool.true_and, Bool.false_and, Bool.and_self] at HG4
          go_wp2_with fail
          refine (HG3.out _).mono ?_
          rintro e wk ⟨rfl, rfl⟩
          have c0 := S.c0
          have c1 := S.c1
          have c2 := S.c2
          have c3 := S.c3
          have c4 := S.c4
          have c5 := S.c5
          go_wp2_with fail
          refine (HG4.out _).mono ?_
          rintro e wk ⟨rfl, rfl⟩
          go_wp2_with fail
          go_ret
          exact ⟨rfl, BB⟩
  · exact absurd h0 ha
end Go.Proofs.Yteekjndhehnpaaa
