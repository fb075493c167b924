/- The walk of KeysBack. -/
import Derived.Deep.Cut
import Derived.Test.YteekjndhehnpaaaKT
namespace Go.Proofs.Yteekjndhehnpaaa
open Go.RowKit
set_option maxRecDepth 100000
set_option linter.unusedVariables false
set_option linter.unusedSimpArgs false
set_option maxHeartbeats 20000000
def InvBk (W1 : World) (g15 : Nat) (g3 : Nat) (g4 : Nat) (A : ByteArray) (B : ByteArray) (q : Bool) (k1 : Int) (t1 : Int) (b1 : ByteArray) (n1 : ByteArray) (u1 : Nat) (p1 : Int) (k2 : Int) (t2 : Int) (b2 : ByteArray) (n2 : ByteArray) (u2 : Nat) (p2 : Int) (a0 : Act) (D : Nat → Bool) (act : Act) (w : World) : Prop :=
  ∃ x6 x61 x62 x63 x64 x65 x66 x67 x68 x69 x70 x71 x72 x73 x74 x75 x76 x77 x78 x79 x80 x81 x82, act = ⟨(a0.tmps.toList.take 6 ++ x6 :: ((a0.tmps.toList.drop 7).take 54 ++ x61 :: x62 :: x63 :: x64 :: x65 :: x66 :: x67 :: x68 :: x69 :: x70 :: x71 :: x72 :: x73 :: x74 :: x75 :: x76 :: x77 :: x78 :: x79 :: x80 :: x81 :: x82 :: a0.tmps.toList.drop 83)).toArray, []⟩ ∧ Below W1.heap.size W1 w ∧ Hid ((D 0 = true → x61 = .agg #[.int .i64 k1, .int .i64 t1, .string b1, .string n1, .int .u64 (u1 : Int), .int .i64 p1]) ∧ (D 1 = true → x62 = .agg #[.int .i64 k1, .int .i64 t1, .string b1, .string n1, .int .u64 (u1 : Int), .int .i64 p1]) ∧ (D 2 = true → x63 = (.agg #[.int .i64 k1, .int .i64 t1, .string b1, .string n1, .int .u64 (u1 : Int), .int .i64 p1])) ∧ (D 3 = true → x64 = .bool true) ∧ (D 4 = true → x65 = .bool true) ∧ (D 5 = true → x66 = .int .i64 0) ∧ (D 6 = true → x67 = .bool true) ∧ (D 7 = true → x68 = .bool true) ∧ (D 8 = true → x69 = .bool true) ∧ (D 9 = true → x70 = .string A) ∧ (D 10 = true → x71 = .int .i64 (A.size : Int)) ∧ (D 11 = true → x72 = .bool true) ∧ (D 12 = true → x73 = .bool true) ∧ (D 13 = true → x74 = .bool true) ∧ (D 14 = true → x75 = .string A) ∧ (D 15 = true → x76 = .string B) ∧ (D 16 = true → x77 = .bool q) ∧ (D 17 = true → x78 = .agg #[.int .i64 k1, .int .i64 t1, .string b1, .string n1, .int .u64 (u1 : Int), .int .i64 p1]) ∧ (D 18 = true → x79 = .agg #[.int .i64 k2, .int .i64 t2, .string b2, .string n2, .int .u64 (u2 : Int), .int .i64 p2]) ∧ (D 19 = true → x80 = .bool q) ∧ (D 20 = true → x81 = .bool true) ∧ (D 21 = true → x82 = .bool true) ∧ (D 22 = true → x6 = .bool true))
theorem keysBack_main (k1 t1 : Int) (b1 n1 : ByteArray) (u1 : Nat) (p1 : Int) (k2 t2 : Int) (b2 n2 : ByteArray) (u2 : Nat) (p2 : Int) (k3 t3 : Int) (b3 n3 : ByteArray) (u3 : Nat) (p3 : Int) (s A B : ByteArray) (eo ea eb : Int) (q : Bool)
    (HO : Hid (∀ w, Calls Try.prog 14 #[.string s] w fun x w' => x = .returned (.tuple #[.agg #[.int .i64 k3, .int .i64 t3, .string b3, .string n3, .int .u64 (u3 : Int), .int .i64 p3], .int .i64 eo]) ∧ Below w.heap.size w w'))
    (HMP : Hid (eo = 0 → ∀ w, Calls Try.prog 11 #[.agg #[.int .i64 k3, .int .i64 t3, .string b3, .string n3, .int .u64 (u3 : Int), .int .i64 p3]] w fun x w' => x = .returned (.tuple #[.string s, .int .i64 0]) ∧ Below w.heap.size w w'))
    (HA : Hid (∀ w, Calls Try.prog 11 #[.agg #[.int .i64 k1, .int .i64 t1, .string b1, .string n1, .int .u64 (u1 : Int), .int .i64 p1]] w fun x w' => x = .returned (.tuple #[.string A, .int .i64 ea]) ∧ Below w.heap.size w w'))
    (HB : Hid (∀ w, Calls Try.prog 11 #[.agg #[.int .i64 k2, .int .i64 t2, .string b2, .string n2, .int .u64 (u2 : Int), .int .i64 p2]] w fun x w' => x = .returned (.tuple #[.string B, .int .i64 eb]) ∧ Below w.heap.size w w'))
    (HOA : Hid (ea = 0 → ∀ w, Calls Try.prog 14 #[.string A] w fun x w' => x = .returned (.tuple #[.agg #[.int .i64 k1, .int .i64 t1, .string b1, .string n1, .int .u64 (u1 : Int), .int .i64 p1], .int .i64 0]) ∧ Below w.heap.size w w'))
    (HA64 : Hid (ea = 0 → A.size ≤ 64)) (HQ : Hid (ea = 0 → eb = 0 → (A.toList == B.toList) = q ∧ ∀ w, (binOp .eql 24 (.agg #[.int .i64 k1, .int .i64 t1, .string b1, .string n1, .int .u64 (u1 : Int), .int .i64 p1]) (.agg #[.int .i64 k2, .int .i64 t2, .string b2, .string n2, .int .u64 (u2 : Int), .int .i64 p2])).run Try.prog w = .ok (.bool q) w)) (w : World) :
    Calls Try.prog 4 #[.agg #[.int .i64 k1, .int .i64 t1, .string b1, .string n1, .int .u64 (u1 : Int), .int .i64 p1], .agg #[.int .i64 k2, .int .i64 t2, .string b2, .string n2, .int .u64 (u2 : Int), .int .i64 p2], .string s] w fun e w' => e = .returned (.bool true) ∧ Below w.heap.size w w' := by
  have S3 := (Six.new w (.int .i64 k1) (.int .i64 t1) (.string b1) (.string n1) (.int .u64 (u1 : Int)) (.int .i64 p1) 24).below (below_box _ (.cells #[.int .i64 k2, .int .i64 t2, .string b2, .string n2, .int .u64 (u2 : Int), .int .i64 p2] 24))
  have S4 := Six.two w (.cells #[.int .i64 k1, .int .i64 t1, .string b1, .string n1, .int .u64 (u1 : Int), .int .i64 p1] 24) (.int .i64 k2) (.int .i64 t2) (.string b2) (.string n2) (.int .u64 (u2 : Int)) (.int .i64 p2) 24
  have BB := below_two w (.cells #[.int .i64 k1, .int .i64 t1, .string b1, .string n1, .int .u64 (u1 : Int), .int .i64 p1] 24) (.cells #[.int .i64 k2, .int .i64 t2, .string b2, .string n2, .int .u64 (u2 : Int), .int .i64 p2] 24)
  by_cases ho : eo = 0
  · subst ho
    go_enter Try.func4, Try.ntmps4
    go_wp2_with fail
    refine (lives_any _).mono ?_
    rintro e wn ⟨rfl, hb⟩
    replace S3 := S3.below hb
    replace S4 := S4.below hb
    replace BB := below_to BB hb
    clear hb
    go_wp2_with fail
    refine (HO.out _).mono ?_
    rintro e wn ⟨rfl, hb⟩
    replace S3 := S3.below hb
    replace S4 := S4.below hb
    replace BB := below_to BB hb
    clear hb
    go_wp2_with fail
    replace S3 := S3.below (below_box _ (.cells #[.int .i64 k3, .int .i64 t3, .string b3, .string n3, .int .u64 (u3 : Int), .int .i64 p3] 29))
    replace S4 := S4.below (below_box _ (.cells #[.int .i64 k3, .int .i64 t3, .string b3, .string n3, .int .u64 (u3 : Int), .int .i64 p3] 29))
    replace BB := below_to BB (below_box _ (.cells #[.int .i64 k3, .int .i64 t3, .string b3, .string n3, .int .u64 (u3 : Int), .int .i64 p3] 29))
    refine (HMP.out (by simp) _).mono ?_
    rintro e wn ⟨rfl, hb⟩
    replace S3 := S3.below hb
    replace S4 := S4.below hb
    replace BB := below_to BB hb
    clear hb
    have hss : (s.toList != s.toList) = false := by simp
    have c0 := S3.c0
    have c1 := S3.c1
    have c2 := S3.c2
    have c3 := S3.c3
    have c4 := S3.c4
    have c5 := S3.c5
    go_wp2_with fail
    clear c0 c1 c2 c3 c4 c5
    refine (ours_any _ _ _ _ _ _ _).mono ?_
    rintro e wn ⟨rfl, hb⟩
    replace S3 := S3.below hb
    replace S4 := S4.below hb
    replace BB := below_to BB hb
    clear hb
    go_wp2_with fail
    refine (HA.out _).mono ?_
    rintro e wn ⟨rfl, hb⟩
    replace S3 := S3.below hb
    replace S4 := S4.below hb
    replace BB := below_to BB hb
    clear hb
    have c0 := S4.c0
    have c1 := S4.c1
    have c2 := S4.c2
    have c3 := S4.c3
    have c4 := S4.c4
    have c5 := S4.c5
    go_wp2_with fail
    clear c0 c1 c2 c3 c4 c5
    refine (ours_any _ _ _ _ _ _ _).mono ?_
    rintro e wn ⟨rfl, hb⟩
    replace S3 := S3.below hb
    replace S4 := S4.below hb
    replace BB := below_to BB hb
    clear hb
    go_wp2_with fail
    refine (HB.out _).mono ?_
    rintro e wn ⟨rfl, hb⟩
    replace S3 := S3.below hb
    replace S4 := S4.below hb
    replace BB := below_to BB hb
    clear hb
    by_cases ha : ea = 0
    · by_cases hb : eb = 0
      · subst ha hb
        obtain ⟨hq1, hq2⟩ := HQ.out (by simp) (by simp)
        have h64 := HA64.out (by simp)
        have h64' : (A.size : Int) ≤ 64 := by omega
        go_wp2_with fail
        refine (HOA.out (by simp) _).mono ?_
        rintro e wn ⟨rfl, hb⟩
        replace S3 := S3.below hb
        replace S4 := S4.below hb
        replace BB := below_to BB hb
        clear hb
        go_wp2_with fail
        have S15 := Lib.hid (Six.new wn (.int .i64 k1) (.int .i64 t1) (.string b1) (.string n1) (.int .u64 (u1 : Int)) (.int .i64 p1) 29)
        replace S3 := Lib.hid (S3.below (below_box wn (.cells #[.int .i64 k1, .int .i64 t1, .string b1, .string n1, .int .u64 (u1 : Int), .int .i64 p1] 29)))
        replace S4 := Lib.hid (S4.below (below_box wn (.cells #[.int .i64 k1, .int .i64 t1, .string b1, .string n1, .int .u64 (u1 : Int), .int .i64 p1] 29)))
        replace BB := below_to BB (below_box wn (.cells #[.int .i64 k1, .int .i64 t1, .string b1, .string n1, .int .u64 (u1 : Int), .int .i64 p1] 29))
        obtain ⟨g15, hg15⟩ : ∃ g, wn.heap.size = g := ⟨_, rfl⟩
        rw [hg15] at S15
        try rw [hg15]
        generalize wn.alloc (.cells #[.int .i64 k1, .int .i64 t1, .string b1, .string n1, .int .u64 (u1 : Int), .int .i64 p1] 29) = wm at S3 S4 S15 BB ⊢
        clear HO HMP HA HB HOA HA64 HQ
        refine wp_region_inv0 (InvBk wm g15 w.heap.size (w.heap.size + 1) A B q k1 t1 b1 n1 u1 p1 k2 t2 b2 n2 u2 p2) (by kernel_rfl) (by decide) ?_ ?_ ?_
        · exact ⟨_, _, _, _, _, _, _, _, _, _, _, _, _, _, _, _, _, _, _, _, _, _, _, rfl, (Below.refl _ _).drew, Lib.hid ⟨(by intro h; cases h), (by intro h; cases h), (by intro h; cases h), (by intro h; cases h), (by intro h; cases h), (by intro h; cases h), (by intro h; cases h), (by intro h; cases h), (by intro h; cases h), (by intro h; cases h), (by intro h; cases h), (by intro h; cases h), (by intro h; cases h), (by intro h; cases h), (by intro h; cases h), (by intro h; cases h), (by intro h; cases h), (by intro h; cases h), (by intro h; cases h), (by intro h; cases h), (by intro h; cases h), (by intro h; cases h), (by intro h; cases h)⟩⟩
        · refine AllI.cons ?_ (AllI.cons ?_ (AllI.cons ?_ (AllI.cons ?_ (AllI.cons ?_ (AllI.cons ?_ (AllI.cons ?_ (AllI.cons ?_ (AllI.cons ?_ (AllI.cons ?_ (AllI.cons ?_ (AllI.cons ?_ (AllI.cons ?_ (AllI.cons ?_ (AllI.cons ?_ (AllI.cons ?_ (AllI.cons ?_ (AllI.cons ?_ (AllI.cons ?_ (AllI.cons ?_ (AllI.cons ?_ (AllI.cons ?_ (AllI.cons ?_ AllI.nil))))))))))))))))))))))
          · rintro D aa wx ⟨x6, x61, x62, x63, x64, x65, x66, x67, x68, x69, x70, x71, x72, x73, x74, x75, x76, x77, x78, x79, x80, x81, x82, rfl, hB, HF⟩ hD hdep KK hKK
            obtain ⟨c0, c1, c2, c3, c4, c5, f0, f1, f2, f3, f4, f5⟩ := S3.out.below hB
            obtain ⟨d0, d1, d2, d3, d4, d5, g0, g1, g2, gg3, gg4, g5⟩ := S4.out.below hB
            obtain ⟨e0, e1, e2, e3, e4, e5, j0, j1, j2, j3, j4, j5⟩ := S15.out.below hB
            clear f0 f1 f2 f3 f4 f5 g0 g1 g2 gg3 gg4 g5 j0 j1 j2 j3 j4 j5
            simp only [Act.put, List.toList_toArray, List.take_succ_cons, List.take_zero, List.drop_succ_cons, List.drop_zero, List.cons_append, List.nil_append, List.setIfInBounds_toArray, List.set_cons_zero, List.set_cons_succ]
            go_simp
            exact hKK _ _ ⟨_, _, _, _, _, _, _, _, _, _, _, _, _, _, _, _, _, _, _, _, _, _, _, rfl, hB, Lib.hid (by obtain ⟨f0, f1, f2, f3, f4, f5, f6, f7, f8, f9, f10, f11, f12, f13, f14, f15, f16, f17, f18, f19, f20, f21, f22⟩ := HF.out; exact ⟨fun _ => rfl, f1, f2, f3, f4, f5, f6, f7, f8, f9, f10, f11, f12, f13, f14, f15, f16, f17, f18, f19, f20, f21, f22⟩)⟩
          · rintro D aa wx ⟨x6, x61, x62, x63, x64, x65, x66, x67, x68, x69, x70, x71, x72, x73, x74, x75, x76, x77, x78, x79, x80, x81, x82, rfl, hB, HF⟩ hD hdep KK hKK
            obtain ⟨c0, c1, c2, c3, c4, c5, f0, f1, f2, f3, f4, f5⟩ := S3.out.below hB
            obtain ⟨d0, d1, d2, d3, d4, d5, g0, g1, g2, gg3, gg4, g5⟩ := S4.out.below hB
            obtain ⟨e0, e1, e2, e3, e4, e5, j0, j1, j2, j3, j4, j5⟩ := S15.out.below hB
            clear f0 f1 f2 f3 f4 f5 g0 g1 g2 gg3 gg4 g5 j0 j1 j2 j3 j4 j5
            simp only [Act.put, List.toList_toArray, List.take_succ_cons, List.take_zero, List.drop_succ_cons, List.drop_zero, List.cons_append, List.nil_append, List.setIfInBounds_toArray, List.set_cons_zero, List.set_cons_succ]
            go_simp
            exact hKK _ _ ⟨_, _, _, _, _, _, _, _, _, _, _, _, _, _, _, _, _, _, _, _, _, _, _, rfl, hB, Lib.hid (by obtain ⟨f0, f1, f2, f3, f4, f5, f6, f7, f8, f9, f10, f11, f12, f13, f14, f15, f16, f17, f18, f19, f20, f21, f22⟩ := HF.out; exact ⟨f0, fun _ => rfl, f2, f3, f4, f5, f6, f7, f8, f9, f10, f11, f12, f13, f14, f15, f16, f17, f18, f19, f20, f21, f22⟩)⟩
          · rintro D aa wx ⟨x6, x61, x62, x63, x64, x65, x66, x67, x68, x69, x70, x71, x72, x73, x74, x75, x76, x77, x78, x79, x80, x81, x82, rfl, hB, HF⟩ hD hdep KK hKK
            simp [Region.binds] at hdep
            have h1 : D 1 = true := by simp [hdep]
            have HE := Lib.hid (show x62 = .agg #[.int .i64 k1, .int .i64 t1, .string b1, .string n1, .int .u64 (u1 : Int), .int .i64 p1] by obtain ⟨f0, f1, f2, f3, f4, f5, f6, f7, f8, f9, f10, f11, f12, f13, f14, f15, f16, f17, f18, f19, f20, f21, f22⟩ := HF.out; exact f1 h1)
            obtain rfl := HE.out
            clear HE
            simp only [Act.put, List.toList_toArray, List.take_succ_cons, List.take_zero, List.drop_succ_cons, List.drop_zero, List.cons_append, List.nil_append, List.setIfInBounds_toArray, List.set_cons_zero, List.set_cons_succ]
            go_simp
            refine (ours_any _ _ _ _ _ _ _).mono ?_
            rintro e w5 ⟨rfl, hb⟩
            exact hKK _ _ ⟨_, _, _, _, _, _, _, _, _, _, _, _, _, _, _, _, _, _, _, _, _, _, _, rfl, below_to hB hb, Lib.hid (by obtain ⟨f0, f1, f2, f3, f4, f5, f6, f7, f8, f9, f10, f11, f12, f13, f14, f15, f16, f17, f18, f19, f20, f21, f22⟩ := HF.out; exact ⟨f0, fun _ => rfl, fun _ => rfl, f3, f4, f5, f6, f7, f8, f9, f10, f11, f12, f13, f14, f15, f16, f17, f18, f19, f20, f21, f22⟩)⟩
          · rintro D aa wx ⟨x6, x61, x62, x63, x64, x65, x66, x67, x68, x69, x70, x71, x72, x73, x74, x75, x76, x77, x78, x79, x80, x81, x82, rfl, hB, HF⟩ hD hdep KK hKK
            simp [Region.binds] at hdep
            have h0 : D 0 = true := by simp [hdep]
            have h2 : D 2 = true := by simp [hdep]
            have HE := Lib.hid (show x61 = .agg #[.int .i64 k1, .int .i64 t1, .string b1, .string n1, .int .u64 (u1 : Int), .int .i64 p1] ∧ x63 = (.agg #[.int .i64 k1, .int .i64 t1, .string b1, .string n1, .int .u64 (u1 : Int), .int .i64 p1]) by obtain ⟨f0, f1, f2, f3, f4, f5, f6, f7, f8, f9, f10, f11, f12, f13, f14, f15, f16, f17, f18, f19, f20, f21, f22⟩ := HF.out; exact ⟨f0 h0, f2 h2⟩)
            obtain ⟨rfl, rfl⟩ := HE.out
            clear HE
            simp only [Act.put, List.toList_toArray, List.take_succ_cons, List.take_zero, List.drop_succ_cons, List.drop_zero, List.cons_append, List.nil_append, List.setIfInBounds_toArray, List.set_cons_zero, List.set_cons_succ]
            go_simp
            exact hKK _ _ ⟨_, _, _, _, _, _, _, _, _, _, _, _, _, _, _, _, _, _, _, _, _, _, _, rfl, hB, Lib.hid (by obtain ⟨f0, f1, f2, f3, f4, f5, f6, f7, f8, f9, f10, f11, f12, f13, f14, f15, f16, f17, f18, f19, f20, f21, f22⟩ := HF.out; exact ⟨fun _ => rfl, f1, fun _ => rfl, fun _ => rfl, f4, f5, f6, f7, f8, f9, f10, f11, f12, f13, f14, f15, f16, f17, f18, f19, f20, f21, f22⟩)⟩
          · rintro D aa wx ⟨x6, x61, x62, x63, x64, x65, x66, x67, x68, x69, x70, x71, x72, x73, x74, x75, x76, x77, x78, x79, x80, x81, x82, rfl, hB, HF⟩ hD hdep KK hKK
            simp [Region.binds] at hdep
            have h3 : D 3 = true := by simp [hdep]
            have HE := Lib.hid (show x64 = .bool true by obtain ⟨f0, f1, f2, f3, f4, f5, f6, f7, f8, f9, f10, f11, f12, f13, f14, f15, f16, f17, f18, f19, f20, f21, f22⟩ := HF.out; exact f3 h3)
            obtain rfl := HE.out
            clear HE
            simp only [Act.put, List.toList_toArray, List.take_succ_cons, List.take_zero, List.drop_succ_cons, List.drop_zero, List.cons_append, List.nil_append, List.setIfInBounds_toArray, List.set_cons_zero, List.set_cons_succ]
            go_simp
            exact hKK _ _ ⟨_, _, _, _, _, _, _, _, _, _, _, _, _, _, _, _, _, _, _, _, _, _, _, rfl, hB, Lib.hid (by obtain ⟨f0, f1, f2, f3, f4, f5, f6, f7, f8, f9, f10, f11, f12, f13, f14, f15, f16, f17, f18, f19, f20, f21, f22⟩ := HF.out; exact ⟨f0, f1, f2, fun _ => rfl, fun _ => rfl, f5, f6, f7, f8, f9, f10, f11, f12, f13, f14, f15, f16, f17, f18, f19, f20, f21, f22⟩)⟩
          · rintro D aa wx ⟨x6, x61, x62, x63, x64, x65, x66, x67, x68, x69, x70, x71, x72, x73, x74, x75, x76, x77, x78, x79, x80, x81, x82, rfl, hB, HF⟩ hD hdep KK hKK
            simp [Region.binds] at hdep
            have h4 : D 4 = true := by simp [hdep]
            have HE := Lib.hid (show x65 = .bool true by obtain ⟨f0, f1, f2, f3, f4, f5, f6, f7, f8, f9, f10, f11, f12, f13, f14, f15, f16, f17, f18, f19, f20, f21, f22⟩ := HF.out; exact f4 h4)
            obtain rfl := HE.out
            clear HE
            simp only [Act.put, List.toList_toArray, List.take_succ_cons, List.take_zero, List.drop_succ_cons, List.drop_zero, List.cons_append, List.nil_append, List.setIfInBounds_toArray, List.set_cons_zero, List.set_cons_succ]
            go_simp
            exact hKK _ _ ⟨_, _, _, _, _, _, _, _, _, _, _, _, _, _, _, _, _, _, _, _, _, _, _, rfl, hB, Lib.hid (by obtain ⟨f0, f1, f2, f3, f4, f5, f6, f7, f8, f9, f10, f11, f12, f13, f14, f15, f16, f17, f18, f19, f20, f21, f22⟩ := HF.out; exact ⟨f0, f1, f2, f3, fun _ => rfl, fun _ => rfl, f6, f7, f8, f9, f10, f11, f12, f13, f14, f15, f16, f17, f18, f19, f20, f21, f22⟩)⟩
          · rintro D aa wx ⟨x6, x61, x62, x63, x64, x65, x66, x67, x68, x69, x70, x71, x72, x73, x74, x75, x76, x77, x78, x79, x80, x81, x82, rfl, hB, HF⟩ hD hdep KK hKK
            simp [Region.binds] at hdep
            have h4 : D 4 = true := by simp [hdep]
            have h5 : D 5 = true := by simp [hdep]
            have HE := Lib.hid (show x65 = .bool true ∧ x66 = .int .i64 0 by obtain ⟨f0, f1, f2, f3, f4, f5, f6, f7, f8, f9, f10, f11, f12, f13, f14, f15, f16, f17, f18, f19, f20, f21, f22⟩ := HF.out; exact ⟨f4 h4, f5 h5⟩)
            obtain ⟨rfl, rfl⟩ := HE.out
            clear HE
            simp only [Act.put, List.toList_toArray, List.take_succ_cons, List.take_zero, List.drop_succ_cons, List.drop_zero, List.cons_append, List.nil_append, List.setIfInBounds_toArray, List.set_cons_zero, List.set_cons_succ]
            go_simp
            exact hKK _ _ ⟨_, _, _, _, _, _, _, _, _, _, _, _, _, _, _, _, _, _, _, _, _, _, _, rfl, hB, Lib.hid (by obtain ⟨f0, f1, f2, f3, f4, f5, f6, f7, f8, f9, f10, f11, f12, f13, f14, f15, f16, f17, f18, f19, f20, f21, f22⟩ := HF.out; exact ⟨f0, f1, f2, f3, fun _ => rfl, fun _ => rfl, fun _ => rfl, f7, f8, f9, f10, f11, f12, f13, f14, f15, f16, f17, f18, f19, f20, f21, f22⟩)⟩
          · rintro D aa wx ⟨x6, x61, x62, x63, x64, x65, x66, x67, x68, x69, x70, x71, x72, x73, x74, x75, x76, x77, x78, x79, x80, x81, x82, rfl, hB, HF⟩ hD hdep KK hKK
            simp [Region.binds] at hdep
            have h4 : D 4 = true := by simp [hdep]
            have h6 : D 6 = true := by simp [hdep]
            have HE := Lib.hid (show x65 = .bool true ∧ x67 = .bool true by obtain ⟨f0, f1, f2, f3, f4, f5, f6, f7, f8, f9, f10, f11, f12, f13, f14, f15, f16, f17, f18, f19, f20, f21, f22⟩ := HF.out; exact ⟨f4 h4, f6 h6⟩)
            obtain ⟨rfl, rfl⟩ := HE.out
            clear HE
            simp only [Act.put, List.toList_toArray, List.take_succ_cons, List.take_zero, List.drop_succ_cons, List.drop_zero, List.cons_append, List.nil_append, List.setIfInBounds_toArray, List.set_cons_zero, List.set_cons_succ]
            go_simp
            exact hKK _ _ ⟨_, _, _, _, _, _, _, _, _, _, _, _, _, _, _, _, _, _, _, _, _, _, _, rfl, hB, Lib.hid (by obtain ⟨f0, f1, f2, f3, f4, f5, f6, f7, f8, f9, f10, f11, f12, f13, f14, f15, f16, f17, f18, f19, f20, f21, f22⟩ := HF.out; exact ⟨f0, f1, f2, f3, fun _ => rfl, f5, fun _ => rfl, fun _ => rfl, f8, f9, f10, f11, f12, f13, f14, f15, f16, f17, f18, f19, f20, f21, f22⟩)⟩
          · rintro D aa wx ⟨x6, x61, x62, x63, x64, x65, x66, x67, x68, x69, x70, x71, x72, x73, x74, x75, x76, x77, x78, x79, x80, x81, x82, rfl, hB, HF⟩ hD hdep KK hKK
            simp [Region.binds] at hdep
            have h7 : D 7 = true := by simp [hdep]
            have HE := Lib.hid (show x68 = .bool true by obtain ⟨f0, f1, f2, f3, f4, f5, f6, f7, f8, f9, f10, f11, f12, f13, f14, f15, f16, f17, f18, f19, f20, f21, f22⟩ := HF.out; exact f7 h7)
            obtain rfl := HE.out
            clear HE
            simp only [Act.put, List.toList_toArray, List.take_succ_cons, List.take_zero, List.drop_succ_cons, List.drop_zero, List.cons_append, List.nil_append, List.setIfInBounds_toArray, List.set_cons_zero, List.set_cons_succ]
            go_simp
            exact hKK _ _ ⟨_, _, _, _, _, _, _, _, _, _, _, _, _, _, _, _, _, _, _, _, _, _, _, rfl, hB, Lib.hid (by obtain ⟨f0, f1, f2, f3, f4, f5, f6, f7, f8, f9, f10, f11, f12, f13, f14, f15, f16, f17, f18, f19, f20, f21, f22⟩ := HF.out; exact ⟨f0, f1, f2, f3, f4, f5, f6, fun _ => rfl, fun _ => rfl, f9, f10, f11, f12, f13, f14, f15, f16, f17, f18, f19, f20, f21, f22⟩)⟩
          · rintro D aa wx ⟨x6, x61, x62, x63, x64, x65, x66, x67, x68, x69, x70, x71, x72, x73, x74, x75, x76, x77, x78, x79, x80, x81, x82, rfl, hB, HF⟩ hD hdep KK hKK
            simp [Region.binds] at hdep
            have h8 : D 8 = true := by simp [hdep]
            have HE := Lib.hid (show x69 = .bool true by obtain ⟨f0, f1, f2, f3, f4, f5, f6, f7, f8, f9, f10, f11, f12, f13, f14, f15, f16, f17, f18, f19, f20, f21, f22⟩ := HF.out; exact f8 h8)
            obtain rfl := HE.out
            clear HE
            simp only [Act.put, List.toList_toArray, List.take_succ_cons, List.take_zero, List.drop_succ_cons, List.drop_zero, List.cons_append, List.nil_append, List.setIfInBounds_toArray, List.set_cons_zero, List.set_cons_succ]
            go_simp
            exact hKK _ _ ⟨_, _, _, _, _, _, _, _, _, _, _, _, _, _, _, _, _, _, _, _, _, _, _, rfl, hB, Lib.hid (by obtain ⟨f0, f1, f2, f3, f4, f5, f6, f7, f8, f9, f10, f11, f12, f13, f14, f15, f16, f17, f18, f19, f20, f21, f22⟩ := HF.out; exact ⟨f0, f1, f2, f3, f4, f5, f6, f7, fun _ => rfl, fun _ => rfl, f10, f11, f12, f13, f14, f15, f16, f17, f18, f19, f20, f21, f22⟩)⟩
          · rintro D aa wx ⟨x6, x61, x62, x63, x64, x65, x66, x67, x68, x69, x70, x71, x72, x73, x74, x75, x76, x77, x78, x79, x80, x81, x82, rfl, hB, HF⟩ hD hdep KK hKK
            simp [Region.binds] at hdep
            have h8 : D 8 = true := by simp [hdep]
            have h9 : D 9 = true := by simp [hdep]
            have HE := Lib.hid (show x69 = .bool true ∧ x70 = .string A by obtain ⟨f0, f1, f2, f3, f4, f5, f6, f7, f8, f9, f10, f11, f12, f13, f14, f15, f16, f17, f18, f19, f20, f21, f22⟩ := HF.out; exact ⟨f8 h8, f9 h9⟩)
            obtain ⟨rfl, rfl⟩ := HE.out
            clear HE
            simp only [Act.put, List.toList_toArray, List.take_succ_cons, List.take_zero, List.drop_succ_cons, List.drop_zero, List.cons_append, List.nil_append, List.setIfInBounds_toArray, List.set_cons_zero, List.set_cons_succ]
            go_simp
            exact hKK _ _ ⟨_, _, _, _, _, _, _, _, _, _, _, _, _, _, _, _, _, _, _, _, _, _, _, rfl, hB, Lib.hid (by obtain ⟨f0, f1, f2, f3, f4, f5, f6, f7, f8, f9, f10, f11, f12, f13, f14, f15, f16, f17, f18, f19, f20, f21, f22⟩ := HF.out; exact ⟨f0, f1, f2, f3, f4, f5, f6, f7, fun _ => rfl, fun _ => rfl, fun _ => rfl, f11, f12, f13, f14, f15, f16, f17, f18, f19, f20, f21, f22⟩)⟩
          · rintro D aa wx ⟨x6, x61, x62, x63, x64, x65, x66, x67, x68, x69, x70, x71, x72, x73, x74, x75, x76, x77, x78, x79, x80, x81, x82, rfl, hB, HF⟩ hD hdep KK hKK
            simp [Region.binds] at hdep
            have h8 : D 8 = true := by simp [hdep]
            have h10 : D 10 = true := by simp [hdep]
            have HE := Lib.hid (show x69 = .bool true ∧ x71 = .int .i64 (A.size : Int) by obtain ⟨f0, f1, f2, f3, f4, f5, f6, f7, f8, f9, f10, f11, f12, f13, f14, f15, f16, f17, f18, f19, f20, f21, f22⟩ := HF.out; exact ⟨f8 h8, f10 h10⟩)
            obtain ⟨rfl, rfl⟩ := HE.out
            clear HE
            simp only [Act.put, List.toList_toArray, List.take_succ_cons, List.take_zero, List.drop_succ_cons, List.drop_zero, List.cons_append, List.nil_append, List.setIfInBounds_toArray, List.set_cons_zero, List.set_cons_succ]
            go_simp
            exact hKK _ _ ⟨_, _, _, _, _, _, _, _, _, _, _, _, _, _, _, _, _, _, _, _, _, _, _, rfl, hB, Lib.hid (by obtain ⟨f0, f1, f2, f3, f4, f5, f6, f7, f8, f9, f10, f11, f12, f13, f14, f15, f16, f17, f18, f19, f20, f21, f22⟩ := HF.out; exact ⟨f0, f1, f2, f3, f4, f5, f6, f7, fun _ => rfl, f9, fun _ => rfl, fun _ => rfl, f12, f13, f14, f15, f16, f17, f18, f19, f20, f21, f22⟩)⟩
          · rintro D aa wx ⟨x6, x61, x62, x63, x64, x65, x66, x67, x68, x69, x70, x71, x72, x73, x74, x75, x76, x77, x78, x79, x80, x81, x82, rfl, hB, HF⟩ hD hdep KK hKK
            simp [Region.binds] at hdep
            have h8 : D 8 = true := by simp [hdep]
            have h11 : D 11 = true := by simp [hdep]
            have HE := Lib.hid (show x69 = .bool true ∧ x72 = .bool true by obtain ⟨f0, f1, f2, f3, f4, f5, f6, f7, f8, f9, f10, f11, f12, f13, f14, f15, f16, f17, f18, f19, f20, f21, f22⟩ := HF.out; exact ⟨f8 h8, f11 h11⟩)
            obtain ⟨rfl, rfl⟩ := HE.out
            clear HE
            simp only [Act.put, List.toList_toArray, List.take_succ_cons, List.take_zero, List.drop_succ_cons, List.drop_zero, List.cons_append, List.nil_append, List.setIfInBounds_toArray, List.set_cons_zero, List.set_cons_succ]
            go_simp
            exact hKK _ _ ⟨_, _, _, _, _, _, _, _, _, _, _, _, _, _, _, _, _, _, _, _, _, _, _, rfl, hB, Lib.hid (by obtain ⟨f0, f1, f2, f3, f4, f5, f6, f7, f8, f9, f10, f11, f12, f13, f14, f15, f16, f17, f18, f19, f20, f21, f22⟩ := HF.out; exact ⟨f0, f1, f2, f3, f4, f5, f6, f7, fun _ => rfl, f9, f10, fun _ => rfl, fun _ => rfl, f13, f14, f15, f16, f17, f18, f19, f20, f21, f22⟩)⟩
          · rintro D aa wx ⟨x6, x61, x62, x63, x64, x65, x66, x67, x68, x69, x70, x71, x72, x73, x74, x75, x76, x77, x78, x79, x80, x81, x82, rfl, hB, HF⟩ hD hdep KK hKK
            simp [Region.binds] at hdep
            have h12 : D 12 = true := by simp [hdep]
            have HE := Lib.hid (show x73 = .bool true by obtain ⟨f0, f1, f2, f3, f4, f5, f6, f7, f8, f9, f10, f11, f12, f13, f14, f15, f16, f17, f18, f19, f20, f21, f22⟩ := HF.out; exact f12 h12)
            obtain rfl := HE.out
            clear HE
            simp only [Act.put, List.toList_toArray, List.take_succ_cons, List.take_zero, List.drop_succ_cons, List.drop_zero, List.cons_append, List.nil_append, List.setIfInBounds_toArray, List.set_cons_zero, List.set_cons_succ]
            go_simp
            exact hKK _ _ ⟨_, _, _, _, _, _, _, _, _, _, _, _, _, _, _, _, _, _, _, _, _, _, _, rfl, hB, Lib.hid (by obtain ⟨f0, f1, f2, f3, f4, f5, f6, f7, f8, f9, f10, f11, f12, f13, f14, f15, f16, f17, f18, f19, f20, f21, f22⟩ := HF.out; exact ⟨f0, f1, f2, f3, f4, f5, f6, f7, f8, f9, f10, f11, fun _ => rfl, fun _ => rfl, f14, f15, f16, f17, f18, f19, f20, f21, f22⟩)⟩
          · rintro D aa wx ⟨x6, x61, x62, x63, x64, x65, x66, x67, x68, x69, x70, x71, x72, x73, x74, x75, x76, x77, x78, x79, x80, x81, x82, rfl, hB, HF⟩ hD hdep KK hKK
            simp [Region.binds] at hdep
            have h13 : D 13 = true := by simp [hdep]
            have HE := Lib.hid (show x74 = .bool true by obtain ⟨f0, f1, f2, f3, f4, f5, f6, f7, f8, f9, f10, f11, f12, f13, f14, f15, f16, f17, f18, f19, f20, f21, f22⟩ := HF.out; exact f13 h13)
            obtain rfl := HE.out
            clear HE
            simp only [Act.put, List.toList_toArray, List.take_succ_cons, List.take_zero, List.drop_succ_cons, List.drop_zero, List.cons_append, List.nil_append, List.setIfInBounds_toArray, List.set_cons_zero, List.set_cons_succ]
            go_simp
            exact hKK _ _ ⟨_, _, _, _, _, _, _, _, _, _, _, _, _, _, _, _, _, _, _, _, _, _, _, rfl, hB, Lib.hid (by obtain ⟨f0, f1, f2, f3, f4, f5, f6, f7, f8, f9, f10, f11, f12, f13, f14, f15, f16, f17, f18, f19, f20, f21, f22⟩ := HF.out; exact ⟨f0, f1, f2, f3, f4, f5, f6, f7, f8, f9, f10, f11, f12, fun _ => rfl, fun _ => rfl, f15, f16, f17, f18, f19, f20, f21, f22⟩)⟩
          · rintro D aa wx ⟨x6, x61, x62, x63, x64, x65, x66, x67, x68, x69, x70, x71, x72, x73, x74, x75, x76, x77, x78, x79, x80, x81, x82, rfl, hB, HF⟩ hD hdep KK hKK
            simp [Region.binds] at hdep
            have h13 : D 13 = true := by simp [hdep]
            have HE := Lib.hid (show x74 = .bool true by obtain ⟨f0, f1, f2, f3, f4, f5, f6, f7, f8, f9, f10, f11, f12, f13, f14, f15, f16, f17, f18, f19, f20, f21, f22⟩ := HF.out; exact f13 h13)
            obtain rfl := HE.out
            clear HE
            simp only [Act.put, List.toList_toArray, List.take_succ_cons, List.take_zero, List.drop_succ_cons, List.drop_zero, List.cons_append, List.nil_append, List.setIfInBounds_toArray, List.set_cons_zero, List.set_cons_succ]
            go_simp
            exact hKK _ _ ⟨_, _, _, _, _, _, _, _, _, _, _, _, _, _, _, _, _, _, _, _, _, _, _, rfl, hB, Lib.hid (by obtain ⟨f0, f1, f2, f3, f4, f5, f6, f7, f8, f9, f10, f11, f12, f13, f14, f15, f16, f17, f18, f19, f20, f21, f22⟩ := HF.out; exact ⟨f0, f1, f2, f3, f4, f5, f6, f7, f8, f9, f10, f11, f12, fun _ => rfl, f14, fun _ => rfl, f16, f17, f18, f19, f20, f21, f22⟩)⟩
          · rintro D aa wx ⟨x6, x61, x62, x63, x64, x65, x66, x67, x68, x69, x70, x71, x72, x73, x74, x75, x76, x77, x78, x79, x80, x81, x82, rfl, hB, HF⟩ hD hdep KK hKK
            simp [Region.binds] at hdep
            have h13 : D 13 = true := by simp [hdep]
            have h14 : D 14 = true := by simp [hdep]
            have h15 : D 15 = true := by simp [hdep]
            have HE := Lib.hid (show x74 = .bool true ∧ x75 = .string A ∧ x76 = .string B by obtain ⟨f0, f1, f2, f3, f4, f5, f6, f7, f8, f9, f10, f11, f12, f13, f14, f15, f16, f17, f18, f19, f20, f21, f22⟩ := HF.out; exact ⟨f13 h13, f14 h14, f15 h15⟩)
            obtain ⟨rfl, rfl, rfl⟩ := HE.out
            clear HE
            simp only [Act.put, List.toList_toArray, List.take_succ_cons, List.take_zero, List.drop_succ_cons, List.drop_zero, List.cons_append, List.nil_append, List.setIfInBounds_toArray, List.set_cons_zero, List.set_cons_succ]
            go_simp
            exact hKK _ _ ⟨_, _, _, _, _, _, _, _, _, _, _, _, _, _, _, _, _, _, _, _, _, _, _, rfl, hB, Lib.hid (by obtain ⟨f0, f1, f2, f3, f4, f5, f6, f7, f8, f9, f10, f11, f12, f13, f14, f15, f16, f17, f18, f19, f20, f21, f22⟩ := HF.out; exact ⟨f0, f1, f2, f3, f4, f5, f6, f7, f8, f9, f10, f11, f12, fun _ => rfl, fun _ => rfl, fun _ => rfl, fun _ => rfl, f17, f18, f19, f20, f21, f22⟩)⟩
          · rintro D aa wx ⟨x6, x61, x62, x63, x64, x65, x66, x67, x68, x69, x70, x71, x72, x73, x74, x75, x76, x77, x78, x79, x80, x81, x82, rfl, hB, HF⟩ hD hdep KK hKK
            simp [Region.binds] at hdep
            have h13 : D 13 = true := by simp [hdep]
            have HE := Lib.hid (show x74 = .bool true by obtain ⟨f0, f1, f2, f3, f4, f5, f6, f7, f8, f9, f10, f11, f12, f13, f14, f15, f16, f17, f18, f19, f20, f21, f22⟩ := HF.out; exact f13 h13)
            obtain rfl := HE.out
            clear HE
            obtain ⟨c0, c1, c2, c3, c4, c5, f0, f1, f2, f3, f4, f5⟩ := S3.out.below hB
            obtain ⟨d0, d1, d2, d3, d4, d5, g0, g1, g2, gg3, gg4, g5⟩ := S4.out.below hB
            obtain ⟨e0, e1, e2, e3, e4, e5, j0, j1, j2, j3, j4, j5⟩ := S15.out.below hB
            clear f0 f1 f2 f3 f4 f5 g0 g1 g2 gg3 gg4 g5 j0 j1 j2 j3 j4 j5
            simp only [Act.put, List.toList_toArray, List.take_succ_cons, List.take_zero, List.drop_succ_cons, List.drop_zero, List.cons_append, List.nil_append, List.setIfInBounds_toArray, List.set_cons_zero, List.set_cons_succ]
            go_simp
            exact hKK _ _ ⟨_, _, _, _, _, _, _, _, _, _, _, _, _, _, _, _, _, _, _, _, _, _, _, rfl, hB, Lib.hid (by obtain ⟨f0, f1, f2, f3, f4, f5, f6, f7, f8, f9, f10, f11, f12, f13, f14, f15, f16, f17, f18, f19, f20, f21, f22⟩ := HF.out; exact ⟨f0, f1, f2, f3, f4, f5, f6, f7, f8, f9, f10, f11, f12, fun _ => rfl, f14, f15, f16, fun _ => rfl, f18, f19, f20, f21, f22⟩)⟩
          · rintro D aa wx ⟨x6, x61, x62, x63, x64, x65, x66, x67, x68, x69, x70, x71, x72, x73, x74, x75, x76, x77, x78, x79, x80, x81, x82, rfl, hB, HF⟩ hD hdep KK hKK
            simp [Region.binds] at hdep
            have h13 : D 13 = true := by simp [hdep]
            have HE := Lib.hid (show x74 = .bool true by obtain ⟨f0, f1, f2, f3, f4, f5, f6, f7, f8, f9, f10, f11, f12, f13, f14, f15, f16, f17, f18, f19, f20, f21, f22⟩ := HF.out; exact f13 h13)
            obtain rfl := HE.out
            clear HE
            obtain ⟨c0, c1, c2, c3, c4, c5, f0, f1, f2, f3, f4, f5⟩ := S3.out.below hB
            obtain ⟨d0, d1, d2, d3, d4, d5, g0, g1, g2, gg3, gg4, g5⟩ := S4.out.below hB
            obtain ⟨e0, e1, e2, e3, e4, e5, j0, j1, j2, j3, j4, j5⟩ := S15.out.below hB
            clear f0 f1 f2 f3 f4 f5 g0 g1 g2 gg3 gg4 g5 j0 j1 j2 j3 j4 j5
            simp only [Act.put, List.toList_toArray, List.take_succ_cons, List.take_zero, List.drop_succ_cons, List.drop_zero, List.cons_append, List.nil_append, List.setIfInBounds_toArray, List.set_cons_zero, List.set_cons_succ]
            go_simp
            exact hKK _ _ ⟨_, _, _, _, _, _, _, _, _, _, _, _, _, _, _, _, _, _, _, _, _, _, _, rfl, hB, Lib.hid (by obtain ⟨f0, f1, f2, f3, f4, f5, f6, f7, f8, f9, f10, f11, f12, f13, f14, f15, f16, f17, f18, f19, f20, f21, f22⟩ := HF.out; exact ⟨f0, f1, f2, f3, f4, f5, f6, f7, f8, f9, f10, f11, f12, fun _ => rfl, f14, f15, f16, f17, fun _ => rfl, f19, f20, f21, f22⟩)⟩
          · rintro D aa wx ⟨x6, x61, x62, x63, x64, x65, x66, x67, x68, x69, x70, x71, x72, x73, x74, x75, x76, x77, x78, x79, x80, x81, x82, rfl, hB, HF⟩ hD hdep KK hKK
            simp [Region.binds] at hdep
            have h13 : D 13 = true := by simp [hdep]
            have h17 : D 17 = true := by simp [hdep]
            have h18 : D 18 = true := by simp [hdep]
            have HE := Lib.hid (show x74 = .bool true ∧ x78 = .agg #[.int .i64 k1, .int .i64 t1, .string b1, .string n1, .int .u64 (u1 : Int), .int .i64 p1] ∧ x79 = .agg #[.int .i64 k2, .int .i64 t2, .string b2, .string n2, .int .u64 (u2 : Int), .int .i64 p2] by obtain ⟨f0, f1, f2, f3, f4, f5, f6, f7, f8, f9, f10, f11, f12, f13, f14, f15, f16, f17, f18, f19, f20, f21, f22⟩ := HF.out; exact ⟨f13 h13, f17 h17, f18 h18⟩)
            obtain ⟨rfl, rfl, rfl⟩ := HE.out
            clear HE
            simp only [Act.put, List.toList_toArray, List.take_succ_cons, List.take_zero, List.drop_succ_cons, List.drop_zero, List.cons_append, List.nil_append, List.setIfInBounds_toArray, List.set_cons_zero, List.set_cons_succ]
            go_simp
            exact hKK _ _ ⟨_, _, _, _, _, _, _, _, _, _, _, _, _, _, _, _, _, _, _, _, _, _, _, rfl, hB, Lib.hid (by obtain ⟨f0, f1, f2, f3, f4, f5, f6, f7, f8, f9, f10, f11, f12, f13, f14, f15, f16, f17, f18, f19, f20, f21, f22⟩ := HF.out; exact ⟨f0, f1, f2, f3, f4, f5, f6, f7, f8, f9, f10, f11, f12, fun _ => rfl, f14, f15, f16, fun _ => rfl, fun _ => rfl, fun _ => rfl, f20, f21, f22⟩)⟩
          · rintro D aa wx ⟨x6, x61, x62, x63, x64, x65, x66, x67, x68, x69, x70, x71, x72, x73, x74, x75, x76, x77, x78, x79, x80, x81, x82, rfl, hB, HF⟩ hD hdep KK hKK
            simp [Region.binds] at hdep
            have h13 : D 13 = true := by simp [hdep]
            have h16 : D 16 = true := by simp [hdep]
            have h19 : D 19 = true := by simp [hdep]
            have HE := Lib.hid (show x74 = .bool true ∧ x77 = .bool q ∧ x80 = .bool q by obtain ⟨f0, f1, f2, f3, f4, f5, f6, f7, f8, f9, f10, f11, f12, f13, f14, f15, f16, f17, f18, f19, f20, f21, f22⟩ := HF.out; exact ⟨f13 h13, f16 h16, f19 h19⟩)
            obtain ⟨rfl, rfl, rfl⟩ := HE.out
            clear HE
            simp only [Act.put, List.toList_toArray, List.take_succ_cons, List.take_zero, List.drop_succ_cons, List.drop_zero, List.cons_append, List.nil_append, List.setIfInBounds_toArray, List.set_cons_zero, List.set_cons_succ]
            go_simp
            exact hKK _ _ ⟨_, _, _, _, _, _, _, _, _, _, _, _, _, _, _, _, _, _, _, _, _, _, _, rfl, hB, Lib.hid (by obtain ⟨f0, f1, f2, f3, f4, f5, f6, f7, f8, f9, f10, f11, f12, f13, f14, f15, f16, f17, f18, f19, f20, f21, f22⟩ := HF.out; exact ⟨f0, f1, f2, f3, f4, f5, f6, f7, f8, f9, f10, f11, f12, fun _ => rfl, f14, f15, fun _ => rfl, f17, f18, fun _ => rfl, fun _ => rfl, f21, f22⟩)⟩
          · rintro D aa wx ⟨x6, x61, x62, x63, x64, x65, x66, x67, x68, x69, x70, x71, x72, x73, x74, x75, x76, x77, x78, x79, x80, x81, x82, rfl, hB, HF⟩ hD hdep KK hKK
            simp [Region.binds] at hdep
            have h13 : D 13 = true := by simp [hdep]
            have h20 : D 20 = true := by simp [hdep]
            have HE := Lib.hid (show x74 = .bool true ∧ x81 = .bool true by obtain ⟨f0, f1, f2, f3, f4, f5, f6, f7, f8, f9, f10, f11, f12, f13, f14, f15, f16, f17, f18, f19, f20, f21, f22⟩ := HF.out; exact ⟨f13 h13, f20 h20⟩)
            obtain ⟨rfl, rfl⟩ := HE.out
            clear HE
            simp only [Act.put, List.toList_toArray, List.take_succ_cons, List.take_zero, List.drop_succ_cons, List.drop_zero, List.cons_append, List.nil_append, List.setIfInBounds_toArray, List.set_cons_zero, List.set_cons_succ]
            go_simp
            exact hKK _ _ ⟨_, _, _, _, _, _, _, _, _, _, _, _, _, _, _, _, _, _, _, _, _, _, _, rfl, hB, Lib.hid (by obtain ⟨f0, f1, f2, f3, f4, f5, f6, f7, f8, f9, f10, f11, f12, f13, f14, f15, f16, f17, f18, f19, f20, f21, f22⟩ := HF.out; exact ⟨f0, f1, f2, f3, f4, f5, f6, f7, f8, f9, f10, f11, f12, fun _ => rfl, f14, f15, f16, f17, f18, f19, fun _ => rfl, fun _ => rfl, f22⟩)⟩
          · rintro D aa wx ⟨x6, x61, x62, x63, x64, x65, x66, x67, x68, x69, x70, x71, x72, x73, x74, x75, x76, x77, x78, x79, x80, x81, x82, rfl, hB, HF⟩ hD hdep KK hKK
            simp [Region.binds] at hdep
            have h21 : D 21 = true := by simp [hdep]
            have HE := Lib.hid (show x82 = .bool true by obtain ⟨f0, f1, f2, f3, f4, f5, f6, f7, f8, f9, f10, f11, f12, f13, f14, f15, f16, f17, f18, f19, f20, f21, f22⟩ := HF.out; exact f21 h21)
            obtain rfl := HE.out
            clear HE
            simp only [Act.put, List.toList_toArray, List.take_succ_cons, List.take_zero, List.drop_succ_cons, List.drop_zero, List.cons_append, List.nil_append, List.setIfInBounds_toArray, List.set_cons_zero, List.set_cons_succ]
            go_simp
            exact hKK _ _ ⟨_, _, _, _, _, _, _, _, _, _, _, _, _, _, _, _, _, _, _, _, _, _, _, rfl, hB, Lib.hid (by obtain ⟨f0, f1, f2, f3, f4, f5, f6, f7, f8, f9, f10, f11, f12, f13, f14, f15, f16, f17, f18, f19, f20, f21, f22⟩ := HF.out; exact ⟨f0, f1, f2, f3, f4, f5, f6, f7, f8, f9, f10, f11, f12, f13, f14, f15, f16, f17, f18, f19, f20, fun _ => rfl, fun _ => rfl⟩)⟩
        rintro D aa w7 ⟨x6, x61, x62, x63, x64, x65, x66, x67, x68, x69, x70, x71, x72, x73, x74, x75, x76, x77, x78, x79, x80, x81, x82, rfl, hB, HF⟩ hD
        obtain e22 : x6 = .bool true := by obtain ⟨f0, f1, f2, f3, f4, f5, f6, f7, f8, f9, f10, f11, f12, f13, f14, f15, f16, f17, f18, f19, f20, f21, f22⟩ := HF.out; exact f22 (hD 22 (by simp))
        subst e22
        simp only [Act.put, List.toList_toArray, List.take_succ_cons, List.take_zero, List.drop_succ_cons, List.drop_zero, List.cons_append, List.nil_append]
        clear HF hD
        go_wp2_with fail
        go_ret
        exact ⟨rfl, below_to BB hB⟩
      · have hno2 : (eb != 0) = true := bne_iff_ne.2 hb
        subst ha
        go_wp2_with fail
        go_ret
        exact ⟨rfl, BB⟩
    · have hno2 : (ea != 0) = true := bne_iff_ne.2 ha
      go_wp2_with fail
      go_ret
      exact ⟨rfl, BB⟩
  · go_enter Try.func4, Try.ntmps4
    go_wp2_with fail
    refine (lives_any _).mono ?_
    rintro e wn ⟨rfl, hb⟩
    replace S3 := S3.below hb
    replace S4 := S4.below hb
    replace BB := below_to BB hb
    clear hb
    go_wp2_with fail
    refine (HO.out _).mono ?_
    rintro e wn ⟨rfl, hb⟩
    replace S3 := S3.below hb
    replace S4 := S4.below hb
    replace BB := below_to BB hb
    clear hb
    have hno : (eo == 0) = false := by simpa using ho
    replace S3 := S3.below (below_box _ (.cells #[.int .i64 k3, .int .i64 t3, .string b3, .string n3, .int .u64 (u3 : Int), .int .i64 p3] 29))
    replace S4 := S4.below (below_box _ (.cells #[.int .i64 k3, .int .i64 t3, .string b3, .string n3, .int .u64 (u3 : Int), .int .i64 p3] 29))
    replace BB := below_to BB (below_box _ (.cells #[.int .i64 k3, .int .i64 t3, .string b3, .string n3, .int .u64 (u3 : Int), .int .i64 p3] 29))
    go_upto_region 8 with (fail)
    generalize wn.alloc (.cells #[.int .i64 k3, .int .i64 t3, .string b3, .string n3, .int .u64 (u3 : Int), .int .i64 p3] 29) = wo at S3 S4 BB ⊢
    have c0 := S3.c0
    have c1 := S3.c1
    have c2 := S3.c2
    have c3 := S3.c3
    have c4 := S3.c4
    have c5 := S3.c5
    go_wp2_with fail
    clear c0 c1 c2 c3 c4 c5
    refine (ours_any _ _ _ _ _ _ _).mono ?_
    rintro e wn ⟨rfl, hb⟩
    replace S3 := S3.below hb
    replace S4 := S4.below hb
    replace BB := below_to BB hb
    clear hb
    go_wp2_with fail
    refine (HA.out _).mono ?_
    rintro e wn ⟨rfl, hb⟩
    replace S3 := S3.below hb
    replace S4 := S4.below hb
    replace BB := below_to BB hb
    clear hb
    have c0 := S4.c0
    have c1 := S4.c1
    have c2 := S4.c2
    have c3 := S4.c3
    have c4 := S4.c4
    have c5 := S4.c5
    go_wp2_with fail
    clear c0 c1 c2 c3 c4 c5
    refine (ours_any _ _ _ _ _ _ _).mono ?_
    rintro e wn ⟨rfl, hb⟩
    replace S3 := S3.below hb
    replace S4 := S4.below hb
    replace BB := below_to BB hb
    clear hb
    go_wp2_with fail
    refine (HB.out _).mono ?_
    rintro e wn ⟨rfl, hb⟩
    replace S3 := S3.below hb
    replace S4 := S4.below hb
    replace BB := below_to BB hb
    clear hb
    by_cases ha : ea = 0
    · by_cases hb : eb = 0
      · subst ha hb
        obtain ⟨hq1, hq2⟩ := HQ.out (by simp) (by simp)
        have h64 := HA64.out (by simp)
        have h64' : (A.size : Int) ≤ 64 := by omega
        go_wp2_with fail
        refine (HOA.out (by simp) _).mono ?_
        rintro e wn ⟨rfl, hb⟩
        replace S3 := S3.below hb
        replace S4 := S4.below hb
        replace BB := below_to BB hb
        clear hb
        go_wp2_with fail
        have S15 := Lib.hid (Six.new wn (.int .i64 k1) (.int .i64 t1) (.string b1) (.string n1) (.int .u64 (u1 : Int)) (.int .i64 p1) 29)
        replace S3 := Lib.hid (S3.below (below_box wn (.cells #[.int .i64 k1, .int .i64 t1, .string b1, .string n1, .int .u64 (u1 : Int), .int .i64 p1] 29)))
        replace S4 := Lib.hid (S4.below (below_box wn (.cells #[.int .i64 k1, .int .i64 t1, .string b1, .string n1, .int .u64 (u1 : Int), .int .i64 p1] 29)))
        replace BB := below_to BB (below_box wn (.cells #[.int .i64 k1, .int .i64 t1, .string b1, .string n1, .int .u64 (u1 : Int), .int .i64 p1] 29))
        obtain ⟨g15, hg15⟩ : ∃ g, wn.heap.size = g := ⟨_, rfl⟩
        rw [hg15] at S15
        try rw [hg15]
        generalize wn.alloc (.cells #[.int .i64 k1, .int .i64 t1, .string b1, .string n1, .int .u64 (u1 : Int), .int .i64 p1] 29) = wm at S3 S4 S15 BB ⊢
        clear HO HMP HA HB HOA HA64 HQ
        refine wp_region_inv0 (InvBk wm g15 w.heap.size (w.heap.size + 1) A B q k1 t1 b1 n1 u1 p1 k2 t2 b2 n2 u2 p2) (by kernel_rfl) (by decide) ?_ ?_ ?_
        · exact ⟨_, _, _, _, _, _, _, _, _, _, _, _, _, _, _, _, _, _, _, _, _, _, _, rfl, (Below.refl _ _).drew, Lib.hid ⟨(by intro h; cases h), (by intro h; cases h), (by intro h; cases h), (by intro h; cases h), (by intro h; cases h), (by intro h; cases h), (by intro h; cases h), (by intro h; cases h), (by intro h; cases h), (by intro h; cases h), (by intro h; cases h), (by intro h; cases h), (by intro h; cases h), (by intro h; cases h), (by intro h; cases h), (by intro h; cases h), (by intro h; cases h), (by intro h; cases h), (by intro h; cases h), (by intro h; cases h), (by intro h; cases h), (by intro h; cases h), (by intro h; cases h)⟩⟩
        · refine AllI.cons ?_ (AllI.cons ?_ (AllI.cons ?_ (AllI.cons ?_ (AllI.cons ?_ (AllI.cons ?_ (AllI.cons ?_ (AllI.cons ?_ (AllI.cons ?_ (AllI.cons ?_ (AllI.cons ?_ (AllI.cons ?_ (AllI.cons ?_ (AllI.cons ?_ (AllI.cons ?_ (AllI.cons ?_ (AllI.cons ?_ (AllI.cons ?_ (AllI.cons ?_ (AllI.cons ?_ (AllI.cons ?_ (AllI.cons ?_ (AllI.cons ?_ AllI.nil))))))))))))))))))))))
          · rintro D aa wx ⟨x6, x61, x62, x63, x64, x65, x66, x67, x68, x69, x70, x71, x72, x73, x74, x75, x76, x77, x78, x79, x80, x81, x82, rfl, hB, HF⟩ hD hdep KK hKK
            obtain ⟨c0, c1, c2, c3, c4, c5, f0, f1, f2, f3, f4, f5⟩ := S3.out.below hB
            obtain ⟨d0, d1, d2, d3, d4, d5, g0, g1, g2, gg3, gg4, g5⟩ := S4.out.below hB
            obtain ⟨e0, e1, e2, e3, e4, e5, j0, j1, j2, j3, j4, j5⟩ := S15.out.below hB
            clear f0 f1 f2 f3 f4 f5 g0 g1 g2 gg3 gg4 g5 j0 j1 j2 j3 j4 j5
            simp only [Act.put, List.toList_toArray, List.take_succ_cons, List.take_zero, List.drop_succ_cons, List.drop_zero, List.cons_append, List.nil_append, List.setIfInBounds_toArray, List.set_cons_zero, List.set_cons_succ]
            go_simp
            exact hKK _ _ ⟨_, _, _, _, _, _, _, _, _, _, _, _, _, _, _, _, _, _, _, _, _, _, _, rfl, hB, Lib.hid (by obtain ⟨f0, f1, f2, f3, f4, f5, f6, f7, f8, f9, f10, f11, f12, f13, f14, f15, f16, f17, f18, f19, f20, f21, f22⟩ := HF.out; exact ⟨fun _ => rfl, f1, f2, f3, f4, f5, f6, f7, f8, f9, f10, f11, f12, f13, f14, f15, f16, f17, f18, f19, f20, f21, f22⟩)⟩
          · rintro D aa wx ⟨x6, x61, x62, x63, x64, x65, x66, x67, x68, x69, x70, x71, x72, x73, x74, x75, x76, x77, x78, x79, x80, x81, x82, rfl, hB, HF⟩ hD hdep KK hKK
            obtain ⟨c0, c1, c2, c3, c4, c5, f0, f1, f2, f3, f4, f5⟩ := S3.out.below hB
            obtain ⟨d0, d1, d2, d3, d4, d5, g0, g1, g2, gg3, gg4, g5⟩ := S4.out.below hB
            obtain ⟨e0, e1, e2, e3, e4, e5, j0, j1, j2, j3, j4, j5⟩ := S15.out.below hB
            clear f0 f1 f2 f3 f4 f5 g0 g1 g2 gg3 gg4 g5 j0 j1 j2 j3 j4 j5
            simp only [Act.put, List.toList_toArray, List.take_succ_cons, List.take_zero, List.drop_succ_cons, List.drop_zero, List.cons_append, List.nil_append, List.setIfInBounds_toArray, List.set_cons_zero, List.set_cons_succ]
            go_simp
            exact hKK _ _ ⟨_, _, _, _, _, _, _, _, _, _, _, _, _, _, _, _, _, _, _, _, _, _, _, rfl, hB, Lib.hid (by obtain ⟨f0, f1, f2, f3, f4, f5, f6, f7, f8, f9, f10, f11, f12, f13, f14, f15, f16, f17, f18, f19, f20, f21, f22⟩ := HF.out; exact ⟨f0, fun _ => rfl, f2, f3, f4, f5, f6, f7, f8, f9, f10, f11, f12, f13, f14, f15, f16, f17, f18, f19, f20, f21, f22⟩)⟩
          · rintro D aa wx ⟨x6, x61, x62, x63, x64, x65, x66, x67, x68, x69, x70, x71, x72, x73, x74, x75, x76, x77, x78, x79, x80, x81, x82, rfl, hB, HF⟩ hD hdep KK hKK
            simp [Region.binds] at hdep
            have h1 : D 1 = true := by simp [hdep]
            have HE := Lib.hid (show x62 = .agg #[.int .i64 k1, .int .i64 t1, .string b1, .string n1, .int .u64 (u1 : Int), .int .i64 p1] by obtain ⟨f0, f1, f2, f3, f4, f5, f6, f7, f8, f9, f10, f11, f12, f13, f14, f15, f16, f17, f18, f19, f20, f21, f22⟩ := HF.out; exact f1 h1)
            obtain rfl := HE.out
            clear HE
            simp only [Act.put, List.toList_toArray, List.take_succ_cons, List.take_zero, List.drop_succ_cons, List.drop_zero, List.cons_append, List.nil_append, List.setIfInBounds_toArray, List.set_cons_zero, List.set_cons_succ]
            go_simp
            refine (ours_any _ _ _ _ _ _ _).mono ?_
            rintro e w5 ⟨rfl, hb⟩
            exact hKK _ _ ⟨_, _, _, _, _, _, _, _, _, _, _, _, _, _, _, _, _, _, _, _, _, _, _, rfl, below_to hB hb, Lib.hid (by obtain ⟨f0, f1, f2, f3, f4, f5, f6, f7, f8, f9, f10, f11, f12, f13, f14, f15, f16, f17, f18, f19, f20, f21, f22⟩ := HF.out; exact ⟨f0, fun _ => rfl, fun _ => rfl, f3, f4, f5, f6, f7, f8, f9, f10, f11, f12, f13, f14, f15, f16, f17, f18, f19, f20, f21, f22⟩)⟩
          · rintro D aa wx ⟨x6, x61, x62, x63, x64, x65, x66, x67, x68, x69, x70, x71, x72, x73, x74, x75, x76, x77, x78, x79, x80, x81, x82, rfl, hB, HF⟩ hD hdep KK hKK
            simp [Region.binds] at hdep
            have h0 : D 0 = true := by simp [hdep]
            have h2 : D 2 = true := by simp [hdep]
            have HE := Lib.hid (show x61 = .agg #[.int .i64 k1, .int .i64 t1, .string b1, .string n1, .int .u64 (u1 : Int), .int .i64 p1] ∧ x63 = (.agg #[.int .i64 k1, .int .i64 t1, .string b1, .string n1, .int .u64 (u1 : Int), .int .i64 p1]) by obtain ⟨f0, f1, f2, f3, f4, f5, f6, f7, f8, f9, f10, f11, f12, f13, f14, f15, f16, f17, f18, f19, f20, f21, f22⟩ := HF.out; exact ⟨f0 h0, f2 h2⟩)
            obtain ⟨rfl, rfl⟩ := HE.out
            clear HE
            simp only [Act.put, List.toList_toArray, List.take_succ_cons, List.take_zero, List.drop_succ_cons, List.drop_zero, List.cons_append, List.nil_append, List.setIfInBounds_toArray, List.set_cons_zero, List.set_cons_succ]
            go_simp
            exact hKK _ _ ⟨_, _, _, _, _, _, _, _, _, _, _, _, _, _, _, _, _, _, _, _, _, _, _, rfl, hB, Lib.hid (by obtain ⟨f0, f1, f2, f3, f4, f5, f6, f7, f8, f9, f10, f11, f12, f13, f14, f15, f16, f17, f18, f19, f20, f21, f22⟩ := HF.out; exact ⟨fun _ => rfl, f1, fun _ => rfl, fun _ => rfl, f4, f5, f6, f7, f8, f9, f10, f11, f12, f13, f14, f15, f16, f17, f18, f19, f20, f21, f22⟩)⟩
          · rintro D aa wx ⟨x6, x61, x62, x63, x64, x65, x66, x67, x68, x69, x70, x71, x72, x73, x74, x75, x76, x77, x78, x79, x80, x81, x82, rfl, hB, HF⟩ hD hdep KK hKK
            simp [Region.binds] at hdep
            have h3 : D 3 = true := by simp [hdep]
            have HE := Lib.hid (show x64 = .bool true by obtain ⟨f0, f1, f2, f3, f4, f5, f6, f7, f8, f9, f10, f11, f12, f13, f14, f15, f16, f17, f18, f19, f20, f21, f22⟩ := HF.out; exact f3 h3)
            obtain rfl := HE.out
            clear HE
            simp only [Act.put, List.toList_toArray, List.take_succ_cons, List.take_zero, List.drop_succ_cons, List.drop_zero, List.cons_append, List.nil_append, List.setIfInBounds_toArray, List.set_cons_zero, List.set_cons_succ]
            go_simp
            exact hKK _ _ ⟨_, _, _, _, _, _, _, _, _, _, _, _, _, _, _, _, _, _, _, _, _, _, _, rfl, hB, Lib.hid (by obtain ⟨f0, f1, f2, f3, f4, f5, f6, f7, f8, f9, f10, f11, f12, f13, f14, f15, f16, f17, f18, f19, f20, f21, f22⟩ := HF.out; exact ⟨f0, f1, f2, fun _ => rfl, fun _ => rfl, f5, f6, f7, f8, f9, f10, f11, f12, f13, f14, f15, f16, f17, f18, f19, f20, f21, f22⟩)⟩
          · rintro D aa wx ⟨x6, x61, x62, x63, x64, x65, x66, x67, x68, x69, x70, x71, x72, x73, x74, x75, x76, x77, x78, x79, x80, x81, x82, rfl, hB, HF⟩ hD hdep KK hKK
            simp [Region.binds] at hdep
            have h4 : D 4 = true := by simp [hdep]
            have HE := Lib.hid (show x65 = .bool true by obtain ⟨f0, f1, f2, f3, f4, f5, f6, f7, f8, f9, f10, f11, f12, f13, f14, f15, f16, f17, f18, f19, f20, f21, f22⟩ := HF.out; exact f4 h4)
            obtain rfl := HE.out
            clear HE
            simp only [Act.put, List.toList_toArray, List.take_succ_cons, List.take_zero, List.drop_succ_cons, List.drop_zero, List.cons_append, List.nil_append, List.setIfInBounds_toArray, List.set_cons_zero, List.set_cons_succ]
            go_simp
            exact hKK _ _ ⟨_, _, _, _, _, _, _, _, _, _, _, _, _, _, _, _, _, _, _, _, _, _, _, rfl, hB, Lib.hid (by obtain ⟨f0, f1, f2, f3, f4, f5, f6, f7, f8, f9, f10, f11, f12, f13, f14, f15, f16, f17, f18, f19, f20, f21, f22⟩ := HF.out; exact ⟨f0, f1, f2, f3, fun _ => rfl, fun _ => rfl, f6, f7, f8, f9, f10, f11, f12, f13, f14, f15, f16, f17, f18, f19, f20, f21, f22⟩)⟩
          · rintro D aa wx ⟨x6, x61, x62, x63, x64, x65, x66, x67, x68, x69, x70, x71, x72, x73, x74, x75, x76, x77, x78, x79, x80, x81, x82, rfl, hB, HF⟩ hD hdep KK hKK
            simp [Region.binds] at hdep
            have h4 : D 4 = true := by simp [hdep]
            have h5 : D 5 = true := by simp [hdep]
            have HE := Lib.hid (show x65 = .bool true ∧ x66 = .int .i64 0 by obtain ⟨f0, f1, f2, f3, f4, f5, f6, f7, f8, f9, f10, f11, f12, f13, f14, f15, f16, f17, f18, f19, f20, f21, f22⟩ := HF.out; exact ⟨f4 h4, f5 h5⟩)
            obtain ⟨rfl, rfl⟩ := HE.out
            clear HE
            simp only [Act.put, List.toList_toArray, List.take_succ_cons, List.take_zero, List.drop_succ_cons, List.drop_zero, List.cons_append, List.nil_append, List.setIfInBounds_toArray, List.set_cons_zero, List.set_cons_succ]
            go_simp
            exact hKK _ _ ⟨_, _, _, _, _, _, _, _, _, _, _, _, _, _, _, _, _, _, _, _, _, _, _, rfl, hB, Lib.hid (by obtain ⟨f0, f1, f2, f3, f4, f5, f6, f7, f8, f9, f10, f11, f12, f13, f14, f15, f16, f17, f18, f19, f20, f21, f22⟩ := HF.out; exact ⟨f0, f1, f2, f3, fun _ => rfl, fun _ => rfl, fun _ => rfl, f7, f8, f9, f10, f11, f12, f13, f14, f15, f16, f17, f18, f19, f20, f21, f22⟩)⟩
          · rintro D aa wx ⟨x6, x61, x62, x63, x64, x65, x66, x67, x68, x69, x70, x71, x72, x73, x74, x75, x76, x77, x78, x79, x80, x81, x82, rfl, hB, HF⟩ hD hdep KK hKK
            simp [Region.binds] at hdep
            have h4 : D 4 = true := by simp [hdep]
            have h6 : D 6 = true := by simp [hdep]
            have HE := Lib.hid (show x65 = .bool true ∧ x67 = .bool true by obtain ⟨f0, f1, f2, f3, f4, f5, f6, f7, f8, f9, f10, f11, f12, f13, f14, f15, f16, f17, f18, f19, f20, f21, f22⟩ := HF.out; exact ⟨f4 h4, f6 h6⟩)
            obtain ⟨rfl, rfl⟩ := HE.out
            clear HE
            simp only [Act.put, List.toList_toArray, List.take_succ_cons, List.take_zero, List.drop_succ_cons, List.drop_zero, List.cons_append, List.nil_append, List.setIfInBounds_toArray, List.set_cons_zero, List.set_cons_succ]
            go_simp
            exact hKK _ _ ⟨_, _, _, _, _, _, _, _, _, _, _, _, _, _, _, _, _, _, _, _, _, _, _, rfl, hB, Lib.hid (by obtain ⟨f0, f1, f2, f3, f4, f5, f6, f7, f8, f9, f10, f11, f12, f13, f14, f15, f16, f17, f18, f19, f20, f21, f22⟩ := HF.out; exact ⟨f0, f1, f2, f3, fun _ => rfl, f5, fun _ => rfl, fun _ => rfl, f8, f9, f10, f11, f12, f13, f14, f15, f16, f17, f18, f19, f20, f21, f22⟩)⟩
          · rintro D aa wx ⟨x6, x61, x62, x63, x64, x65, x66, x67, x68, x69, x70, x71, x72, x73, x74, x75, x76, x77, x78, x79, x80, x81, x82, rfl, hB, HF⟩ hD hdep KK hKK
            simp [Region.binds] at hdep
            have h7 : D 7 = true := by simp [hdep]
            have HE := Lib.hid (show x68 = .bool true by obtain ⟨f0, f1, f2, f3, f4, f5, f6, f7, f8, f9, f10, f11, f12, f13, f14, f15, f16, f17, f18, f19, f20, f21, f22⟩ := HF.out; exact f7 h7)
            obtain rfl := HE.out
            clear HE
            simp only [Act.put, List.toList_toArray, List.take_succ_cons, List.take_zero, List.drop_succ_cons, List.drop_zero, List.cons_append, List.nil_append, List.setIfInBounds_toArray, List.set_cons_zero, List.set_cons_succ]
            go_simp
            exact hKK _ _ ⟨_, _, _, _, _, _, _, _, _, _, _, _, _, _, _, _, _, _, _, _, _, _, _, rfl, hB, Lib.hid (by obtain ⟨f0, f1, f2, f3, f4, f5, f6, f7, f8, f9, f10, f11, f12, f13, f14, f15, f16, f17, f18, f19, f20, f21, f22⟩ := HF.out; exact ⟨f0, f1, f2, f3, f4, f5, f6, fun _ => rfl, fun _ => rfl, f9, f10, f11, f12, f13, f14, f15, f16, f17, f18, f19, f20, f21, f22⟩)⟩
          · rintro D aa wx ⟨x6, x61, x62, x63, x64, x65, x66, x67, x68, x69, x70, x71, x72, x73, x74, x75, x76, x77, x78, x79, x80, x81, x82, rfl, hB, HF⟩ hD hdep KK hKK
            simp [Region.binds] at hdep
            have h8 : D 8 = true := by simp [hdep]
            have HE := Lib.hid (show x69 = .bool true by obtain ⟨f0, f1, f2, f3, f4, f5, f6, f7, f8, f9, f10, f11, f12, f13, f14, f15, f16, f17, f18, f19, f20, f21, f22⟩ := HF.out; exact f8 h8)
            obtain rfl := HE.out
            clear HE
            simp only [Act.put, List.toList_toArray, List.take_succ_cons, List.take_zero, List.drop_succ_cons, List.drop_zero, List.cons_append, List.nil_append, List.setIfInBounds_toArray, List.set_cons_zero, List.set_cons_succ]
            go_simp
            exact hKK _ _ ⟨_, _, _, _, _, _, _, _, _, _, _, _, _, _, _, _, _, _, _, _, _, _, _, rfl, hB, Lib.hid (by obtain ⟨f0, f1, f2, f3, f4, f5, f6, f7, f8, f9, f10, f11, f12, f13, f14, f15, f16, f17, f18, f19, f20, f21, f22⟩ := HF.out; exact ⟨f0, f1, f2, f3, f4, f5, f6, f7, fun _ => rfl, fun _ => rfl, f10, f11, f12, f13, f14, f15, f16, f17, f18, f19, f20, f21, f22⟩)⟩
          · rintro D aa wx ⟨x6, x61, x62, x63, x64, x65, x66, x67, x68, x69, x70, x71, x72, x73, x74, x75, x76, x77, x78, x79, x80, x81, x82, rfl, hB, HF⟩ hD hdep KK hKK
            simp [Region.binds] at hdep
            have h8 : D 8 = true := by simp [hdep]
            have h9 : D 9 = true := by simp [hdep]
            have HE := Lib.hid (show x69 = .bool true ∧ x70 = .string A by obtain ⟨f0, f1, f2, f3, f4, f5, f6, f7, f8, f9, f10, f11, f12, f13, f14, f15, f16, f17, f18, f19, f20, f21, f22⟩ := HF.out; exact ⟨f8 h8, f9 h9⟩)
            obtain ⟨rfl, rfl⟩ := HE.out
            clear HE
            simp only [Act.put, List.toList_toArray, List.take_succ_cons, List.take_zero, List.drop_succ_cons, List.drop_zero, List.cons_append, List.nil_append, List.setIfInBounds_toArray, List.set_cons_zero, List.set_cons_succ]
            go_simp
            exact hKK _ _ ⟨_, _, _, _, _, _, _, _, _, _, _, _, _, _, _, _, _, _, _, _, _, _, _, rfl, hB, Lib.hid (by obtain ⟨f0, f1, f2, f3, f4, f5, f6, f7, f8, f9, f10, f11, f12, f13, f14, f15, f16, f17, f18, f19, f20, f21, f22⟩ := HF.out; exact ⟨f0, f1, f2, f3, f4, f5, f6, f7, fun _ => rfl, fun _ => rfl, fun _ => rfl, f11, f12, f13, f14, f15, f16, f17, f18, f19, f20, f21, f22⟩)⟩
          · rintro D aa wx ⟨x6, x61, x62, x63, x64, x65, x66, x67, x68, x69, x70, x71, x72, x73, x74, x75, x76, x77, x78, x79, x80, x81, x82, rfl, hB, HF⟩ hD hdep KK hKK
            simp [Region.binds] at hdep
            have h8 : D 8 = true := by simp [hdep]
            have h10 : D 10 = true := by simp [hdep]
            have HE := Lib.hid (show x69 = .bool true ∧ x71 = .int .i64 (A.size : Int) by obtain ⟨f0, f1, f2, f3, f4, f5, f6, f7, f8, f9, f10, f11, f12, f13, f14, f15, f16, f17, f18, f19, f20, f21, f22⟩ := HF.out; exact ⟨f8 h8, f10 h10⟩)
            obtain ⟨rfl, rfl⟩ := HE.out
            clear HE
            simp only [Act.put, List.toList_toArray, List.take_succ_cons, List.take_zero, List.drop_succ_cons, List.drop_zero, List.cons_append, List.nil_append, List.setIfInBounds_toArray, List.set_cons_zero, List.set_cons_succ]
            go_simp
            exact hKK _ _ ⟨_, _, _, _, _, _, _, _, _, _, _, _, _, _, _, _, _, _, _, _, _, _, _, rfl, hB, Lib.hid (by obtain ⟨f0, f1, f2, f3, f4, f5, f6, f7, f8, f9, f10, f11, f12, f13, f14, f15, f16, f17, f18, f19, f20, f21, f22⟩ := HF.out; exact ⟨f0, f1, f2, f3, f4, f5, f6, f7, fun _ => rfl, f9, fun _ => rfl, fun _ => rfl, f12, f13, f14, f15, f16, f17, f18, f19, f20, f21, f22⟩)⟩
          · rintro D aa wx ⟨x6, x61, x62, x63, x64, x65, x66, x67, x68, x69, x70, x71, x72, x73, x74, x75, x76, x77, x78, x79, x80, x81, x82, rfl, hB, HF⟩ hD hdep KK hKK
            simp [Region.binds] at hdep
            have h8 : D 8 = true := by simp [hdep]
            have h11 : D 11 = true := by simp [hdep]
            have HE := Lib.hid (show x69 = .bool true ∧ x72 = .bool true by obtain ⟨f0, f1, f2, f3, f4, f5, f6, f7, f8, f9, f10, f11, f12, f13, f14, f15, f16, f17, f18, f19, f20, f21, f22⟩ := HF.out; exact ⟨f8 h8, f11 h11⟩)
            obtain ⟨rfl, rfl⟩ := HE.out
            clear HE
            simp only [Act.put, List.toList_toArray, List.take_succ_cons, List.take_zero, List.drop_succ_cons, List.drop_zero, List.cons_append, List.nil_append, List.setIfInBounds_toArray, List.set_cons_zero, List.set_cons_succ]
            go_simp
            exact hKK _ _ ⟨_, _, _, _, _, _, _, _, _, _, _, _, _, _, _, _, _, _, _, _, _, _, _, rfl, hB, Lib.hid (by obtain ⟨f0, f1, f2, f3, f4, f5, f6, f7, f8, f9, f10, f11, f12, f13, f14, f15, f16, f17, f18, f19, f20, f21, f22⟩ := HF.out; exact ⟨f0, f1, f2, f3, f4, f5, f6, f7, fun _ => rfl, f9, f10, fun _ => rfl, fun _ => rfl, f13, f14, f15, f16, f17, f18, f19, f20, f21, f22⟩)⟩
          · rintro D aa wx ⟨x6, x61, x62, x63, x64, x65, x66, x67, x68, x69, x70, x71, x72, x73, x74, x75, x76, x77, x78, x79, x80, x81, x82, rfl, hB, HF⟩ hD hdep KK hKK
            simp [Region.binds] at hdep
            have h12 : D 12 = true := by simp [hdep]
            have HE := Lib.hid (show x73 = .bool true by obtain ⟨f0, f1, f2, f3, f4, f5, f6, f7, f8, f9, f10, f11, f12, f13, f14, f15, f16, f17, f18, f19, f20, f21, f22⟩ := HF.out; exact f12 h12)
            obtain rfl := HE.out
            clear HE
            simp only [Act.put, List.toList_toArray, List.take_succ_cons, List.take_zero, List.drop_succ_cons, List.drop_zero, List.cons_append, List.nil_append, List.setIfInBounds_toArray, List.set_cons_zero, List.set_cons_succ]
            go_simp
            exact hKK _ _ ⟨_, _, _, _, _, _, _, _, _, _, _, _, _, _, _, _, _, _, _, _, _, _, _, rfl, hB, Lib.hid (by obtain ⟨f0, f1, f2, f3, f4, f5, f6, f7, f8, f9, f10, f11, f12, f13, f14, f15, f16, f17, f18, f19, f20, f21, f22⟩ := HF.out; exact ⟨f0, f1, f2, f3, f4, f5, f6, f7, f8, f9, f10, f11, fun _ => rfl, fun _ => rfl, f14, f15, f16, f17, f18, f19, f20, f21, f22⟩)⟩
          · rintro D aa wx ⟨x6, x61, x62, x63, x64, x65, x66, x67, x68, x69, x70, x71, x72, x73, x74, x75, x76, x77, x78, x79, x80, x81, x82, rfl, hB, HF⟩ hD hdep KK hKK
            simp [Region.binds] at hdep
            have h13 : D 13 = true := by simp [hdep]
            have HE := Lib.hid (show x74 = .bool true by obtain ⟨f0, f1, f2, f3, f4, f5, f6, f7, f8, f9, f10, f11, f12, f13, f14, f15, f16, f17, f18, f19, f20, f21, f22⟩ := HF.out; exact f13 h13)
            obtain rfl := HE.out
            clear HE
            simp only [Act.put, List.toList_toArray, List.take_succ_cons, List.take_zero, List.drop_succ_cons, List.drop_zero, List.cons_append, List.nil_append, List.setIfInBounds_toArray, List.set_cons_zero, List.set_cons_succ]
            go_simp
            exact hKK _ _ ⟨_, _, _, _, _, _, _, _, _, _, _, _, _, _, _, _, _, _, _, _, _, _, _, rfl, hB, Lib.hid (by obtain ⟨f0, f1, f2, f3, f4, f5, f6, f7, f8, f9, f10, f11, f12, f13, f14, f15, f16, f17, f18, f19, f20, f21, f22⟩ := HF.out; exact ⟨f0, f1, f2, f3, f4, f5, f6, f7, f8, f9, f10, f11, f12, fun _ => rfl, fun _ => rfl, f15, f16, f17, f18, f19, f20, f21, f22⟩)⟩
          · rintro D aa wx ⟨x6, x61, x62, x63, x64, x65, x66, x67, x68, x69, x70, x71, x72, x73, x74, x75, x76, x77, x78, x79, x80, x81, x82, rfl, hB, HF⟩ hD hdep KK hKK
            simp [Region.binds] at hdep
            have h13 : D 13 = true := by simp [hdep]
            have HE := Lib.hid (show x74 = .bool true by obtain ⟨f0, f1, f2, f3, f4, f5, f6, f7, f8, f9, f10, f11, f12, f13, f14, f15, f16, f17, f18, f19, f20, f21, f22⟩ := HF.out; exact f13 h13)
            obtain rfl := HE.out
            clear HE
            simp only [Act.put, List.toList_toArray, List.take_succ_cons, List.take_zero, List.drop_succ_cons, List.drop_zero, List.cons_append, List.nil_append, List.setIfInBounds_toArray, List.set_cons_zero, List.set_cons_succ]
            go_simp
            exact hKK _ _ ⟨_, _, _, _, _, _, _, _, _, _, _, _, _, _, _, _, _, _, _, _, _, _, _, rfl, hB, Lib.hid (by obtain ⟨f0, f1, f2, f3, f4, f5, f6, f7, f8, f9, f10, f11, f12, f13, f14, f15, f16, f17, f18, f19, f20, f21, f22⟩ := HF.out; exact ⟨f0, f1, f2, f3, f4, f5, f6, f7, f8, f9, f10, f11, f12, fun _ => rfl, f14, fun _ => rfl, f16, f17, f18, f19, f20, f21, f22⟩)⟩
          · rintro D aa wx ⟨x6, x61, x62, x63, x64, x65, x66, x67, x68, x69, x70, x71, x72, x73, x74, x75, x76, x77, x78, x79, x80, x81, x82, rfl, hB, HF⟩ hD hdep KK hKK
            simp [Region.binds] at hdep
            have h13 : D 13 = true := by simp [hdep]
            have h14 : D 14 = true := by simp [hdep]
            have h15 : D 15 = true := by simp [hdep]
            have HE := Lib.hid (show x74 = .bool true ∧ x75 = .string A ∧ x76 = .string B by obtain ⟨f0, f1, f2, f3, f4, f5, f6, f7, f8, f9, f10, f11, f12, f13, f14, f15, f16, f17, f18, f19, f20, f21, f22⟩ := HF.out; exact ⟨f13 h13, f14 h14, f15 h15⟩)
            obtain ⟨rfl, rfl, rfl⟩ := HE.out
            clear HE
            simp only [Act.put, List.toList_toArray, List.take_succ_cons, List.take_zero, List.drop_succ_cons, List.drop_zero, List.cons_append, List.nil_append, List.setIfInBounds_toArray, List.set_cons_zero, List.set_cons_succ]
            go_simp
            exact hKK _ _ ⟨_, _, _, _, _, _, _, _, _, _, _, _, _, _, _, _, _, _, _, _, _, _, _, rfl, hB, Lib.hid (by obtain ⟨f0, f1, f2, f3, f4, f5, f6, f7, f8, f9, f10, f11, f12, f13, f14, f15, f16, f17, f18, f19, f20, f21, f22⟩ := HF.out; exact ⟨f0, f1, f2, f3, f4, f5, f6, f7, f8, f9, f10, f11, f12, fun _ => rfl, fun _ => rfl, fun _ => rfl, fun _ => rfl, f17, f18, f19, f20, f21, f22⟩)⟩
          · rintro D aa wx ⟨x6, x61, x62, x63, x64, x65, x66, x67, x68, x69, x70, x71, x72, x73, x74, x75, x76, x77, x78, x79, x80, x81, x82, rfl, hB, HF⟩ hD hdep KK hKK
            simp [Region.binds] at hdep
            have h13 : D 13 = true := by simp [hdep]
            have HE := Lib.hid (show x74 = .bool true by obtain ⟨f0, f1, f2, f3, f4, f5, f6, f7, f8, f9, f10, f11, f12, f13, f14, f15, f16, f17, f18, f19, f20, f21, f22⟩ := HF.out; exact f13 h13)
            obtain rfl := HE.out
            clear HE
            obtain ⟨c0, c1, c2, c3, c4, c5, f0, f1, f2, f3, f4, f5⟩ := S3.out.below hB
            obtain ⟨d0, d1, d2, d3, d4, d5, g0, g1, g2, gg3, gg4, g5⟩ := S4.out.below hB
            obtain ⟨e0, e1, e2, e3, e4, e5, j0, j1, j2, j3, j4, j5⟩ := S15.out.below hB
            clear f0 f1 f2 f3 f4 f5 g0 g1 g2 gg3 gg4 g5 j0 j1 j2 j3 j4 j5
            simp only [Act.put, List.toList_toArray, List.take_succ_cons, List.take_zero, List.drop_succ_cons, List.drop_zero, List.cons_append, List.nil_append, List.setIfInBounds_toArray, List.set_cons_zero, List.set_cons_succ]
            go_simp
            exact hKK _ _ ⟨_, _, _, _, _, _, _, _, _, _, _, _, _, _, _, _, _, _, _, _, _, _, _, rfl, hB, Lib.hid (by obtain ⟨f0, f1, f2, f3, f4, f5, f6, f7, f8, f9, f10, f11, f12, f13, f14, f15, f16, f17, f18, f19, f20, f21, f22⟩ := HF.out; exact ⟨f0, f1, f2, f3, f4, f5, f6, f7, f8, f9, f10, f11, f12, fun _ => rfl, f14, f15, f16, fun _ => rfl, f18, f19, f20, f21, f22⟩)⟩
          · rintro D aa wx ⟨x6, x61, x62, x63, x64, x65, x66, x67, x68, x69, x70, x71, x72, x73, x74, x75, x76, x77, x78, x79, x80, x81, x82, rfl, hB, HF⟩ hD hdep KK hKK
            simp [Region.binds] at hdep
            have h13 : D 13 = true := by simp [hdep]
            have HE := Lib.hid (show x74 = .bool true by obtain ⟨f0, f1, f2, f3, f4, f5, f6, f7, f8, f9, f10, f11, f12, f13, f14, f15, f16, f17, f18, f19, f20, f21, f22⟩ := HF.out; exact f13 h13)
            obtain rfl := HE.out
            clear HE
            obtain ⟨c0, c1, c2, c3, c4, c5, f0, f1, f2, f3, f4, f5⟩ := S3.out.below hB
            obtain ⟨d0, d1, d2, d3, d4, d5, g0, g1, g2, gg3, gg4, g5⟩ := S4.out.below hB
            obtain ⟨e0, e1, e2, e3, e4, e5, j0, j1, j2, j3, j4, j5⟩ := S15.out.below hB
            clear f0 f1 f2 f3 f4 f5 g0 g1 g2 gg3 gg4 g5 j0 j1 j2 j3 j4 j5
            simp only [Act.put, List.toList_toArray, List.take_succ_cons, List.take_zero, List.drop_succ_cons, List.drop_zero, List.cons_append, List.nil_append, List.setIfInBounds_toArray, List.set_cons_zero, List.set_cons_succ]
            go_simp
            exact hKK _ _ ⟨_, _, _, _, _, _, _, _, _, _, _, _, _, _, _, _, _, _, _, _, _, _, _, rfl, hB, Lib.hid (by obtain ⟨f0, f1, f2, f3, f4, f5, f6, f7, f8, f9, f10, f11, f12, f13, f14, f15, f16, f17, f18, f19, f20, f21, f22⟩ := HF.out; exact ⟨f0, f1, f2, f3, f4, f5, f6, f7, f8, f9, f10, f11, f12, fun _ => rfl, f14, f15, f16, f17, fun _ => rfl, f19, f20, f21, f22⟩)⟩
          · rintro D aa wx ⟨x6, x61, x62, x63, x64, x65, x66, x67, x68, x69, x70, x71, x72, x73, x74, x75, x76, x77, x78, x79, x80, x81, x82, rfl, hB, HF⟩ hD hdep KK hKK
            simp [Region.binds] at hdep
            have h13 : D 13 = true := by simp [hdep]
            have h17 : D 17 = true := by simp [hdep]
            have h18 : D 18 = true := by simp [hdep]
            have HE := Lib.hid (show x74 = .bool true ∧ x78 = .agg #[.int .i64 k1, .int .i64 t1, .string b1, .string n1, .int .u64 (u1 : Int), .int .i64 p1] ∧ x79 = .agg #[.int .i64 k2, .int .i64 t2, .string b2, .string n2, .int .u64 (u2 : Int), .int .i64 p2] by obtain ⟨f0, f1, f2, f3, f4, f5, f6, f7, f8, f9, f10, f11, f12, f13, f14, f15, f16, f17, f18, f19, f20, f21, f22⟩ := HF.out; exact ⟨f13 h13, f17 h17, f18 h18⟩)
            obtain ⟨rfl, rfl, rfl⟩ := HE.out
            clear HE
            simp only [Act.put, List.toList_toArray, List.take_succ_cons, List.take_zero, List.drop_succ_cons, List.drop_zero, List.cons_append, List.nil_append, List.setIfInBounds_toArray, List.set_cons_zero, List.set_cons_succ]
            go_simp
            exact hKK _ _ ⟨_, _, _, _, _, _, _, _, _, _, _, _, _, _, _, _, _, _, _, _, _, _, _, rfl, hB, Lib.hid (by obtain ⟨f0, f1, f2, f3, f4, f5, f6, f7, f8, f9, f10, f11, f12, f13, f14, f15, f16, f17, f18, f19, f20, f21, f22⟩ := HF.out; exact ⟨f0, f1, f2, f3, f4, f5, f6, f7, f8, f9, f10, f11, f12, fun _ => rfl, f14, f15, f16, fun _ => rfl, fun _ => rfl, fun _ => rfl, f20, f21, f22⟩)⟩
          · rintro D aa wx ⟨x6, x61, x62, x63, x64, x65, x66, x67, x68, x69, x70, x71, x72, x73, x74, x75, x76, x77, x78, x79, x80, x81, x82, rfl, hB, HF⟩ hD hdep KK hKK
            simp [Region.binds] at hdep
            have h13 : D 13 = true := by simp [hdep]
            have h16 : D 16 = true := by simp [hdep]
            have h19 : D 19 = true := by simp [hdep]
            have HE := Lib.hid (show x74 = .bool true ∧ x77 = .bool q ∧ x80 = .bool q by obtain ⟨f0, f1, f2, f3, f4, f5, f6, f7, f8, f9, f10, f11, f12, f13, f14, f15, f16, f17, f18, f19, f20, f21, f22⟩ := HF.out; exact ⟨f13 h13, f16 h16, f19 h19⟩)
            obtain ⟨rfl, rfl, rfl⟩ := HE.out
            clear HE
            simp only [Act.put, List.toList_toArray, List.take_succ_cons, List.take_zero, List.drop_succ_cons, List.drop_zero, List.cons_append, List.nil_append, List.setIfInBounds_toArray, List.set_cons_zero, List.set_cons_succ]
            go_simp
            exact hKK _ _ ⟨_, _, _, _, _, _, _, _, _, _, _, _, _, _, _, _, _, _, _, _, _, _, _, rfl, hB, Lib.hid (by obtain ⟨f0, f1, f2, f3, f4, f5, f6, f7, f8, f9, f10, f11, f12, f13, f14, f15, f16, f17, f18, f19, f20, f21, f22⟩ := HF.out; exact ⟨f0, f1, f2, f3, f4, f5, f6, f7, f8, f9, f10, f11, f12, fun _ => rfl, f14, f15, fun _ => rfl, f17, f18, fun _ => rfl, fun _ => rfl, f21, f22⟩)⟩
          · rintro D aa wx ⟨x6, x61, x62, x63, x64, x65, x66, x67, x68, x69, x70, x71, x72, x73, x74, x75, x76, x77, x78, x79, x80, x81, x82, rfl, hB, HF⟩ hD hdep KK hKK
            simp [Region.binds] at hdep
            have h13 : D 13 = true := by simp [hdep]
            have h20 : D 20 = true := by simp [hdep]
            have HE := Lib.hid (show x74 = .bool true ∧ x81 = .bool true by obtain ⟨f0, f1, f2, f3, f4, f5, f6, f7, f8, f9, f10, f11, f12, f13, f14, f15, f16, f17, f18, f19, f20, f21, f22⟩ := HF.out; exact ⟨f13 h13, f20 h20⟩)
            obtain ⟨rfl, rfl⟩ := HE.out
            clear HE
            simp only [Act.put, List.toList_toArray, List.take_succ_cons, List.take_zero, List.drop_succ_cons, List.drop_zero, List.cons_append, List.nil_append, List.setIfInBounds_toArray, List.set_cons_zero, List.set_cons_succ]
            go_simp
            exact hKK _ _ ⟨_, _, _, _, _, _, _, _, _, _, _, _, _, _, _, _, _, _, _, _, _, _, _, rfl, hB, Lib.hid (by obtain ⟨f0, f1, f2, f3, f4, f5, f6, f7, f8, f9, f10, f11, f12, f13, f14, f15, f16, f17, f18, f19, f20, f21, f22⟩ := HF.out; exact ⟨f0, f1, f2, f3, f4, f5, f6, f7, f8, f9, f10, f11, f12, fun _ => rfl, f14, f15, f16, f17, f18, f19, fun _ => rfl, fun _ => rfl, f22⟩)⟩
          · rintro D aa wx ⟨x6, x61, x62, x63, x64, x65, x66, x67, x68, x69, x70, x71, x72, x73, x74, x75, x76, x77, x78, x79, x80, x81, x82, rfl, hB, HF⟩ hD hdep KK hKK
            simp [Region.binds] at hdep
            have h21 : D 21 = true := by simp [hdep]
            have HE := Lib.hid (show x82 = .bool true by obtain ⟨f0, f1, f2, f3, f4, f5, f6, f7, f8, f9, f10, f11, f12, f13, f14, f15, f16, f17, f18, f19, f20, f21, f22⟩ := HF.out; exact f21 h21)
            obtain rfl := HE.out
            clear HE
            simp only [Act.put, List.toList_toArray, List.take_succ_cons, List.take_zero, List.drop_succ_cons, List.drop_zero, List.cons_append, List.nil_append, List.setIfInBounds_toArray, List.set_cons_zero, List.set_cons_succ]
            go_simp
            exact hKK _ _ ⟨_, _, _, _, _, _, _, _, _, _, _, _, _, _, _, _, _, _, _, _, _, _, _, rfl, hB, Lib.hid (by obtain ⟨f0, f1, f2, f3, f4, f5, f6, f7, f8, f9, f10, f11, f12, f13, f14, f15, f16, f17, f18, f19, f20, f21, f22⟩ := HF.out; exact ⟨f0, f1, f2, f3, f4, f5, f6, f7, f8, f9, f10, f11, f12, f13, f14, f15, f16, f17, f18, f19, f20, fun _ => rfl, fun _ => rfl⟩)⟩
        rintro D aa w7 ⟨x6, x61, x62, x63, x64, x65, x66, x67, x68, x69, x70, x71, x72, x73, x74, x75, x76, x77, x78, x79, x80, x81, x82, rfl, hB, HF⟩ hD
        obtain e22 : x6 = .bool true := by obtain ⟨f0, f1, f2, f3, f4, f5, f6, f7, f8, f9, f10, f11, f12, f13, f14, f15, f16, f17, f18, f19, f20, f21, f22⟩ := HF.out; exact f22 (hD 22 (by simp))
        subst e22
        simp only [Act.put, List.toList_toArray, List.take_succ_cons, List.take_zero, List.drop_succ_cons, List.drop_zero, List.cons_append, List.nil_append]
        clear HF hD
        go_wp2_with fail
        go_ret
        exact ⟨rfl, below_to BB hB⟩
      · have hno2 : (eb != 0) = true := bne_iff_ne.2 hb
        subst ha
        go_wp2_with fail
        go_ret
        exact ⟨rfl, BB⟩
    · have hno2 : (ea != 0) = true := bne_iff_ne.2 ha
      go_wp2_with fail
      go_ret
      exact ⟨rfl, BB⟩
end Go.Proofs.Yteekjndhehnpaaa
