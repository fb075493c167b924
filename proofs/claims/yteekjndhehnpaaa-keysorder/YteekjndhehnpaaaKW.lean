/- The walk of KeysOrder. -/
import Derived.Deep.Cut
import Derived.Test.YteekjndhehnpaaaKT
namespace Go.Proofs.Yteekjndhehnpaaa
open Go.RowKit
set_option maxRecDepth 100000
set_option linter.unusedVariables false
set_option linter.unusedSimpArgs false
set_option maxHeartbeats 20000000
theorem bool_eq_self (b : Bool) : (b == b) = true := by cases b <;> rfl
theorem keysOrder2 (t1 : Int) (b1 n1 : ByteArray) (u1 : Nat) (p1 : Int) (k2 t2 : Int) (b2 n2 : ByteArray) (u2 : Nat) (p2 : Int) (bk A B : ByteArray) (ea eb : Int)
    (HA : Hid (∀ w, Calls Try.prog 11 #[.agg #[.int .i64 2, .int .i64 t1, .string b1, .string n1, .int .u64 (u1 : Int), .int .i64 p1]] w fun x w' => x = .returned (.tuple #[.string A, .int .i64 ea]) ∧ Below w.heap.size w w'))
    (HB : Hid (∀ w, Calls Try.prog 11 #[.agg #[.int .i64 2, .int .i64 t1, .string b2, .string n2, .int .u64 (u2 : Int), .int .i64 p2]] w fun x w' => x = .returned (.tuple #[.string B, .int .i64 eb]) ∧ Below w.heap.size w w'))
    (HL : Hid (ea = 0 → eb = 0 → Op.bytesLess A.toList B.toList = Op.bytesLess b1.toList b2.toList)) (w : World) :
    Calls Try.prog 5 #[.agg #[.int .i64 2, .int .i64 t1, .string b1, .string n1, .int .u64 (u1 : Int), .int .i64 p1], .agg #[.int .i64 k2, .int .i64 t2, .string b2, .string n2, .int .u64 (u2 : Int), .int .i64 p2], .string bk] w fun e w' => e = .returned (.bool true) ∧ Below w.heap.size w w' := by
  have S3 := (Six.new w (.int .i64 2) (.int .i64 t1) (.string b1) (.string n1) (.int .u64 (u1 : Int)) (.int .i64 p1) 24).below (below_box _ (.cells #[.int .i64 k2, .int .i64 t2, .string b2, .string n2, .int .u64 (u2 : Int), .int .i64 p2] 24))
  have S4 := Six.two w (.cells #[.int .i64 2, .int .i64 t1, .string b1, .string n1, .int .u64 (u1 : Int), .int .i64 p1] 24) (.int .i64 k2) (.int .i64 t2) (.string b2) (.string n2) (.int .u64 (u2 : Int)) (.int .i64 p2) 24
  have BB := below_two w (.cells #[.int .i64 2, .int .i64 t1, .string b1, .string n1, .int .u64 (u1 : Int), .int .i64 p1] 24) (.cells #[.int .i64 k2, .int .i64 t2, .string b2, .string n2, .int .u64 (u2 : Int), .int .i64 p2] 24)
  go_enter Try.func5, Try.ntmps5
  go_wp2_with fail
  refine (lives_any _).mono ?_
  rintro e wa ⟨rfl, hb⟩
  replace S3 := S3.below hb
  replace S4 := S4.below hb
  replace BB := below_to BB hb
  clear hb
  obtain ⟨c0, c1, c2, c3, c4, c5, f0, f1, f2, f3, f4, f5⟩ := S3
  obtain ⟨d0, d1, d2, d3, d4, d5, g0, g1, g2, g3, g4, g5⟩ := S4
  have S3 : Six wa w.heap.size _ _ _ _ _ _ := ⟨c0, c1, c2, c3, c4, c5, f0, f1, f2, f3, f4, f5⟩
  have S4 : Six wa (w.heap.size + 1) _ _ _ _ _ _ := ⟨d0, d1, d2, d3, d4, d5, g0, g1, g2, g3, g4, g5⟩
  go_wp2_with fail
  go_region
  go_wp2_with fail
  replace S3 := ((S3.other (k := (w.heap.size + 1)) (o := 1) (by omega) (.int .i64 t1)).other (k := (w.heap.size + 1)) (o := 0) (by omega) (.int .i64 2)).below (Below.refl _ _).drew
  replace S4 := ((S4.put1 (.int .i64 t1)).put0 (.int .i64 2)).below (Below.refl _ _).drew
  replace BB := ((BB.setCell (p := ⟨w.heap.size + 1, 1, none⟩) (by show w.heap.size ≤ w.heap.size + 1; omega) (.int .i64 t1)).setCell (p := ⟨w.heap.size + 1, 0, none⟩) (by show w.heap.size ≤ w.heap.size + 1; omega) (.int .i64 2)).drew
  clear c0 c1 c2 c3 c4 c5 f0 f1 f2 f3 f4 f5 d0 d1 d2 d3 d4 d5 g0 g1 g2 g3 g4 g5
  generalize ((wa.setCell ⟨w.heap.size + 1, 1, none⟩ (.int .i64 t1)).setCell ⟨w.heap.size + 1, 0, none⟩ (.int .i64 2)).drew = wb at S3 S4 BB ⊢
  refine (ours_any _ _ _ _ _ _ _).mono ?_
  rintro e wn ⟨rfl, hb⟩
  replace S3 := S3.below hb
  replace S4 := S4.below hb
  replace BB := below_to BB hb
  clear hb
  go_wp2_with fail
  refine (HA.out _).mono ?_
  rintro e wn ⟨rfl, hb⟩
  replace S3 := S3.below hb
  replace S4 := S4.below hb
  replace BB := below_to BB hb
  clear hb
  have c0 := S4.c0
  have c1 := S4.c1
  have c2 := S4.c2
  have c3 := S4.c3
  have c4 := S4.c4
  have c5 := S4.c5
  go_wp2_with fail
  clear c0 c1 c2 c3 c4 c5
  refine (ours_any _ _ _ _ _ _ _).mono ?_
  rintro e wn ⟨rfl, hb⟩
  replace S3 := S3.below hb
  replace S4 := S4.below hb
  replace BB := below_to BB hb
  clear hb
  go_wp2_with fail
  refine (HB.out _).mono ?_
  rintro e wn ⟨rfl, hb⟩
  replace S3 := S3.below hb
  replace S4 := S4.below hb
  replace BB := below_to BB hb
  clear hb
  have S3h := Lib.hid S3
  have S4h := Lib.hid S4
  by_cases ha : ea = 0
  · by_cases hb : eb = 0
    · have hL := HL.out ha hb
      subst ha hb
      clear HL HA HB
      obtain ⟨c0, c1, c2, c3, c4, c5, f0, f1, f2, f3, f4, f5⟩ := S3
      obtain ⟨d0, d1, d2, d3, d4, d5, g0, g1, g2, g3, g4, g5⟩ := S4
      clear f0 f1 f2 f3 f4 f5 g0 g1 g2 g3 g4 g5
      obtain ⟨l1, hl1⟩ : ∃ l, Op.bytesLess b1.toList b2.toList = l := ⟨_, rfl⟩
      rw [hl1] at hL
      cases l1
      all_goals
        go_wp2_with fail
        go_ret
        exact ⟨ret_bool (by simp [hL, hl1]), BB⟩
    · have hno2 : (eb != 0) = true := bne_iff_ne.2 hb
      subst ha
      go_wp2_with fail
      go_ret
      exact ⟨rfl, BB⟩
  · have hno2 : (ea != 0) = true := bne_iff_ne.2 ha
    go_wp2_with fail
    go_ret
    exact ⟨rfl, BB⟩
theorem keysOrder3 (t1 : Int) (b1 n1 : ByteArray) (u1 : Nat) (p1 : Int) (k2 t2 : Int) (b2 n2 : ByteArray) (u2 : Nat) (p2 : Int) (bk A B : ByteArray) (ea eb : Int)
    (HA : Hid (∀ w, Calls Try.prog 11 #[.agg #[.int .i64 3, .int .i64 t1, .string bk, .string n1, .int .u64 (u1 : Int), .int .i64 p1]] w fun x w' => x = .returned (.tuple #[.string A, .int .i64 ea]) ∧ Below w.heap.size w w'))
    (HB : Hid (∀ w, Calls Try.prog 11 #[.agg #[.int .i64 3, .int .i64 t1, .string bk, .string n2, .int .u64 (u2 : Int), .int .i64 p2]] w fun x w' => x = .returned (.tuple #[.string B, .int .i64 eb]) ∧ Below w.heap.size w w'))
    (HL : Hid (ea = 0 → eb = 0 → Op.bytesLess A.toList B.toList = (Op.bytesLess n1.toList n2.toList || ((n1.toList == n2.toList) && decide ((u2 : Int) < (u1 : Int)))))) (w : World) :
    Calls Try.prog 5 #[.agg #[.int .i64 3, .int .i64 t1, .string b1, .string n1, .int .u64 (u1 : Int), .int .i64 p1], .agg #[.int .i64 k2, .int .i64 t2, .string b2, .string n2, .int .u64 (u2 : Int), .int .i64 p2], .string bk] w fun e w' => e = .returned (.bool true) ∧ Below w.heap.size w w' := by
  have S3 := (Six.new w (.int .i64 3) (.int .i64 t1) (.string b1) (.string n1) (.int .u64 (u1 : Int)) (.int .i64 p1) 24).below (below_box _ (.cells #[.int .i64 k2, .int .i64 t2, .string b2, .string n2, .int .u64 (u2 : Int), .int .i64 p2] 24))
  have S4 := Six.two w (.cells #[.int .i64 3, .int .i64 t1, .string b1, .string n1, .int .u64 (u1 : Int), .int .i64 p1] 24) (.int .i64 k2) (.int .i64 t2) (.string b2) (.string n2) (.int .u64 (u2 : Int)) (.int .i64 p2) 24
  have BB := below_two w (.cells #[.int .i64 3, .int .i64 t1, .string b1, .string n1, .int .u64 (u1 : Int), .int .i64 p1] 24) (.cells #[.int .i64 k2, .int .i64 t2, .string b2, .string n2, .int .u64 (u2 : Int), .int .i64 p2] 24)
  go_enter Try.func5, Try.ntmps5
  go_wp2_with fail
  refine (lives_any _).mono ?_
  rintro e wa ⟨rfl, hb⟩
  replace S3 := S3.below hb
  replace S4 := S4.below hb
  replace BB := below_to BB hb
  clear hb
  obtain ⟨c0, c1, c2, c3, c4, c5, f0, f1, f2, f3, f4, f5⟩ := S3
  obtain ⟨d0, d1, d2, d3, d4, d5, g0, g1, g2, g3, g4, g5⟩ := S4
  have S3 : Six wa w.heap.size _ _ _ _ _ _ := ⟨c0, c1, c2, c3, c4, c5, f0, f1, f2, f3, f4, f5⟩
  have S4 : Six wa (w.heap.size + 1) _ _ _ _ _ _ := ⟨d0, d1, d2, d3, d4, d5, g0, g1, g2, g3, g4, g5⟩
  go_wp2_with fail
  go_region
  go_wp2_with fail
  replace S3 := ((((S3.other (k := (w.heap.size + 1)) (o := 1) (by omega) (.int .i64 t1)).other (k := (w.heap.size + 1)) (o := 0) (by omega) (.int .i64 3)).put2 (.string bk)).other (k := (w.heap.size + 1)) (o := 2) (by omega) (.string bk)).below (Below.refl _ _).drew
  replace S4 := ((((S4.put1 (.int .i64 t1)).put0 (.int .i64 3)).other (k := w.heap.size) (o := 2) (by omega) (.string bk)).put2 (.string bk)).below (Below.refl _ _).drew
  replace BB := ((((BB.setCell (p := ⟨w.heap.size + 1, 1, none⟩) (by show w.heap.size ≤ w.heap.size + 1; omega) (.int .i64 t1)).setCell (p := ⟨w.heap.size + 1, 0, none⟩) (by show w.heap.size ≤ w.heap.size + 1; omega) (.int .i64 3)).setCell (p := ⟨w.heap.size, 2, none⟩) (Nat.le_refl _) (.string bk)).setCell (p := ⟨w.heap.size + 1, 2, none⟩) (by show w.heap.size ≤ w.heap.size + 1; omega) (.string bk)).drew
  clear c0 c1 c2 c3 c4 c5 f0 f1 f2 f3 f4 f5 d0 d1 d2 d3 d4 d5 g0 g1 g2 g3 g4 g5
  generalize ((((wa.setCell ⟨w.heap.size + 1, 1, none⟩ (.int .i64 t1)).setCell ⟨w.heap.size + 1, 0, none⟩ (.int .i64 3)).setCell ⟨w.heap.size, 2, none⟩ (.string bk)).setCell ⟨w.heap.size + 1, 2, none⟩ (.string bk)).drew = wb at S3 S4 BB ⊢
  refine (ours_any _ _ _ _ _ _ _).mono ?_
  rintro e wn ⟨rfl, hb⟩
  replace S3 := S3.below hb
  replace S4 := S4.below hb
  replace BB := below_to BB hb
  clear hb
  go_wp2_with fail
  refine (HA.out _).mono ?_
  rintro e wn ⟨rfl, hb⟩
  replace S3 := S3.below hb
  replace S4 := S4.below hb
  replace BB := below_to BB hb
  clear hb
  have c0 := S4.c0
  have c1 := S4.c1
  have c2 := S4.c2
  have c3 := S4.c3
  have c4 := S4.c4
  have c5 := S4.c5
  go_wp2_with fail
  clear c0 c1 c2 c3 c4 c5
  refine (ours_any _ _ _ _ _ _ _).mono ?_
  rintro e wn ⟨rfl, hb⟩
  replace S3 := S3.below hb
  replace S4 := S4.below hb
  replace BB := below_to BB hb
  clear hb
  go_wp2_with fail
  refine (HB.out _).mono ?_
  rintro e wn ⟨rfl, hb⟩
  replace S3 := S3.below hb
  replace S4 := S4.below hb
  replace BB := below_to BB hb
  clear hb
  have S3h := Lib.hid S3
  have S4h := Lib.hid S4
  by_cases ha : ea = 0
  · by_cases hb : eb = 0
    · have hL := HL.out ha hb
      subst ha hb
      clear HL HA HB
      obtain ⟨c0, c1, c2, c3, c4, c5, f0, f1, f2, f3, f4, f5⟩ := S3
      obtain ⟨d0, d1, d2, d3, d4, d5, g0, g1, g2, g3, g4, g5⟩ := S4
      clear f0 f1 f2 f3 f4 f5 g0 g1 g2 g3 g4 g5
      obtain ⟨l1, hl1⟩ : ∃ l, Op.bytesLess n1.toList n2.toList = l := ⟨_, rfl⟩
      obtain ⟨l2, hl2⟩ : ∃ l, (n1.toList == n2.toList) = l := ⟨_, rfl⟩
      obtain ⟨l3, hl3⟩ : ∃ l, decide ((u2 : Int) < (u1 : Int)) = l := ⟨_, rfl⟩
      rw [hl1, hl2, hl3] at hL
      cases l1 <;> cases l2 <;> cases l3
      all_goals
        simp only [Bool.or_false, Bool.or_true, Bool.true_or, Bool.false_or, Bool.and_false, Bool.and_true, Bool.true_and, Bool.false_and] at hL
        go_wp2_with fail
        go_ret
        exact ⟨ret_bool (by simp_all), BB⟩
    · have hno2 : (eb != 0) = true := bne_iff_ne.2 hb
      subst ha
      go_wp2_with fail
      go_ret
      exact ⟨rfl, BB⟩
  · have hno2 : (ea != 0) = true := bne_iff_ne.2 ha
    go_wp2_with fail
    go_ret
    exact ⟨rfl, BB⟩
theorem keysOrder4 (t1 : Int) (b1 n1 : ByteArray) (u1 : Nat) (p1 : Int) (k2 t2 : Int) (b2 n2 : ByteArray) (u2 : Nat) (p2 : Int) (bk A B : ByteArray) (ea eb : Int)
    (HA : Hid (∀ w, Calls Try.prog 11 #[.agg #[.int .i64 4, .int .i64 t1, .string bk, .string n1, .int .u64 (u1 : Int), .int .i64 p1]] w fun x w' => x = .returned (.tuple #[.string A, .int .i64 ea]) ∧ Below w.heap.size w w'))
    (HB : Hid (∀ w, Calls Try.prog 11 #[.agg #[.int .i64 4, .int .i64 t1, .string bk, .string n2, .int .u64 (u2 : Int), .int .i64 p2]] w fun x w' => x = .returned (.tuple #[.string B, .int .i64 eb]) ∧ Below w.heap.size w w'))
    (HL : Hid (ea = 0 → eb = 0 → Op.bytesLess A.toList B.toList = decide ((u1 : Int) < (u2 : Int)))) (w : World) :
    Calls Try.prog 5 #[.agg #[.int .i64 4, .int .i64 t1, .string b1, .string n1, .int .u64 (u1 : Int), .int .i64 p1], .agg #[.int .i64 k2, .int .i64 t2, .string b2, .string n2, .int .u64 (u2 : Int), .int .i64 p2], .string bk] w fun e w' => e = .returned (.bool true) ∧ Below w.heap.size w w' := by
  have S3 := (Six.new w (.int .i64 4) (.int .i64 t1) (.string b1) (.string n1) (.int .u64 (u1 : Int)) (.int .i64 p1) 24).below (below_box _ (.cells #[.int .i64 k2, .int .i64 t2, .string b2, .string n2, .int .u64 (u2 : Int), .int .i64 p2] 24))
  have S4 := Six.two w (.cells #[.int .i64 4, .int .i64 t1, .string b1, .string n1, .int .u64 (u1 : Int), .int .i64 p1] 24) (.int .i64 k2) (.int .i64 t2) (.string b2) (.string n2) (.int .u64 (u2 : Int)) (.int .i64 p2) 24
  have BB := below_two w (.cells #[.int .i64 4, .int .i64 t1, .string b1, .string n1, .int .u64 (u1 : Int), .int .i64 p1] 24) (.cells #[.int .i64 k2, .int .i64 t2, .string b2, .string n2, .int .u64 (u2 : Int), .int .i64 p2] 24)
  go_enter Try.func5, Try.ntmps5
  go_wp2_with fail
  refine (lives_any _).mono ?_
  rintro e wa ⟨rfl, hb⟩
  replace S3 := S3.below hb
  replace S4 := S4.below hb
  replace BB := below_to BB hb
  clear hb
  obtain ⟨c0, c1, c2, c3, c4, c5, f0, f1, f2, f3, f4, f5⟩ := S3
  obtain ⟨d0, d1, d2, d3, d4, d5, g0, g1, g2, g3, g4, g5⟩ := S4
  have S3 : Six wa w.heap.size _ _ _ _ _ _ := ⟨c0, c1, c2, c3, c4, c5, f0, f1, f2, f3, f4, f5⟩
  have S4 : Six wa (w.heap.size + 1) _ _ _ _ _ _ := ⟨d0, d1, d2, d3, d4, d5, g0, g1, g2, g3, g4, g5⟩
  go_wp2_with fail
  go_region
  go_wp2_with fail
  replace S3 := ((((S3.other (k := (w.heap.size + 1)) (o := 1) (by omega) (.int .i64 t1)).other (k := (w.heap.size + 1)) (o := 0) (by omega) (.int .i64 4)).put2 (.string bk)).other (k := (w.heap.size + 1)) (o := 2) (by omega) (.string bk)).below (Below.refl _ _).drew
  replace S4 := ((((S4.put1 (.int .i64 t1)).put0 (.int .i64 4)).other (k := w.heap.size) (o := 2) (by omega) (.string bk)).put2 (.string bk)).below (Below.refl _ _).drew
  replace BB := ((((BB.setCell (p := ⟨w.heap.size + 1, 1, none⟩) (by show w.heap.size ≤ w.heap.size + 1; omega) (.int .i64 t1)).setCell (p := ⟨w.heap.size + 1, 0, none⟩) (by show w.heap.size ≤ w.heap.size + 1; omega) (.int .i64 4)).setCell (p := ⟨w.heap.size, 2, none⟩) (Nat.le_refl _) (.string bk)).setCell (p := ⟨w.heap.size + 1, 2, none⟩) (by show w.heap.size ≤ w.heap.size + 1; omega) (.string bk)).drew
  clear c0 c1 c2 c3 c4 c5 f0 f1 f2 f3 f4 f5 d0 d1 d2 d3 d4 d5 g0 g1 g2 g3 g4 g5
  generalize ((((wa.setCell ⟨w.heap.size + 1, 1, none⟩ (.int .i64 t1)).setCell ⟨w.heap.size + 1, 0, none⟩ (.int .i64 4)).setCell ⟨w.heap.size, 2, none⟩ (.string bk)).setCell ⟨w.heap.size + 1, 2, none⟩ (.string bk)).drew = wb at S3 S4 BB ⊢
  refine (ours_any _ _ _ _ _ _ _).mono ?_
  rintro e wn ⟨rfl, hb⟩
  replace S3 := S3.below hb
  replace S4 := S4.below hb
  replace BB := below_to BB hb
  clear hb
  go_wp2_with fail
  refine (HA.out _).mono ?_
  rintro e wn ⟨rfl, hb⟩
  replace S3 := S3.below hb
  replace S4 := S4.below hb
  replace BB := below_to BB hb
  clear hb
  have c0 := S4.c0
  have c1 := S4.c1
  have c2 := S4.c2
  have c3 := S4.c3
  have c4 := S4.c4
  have c5 := S4.c5
  go_wp2_with fail
  clear c0 c1 c2 c3 c4 c5
  refine (ours_any _ _ _ _ _ _ _).mono ?_
  rintro e wn ⟨rfl, hb⟩
  replace S3 := S3.below hb
  replace S4 := S4.below hb
  replace BB := below_to BB hb
  clear hb
  go_wp2_with fail
  refine (HB.out _).mono ?_
  rintro e wn ⟨rfl, hb⟩
  replace S3 := S3.below hb
  replace S4 := S4.below hb
  replace BB := below_to BB hb
  clear hb
  have S3h := Lib.hid S3
  have S4h := Lib.hid S4
  by_cases ha : ea = 0
  · by_cases hb : eb = 0
    · have hL := HL.out ha hb
      subst ha hb
      clear HL HA HB
      obtain ⟨c0, c1, c2, c3, c4, c5, f0, f1, f2, f3, f4, f5⟩ := S3
      obtain ⟨d0, d1, d2, d3, d4, d5, g0, g1, g2, g3, g4, g5⟩ := S4
      clear f0 f1 f2 f3 f4 f5 g0 g1 g2 g3 g4 g5
      obtain ⟨l1, hl1⟩ : ∃ l, decide ((u1 : Int) < (u2 : Int)) = l := ⟨_, rfl⟩
      rw [hl1] at hL
      cases l1
      all_goals
        go_wp2_with fail
        go_ret
        exact ⟨ret_bool (by simp [hL] <;> simp at hl1 <;> omega), BB⟩
    · have hno2 : (eb != 0) = true := bne_iff_ne.2 hb
      subst ha
      go_wp2_with fail
      go_ret
      exact ⟨rfl, BB⟩
  · have hno2 : (ea != 0) = true := bne_iff_ne.2 ha
    go_wp2_with fail
    go_ret
    exact ⟨rfl, BB⟩
theorem keysOrder5 (t1 : Int) (b1 n1 : ByteArray) (u1 : Nat) (p1 : Int) (k2 t2 : Int) (b2 n2 : ByteArray) (u2 : Nat) (p2 : Int) (bk A B : ByteArray) (ea eb : Int)
    (HA : Hid (∀ w, Calls Try.prog 11 #[.agg #[.int .i64 5, .int .i64 t1, .string bk, .string n1, .int .u64 (u1 : Int), .int .i64 p1]] w fun x w' => x = .returned (.tuple #[.string A, .int .i64 ea]) ∧ Below w.heap.size w w'))
    (HB : Hid (∀ w, Calls Try.prog 11 #[.agg #[.int .i64 5, .int .i64 t1, .string bk, .string n2, .int .u64 (u2 : Int), .int .i64 p2]] w fun x w' => x = .returned (.tuple #[.string B, .int .i64 eb]) ∧ Below w.heap.size w w'))
    (HL : Hid (ea = 0 → eb = 0 → Op.bytesLess A.toList B.toList = (decide ((u1 : Int) < (u2 : Int)) || (((u1 : Int) == (u2 : Int)) && decide (p1 < p2))))) (w : World) :
    Calls Try.prog 5 #[.agg #[.int .i64 5, .int .i64 t1, .string b1, .string n1, .int .u64 (u1 : Int), .int .i64 p1], .agg #[.int .i64 k2, .int .i64 t2, .string b2, .string n2, .int .u64 (u2 : Int), .int .i64 p2], .string bk] w fun e w' => e = .returned (.bool true) ∧ Below w.heap.size w w' := by
  have S3 := (Six.new w (.int .i64 5) (.int .i64 t1) (.string b1) (.string n1) (.int .u64 (u1 : Int)) (.int .i64 p1) 24).below (below_box _ (.cells #[.int .i64 k2, .int .i64 t2, .string b2, .string n2, .int .u64 (u2 : Int), .int .i64 p2] 24))
  have S4 := Six.two w (.cells #[.int .i64 5, .int .i64 t1, .string b1, .string n1, .int .u64 (u1 : Int), .int .i64 p1] 24) (.int .i64 k2) (.int .i64 t2) (.string b2) (.string n2) (.int .u64 (u2 : Int)) (.int .i64 p2) 24
  have BB := below_two w (.cells #[.int .i64 5, .int .i64 t1, .string b1, .string n1, .int .u64 (u1 : Int), .int .i64 p1] 24) (.cells #[.int .i64 k2, .int .i64 t2, .string b2, .string n2, .int .u64 (u2 : Int), .int .i64 p2] 24)
  go_enter Try.func5, Try.ntmps5
  go_wp2_with fail
  refine (lives_any _).mono ?_
  rintro e wa ⟨rfl, hb⟩
  replace S3 := S3.below hb
  replace S4 := S4.below hb
  replace BB := below_to BB hb
  clear hb
  obtain ⟨c0, c1, c2, c3, c4, c5, f0, f1, f2, f3, f4, f5⟩ := S3
  obtain ⟨d0, d1, d2, d3, d4, d5, g0, g1, g2, g3, g4, g5⟩ := S4
  have S3 : Six wa w.heap.size _ _ _ _ _ _ := ⟨c0, c1, c2, c3, c4, c5, f0, f1, f2, f3, f4, f5⟩
  have S4 : Six wa (w.heap.size + 1) _ _ _ _ _ _ := ⟨d0, d1, d2, d3, d4, d5, g0, g1, g2, g3, g4, g5⟩
  go_wp2_with fail
  go_region
  go_wp2_with fail
  replace S3 := ((((S3.other (k := (w.heap.size + 1)) (o := 1) (by omega) (.int .i64 t1)).other (k := (w.heap.size + 1)) (o := 0) (by omega) (.int .i64 5)).put2 (.string bk)).other (k := (w.heap.size + 1)) (o := 2) (by omega) (.string bk)).below (Below.refl _ _).drew
  replace S4 := ((((S4.put1 (.int .i64 t1)).put0 (.int .i64 5)).other (k := w.heap.size) (o := 2) (by omega) (.string bk)).put2 (.string bk)).below (Below.refl _ _).drew
  replace BB := ((((BB.setCell (p := ⟨w.heap.size + 1, 1, none⟩) (by show w.heap.size ≤ w.heap.size + 1; omega) (.int .i64 t1)).setCell (p := ⟨w.heap.size + 1, 0, none⟩) (by show w.heap.size ≤ w.heap.size + 1; omega) (.int .i64 5)).setCell (p := ⟨w.heap.size, 2, none⟩) (Nat.le_refl _) (.string bk)).setCell (p := ⟨w.heap.size + 1, 2, none⟩) (by show w.heap.size ≤ w.heap.size + 1; omega) (.string bk)).drew
  clear c0 c1 c2 c3 c4 c5 f0 f1 f2 f3 f4 f5 d0 d1 d2 d3 d4 d5 g0 g1 g2 g3 g4 g5
  generalize ((((wa.setCell ⟨w.heap.size + 1, 1, none⟩ (.int .i64 t1)).setCell ⟨w.heap.size + 1, 0, none⟩ (.int .i64 5)).setCell ⟨w.heap.size, 2, none⟩ (.string bk)).setCell ⟨w.heap.size + 1, 2, none⟩ (.string bk)).drew = wb at S3 S4 BB ⊢
  refine (ours_any _ _ _ _ _ _ _).mono ?_
  rintro e wn ⟨rfl, hb⟩
  replace S3 := S3.below hb
  replace S4 := S4.below hb
  replace BB := below_to BB hb
  clear hb
  go_wp2_with fail
  refine (HA.out _).mono ?_
  rintro e wn ⟨rfl, hb⟩
  replace S3 := S3.below hb
  replace S4 := S4.below hb
  replace BB := below_to BB hb
  clear hb
  have c0 := S4.c0
  have c1 := S4.c1
  have c2 := S4.c2
  have c3 := S4.c3
  have c4 := S4.c4
  have c5 := S4.c5
  go_wp2_with fail
  clear c0 c1 c2 c3 c4 c5
  refine (ours_any _ _ _ _ _ _ _).mono ?_
  rintro e wn ⟨rfl, hb⟩
  replace S3 := S3.below hb
  replace S4 := S4.below hb
  replace BB := below_to BB hb
  clear hb
  go_wp2_with fail
  refine (HB.out _).mono ?_
  rintro e wn ⟨rfl, hb⟩
  replace S3 := S3.below hb
  replace S4 := S4.below hb
  replace BB := below_to BB hb
  clear hb
  have S3h := Lib.hid S3
  have S4h := Lib.hid S4
  by_cases ha : ea = 0
  · by_cases hb : eb = 0
    · have hL := HL.out ha hb
      subst ha hb
      clear HL HA HB
      obtain ⟨c0, c1, c2, c3, c4, c5, f0, f1, f2, f3, f4, f5⟩ := S3
      obtain ⟨d0, d1, d2, d3, d4, d5, g0, g1, g2, g3, g4, g5⟩ := S4
      clear f0 f1 f2 f3 f4 f5 g0 g1 g2 g3 g4 g5
      obtain ⟨l1, hl1⟩ : ∃ l, decide ((u1 : Int) < (u2 : Int)) = l := ⟨_, rfl⟩
      obtain ⟨l2, hl2⟩ : ∃ l, ((u1 : Int) == (u2 : Int)) = l := ⟨_, rfl⟩
      obtain ⟨l3, hl3⟩ : ∃ l, decide (p1 < p2) = l := ⟨_, rfl⟩
      rw [hl1, hl2, hl3] at hL
      cases l1 <;> cases l2 <;> cases l3
      all_goals
        simp only [Bool.or_false, Bool.or_true, Bool.true_or, Bool.false_or, Bool.and_false, Bool.and_true, Bool.true_and, Bool.false_and] at hL
        go_wp2_with fail
        all_goals
          first
          | (go_ret; exact ⟨ret_bool (by simp_all), BB⟩)
          | (exfalso; have q1 := of_decide_eq_false hl1; omega)
    · have hno2 : (eb != 0) = true := bne_iff_ne.2 hb
      subst ha
      go_wp2_with fail
      go_ret
      exact ⟨rfl, BB⟩
  · have hno2 : (ea != 0) = true := bne_iff_ne.2 ha
    go_wp2_with fail
    go_ret
    exact ⟨rfl, BB⟩
theorem keysOrder1 (k : Int) (h2 : (k != 2) = true) (h2b : (k == 2) = false) (h3 : (k == 3) = false) (h4 : (k == 4) = false) (h5 : (k == 5) = false) (t1 : Int) (b1 n1 : ByteArray) (u1 : Nat) (p1 : Int) (k2 t2 : Int) (b2 n2 : ByteArray) (u2 : Nat) (p2 : Int) (bk A B : ByteArray) (ea eb : Int)
    (HA : Hid (∀ w, Calls Try.prog 11 #[.agg #[.int .i64 k, .int .i64 t1, .string bk, .string n1, .int .u64 (u1 : Int), .int .i64 p1]] w fun x w' => x = .returned (.tuple #[.string A, .int .i64 ea]) ∧ Below w.heap.size w w'))
    (HB : Hid (∀ w, Calls Try.prog 11 #[.agg #[.int .i64 k, .int .i64 t1, .string bk, .string n2, .int .u64 (u2 : Int), .int .i64 p2]] w fun x w' => x = .returned (.tuple #[.string B, .int .i64 eb]) ∧ Below w.heap.size w w'))
    (HL : Hid (ea = 0 → eb = 0 → (A.toList == B.toList) = true)) (w : World) :
    Calls Try.prog 5 #[.agg #[.int .i64 k, .int .i64 t1, .string b1, .string n1, .int .u64 (u1 : Int), .int .i64 p1], .agg #[.int .i64 k2, .int .i64 t2, .string b2, .string n2, .int .u64 (u2 : Int), .int .i64 p2], .string bk] w fun e w' => e = .returned (.bool true) ∧ Below w.heap.size w w' := by
  have S3 := (Six.new w (.int .i64 k) (.int .i64 t1) (.string b1) (.string n1) (.int .u64 (u1 : Int)) (.int .i64 p1) 24).below (below_box _ (.cells #[.int .i64 k2, .int .i64 t2, .string b2, .string n2, .int .u64 (u2 : Int), .int .i64 p2] 24))
  have S4 := Six.two w (.cells #[.int .i64 k, .int .i64 t1, .string b1, .string n1, .int .u64 (u1 : Int), .int .i64 p1] 24) (.int .i64 k2) (.int .i64 t2) (.string b2) (.string n2) (.int .u64 (u2 : Int)) (.int .i64 p2) 24
  have BB := below_two w (.cells #[.int .i64 k, .int .i64 t1, .string b1, .string n1, .int .u64 (u1 : Int), .int .i64 p1] 24) (.cells #[.int .i64 k2, .int .i64 t2, .string b2, .string n2, .int .u64 (u2 : Int), .int .i64 p2] 24)
  go_enter Try.func5, Try.ntmps5
  go_wp2_with fail
  refine (lives_any _).mono ?_
  rintro e wa ⟨rfl, hb⟩
  replace S3 := S3.below hb
  replace S4 := S4.below hb
  replace BB := below_to BB hb
  clear hb
  obtain ⟨c0, c1, c2, c3, c4, c5, f0, f1, f2, f3, f4, f5⟩ := S3
  obtain ⟨d0, d1, d2, d3, d4, d5, g0, g1, g2, g3, g4, g5⟩ := S4
  have S3 : Six wa w.heap.size _ _ _ _ _ _ := ⟨c0, c1, c2, c3, c4, c5, f0, f1, f2, f3, f4, f5⟩
  have S4 : Six wa (w.heap.size + 1) _ _ _ _ _ _ := ⟨d0, d1, d2, d3, d4, d5, g0, g1, g2, g3, g4, g5⟩
  go_wp2_with fail
  go_region
  go_wp2_with fail
  replace S3 := ((((S3.other (k := (w.heap.size + 1)) (o := 1) (by omega) (.int .i64 t1)).other (k := (w.heap.size + 1)) (o := 0) (by omega) (.int .i64 k)).put2 (.string bk)).other (k := (w.heap.size + 1)) (o := 2) (by omega) (.string bk)).below (Below.refl _ _).drew
  replace S4 := ((((S4.put1 (.int .i64 t1)).put0 (.int .i64 k)).other (k := w.heap.size) (o := 2) (by omega) (.string bk)).put2 (.string bk)).below (Below.refl _ _).drew
  replace BB := ((((BB.setCell (p := ⟨w.heap.size + 1, 1, none⟩) (by show w.heap.size ≤ w.heap.size + 1; omega) (.int .i64 t1)).setCell (p := ⟨w.heap.size + 1, 0, none⟩) (by show w.heap.size ≤ w.heap.size + 1; omega) (.int .i64 k)).setCell (p := ⟨w.heap.size, 2, none⟩) (Nat.le_refl _) (.string bk)).setCell (p := ⟨w.heap.size + 1, 2, none⟩) (by show w.heap.size ≤ w.heap.size + 1; omega) (.string bk)).drew
  clear c0 c1 c2 c3 c4 c5 f0 f1 f2 f3 f4 f5 d0 d1 d2 d3 d4 d5 g0 g1 g2 g3 g4 g5
  generalize ((((wa.setCell ⟨w.heap.size + 1, 1, none⟩ (.int .i64 t1)).setCell ⟨w.heap.size + 1, 0, none⟩ (.int .i64 k)).setCell ⟨w.heap.size, 2, none⟩ (.string bk)).setCell ⟨w.heap.size + 1, 2, none⟩ (.string bk)).drew = wb at S3 S4 BB ⊢
  refine (ours_any _ _ _ _ _ _ _).mono ?_
  rintro e wn ⟨rfl, hb⟩
  replace S3 := S3.below hb
  replace S4 := S4.below hb
  replace BB := below_to BB hb
  clear hb
  go_wp2_with fail
  refine (HA.out _).mono ?_
  rintro e wn ⟨rfl, hb⟩
  replace S3 := S3.below hb
  replace S4 := S4.below hb
  replace BB := below_to BB hb
  clear hb
  have c0 := S4.c0
  have c1 := S4.c1
  have c2 := S4.c2
  have c3 := S4.c3
  have c4 := S4.c4
  have c5 := S4.c5
  go_wp2_with fail
  clear c0 c1 c2 c3 c4 c5
  refine (ours_any _ _ _ _ _ _ _).mono ?_
  rintro e wn ⟨rfl, hb⟩
  replace S3 := S3.below hb
  replace S4 := S4.below hb
  replace BB := below_to BB hb
  clear hb
  go_wp2_with fail
  refine (HB.out _).mono ?_
  rintro e wn ⟨rfl, hb⟩
  replace S3 := S3.below hb
  replace S4 := S4.below hb
  replace BB := below_to BB hb
  clear hb
  have S3h := Lib.hid S3
  have S4h := Lib.hid S4
  by_cases ha : ea = 0
  · by_cases hb : eb = 0
    · have hL := HL.out ha hb
      subst ha hb
      clear HL HA HB
      obtain ⟨c0, c1, c2, c3, c4, c5, f0, f1, f2, f3, f4, f5⟩ := S3
      obtain ⟨d0, d1, d2, d3, d4, d5, g0, g1, g2, g3, g4, g5⟩ := S4
      clear f0 f1 f2 f3 f4 f5 g0 g1 g2 g3 g4 g5
      go_wp2_with fail
      go_ret
      exact ⟨rfl, BB⟩
    · have hno2 : (eb != 0) = true := bne_iff_ne.2 hb
      subst ha
      go_wp2_with fail
      go_ret
      exact ⟨rfl, BB⟩
  · have hno2 : (ea != 0) = true := bne_iff_ne.2 ha
    go_wp2_with fail
    go_ret
    exact ⟨rfl, BB⟩
end Go.Proofs.Yteekjndhehnpaaa
