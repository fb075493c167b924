/- Contracts: the reference's Gets. -/
import Derived.Test.YteekjndhehnpaaaSZ
import Derived.Test.YteekjndhehnpaaaSX
import Derived.Test.YteekjndhehnpaaaSN
namespace Go.Proofs.Yteekjndhehnpaaa
open Go.RowKit
set_option maxRecDepth 100000
set_option linter.unusedVariables false
set_option linter.unusedSimpArgs false
set_option maxHeartbeats 4000000
theorem rgetTenant_main (s S : ByteArray) (a b c d : Int) (ok : Bool)
    (H1 : Hid (∀ w, Calls Try.prog 78 #[.string s, .int .i64 0, .int .i64 1] w fun e w' => e = .returned (.agg #[.int .i64 a, .int .i64 b]) ∧ Below w.heap.size w w'))
    (H2 : Hid (∀ w, Calls Try.prog 78 #[.string s, .int .i64 16, .int .i64 0] w fun e w' => e = .returned (.agg #[.int .i64 c, .int .i64 d]) ∧ Below w.heap.size w w'))
    (HP : Hid (∀ w, Calls Try.prog 29 #[.agg #[.int .i64 a, .int .i64 b, .int .i64 c, .int .i64 d]] w fun e w' => e = .returned (.tuple #[.string S, .int .i64 (argE ok)]) ∧ Below w.heap.size w w')) (w : World) :
    Calls Try.prog 39 #[.string s] w fun e w' => e = .returned (.tuple #[pickV (ok && decide (S = s)) (.agg #[.int .i64 a, .int .i64 b, .int .i64 c, .int .i64 d]) (.agg #[.int .i64 0, .int .i64 0, .int .i64 0, .int .i64 0]), .int .i64 (errF (ok && decide (S = s)))]) ∧ Below w.heap.size w w' := by
  cases ok with
  | false =>
    replace HP : Hid (∀ w, Calls Try.prog 29 #[.agg #[.int .i64 a, .int .i64 b, .int .i64 c, .int .i64 d]] w fun e w' => e = .returned (.tuple #[.string S, .int .i64 18]) ∧ Below w.heap.size w w') := HP
    show Calls _ _ _ _ fun e w' => e = .returned (.tuple #[.agg #[.int .i64 0, .int .i64 0, .int .i64 0, .int .i64 0], .int .i64 19]) ∧ Below w.heap.size w w'
    go_enter Try.func39, Try.ntmps39
    go_wp2_with fail
    refine (H1.out _).mono ?_
    rintro e w1 ⟨rfl, hb⟩
    have K := (Blk.new w [.int .i64 0, .int .i64 0, .int .i64 0, .int .i64 0] 49).below hb
    have BB := below_to (below_box w (.cells #[.int .i64 0, .int .i64 0, .int .i64 0, .int .i64 0] 49)) hb
    clear hb
    go_wp2_with fail
    refine (H2.out _).mono ?_
    rintro e w2 ⟨rfl, hb⟩
    replace K := K.below hb
    replace BB := below_to BB hb
    clear hb
    go_upto_region 2 with (fail)
    have K2 := Blk.new w2 [.int .i64 a, .int .i64 b, .int .i64 c, .int .i64 d] 49
    replace K := K.below (below_box w2 (.cells #[.int .i64 a, .int .i64 b, .int .i64 c, .int .i64 d] 49))
    replace BB := below_to BB (below_box w2 (.cells #[.int .i64 a, .int .i64 b, .int .i64 c, .int .i64 d] 49))
    generalize w2.alloc (.cells #[.int .i64 a, .int .i64 b, .int .i64 c, .int .i64 d] 49) = wa at K K2 BB ⊢
    generalize w2.heap.size = g2 at K2 ⊢
    have v0 := K2.cell 0 _ rfl
    have v1 := K2.cell 1 _ rfl
    have v2 := K2.cell 2 _ rfl
    have v3 := K2.cell 3 _ rfl
    go_wp2_with fail
    refine (HP.out _).mono ?_
    rintro e wb ⟨rfl, hb⟩
    replace K := K.below hb
    replace K2 := K2.below hb
    replace BB := below_to BB hb
    clear hb v0 v1 v2 v3
    have x0 := K.cell 0 _ rfl
    have y0 := K.froz 0 _ rfl
    have x1 := K.cell 1 _ rfl
    have y1 := K.froz 1 _ rfl
    have x2 := K.cell 2 _ rfl
    have y2 := K.froz 2 _ rfl
    have x3 := K.cell 3 _ rfl
    have y3 := K.froz 3 _ rfl
    go_wp2_with fail
    have KK := ((((K.put 0 (.int .i64 0) (by simp)).put 1 (.int .i64 0) (by simp)).put 2 (.int .i64 0) (by simp)).put 3 (.int .i64 0) (by simp))
    have z0_ := KK.cell 0 _ rfl
    have z1_ := KK.cell 1 _ rfl
    have z2_ := KK.cell 2 _ rfl
    have z3_ := KK.cell 3 _ rfl
    refine bodyPost_ret (v := .tuple #[.agg #[.int .i64 0, .int .i64 0, .int .i64 0, .int .i64 0], .int .i64 19]) (by simp [results, Try.results39, go_sem, z0_, z1_, z2_, z3_]) rfl ?_
    exact ⟨rfl, ((((BB.setCell (p := ⟨w.heap.size, 0, none⟩) (Nat.le_refl _) (.int .i64 0)).setCell (p := ⟨w.heap.size, 1, none⟩) (Nat.le_refl _) (.int .i64 0)).setCell (p := ⟨w.heap.size, 2, none⟩) (Nat.le_refl _) (.int .i64 0)).setCell (p := ⟨w.heap.size, 3, none⟩) (Nat.le_refl _) (.int .i64 0))⟩
  | true =>
    replace HP : Hid (∀ w, Calls Try.prog 29 #[.agg #[.int .i64 a, .int .i64 b, .int .i64 c, .int .i64 d]] w fun e w' => e = .returned (.tuple #[.string S, .int .i64 0]) ∧ Below w.heap.size w w') := HP
    by_cases hS : S = s
    · have hq_ : decide (S = s) = true := decide_eq_true hS
      rw [hq_]
      subst hS
      show Calls _ _ _ _ fun e w' => e = .returned (.tuple #[.agg #[.int .i64 a, .int .i64 b, .int .i64 c, .int .i64 d], .int .i64 0]) ∧ Below w.heap.size w w'
      go_enter Try.func39, Try.ntmps39
      go_wp2_with fail
      refine (H1.out _).mono ?_
      rintro e w1 ⟨rfl, hb⟩
      have K := (Blk.new w [.int .i64 0, .int .i64 0, .int .i64 0, .int .i64 0] 49).below hb
      have BB := below_to (below_box w (.cells #[.int .i64 0, .int .i64 0, .int .i64 0, .int .i64 0] 49)) hb
      clear hb
      go_wp2_with fail
      refine (H2.out _).mono ?_
      rintro e w2 ⟨rfl, hb⟩
      replace K := K.below hb
      replace BB := below_to BB hb
      clear hb
      go_upto_region 2 with (fail)
      have K2 := Blk.new w2 [.int .i64 a, .int .i64 b, .int .i64 c, .int .i64 d] 49
      replace K := K.below (below_box w2 (.cells #[.int .i64 a, .int .i64 b, .int .i64 c, .int .i64 d] 49))
      replace BB := below_to BB (below_box w2 (.cells #[.int .i64 a, .int .i64 b, .int .i64 c, .int .i64 d] 49))
      generalize w2.alloc (.cells #[.int .i64 a, .int .i64 b, .int .i64 c, .int .i64 d] 49) = wa at K K2 BB ⊢
      generalize w2.heap.size = g2 at K2 ⊢
      have v0 := K2.cell 0 _ rfl
      have v1 := K2.cell 1 _ rfl
      have v2 := K2.cell 2 _ rfl
      have v3 := K2.cell 3 _ rfl
      go_wp2_with fail
      refine (HP.out _).mono ?_
      rintro e wb ⟨rfl, hb⟩
      replace K := K.below hb
      replace K2 := K2.below hb
      replace BB := below_to BB hb
      clear hb v0 v1 v2 v3
      have x0 := K.cell 0 _ rfl
      have y0 := K.froz 0 _ rfl
      have x1 := K.cell 1 _ rfl
      have y1 := K.froz 1 _ rfl
      have x2 := K.cell 2 _ rfl
      have y2 := K.froz 2 _ rfl
      have x3 := K.cell 3 _ rfl
      have y3 := K.froz 3 _ rfl
      have v0 := K2.cell 0 _ rfl
      have v1 := K2.cell 1 _ rfl
      have v2 := K2.cell 2 _ rfl
      have v3 := K2.cell 3 _ rfl
      go_wp2_with fail
      have KK := ((((K.put 0 (.int .i64 a) (by simp)).put 1 (.int .i64 b) (by simp)).put 2 (.int .i64 c) (by simp)).put 3 (.int .i64 d) (by simp))
      have z0_ := KK.cell 0 _ rfl
      have z1_ := KK.cell 1 _ rfl
      have z2_ := KK.cell 2 _ rfl
      have z3_ := KK.cell 3 _ rfl
      refine bodyPost_ret (v := .tuple #[.agg #[.int .i64 a, .int .i64 b, .int .i64 c, .int .i64 d], .int .i64 0]) (by simp [results, Try.results39, go_sem, z0_, z1_, z2_, z3_]) rfl ?_
      exact ⟨rfl, ((((BB.setCell (p := ⟨w.heap.size, 0, none⟩) (Nat.le_refl _) (.int .i64 a)).setCell (p := ⟨w.heap.size, 1, none⟩) (Nat.le_refl _) (.int .i64 b)).setCell (p := ⟨w.heap.size, 2, none⟩) (Nat.le_refl _) (.int .i64 c)).setCell (p := ⟨w.heap.size, 3, none⟩) (Nat.le_refl _) (.int .i64 d))⟩
    · have hq_ : decide (S = s) = false := decide_eq_false hS
      have hq2 : (S.toList == s.toList) = false := str_nbeq hS
      rw [hq_]
      show Calls _ _ _ _ fun e w' => e = .returned (.tuple #[.agg #[.int .i64 0, .int .i64 0, .int .i64 0, .int .i64 0], .int .i64 19]) ∧ Below w.heap.size w w'
      go_enter Try.func39, Try.ntmps39
      go_wp2_with fail
      refine (H1.out _).mono ?_
      rintro e w1 ⟨rfl, hb⟩
      have K := (Blk.new w [.int .i64 0, .int .i64 0, .int .i64 0, .int .i64 0] 49).below hb
      have BB := below_to (below_box w (.cells #[.int .i64 0, .int .i64 0, .int .i64 0, .int .i64 0] 49)) hb
      clear hb
      go_wp2_with fail
      refine (H2.out _).mono ?_
      rintro e w2 ⟨rfl, hb⟩
      replace K := K.below hb
      replace BB := below_to BB hb
      clear hb
      go_upto_region 2 with (fail)
      have K2 := Blk.new w2 [.int .i64 a, .int .i64 b, .int .i64 c, .int .i64 d] 49
      replace K := K.below (below_box w2 (.cells #[.int .i64 a, .int .i64 b, .int .i64 c, .int .i64 d] 49))
      replace BB := below_to BB (below_box w2 (.cells #[.int .i64 a, .int .i64 b, .int .i64 c, .int .i64 d] 49))
      generalize w2.alloc (.cells #[.int .i64 a, .int .i64 b, .int .i64 c, .int .i64 d] 49) = wa at K K2 BB ⊢
      generalize w2.heap.size = g2 at K2 ⊢
      have v0 := K2.cell 0 _ rfl
      have v1 := K2.cell 1 _ rfl
      have v2 := K2.cell 2 _ rfl
      have v3 := K2.cell 3 _ rfl
      go_wp2_with fail
      refine (HP.out _).mono ?_
      rintro e wb ⟨rfl, hb⟩
      replace K := K.below hb
      replace K2 := K2.below hb
      replace BB := below_to BB hb
      clear hb v0 v1 v2 v3
      have x0 := K.cell 0 _ rfl
      have y0 := K.froz 0 _ rfl
      have x1 := K.cell 1 _ rfl
      have y1 := K.froz 1 _ rfl
      have x2 := K.cell 2 _ rfl
      have y2 := K.froz 2 _ rfl
      have x3 := K.cell 3 _ rfl
      have y3 := K.froz 3 _ rfl
      go_wp2_with fail
      have KK := ((((K.put 0 (.int .i64 0) (by simp)).put 1 (.int .i64 0) (by simp)).put 2 (.int .i64 0) (by simp)).put 3 (.int .i64 0) (by simp))
      have z0_ := KK.cell 0 _ rfl
      have z1_ := KK.cell 1 _ rfl
      have z2_ := KK.cell 2 _ rfl
      have z3_ := KK.cell 3 _ rfl
      refine bodyPost_ret (v := .tuple #[.agg #[.int .i64 0, .int .i64 0, .int .i64 0, .int .i64 0], .int .i64 19]) (by simp [results, Try.results39, go_sem, z0_, z1_, z2_, z3_]) rfl ?_
      exact ⟨rfl, ((((BB.setCell (p := ⟨w.heap.size, 0, none⟩) (Nat.le_refl _) (.int .i64 0)).setCell (p := ⟨w.heap.size, 1, none⟩) (Nat.le_refl _) (.int .i64 0)).setCell (p := ⟨w.heap.size, 2, none⟩) (Nat.le_refl _) (.int .i64 0)).setCell (p := ⟨w.heap.size, 3, none⟩) (Nat.le_refl _) (.int .i64 0))⟩
theorem rgetBucket_main (s S : ByteArray) (m a b c d : Int) (n : Nat) (m0 : Nat) (hm : wrap64 (m0 : Int) = m) (ok : Bool)
    (H1 : Hid (∀ w, Calls Try.prog 82 #[.string s, .int .i64 0, .int .i64 1] w fun e w' => e = .returned (.int .u64 (m0 : Int)) ∧ Below w.heap.size w w'))
    (H2 : Hid (∀ w, Calls Try.prog 78 #[.string s, .int .i64 1, .int .i64 1] w fun e w' => e = .returned (.agg #[.int .i64 a, .int .i64 b]) ∧ Below w.heap.size w w'))
    (H3 : Hid (∀ w, Calls Try.prog 78 #[.string s, .int .i64 17, .int .i64 0] w fun e w' => e = .returned (.agg #[.int .i64 c, .int .i64 d]) ∧ Below w.heap.size w w'))
    (H4 : Hid (∀ w, Calls Try.prog 82 #[.string s, .int .i64 33, .int .i64 8] w fun e w' => e = .returned (.int .u64 (n : Int)) ∧ Below w.heap.size w w'))
    (HP : Hid (∀ w, Calls Try.prog 31 #[.agg #[.int .i64 m, .int .i64 a, .int .i64 b, .int .i64 c, .int .i64 d, .int .u64 (n : Int)]] w fun e w' => e = .returned (.tuple #[.string S, .int .i64 (argE ok)]) ∧ Below w.heap.size w w')) (w : World) :
    Calls Try.prog 41 #[.string s] w fun e w' => e = .returned (.tuple #[pickV (ok && decide (S = s)) (.agg #[.int .i64 m, .int .i64 a, .int .i64 b, .int .i64 c, .int .i64 d, .int .u64 (n : Int)]) (.agg #[.int .i64 0, .int .i64 0, .int .i64 0, .int .i64 0, .int .i64 0, .int .u64 0]), .int .i64 (errF (ok && decide (S = s)))]) ∧ Below w.heap.size w w' := by
  cases ok with
  | false =>
    replace HP : Hid (∀ w, Calls Try.prog 31 #[.agg #[.int .i64 m, .int .i64 a, .int .i64 b, .int .i64 c, .int .i64 d, .int .u64 (n : Int)]] w fun e w' => e = .returned (.tuple #[.string S, .int .i64 18]) ∧ Below w.heap.size w w') := HP
    show Calls _ _ _ _ fun e w' => e = .returned (.tuple #[.agg #[.int .i64 0, .int .i64 0, .int .i64 0, .int .i64 0, .int .i64 0, .int .u64 0], .int .i64 19]) ∧ Below w.heap.size w w'
    go_enter Try.func41, Try.ntmps41
    go_wp2_with fail
    refine (H1.out _).mono ?_
    rintro e w1 ⟨rfl, hb⟩
    have K := (Blk.new w [.int .i64 0, .int .i64 0, .int .i64 0, .int .i64 0, .int .i64 0, .int .u64 0] 51).below hb
    have BB := below_to (below_box w (.cells #[.int .i64 0, .int .i64 0, .int .i64 0, .int .i64 0, .int .i64 0, .int .u64 0] 51)) hb
    clear hb
    go_wp2_with fail
    refine (H2.out _).mono ?_
    rintro e w2 ⟨rfl, hb⟩
    replace K := K.below hb
    replace BB := below_to BB hb
    clear hb
    go_wp2_with fail
    refine (H3.out _).mono ?_
    rintro e w3 ⟨rfl, hb⟩
    replace K := K.below hb
    replace BB := below_to BB hb
    clear hb
    go_wp2_with fail
    refine (H4.out _).mono ?_
    rintro e w4 ⟨rfl, hb⟩
    replace K := K.below hb
    replace BB := below_to BB hb
    clear hb
    go_upto_region 2 with (fail)
    have K2 := Blk.new w4 [.int .i64 m, .int .i64 a, .int .i64 b, .int .i64 c, .int .i64 d, .int .u64 (n : Int)] 51
    replace K := K.below (below_box w4 (.cells #[.int .i64 m, .int .i64 a, .int .i64 b, .int .i64 c, .int .i64 d, .int .u64 (n : Int)] 51))
    replace BB := below_to BB (below_box w4 (.cells #[.int .i64 m, .int .i64 a, .int .i64 b, .int .i64 c, .int .i64 d, .int .u64 (n : Int)] 51))
    generalize w4.alloc (.cells #[.int .i64 m, .int .i64 a, .int .i64 b, .int .i64 c, .int .i64 d, .int .u64 (n : Int)] 51) = wa at K K2 BB ⊢
    generalize w4.heap.size = g2 at K2 ⊢
    have v0 := K2.cell 0 _ rfl
    have v1 := K2.cell 1 _ rfl
    have v2 := K2.cell 2 _ rfl
    have v3 := K2.cell 3 _ rfl
    have v4 := K2.cell 4 _ rfl
    have v5 := K2.cell 5 _ rfl
    go_wp2_with fail
    refine (HP.out _).mono ?_
    rintro e wb ⟨rfl, hb⟩
    replace K := K.below hb
    replace K2 := K2.below hb
    replace BB := below_to BB hb
    clear hb v0 v1 v2 v3 v4 v5
    have x0 := K.cell 0 _ rfl
    have y0 := K.froz 0 _ rfl
    have x1 := K.cell 1 _ rfl
    have y1 := K.froz 1 _ rfl
    have x2 := K.cell 2 _ rfl
    have y2 := K.froz 2 _ rfl
    have x3 := K.cell 3 _ rfl
    have y3 := K.froz 3 _ rfl
    have x4 := K.cell 4 _ rfl
    have y4 := K.froz 4 _ rfl
    have x5 := K.cell 5 _ rfl
    have y5 := K.froz 5 _ rfl
    go_wp2_with fail
    have KK := ((((((K.put 0 (.int .i64 0) (by simp)).put 1 (.int .i64 0) (by simp)).put 2 (.int .i64 0) (by simp)).put 3 (.int .i64 0) (by simp)).put 4 (.int .i64 0) (by simp)).put 5 (.int .u64 0) (by simp))
    have z0_ := KK.cell 0 _ rfl
    have z1_ := KK.cell 1 _ rfl
    have z2_ := KK.cell 2 _ rfl
    have z3_ := KK.cell 3 _ rfl
    have z4_ := KK.cell 4 _ rfl
    have z5_ := KK.cell 5 _ rfl
    refine bodyPost_ret (v := .tuple #[.agg #[.int .i64 0, .int .i64 0, .int .i64 0, .int .i64 0, .int .i64 0, .int .u64 0], .int .i64 19]) (by simp [results, Try.results41, go_sem, z0_, z1_, z2_, z3_, z4_, z5_]) rfl ?_
    exact ⟨rfl, ((((((BB.setCell (p := ⟨w.heap.size, 0, none⟩) (Nat.le_refl _) (.int .i64 0)).setCell (p := ⟨w.heap.size, 1, none⟩) (Nat.le_refl _) (.int .i64 0)).setCell (p := ⟨w.heap.size, 2, none⟩) (Nat.le_refl _) (.int .i64 0)).setCell (p := ⟨w.heap.size, 3, none⟩) (Nat.le_refl _) (.int .i64 0)).setCell (p := ⟨w.heap.size, 4, none⟩) (Nat.le_refl _) (.int .i64 0)).setCell (p := ⟨w.heap.size, 5, none⟩) (Nat.le_refl _) (.int .u64 0))⟩
  | true =>
    replace HP : Hid (∀ w, Calls Try.prog 31 #[.agg #[.int .i64 m, .int .i64 a, .int .i64 b, .int .i64 c, .int .i64 d, .int .u64 (n : Int)]] w fun e w' => e = .returned (.tuple #[.string S, .int .i64 0]) ∧ Below w.heap.size w w') := HP
    by_cases hS : S = s
    · have hq_ : decide (S = s) = true := decide_eq_true hS
      rw [hq_]
      subst hS
      show Calls _ _ _ _ fun e w' => e = .returned (.tuple #[.agg #[.int .i64 m, .int .i64 a, .int .i64 b, .int .i64 c, .int .i64 d, .int .u64 (n : Int)], .int .i64 0]) ∧ Below w.heap.size w w'
      go_enter Try.func41, Try.ntmps41
      go_wp2_with fail
      refine (H1.out _).mono ?_
      rintro e w1 ⟨rfl, hb⟩
      have K := (Blk.new w [.int .i64 0, .int .i64 0, .int .i64 0, .int .i64 0, .int .i64 0, .int .u64 0] 51).below hb
      have BB := below_to (below_box w (.cells #[.int .i64 0, .int .i64 0, .int .i64 0, .int .i64 0, .int .i64 0, .int .u64 0] 51)) hb
      clear hb
      go_wp2_with fail
      refine (H2.out _).mono ?_
      rintro e w2 ⟨rfl, hb⟩
      replace K := K.below hb
      replace BB := below_to BB hb
      clear hb
      go_wp2_with fail
      refine (H3.out _).mono ?_
      rintro e w3 ⟨rfl, hb⟩
      replace K := K.below hb
      replace BB := below_to BB hb
      clear hb
      go_wp2_with fail
      refine (H4.out _).mono ?_
      rintro e w4 ⟨rfl, hb⟩
      replace K := K.below hb
      replace BB := below_to BB hb
      clear hb
      go_upto_region 2 with (fail)
      have K2 := Blk.new w4 [.int .i64 m, .int .i64 a, .int .i64 b, .int .i64 c, .int .i64 d, .int .u64 (n : Int)] 51
      replace K := K.below (below_box w4 (.cells #[.int .i64 m, .int .i64 a, .int .i64 b, .int .i64 c, .int .i64 d, .int .u64 (n : Int)] 51))
      replace BB := below_to BB (below_box w4 (.cells #[.int .i64 m, .int .i64 a, .int .i64 b, .int .i64 c, .int .i64 d, .int .u64 (n : Int)] 51))
      generalize w4.alloc (.cells #[.int .i64 m, .int .i64 a, .int .i64 b, .int .i64 c, .int .i64 d, .int .u64 (n : Int)] 51) = wa at K K2 BB ⊢
      generalize w4.heap.size = g2 at K2 ⊢
      have v0 := K2.cell 0 _ rfl
      have v1 := K2.cell 1 _ rfl
      have v2 := K2.cell 2 _ rfl
      have v3 := K2.cell 3 _ rfl
      have v4 := K2.cell 4 _ rfl
      have v5 := K2.cell 5 _ rfl
      go_wp2_with fail
      refine (HP.out _).mono ?_
      rintro e wb ⟨rfl, hb⟩
      replace K := K.below hb
      replace K2 := K2.below hb
      replace BB := below_to BB hb
      clear hb v0 v1 v2 v3 v4 v5
      have x0 := K.cell 0 _ rfl
      have y0 := K.froz 0 _ rfl
      have x1 := K.cell 1 _ rfl
      have y1 := K.froz 1 _ rfl
      have x2 := K.cell 2 _ rfl
      have y2 := K.froz 2 _ rfl
      have x3 := K.cell 3 _ rfl
      have y3 := K.froz 3 _ rfl
      have x4 := K.cell 4 _ rfl
      have y4 := K.froz 4 _ rfl
      have x5 := K.cell 5 _ rfl
      have y5 := K.froz 5 _ rfl
      have v0 := K2.cell 0 _ rfl
      have v1 := K2.cell 1 _ rfl
      have v2 := K2.cell 2 _ rfl
      have v3 := K2.cell 3 _ rfl
      have v4 := K2.cell 4 _ rfl
      have v5 := K2.cell 5 _ rfl
      go_wp2_with fail
      have KK := ((((((K.put 0 (.int .i64 m) (by simp)).put 1 (.int .i64 a) (by simp)).put 2 (.int .i64 b) (by simp)).put 3 (.int .i64 c) (by simp)).put 4 (.int .i64 d) (by simp)).put 5 (.int .u64 (n : Int)) (by simp))
      have z0_ := KK.cell 0 _ rfl
      have z1_ := KK.cell 1 _ rfl
      have z2_ := KK.cell 2 _ rfl
      have z3_ := KK.cell 3 _ rfl
      have z4_ := KK.cell 4 _ rfl
      have z5_ := KK.cell 5 _ rfl
      refine bodyPost_ret (v := .tuple #[.agg #[.int .i64 m, .int .i64 a, .int .i64 b, .int .i64 c, .int .i64 d, .int .u64 (n : Int)], .int .i64 0]) (by simp [results, Try.results41, go_sem, z0_, z1_, z2_, z3_, z4_, z5_]) rfl ?_
      exact ⟨rfl, ((((((BB.setCell (p := ⟨w.heap.size, 0, none⟩) (Nat.le_refl _) (.int .i64 m)).setCell (p := ⟨w.heap.size, 1, none⟩) (Nat.le_refl _) (.int .i64 a)).setCell (p := ⟨w.heap.size, 2, none⟩) (Nat.le_refl _) (.int .i64 b)).setCell (p := ⟨w.heap.size, 3, none⟩) (Nat.le_refl _) (.int .i64 c)).setCell (p := ⟨w.heap.size, 4, none⟩) (Nat.le_refl _) (.int .i64 d)).setCell (p := ⟨w.heap.size, 5, none⟩) (Nat.le_refl _) (.int .u64 (n : Int)))⟩
    · have hq_ : decide (S = s) = false := decide_eq_false hS
      have hq2 : (S.toList == s.toList) = false := str_nbeq hS
      rw [hq_]
      show Calls _ _ _ _ fun e w' => e = .returned (.tuple #[.agg #[.int .i64 0, .int .i64 0, .int .i64 0, .int .i64 0, .int .i64 0, .int .u64 0], .int .i64 19]) ∧ Below w.heap.size w w'
      go_enter Try.func41, Try.ntmps41
      go_wp2_with fail
      refine (H1.out _).mono ?_
      rintro e w1 ⟨rfl, hb⟩
      have K := (Blk.new w [.int .i64 0, .int .i64 0, .int .i64 0, .int .i64 0, .int .i64 0, .int .u64 0] 51).below hb
      have BB := below_to (below_box w (.cells #[.int .i64 0, .int .i64 0, .int .i64 0, .int .i64 0, .int .i64 0, .int .u64 0] 51)) hb
      clear hb
      go_wp2_with fail
      refine (H2.out _).mono ?_
      rintro e w2 ⟨rfl, hb⟩
      replace K := K.below hb
      replace BB := below_to BB hb
      clear hb
      go_wp2_with fail
      refine (H3.out _).mono ?_
      rintro e w3 ⟨rfl, hb⟩
      replace K := K.below hb
      replace BB := below_to BB hb
      clear hb
      go_wp2_with fail
      refine (H4.out _).mono ?_
      rintro e w4 ⟨rfl, hb⟩
      replace K := K.below hb
      replace BB := below_to BB hb
      clear hb
      go_upto_region 2 with (fail)
      have K2 := Blk.new w4 [.int .i64 m, .int .i64 a, .int .i64 b, .int .i64 c, .int .i64 d, .int .u64 (n : Int)] 51
      replace K := K.below (below_box w4 (.cells #[.int .i64 m, .int .i64 a, .int .i64 b, .int .i64 c, .int .i64 d, .int .u64 (n : Int)] 51))
      replace BB := below_to BB (below_box w4 (.cells #[.int .i64 m, .int .i64 a, .int .i64 b, .int .i64 c, .int .i64 d, .int .u64 (n : Int)] 51))
      generalize w4.alloc (.cells #[.int .i64 m, .int .i64 a, .int .i64 b, .int .i64 c, .int .i64 d, .int .u64 (n : Int)] 51) = wa at K K2 BB ⊢
      generalize w4.heap.size = g2 at K2 ⊢
      have v0 := K2.cell 0 _ rfl
      have v1 := K2.cell 1 _ rfl
      have v2 := K2.cell 2 _ rfl
      have v3 := K2.cell 3 _ rfl
      have v4 := K2.cell 4 _ rfl
      have v5 := K2.cell 5 _ rfl
      go_wp2_with fail
      refine (HP.out _).mono ?_
      rintro e wb ⟨rfl, hb⟩
      replace K := K.below hb
      replace K2 := K2.below hb
      replace BB := below_to BB hb
      clear hb v0 v1 v2 v3 v4 v5
      have x0 := K.cell 0 _ rfl
      have y0 := K.froz 0 _ rfl
      have x1 := K.cell 1 _ rfl
      have y1 := K.froz 1 _ rfl
      have x2 := K.cell 2 _ rfl
      have y2 := K.froz 2 _ rfl
      have x3 := K.cell 3 _ rfl
      have y3 := K.froz 3 _ rfl
      have x4 := K.cell 4 _ rfl
      have y4 := K.froz 4 _ rfl
      have x5 := K.cell 5 _ rfl
      have y5 := K.froz 5 _ rfl
      go_wp2_with fail
      have KK := ((((((K.put 0 (.int .i64 0) (by simp)).put 1 (.int .i64 0) (by simp)).put 2 (.int .i64 0) (by simp)).put 3 (.int .i64 0) (by simp)).put 4 (.int .i64 0) (by simp)).put 5 (.int .u64 0) (by simp))
      have z0_ := KK.cell 0 _ rfl
      have z1_ := KK.cell 1 _ rfl
      have z2_ := KK.cell 2 _ rfl
      have z3_ := KK.cell 3 _ rfl
      have z4_ := KK.cell 4 _ rfl
      have z5_ := KK.cell 5 _ rfl
      refine bodyPost_ret (v := .tuple #[.agg #[.int .i64 0, .int .i64 0, .int .i64 0, .int .i64 0, .int .i64 0, .int .u64 0], .int .i64 19]) (by simp [results, Try.results41, go_sem, z0_, z1_, z2_, z3_, z4_, z5_]) rfl ?_
      exact ⟨rfl, ((((((BB.setCell (p := ⟨w.heap.size, 0, none⟩) (Nat.le_refl _) (.int .i64 0)).setCell (p := ⟨w.heap.size, 1, none⟩) (Nat.le_refl _) (.int .i64 0)).setCell (p := ⟨w.heap.size, 2, none⟩) (Nat.le_refl _) (.int .i64 0)).setCell (p := ⟨w.heap.size, 3, none⟩) (Nat.le_refl _) (.int .i64 0)).setCell (p := ⟨w.heap.size, 4, none⟩) (Nat.le_refl _) (.int .i64 0)).setCell (p := ⟨w.heap.size, 5, none⟩) (Nat.le_refl _) (.int .u64 0))⟩
theorem rgetVersion_main (s S : ByteArray) (i : Nat) (q : Bool) (n : Nat) (f z : Int) (q0 f0 z0 : Nat) (hq : ((q0 : Int) == 1) = q) (hn : IntKind.u32.wrap (n : Int) = (n : Int)) (hf : wrap64 (f0 : Int) = f) (hz : wrap64 (z0 : Int) = z) (ok : Bool)
    (H1 : Hid (∀ w, Calls Try.prog 82 #[.string s, .int .i64 0, .int .i64 8] w fun e w' => e = .returned (.int .u64 (i : Int)) ∧ Below w.heap.size w w'))
    (H2 : Hid (∀ w, Calls Try.prog 82 #[.string s, .int .i64 8, .int .i64 1] w fun e w' => e = .returned (.int .u64 (q0 : Int)) ∧ Below w.heap.size w w'))
    (H3 : Hid (∀ w, Calls Try.prog 82 #[.string s, .int .i64 9, .int .i64 4] w fun e w' => e = .returned (.int .u64 (n : Int)) ∧ Below w.heap.size w w'))
    (H4 : Hid (∀ w, Calls Try.prog 82 #[.string s, .int .i64 13, .int .i64 2] w fun e w' => e = .returned (.int .u64 (f0 : Int)) ∧ Below w.heap.size w w'))
    (H5 : Hid (∀ w, Calls Try.prog 82 #[.string s, .int .i64 15, .int .i64 2] w fun e w' => e = .returned (.int .u64 (z0 : Int)) ∧ Below w.heap.size w w'))
    (HP : Hid (∀ w, Calls Try.prog 33 #[.agg #[.int .u64 (i : Int), .bool q, .int .u32 (n : Int), .int .i64 f, .int .i64 z]] w fun e w' => e = .returned (.tuple #[.string S, .int .i64 (argE ok)]) ∧ Below w.heap.size w w')) (w : World) :
    Calls Try.prog 43 #[.string s] w fun e w' => e = .returned (.tuple #[pickV (ok && decide (S = s)) (.agg #[.int .u64 (i : Int), .bool q, .int .u32 (n : Int), .int .i64 f, .int .i64 z]) (.agg #[.int .u64 0, .bool false, .int .u32 0, .int .i64 0, .int .i64 0]), .int .i64 (errF (ok && decide (S = s)))]) ∧ Below w.heap.size w w' := by
  cases ok with
  | false =>
    replace HP : Hid (∀ w, Calls Try.prog 33 #[.agg #[.int .u64 (i : Int), .bool q, .int .u32 (n : Int), .int .i64 f, .int .i64 z]] w fun e w' => e = .returned (.tuple #[.string S, .int .i64 18]) ∧ Below w.heap.size w w') := HP
    show Calls _ _ _ _ fun e w' => e = .returned (.tuple #[.agg #[.int .u64 0, .bool false, .int .u32 0, .int .i64 0, .int .i64 0], .int .i64 19]) ∧ Below w.heap.size w w'
    go_enter Try.func43, Try.ntmps43
    go_wp2_with fail
    refine (H1.out _).mono ?_
    rintro e w1 ⟨rfl, hb⟩
    have K := (Blk.new w [.int .u64 0, .bool false, .int .u32 0, .int .i64 0, .int .i64 0] 56).below hb
    have BB := below_to (below_box w (.cells #[.int .u64 0, .bool false, .int .u32 0, .int .i64 0, .int .i64 0] 56)) hb
    clear hb
    go_wp2_with fail
    refine (H2.out _).mono ?_
    rintro e w2 ⟨rfl, hb⟩
    replace K := K.below hb
    replace BB := below_to BB hb
    clear hb
    go_wp2_with fail
    refine (H3.out _).mono ?_
    rintro e w3 ⟨rfl, hb⟩
    replace K := K.below hb
    replace BB := below_to BB hb
    clear hb
    go_wp2_with fail
    refine (H4.out _).mono ?_
    rintro e w4 ⟨rfl, hb⟩
    replace K := K.below hb
    replace BB := below_to BB hb
    clear hb
    go_wp2_with fail
    refine (H5.out _).mono ?_
    rintro e w5 ⟨rfl, hb⟩
    replace K := K.below hb
    replace BB := below_to BB hb
    clear hb
    go_upto_region 2 with (fail)
    have K2 := Blk.new w5 [.int .u64 (i : Int), .bool q, .int .u32 (n : Int), .int .i64 f, .int .i64 z] 56
    replace K := K.below (below_box w5 (.cells #[.int .u64 (i : Int), .bool q, .int .u32 (n : Int), .int .i64 f, .int .i64 z] 56))
    replace BB := below_to BB (below_box w5 (.cells #[.int .u64 (i : Int), .bool q, .int .u32 (n : Int), .int .i64 f, .int .i64 z] 56))
    generalize w5.alloc (.cells #[.int .u64 (i : Int), .bool q, .int .u32 (n : Int), .int .i64 f, .int .i64 z] 56) = wa at K K2 BB ⊢
    generalize w5.heap.size = g2 at K2 ⊢
    have v0 := K2.cell 0 _ rfl
    have v1 := K2.cell 1 _ rfl
    have v2 := K2.cell 2 _ rfl
    have v3 := K2.cell 3 _ rfl
    have v4 := K2.cell 4 _ rfl
    go_wp2_with fail
    refine (HP.out _).mono ?_
    rintro e wb ⟨rfl, hb⟩
    replace K := K.below hb
    replace K2 := K2.below hb
    replace BB := below_to BB hb
    clear hb v0 v1 v2 v3 v4
    have x0 := K.cell 0 _ rfl
    have y0 := K.froz 0 _ rfl
    have x1 := K.cell 1 _ rfl
    have y1 := K.froz 1 _ rfl
    have x2 := K.cell 2 _ rfl
    have y2 := K.froz 2 _ rfl
    have x3 := K.cell 3 _ rfl
    have y3 := K.froz 3 _ rfl
    have x4 := K.cell 4 _ rfl
    have y4 := K.froz 4 _ rfl
    go_wp2_with fail
    have KK := (((((K.put 0 (.int .u64 0) (by simp)).put 1 (.bool false) (by simp)).put 2 (.int .u32 0) (by simp)).put 3 (.int .i64 0) (by simp)).put 4 (.int .i64 0) (by simp))
    have z0_ := KK.cell 0 _ rfl
    have z1_ := KK.cell 1 _ rfl
    have z2_ := KK.cell 2 _ rfl
    have z3_ := KK.cell 3 _ rfl
    have z4_ := KK.cell 4 _ rfl
    refine bodyPost_ret (v := .tuple #[.agg #[.int .u64 0, .bool false, .int .u32 0, .int .i64 0, .int .i64 0], .int .i64 19]) (by simp [results, Try.results43, go_sem, z0_, z1_, z2_, z3_, z4_]) rfl ?_
    exact ⟨rfl, (((((BB.setCell (p := ⟨w.heap.size, 0, none⟩) (Nat.le_refl _) (.int .u64 0)).setCell (p := ⟨w.heap.size, 1, none⟩) (Nat.le_refl _) (.bool false)).setCell (p := ⟨w.heap.size, 2, none⟩) (Nat.le_refl _) (.int .u32 0)).setCell (p := ⟨w.heap.size, 3, none⟩) (Nat.le_refl _) (.int .i64 0)).setCell (p := ⟨w.heap.size, 4, none⟩) (Nat.le_refl _) (.int .i64 0))⟩
  | true =>
    replace HP : Hid (∀ w, Calls Try.prog 33 #[.agg #[.int .u64 (i : Int), .bool q, .int .u32 (n : Int), .int .i64 f, .int .i64 z]] w fun e w' => e = .returned (.tuple #[.string S, .int .i64 0]) ∧ Below w.heap.size w w') := HP
    by_cases hS : S = s
    · have hq_ : decide (S = s) = true := decide_eq_true hS
      rw [hq_]
      subst hS
      show Calls _ _ _ _ fun e w' => e = .returned (.tuple #[.agg #[.int .u64 (i : Int), .bool q, .int .u32 (n : Int), .int .i64 f, .int .i64 z], .int .i64 0]) ∧ Below w.heap.size w w'
      go_enter Try.func43, Try.ntmps43
      go_wp2_with fail
      refine (H1.out _).mono ?_
      rintro e w1 ⟨rfl, hb⟩
      have K := (Blk.new w [.int .u64 0, .bool false, .int .u32 0, .int .i64 0, .int .i64 0] 56).below hb
      have BB := below_to (below_box w (.cells #[.int .u64 0, .bool false, .int .u32 0, .int .i64 0, .int .i64 0] 56)) hb
      clear hb
      go_wp2_with fail
      refine (H2.out _).mono ?_
      rintro e w2 ⟨rfl, hb⟩
      replace K := K.below hb
      replace BB := below_to BB hb
      clear hb
      go_wp2_with fail
      refine (H3.out _).mono ?_
      rintro e w3 ⟨rfl, hb⟩
      replace K := K.below hb
      replace BB := below_to BB hb
      clear hb
      go_wp2_with fail
      refine (H4.out _).mono ?_
      rintro e w4 ⟨rfl, hb⟩
      replace K := K.below hb
      replace BB := below_to BB hb
      clear hb
      go_wp2_with fail
      refine (H5.out _).mono ?_
      rintro e w5 ⟨rfl, hb⟩
      replace K := K.below hb
      replace BB := below_to BB hb
      clear hb
      go_upto_region 2 with (fail)
      have K2 := Blk.new w5 [.int .u64 (i : Int), .bool q, .int .u32 (n : Int), .int .i64 f, .int .i64 z] 56
      replace K := K.below (below_box w5 (.cells #[.int .u64 (i : Int), .bool q, .int .u32 (n : Int), .int .i64 f, .int .i64 z] 56))
      replace BB := below_to BB (below_box w5 (.cells #[.int .u64 (i : Int), .bool q, .int .u32 (n : Int), .int .i64 f, .int .i64 z] 56))
      generalize w5.alloc (.cells #[.int .u64 (i : Int), .bool q, .int .u32 (n : Int), .int .i64 f, .int .i64 z] 56) = wa at K K2 BB ⊢
      generalize w5.heap.size = g2 at K2 ⊢
      have v0 := K2.cell 0 _ rfl
      have v1 := K2.cell 1 _ rfl
      have v2 := K2.cell 2 _ rfl
      have v3 := K2.cell 3 _ rfl
      have v4 := K2.cell 4 _ rfl
      go_wp2_with fail
      refine (HP.out _).mono ?_
      rintro e wb ⟨rfl, hb⟩
      replace K := K.below hb
      replace K2 := K2.below hb
      replace BB := below_to BB hb
      clear hb v0 v1 v2 v3 v4
      have x0 := K.cell 0 _ rfl
      have y0 := K.froz 0 _ rfl
      have x1 := K.cell 1 _ rfl
      have y1 := K.froz 1 _ rfl
      have x2 := K.cell 2 _ rfl
      have y2 := K.froz 2 _ rfl
      have x3 := K.cell 3 _ rfl
      have y3 := K.froz 3 _ rfl
      have x4 := K.cell 4 _ rfl
      have y4 := K.froz 4 _ rfl
      have v0 := K2.cell 0 _ rfl
      have v1 := K2.cell 1 _ rfl
      have v2 := K2.cell 2 _ rfl
      have v3 := K2.cell 3 _ rfl
      have v4 := K2.cell 4 _ rfl
      go_wp2_with fail
      have KK := (((((K.put 0 (.int .u64 (i : Int)) (by simp)).put 1 (.bool q) (by simp)).put 2 (.int .u32 (n : Int)) (by simp)).put 3 (.int .i64 f) (by simp)).put 4 (.int .i64 z) (by simp))
      have z0_ := KK.cell 0 _ rfl
      have z1_ := KK.cell 1 _ rfl
      have z2_ := KK.cell 2 _ rfl
      have z3_ := KK.cell 3 _ rfl
      have z4_ := KK.cell 4 _ rfl
      refine bodyPost_ret (v := .tuple #[.agg #[.int .u64 (i : Int), .bool q, .int .u32 (n : Int), .int .i64 f, .int .i64 z], .int .i64 0]) (by simp [results, Try.results43, go_sem, z0_, z1_, z2_, z3_, z4_]) rfl ?_
      exact ⟨rfl, (((((BB.setCell (p := ⟨w.heap.size, 0, none⟩) (Nat.le_refl _) (.int .u64 (i : Int))).setCell (p := ⟨w.heap.size, 1, none⟩) (Nat.le_refl _) (.bool q)).setCell (p := ⟨w.heap.size, 2, none⟩) (Nat.le_refl _) (.int .u32 (n : Int))).setCell (p := ⟨w.heap.size, 3, none⟩) (Nat.le_refl _) (.int .i64 f)).setCell (p := ⟨w.heap.size, 4, none⟩) (Nat.le_refl _) (.int .i64 z))⟩
    · have hq_ : decide (S = s) = false := decide_eq_false hS
      have hq2 : (S.toList == s.toList) = false := str_nbeq hS
      rw [hq_]
      show Calls _ _ _ _ fun e w' => e = .returned (.tuple #[.agg #[.int .u64 0, .bool false, .int .u32 0, .int .i64 0, .int .i64 0], .int .i64 19]) ∧ Below w.heap.size w w'
      go_enter Try.func43, Try.ntmps43
      go_wp2_with fail
      refine (H1.out _).mono ?_
      rintro e w1 ⟨rfl, hb⟩
      have K := (Blk.new w [.int .u64 0, .bool false, .int .u32 0, .int .i64 0, .int .i64 0] 56).below hb
      have BB := below_to (below_box w (.cells #[.int .u64 0, .bool false, .int .u32 0, .int .i64 0, .int .i64 0] 56)) hb
      clear hb
      go_wp2_with fail
      refine (H2.out _).mono ?_
      rintro e w2 ⟨rfl, hb⟩
      replace K := K.below hb
      replace BB := below_to BB hb
      clear hb
      go_wp2_with fail
      refine (H3.out _).mono ?_
      rintro e w3 ⟨rfl, hb⟩
      replace K := K.below hb
      replace BB := below_to BB hb
      clear hb
      go_wp2_with fail
      refine (H4.out _).mono ?_
      rintro e w4 ⟨rfl, hb⟩
      replace K := K.below hb
      replace BB := below_to BB hb
      clear hb
      go_wp2_with fail
      refine (H5.out _).mono ?_
      rintro e w5 ⟨rfl, hb⟩
      replace K := K.below hb
      replace BB := below_to BB hb
      clear hb
      go_upto_region 2 with (fail)
      have K2 := Blk.new w5 [.int .u64 (i : Int), .bool q, .int .u32 (n : Int), .int .i64 f, .int .i64 z] 56
      replace K := K.below (below_box w5 (.cells #[.int .u64 (i : Int), .bool q, .int .u32 (n : Int), .int .i64 f, .int .i64 z] 56))
      replace BB := below_to BB (below_box w5 (.cells #[.int .u64 (i : Int), .bool q, .int .u32 (n : Int), .int .i64 f, .int .i64 z] 56))
      generalize w5.alloc (.cells #[.int .u64 (i : Int), .bool q, .int .u32 (n : Int), .int .i64 f, .int .i64 z] 56) = wa at K K2 BB ⊢
      generalize w5.heap.size = g2 at K2 ⊢
      have v0 := K2.cell 0 _ rfl
      have v1 := K2.cell 1 _ rfl
      have v2 := K2.cell 2 _ rfl
      have v3 := K2.cell 3 _ rfl
      have v4 := K2.cell 4 _ rfl
      go_wp2_with fail
      refine (HP.out _).mono ?_
      rintro e wb ⟨rfl, hb⟩
      replace K := K.below hb
      replace K2 := K2.below hb
      replace BB := below_to BB hb
      clear hb v0 v1 v2 v3 v4
      have x0 := K.cell 0 _ rfl
      have y0 := K.froz 0 _ rfl
      have x1 := K.cell 1 _ rfl
      have y1 := K.froz 1 _ rfl
      have x2 := K.cell 2 _ rfl
      have y2 := K.froz 2 _ rfl
      have x3 := K.cell 3 _ rfl
      have y3 := K.froz 3 _ rfl
      have x4 := K.cell 4 _ rfl
      have y4 := K.froz 4 _ rfl
      go_wp2_with fail
      have KK := (((((K.put 0 (.int .u64 0) (by simp)).put 1 (.bool false) (by simp)).put 2 (.int .u32 0) (by simp)).put 3 (.int .i64 0) (by simp)).put 4 (.int .i64 0) (by simp))
      have z0_ := KK.cell 0 _ rfl
      have z1_ := KK.cell 1 _ rfl
      have z2_ := KK.cell 2 _ rfl
      have z3_ := KK.cell 3 _ rfl
      have z4_ := KK.cell 4 _ rfl
      refine bodyPost_ret (v := .tuple #[.agg #[.int .u64 0, .bool false, .int .u32 0, .int .i64 0, .int .i64 0], .int .i64 19]) (by simp [results, Try.results43, go_sem, z0_, z1_, z2_, z3_, z4_]) rfl ?_
      exact ⟨rfl, (((((BB.setCell (p := ⟨w.heap.size, 0, none⟩) (Nat.le_refl _) (.int .u64 0)).setCell (p := ⟨w.heap.size, 1, none⟩) (Nat.le_refl _) (.bool false)).setCell (p := ⟨w.heap.size, 2, none⟩) (Nat.le_refl _) (.int .u32 0)).setCell (p := ⟨w.heap.size, 3, none⟩) (Nat.le_refl _) (.int .i64 0)).setCell (p := ⟨w.heap.size, 4, none⟩) (Nat.le_refl _) (.int .i64 0))⟩
theorem rgetPart_main (s S : ByteArray) (n : Nat) (f z : Int) (f0 z0 : Nat) (hn : IntKind.u32.wrap (n : Int) = (n : Int)) (hf : wrap64 (f0 : Int) = f) (hz : wrap64 (z0 : Int) = z) (ok : Bool)
    (H1 : Hid (∀ w, Calls Try.prog 82 #[.string s, .int .i64 0, .int .i64 4] w fun e w' => e = .returned (.int .u64 (n : Int)) ∧ Below w.heap.size w w'))
    (H2 : Hid (∀ w, Calls Try.prog 82 #[.string s, .int .i64 4, .int .i64 2] w fun e w' => e = .returned (.int .u64 (f0 : Int)) ∧ Below w.heap.size w w'))
    (H3 : Hid (∀ w, Calls Try.prog 82 #[.string s, .int .i64 6, .int .i64 2] w fun e w' => e = .returned (.int .u64 (z0 : Int)) ∧ Below w.heap.size w w'))
    (HP : Hid (∀ w, Calls Try.prog 37 #[.agg #[.int .u32 (n : Int), .int .i64 f, .int .i64 z]] w fun e w' => e = .returned (.tuple #[.string S, .int .i64 (argE ok)]) ∧ Below w.heap.size w w')) (w : World) :
    Calls Try.prog 47 #[.string s] w fun e w' => e = .returned (.tuple #[pickV (ok && decide (S = s)) (.agg #[.int .u32 (n : Int), .int .i64 f, .int .i64 z]) (.agg #[.int .u32 0, .int .i64 0, .int .i64 0]), .int .i64 (errF (ok && decide (S = s)))]) ∧ Below w.heap.size w w' := by
  cases ok with
  | false =>
    replace HP : Hid (∀ w, Calls Try.prog 37 #[.agg #[.int .u32 (n : Int), .int .i64 f, .int .i64 z]] w fun e w' => e = .returned (.tuple #[.string S, .int .i64 18]) ∧ Below w.heap.size w w') := HP
    show Calls _ _ _ _ fun e w' => e = .returned (.tuple #[.agg #[.int .u32 0, .int .i64 0, .int .i64 0], .int .i64 19]) ∧ Below w.heap.size w w'
    go_enter Try.func47, Try.ntmps47
    go_wp2_with fail
    refine (H1.out _).mono ?_
    rintro e w1 ⟨rfl, hb⟩
    have K := (Blk.new w [.int .u32 0, .int .i64 0, .int .i64 0] 58).below hb
    have BB := below_to (below_box w (.cells #[.int .u32 0, .int .i64 0, .int .i64 0] 58)) hb
    clear hb
    go_wp2_with fail
    refine (H2.out _).mono ?_
    rintro e w2 ⟨rfl, hb⟩
    replace K := K.below hb
    replace BB := below_to BB hb
    clear hb
    go_wp2_with fail
    refine (H3.out _).mono ?_
    rintro e w3 ⟨rfl, hb⟩
    replace K := K.below hb
    replace BB := below_to BB hb
    clear hb
    go_upto_region 2 with (fail)
    have K2 := Blk.new w3 [.int .u32 (n : Int), .int .i64 f, .int .i64 z] 58
    replace K := K.below (below_box w3 (.cells #[.int .u32 (n : Int), .int .i64 f, .int .i64 z] 58))
    replace BB := below_to BB (below_box w3 (.cells #[.int .u32 (n : Int), .int .i64 f, .int .i64 z] 58))
    generalize w3.alloc (.cells #[.int .u32 (n : Int), .int .i64 f, .int .i64 z] 58) = wa at K K2 BB ⊢
    generalize w3.heap.size = g2 at K2 ⊢
    have v0 := K2.cell 0 _ rfl
    have v1 := K2.cell 1 _ rfl
    have v2 := K2.cell 2 _ rfl
    go_wp2_with fail
    refine (HP.out _).mono ?_
    rintro e wb ⟨rfl, hb⟩
    replace K := K.below hb
    replace K2 := K2.below hb
    replace BB := below_to BB hb
    clear hb v0 v1 v2
    have x0 := K.cell 0 _ rfl
    have y0 := K.froz 0 _ rfl
    have x1 := K.cell 1 _ rfl
    have y1 := K.froz 1 _ rfl
    have x2 := K.cell 2 _ rfl
    have y2 := K.froz 2 _ rfl
    go_wp2_with fail
    have KK := (((K.put 0 (.int .u32 0) (by simp)).put 1 (.int .i64 0) (by simp)).put 2 (.int .i64 0) (by simp))
    have z0_ := KK.cell 0 _ rfl
    have z1_ := KK.cell 1 _ rfl
    have z2_ := KK.cell 2 _ rfl
    refine bodyPost_ret (v := .tuple #[.agg #[.int .u32 0, .int .i64 0, .int .i64 0], .int .i64 19]) (by simp [results, Try.results47, go_sem, z0_, z1_, z2_]) rfl ?_
    exact ⟨rfl, (((BB.setCell (p := ⟨w.heap.size, 0, none⟩) (Nat.le_refl _) (.int .u32 0)).setCell (p := ⟨w.heap.size, 1, none⟩) (Nat.le_refl _) (.int .i64 0)).setCell (p := ⟨w.heap.size, 2, none⟩) (Nat.le_refl _) (.int .i64 0))⟩
  | true =>
    replace HP : Hid (∀ w, Calls Try.prog 37 #[.agg #[.int .u32 (n : Int), .int .i64 f, .int .i64 z]] w fun e w' => e = .returned (.tuple #[.string S, .int .i64 0]) ∧ Below w.heap.size w w') := HP
    by_cases hS : S = s
    · have hq_ : decide (S = s) = true := decide_eq_true hS
      rw [hq_]
      subst hS
      show Calls _ _ _ _ fun e w' => e = .returned (.tuple #[.agg #[.int .u32 (n : Int), .int .i64 f, .int .i64 z], .int .i64 0]) ∧ Below w.heap.size w w'
      go_enter Try.func47, Try.ntmps47
      go_wp2_with fail
      refine (H1.out _).mono ?_
      rintro e w1 ⟨rfl, hb⟩
      have K := (Blk.new w [.int .u32 0, .int .i64 0, .int .i64 0] 58).below hb
      have BB := below_to (below_box w (.cells #[.int .u32 0, .int .i64 0, .int .i64 0] 58)) hb
      clear hb
      go_wp2_with fail
      refine (H2.out _).mono ?_
      rintro e w2 ⟨rfl, hb⟩
      replace K := K.below hb
      replace BB := below_to BB hb
      clear hb
      go_wp2_with fail
      refine (H3.out _).mono ?_
      rintro e w3 ⟨rfl, hb⟩
      replace K := K.below hb
      replace BB := below_to BB hb
      clear hb
      go_upto_region 2 with (fail)
      have K2 := Blk.new w3 [.int .u32 (n : Int), .int .i64 f, .int .i64 z] 58
      replace K := K.below (below_box w3 (.cells #[.int .u32 (n : Int), .int .i64 f, .int .i64 z] 58))
      replace BB := below_to BB (below_box w3 (.cells #[.int .u32 (n : Int), .int .i64 f, .int .i64 z] 58))
      generalize w3.alloc (.cells #[.int .u32 (n : Int), .int .i64 f, .int .i64 z] 58) = wa at K K2 BB ⊢
      generalize w3.heap.size = g2 at K2 ⊢
      have v0 := K2.cell 0 _ rfl
      have v1 := K2.cell 1 _ rfl
      have v2 := K2.cell 2 _ rfl
      go_wp2_with fail
      refine (HP.out _).mono ?_
      rintro e wb ⟨rfl, hb⟩
      replace K := K.below hb
      replace K2 := K2.below hb
      replace BB := below_to BB hb
      clear hb v0 v1 v2
      have x0 := K.cell 0 _ rfl
      have y0 := K.froz 0 _ rfl
      have x1 := K.cell 1 _ rfl
      have y1 := K.froz 1 _ rfl
      have x2 := K.cell 2 _ rfl
      have y2 := K.froz 2 _ rfl
      have v0 := K2.cell 0 _ rfl
      have v1 := K2.cell 1 _ rfl
      have v2 := K2.cell 2 _ rfl
      go_wp2_with fail
      have KK := (((K.put 0 (.int .u32 (n : Int)) (by simp)).put 1 (.int .i64 f) (by simp)).put 2 (.int .i64 z) (by simp))
      have z0_ := KK.cell 0 _ rfl
      have z1_ := KK.cell 1 _ rfl
      have z2_ := KK.cell 2 _ rfl
      refine bodyPost_ret (v := .tuple #[.agg #[.int .u32 (n : Int), .int .i64 f, .int .i64 z], .int .i64 0]) (by simp [results, Try.results47, go_sem, z0_, z1_, z2_]) rfl ?_
      exact ⟨rfl, (((BB.setCell (p := ⟨w.heap.size, 0, none⟩) (Nat.le_refl _) (.int .u32 (n : Int))).setCell (p := ⟨w.heap.size, 1, none⟩) (Nat.le_refl _) (.int .i64 f)).setCell (p := ⟨w.heap.size, 2, none⟩) (Nat.le_refl _) (.int .i64 z))⟩
    · have hq_ : decide (S = s) = false := decide_eq_false hS
      have hq2 : (S.toList == s.toList) = false := str_nbeq hS
      rw [hq_]
      show Calls _ _ _ _ fun e w' => e = .returned (.tuple #[.agg #[.int .u32 0, .int .i64 0, .int .i64 0], .int .i64 19]) ∧ Below w.heap.size w w'
      go_enter Try.func47, Try.ntmps47
      go_wp2_with fail
      refine (H1.out _).mono ?_
      rintro e w1 ⟨rfl, hb⟩
      have K := (Blk.new w [.int .u32 0, .int .i64 0, .int .i64 0] 58).below hb
      have BB := below_to (below_box w (.cells #[.int .u32 0, .int .i64 0, .int .i64 0] 58)) hb
      clear hb
      go_wp2_with fail
      refine (H2.out _).mono ?_
      rintro e w2 ⟨rfl, hb⟩
      replace K := K.below hb
      replace BB := below_to BB hb
      clear hb
      go_wp2_with fail
      refine (H3.out _).mono ?_
      rintro e w3 ⟨rfl, hb⟩
      replace K := K.below hb
      replace BB := below_to BB hb
      clear hb
      go_upto_region 2 with (fail)
      have K2 := Blk.new w3 [.int .u32 (n : Int), .int .i64 f, .int .i64 z] 58
      replace K := K.below (below_box w3 (.cells #[.int .u32 (n : Int), .int .i64 f, .int .i64 z] 58))
      replace BB := below_to BB (below_box w3 (.cells #[.int .u32 (n : Int), .int .i64 f, .int .i64 z] 58))
      generalize w3.alloc (.cells #[.int .u32 (n : Int), .int .i64 f, .int .i64 z] 58) = wa at K K2 BB ⊢
      generalize w3.heap.size = g2 at K2 ⊢
      have v0 := K2.cell 0 _ rfl
      have v1 := K2.cell 1 _ rfl
      have v2 := K2.cell 2 _ rfl
      go_wp2_with fail
      refine (HP.out _).mono ?_
      rintro e wb ⟨rfl, hb⟩
      replace K := K.below hb
      replace K2 := K2.below hb
      replace BB := below_to BB hb
      clear hb v0 v1 v2
      have x0 := K.cell 0 _ rfl
      have y0 := K.froz 0 _ rfl
      have x1 := K.cell 1 _ rfl
      have y1 := K.froz 1 _ rfl
      have x2 := K.cell 2 _ rfl
      have y2 := K.froz 2 _ rfl
      go_wp2_with fail
      have KK := (((K.put 0 (.int .u32 0) (by simp)).put 1 (.int .i64 0) (by simp)).put 2 (.int .i64 0) (by simp))
      have z0_ := KK.cell 0 _ rfl
      have z1_ := KK.cell 1 _ rfl
      have z2_ := KK.cell 2 _ rfl
      refine bodyPost_ret (v := .tuple #[.agg #[.int .u32 0, .int .i64 0, .int .i64 0], .int .i64 19]) (by simp [results, Try.results47, go_sem, z0_, z1_, z2_]) rfl ?_
      exact ⟨rfl, (((BB.setCell (p := ⟨w.heap.size, 0, none⟩) (Nat.le_refl _) (.int .u32 0)).setCell (p := ⟨w.heap.size, 1, none⟩) (Nat.le_refl _) (.int .i64 0)).setCell (p := ⟨w.heap.size, 2, none⟩) (Nat.le_refl _) (.int .i64 0))⟩
theorem rgetTenant_any (s : ByteArray) (hs : s.size ≤ 1000) (w : World) :
    Calls Try.prog 39 #[.string s] w fun e w' => e = .returned (.tuple #[pickV (okGTenant s) (vTenant s) zTenant, .int .i64 (errF (okGTenant s))]) ∧ Below w.heap.size w w' := by
  have h2 := pair_any s hs 16 (by omega) 0
  rw [wrap_zero, wrap_zero] at h2
  exact rgetTenant_main s _ _ _ _ _ _ (Lib.hid (pair_any s hs 0 (by omega) 1)) (Lib.hid h2) (Lib.hid (fun w => rputTenant_any _ _ _ _ w)) w
theorem rgetBucket_any (s : ByteArray) (hs : s.size ≤ 1000) (w : World) :
    Calls Try.prog 41 #[.string s] w fun e w' => e = .returned (.tuple #[pickV (okGBucket s) (vBucket s) zBucket, .int .i64 (errF (okGBucket s))]) ∧ Below w.heap.size w w' := by
  have h2 := pair_any s hs 17 (by omega) 0
  rw [wrap_zero, wrap_zero] at h2
  exact rgetBucket_main s _ (mAt s 0 1) _ _ _ _ _ _ (wrapEq _).symm _ (Lib.hid (fun w => rnumber_any s hs 0 1 (by omega) (by omega) (by omega) w)) (Lib.hid (pair_any s hs 1 (by omega) 1)) (Lib.hid h2) (Lib.hid (fun w => rnumber_any s hs 33 8 (by omega) (by omega) (by omega) w)) (Lib.hid (fun w => rputBucket_any _ _ _ _ _ _ (Nat.lt_of_lt_of_eq (numAt_lt s 33 8) (by decide)) w)) w
theorem rgetVersion_any (s : ByteArray) (hs : s.size ≤ 1000) (w : World) :
    Calls Try.prog 43 #[.string s] w fun e w' => e = .returned (.tuple #[pickV (okGVersion s) (vVersion s) zVersion, .int .i64 (errF (okGVersion s))]) ∧ Below w.heap.size w w' := by
  have h4 : numAt s 9 4 < 4294967296 := Nat.lt_of_lt_of_eq (numAt_lt s 9 4) (by decide)
  exact rgetVersion_main s _ (numAt s 0 8) _ (numAt s 9 4) (mAt s 13 2) (mAt s 15 2) (numAt s 8 1) (numAt s 13 2) (numAt s 15 2) rfl (by rw [IntKind.wrap_u32]; omega) (wrapEq _).symm (wrapEq _).symm _ (Lib.hid (fun w => rnumber_any s hs 0 8 (by omega) (by omega) (by omega) w)) (Lib.hid (fun w => rnumber_any s hs 8 1 (by omega) (by omega) (by omega) w)) (Lib.hid (fun w => rnumber_any s hs 9 4 (by omega) (by omega) (by omega) w)) (Lib.hid (fun w => rnumber_any s hs 13 2 (by omega) (by omega) (by omega) w)) (Lib.hid (fun w => rnumber_any s hs 15 2 (by omega) (by omega) (by omega) w)) (Lib.hid (fun w => rputVersion_any _ (Nat.lt_of_lt_of_eq (numAt_lt s 0 8) (by decide)) _ _ h4 _ _ w)) w
theorem rgetPart_any (s : ByteArray) (hs : s.size ≤ 1000) (w : World) :
    Calls Try.prog 47 #[.string s] w fun e w' => e = .returned (.tuple #[pickV (okGPart s) (vPart s) zPart, .int .i64 (errF (okGPart s))]) ∧ Below w.heap.size w w' := by
  have h4 : numAt s 0 4 < 4294967296 := Nat.lt_of_lt_of_eq (numAt_lt s 0 4) (by decide)
  exact rgetPart_main s _ (numAt s 0 4) (mAt s 4 2) (mAt s 6 2) (numAt s 4 2) (numAt s 6 2) (by rw [IntKind.wrap_u32]; omega) (wrapEq _).symm (wrapEq _).symm _ (Lib.hid (fun w => rnumber_any s hs 0 4 (by omega) (by omega) (by omega) w)) (Lib.hid (fun w => rnumber_any s hs 4 2 (by omega) (by omega) (by omega) w)) (Lib.hid (fun w => rnumber_any s hs 6 2 (by omega) (by omega) (by omega) w)) (Lib.hid (fun w => rputPart_any _ h4 _ _ w)) w
theorem okGU (s : ByteArray) : okGUpload s = nameB s := by
  unfold okGUpload
  cases h : nameB s with
  | false => rfl
  | true =>
    have e1 : encS true [s] = s := by show joinB [s] = s; rw [joinB_list]; simp [bs_of]
    rw [e1]; simp
theorem rgetUpload_any (s : ByteArray) (hs : s.size ≤ 1000) (w : World) :
    Calls Try.prog 45 #[.string s] w fun e w' => e = .returned (.tuple #[pickV (okGUpload s) (.string s) (.string ⟨#[]⟩), .int .i64 (errF (okGUpload s))]) ∧ Below w.heap.size w w' := by
  have H1 : Hid (∀ w, Calls Try.prog 60 #[.string s] w fun e w' => e = .returned (.bool (nameB s)) ∧ w = w') := Lib.hid (fun w => rkey_any s (by omega) w)
  rw [okGU]
  generalize nameB s = V at H1 ⊢
  cases V with
  | false =>
    show Calls _ _ _ _ fun e w' => e = .returned (.tuple #[.string ⟨#[]⟩, .int .i64 19]) ∧ Below w.heap.size w w'
    go_enter Try.func45, Try.ntmps45
    go_wp2_with fail
    refine (H1.out _).mono ?_
    rintro e w1 ⟨rfl, rfl⟩
    go_wp2_with fail
    go_ret2
    exact ⟨rfl, Below.refl _ _⟩
  | true =>
    show Calls _ _ _ _ fun e w' => e = .returned (.tuple #[.string s, .int .i64 0]) ∧ Below w.heap.size w w'
    go_enter Try.func45, Try.ntmps45
    go_wp2_with fail
    refine (H1.out _).mono ?_
    rintro e w1 ⟨rfl, rfl⟩
    go_wp2_with fail
    go_ret2
    exact ⟨rfl, Below.refl _ _⟩
end Go.Proofs.Yteekjndhehnpaaa
