/- Contracts: record's decoded, at five types. -/
import Derived.Test.YteekjndhehnpaaaSK
import Derived.Test.YteekjndhehnpaaaSH
namespace Go.Proofs.Yteekjndhehnpaaa
open Go.RowKit
set_option maxRecDepth 100000
set_option linter.unusedVariables false
set_option linter.unusedSimpArgs false
set_option maxHeartbeats 4000000
def pickV (b : Bool) (x y : Value) : Value := match b with | true => x | false => y
def errF (b : Bool) : Int := match b with | true => 0 | false => 19
theorem decTenant (s S : ByteArray) (a b c d : Int) (ok : Bool)
    (HR : Hid (∀ w bb, RdAt w bb s 0 → Calls Try.prog 75 #[.pointer (some ⟨bb, 0, none⟩)] w fun x w' => x = .returned (.agg #[.int .i64 a, .int .i64 b, .int .i64 c, .int .i64 d]) ∧ Only bb w w'))
    (HP : Hid (∀ w, Calls Try.prog 28 #[.agg #[.int .i64 a, .int .i64 b, .int .i64 c, .int .i64 d]] w fun e w' => e = .returned (.tuple #[.string S, .int .i64 (argE ok)]) ∧ Below w.heap.size w w')) (w : World) :
    Calls Try.prog 74 #[.string s, .func (.func 28) #[] #[], .func (.func 75) #[] #[]] w fun e w' => e = .returned (.tuple #[pickV (ok && decide (S = s)) (.agg #[.int .i64 a, .int .i64 b, .int .i64 c, .int .i64 d]) (.agg #[.int .i64 0, .int .i64 0, .int .i64 0, .int .i64 0]), .int .i64 (errF (ok && decide (S = s)))]) ∧ Below w.heap.size w w' := by
  have HO := Lib.hid (fun w => rdopen_any s w)
  cases ok with
  | false =>
    replace HP : Hid (∀ w, Calls Try.prog 28 #[.agg #[.int .i64 a, .int .i64 b, .int .i64 c, .int .i64 d]] w fun e w' => e = .returned (.tuple #[.string S, .int .i64 18]) ∧ Below w.heap.size w w') := HP
    show Calls _ _ _ _ fun e w' => e = .returned (.tuple #[.agg #[.int .i64 0, .int .i64 0, .int .i64 0, .int .i64 0], .int .i64 19]) ∧ Below w.heap.size w w'
    go_enter Try.func74, Try.ntmps74
    go_wp2_with fail
    refine (HO.out _).mono ?_
    rintro e w1 ⟨rfl, hr1, hb1, hz1⟩
    have hz0 : (w.alloc (.cells #[.int .i64 0, .int .i64 0, .int .i64 0, .int .i64 0] 60)).heap.size = w.heap.size + 1 := by simp
    have K := (Blk.new w [.int .i64 0, .int .i64 0, .int .i64 0, .int .i64 0] 60).below hb1
    have BB := below_to (below_box w (.cells #[.int .i64 0, .int .i64 0, .int .i64 0, .int .i64 0] 60)) hb1
    rw [hz0] at hr1 hz1
    clear hb1
    go_wp2_with fail
    refine (HR.out _ _ hr1).mono ?_
    rintro e w2 ⟨rfl, ho2⟩
    replace K := K.only ho2 (by omega)
    replace BB := ho2.below BB (by omega) (by omega)
    have hz2 := ho2.size
    clear ho2 hr1
    go_upto_region 2 with (fail)
    have K2 := Blk.new w2 [.int .i64 a, .int .i64 b, .int .i64 c, .int .i64 d] 60
    replace K := K.below (below_box w2 (.cells #[.int .i64 a, .int .i64 b, .int .i64 c, .int .i64 d] 60))
    replace BB := below_to BB (below_box w2 (.cells #[.int .i64 a, .int .i64 b, .int .i64 c, .int .i64 d] 60))
    generalize w2.alloc (.cells #[.int .i64 a, .int .i64 b, .int .i64 c, .int .i64 d] 60) = w3 at K K2 BB ⊢
    generalize w2.heap.size = g2 at K2 hz2 ⊢
    have v0 := K2.cell 0 _ rfl
    have v1 := K2.cell 1 _ rfl
    have v2 := K2.cell 2 _ rfl
    have v3 := K2.cell 3 _ rfl
    go_wp2_with fail
    refine (HP.out _).mono ?_
    rintro e w5 ⟨rfl, hb⟩
    replace K := K.below hb
    replace K2 := K2.below hb
    replace BB := below_to BB hb
    clear hb v0 v1 v2 v3
    go_upto_region 5 with (fail)
    have K4 := Blk.new w5 [.int .i64 0, .int .i64 0, .int .i64 0, .int .i64 0] 60
    replace K := K.below (below_box w5 (.cells #[.int .i64 0, .int .i64 0, .int .i64 0, .int .i64 0] 60))
    replace BB := below_to BB (below_box w5 (.cells #[.int .i64 0, .int .i64 0, .int .i64 0, .int .i64 0] 60))
    generalize w5.alloc (.cells #[.int .i64 0, .int .i64 0, .int .i64 0, .int .i64 0] 60) = w6 at K K4 BB ⊢
    generalize w5.heap.size = g4 at K4 ⊢
    have x0 := K.cell 0 _ rfl
    have y0 := K.froz 0 _ rfl
    have x1 := K.cell 1 _ rfl
    have y1 := K.froz 1 _ rfl
    have x2 := K.cell 2 _ rfl
    have y2 := K.froz 2 _ rfl
    have x3 := K.cell 3 _ rfl
    have y3 := K.froz 3 _ rfl
    have u0 := K4.cell 0 _ rfl
    have u1 := K4.cell 1 _ rfl
    have u2 := K4.cell 2 _ rfl
    have u3 := K4.cell 3 _ rfl
    go_wp2_with fail
    have KK := ((((K.put 0 (.int .i64 0) (by simp)).put 1 (.int .i64 0) (by simp)).put 2 (.int .i64 0) (by simp)).put 3 (.int .i64 0) (by simp))
    have z0 := KK.cell 0 _ rfl
    have z1 := KK.cell 1 _ rfl
    have z2 := KK.cell 2 _ rfl
    have z3 := KK.cell 3 _ rfl
    refine bodyPost_ret (v := .tuple #[.agg #[.int .i64 0, .int .i64 0, .int .i64 0, .int .i64 0], .int .i64 19]) (by simp [results, Try.results74, go_sem, z0, z1, z2, z3]) rfl ?_
    exact ⟨rfl, ((((BB.setCell (p := ⟨w.heap.size, 0, none⟩) (Nat.le_refl _) (.int .i64 0)).setCell (p := ⟨w.heap.size, 1, none⟩) (Nat.le_refl _) (.int .i64 0)).setCell (p := ⟨w.heap.size, 2, none⟩) (Nat.le_refl _) (.int .i64 0)).setCell (p := ⟨w.heap.size, 3, none⟩) (Nat.le_refl _) (.int .i64 0))⟩
  | true =>
    replace HP : Hid (∀ w, Calls Try.prog 28 #[.agg #[.int .i64 a, .int .i64 b, .int .i64 c, .int .i64 d]] w fun e w' => e = .returned (.tuple #[.string S, .int .i64 0]) ∧ Below w.heap.size w w') := HP
    by_cases hS : S = s
    · have hq : decide (S = s) = true := decide_eq_true hS
      rw [hq]
      subst hS
      show Calls _ _ _ _ fun e w' => e = .returned (.tuple #[.agg #[.int .i64 a, .int .i64 b, .int .i64 c, .int .i64 d], .int .i64 0]) ∧ Below w.heap.size w w'
      go_enter Try.func74, Try.ntmps74
      go_wp2_with fail
      refine (HO.out _).mono ?_
      rintro e w1 ⟨rfl, hr1, hb1, hz1⟩
      have hz0 : (w.alloc (.cells #[.int .i64 0, .int .i64 0, .int .i64 0, .int .i64 0] 60)).heap.size = w.heap.size + 1 := by simp
      have K := (Blk.new w [.int .i64 0, .int .i64 0, .int .i64 0, .int .i64 0] 60).below hb1
      have BB := below_to (below_box w (.cells #[.int .i64 0, .int .i64 0, .int .i64 0, .int .i64 0] 60)) hb1
      rw [hz0] at hr1 hz1
      clear hb1
      go_wp2_with fail
      refine (HR.out _ _ hr1).mono ?_
      rintro e w2 ⟨rfl, ho2⟩
      replace K := K.only ho2 (by omega)
      replace BB := ho2.below BB (by omega) (by omega)
      have hz2 := ho2.size
      clear ho2 hr1
      go_upto_region 2 with (fail)
      have K2 := Blk.new w2 [.int .i64 a, .int .i64 b, .int .i64 c, .int .i64 d] 60
      replace K := K.below (below_box w2 (.cells #[.int .i64 a, .int .i64 b, .int .i64 c, .int .i64 d] 60))
      replace BB := below_to BB (below_box w2 (.cells #[.int .i64 a, .int .i64 b, .int .i64 c, .int .i64 d] 60))
      generalize w2.alloc (.cells #[.int .i64 a, .int .i64 b, .int .i64 c, .int .i64 d] 60) = w3 at K K2 BB ⊢
      generalize w2.heap.size = g2 at K2 hz2 ⊢
      have v0 := K2.cell 0 _ rfl
      have v1 := K2.cell 1 _ rfl
      have v2 := K2.cell 2 _ rfl
      have v3 := K2.cell 3 _ rfl
      go_wp2_with fail
      refine (HP.out _).mono ?_
      rintro e w5 ⟨rfl, hb⟩
      replace K := K.below hb
      replace K2 := K2.below hb
      replace BB := below_to BB hb
      clear hb v0 v1 v2 v3
      have x0 := K.cell 0 _ rfl
      have y0 := K.froz 0 _ rfl
      have x1 := K.cell 1 _ rfl
      have y1 := K.froz 1 _ rfl
      have x2 := K.cell 2 _ rfl
      have y2 := K.froz 2 _ rfl
      have x3 := K.cell 3 _ rfl
      have y3 := K.froz 3 _ rfl
      have v0 := K2.cell 0 _ rfl
      have v1 := K2.cell 1 _ rfl
      have v2 := K2.cell 2 _ rfl
      have v3 := K2.cell 3 _ rfl
      go_wp2_with fail
      have KK := ((((K.put 0 (.int .i64 a) (by simp)).put 1 (.int .i64 b) (by simp)).put 2 (.int .i64 c) (by simp)).put 3 (.int .i64 d) (by simp))
      have z0 := KK.cell 0 _ rfl
      have z1 := KK.cell 1 _ rfl
      have z2 := KK.cell 2 _ rfl
      have z3 := KK.cell 3 _ rfl
      refine bodyPost_ret (v := .tuple #[.agg #[.int .i64 a, .int .i64 b, .int .i64 c, .int .i64 d], .int .i64 0]) (by simp [results, Try.results74, go_sem, z0, z1, z2, z3]) rfl ?_
      exact ⟨rfl, ((((BB.setCell (p := ⟨w.heap.size, 0, none⟩) (Nat.le_refl _) (.int .i64 a)).setCell (p := ⟨w.heap.size, 1, none⟩) (Nat.le_refl _) (.int .i64 b)).setCell (p := ⟨w.heap.size, 2, none⟩) (Nat.le_refl _) (.int .i64 c)).setCell (p := ⟨w.heap.size, 3, none⟩) (Nat.le_refl _) (.int .i64 d))⟩
    · have hq : decide (S = s) = false := decide_eq_false hS
      have hq2 : (S.toList == s.toList) = false := by
        rw [beq_eq_false_iff_ne]
        intro e
        rw [ByteArray.toList_eq, ByteArray.toList_eq] at e
        exact hS (by rw [← bs_of S, ← bs_of s, e])
      rw [hq]
      show Calls _ _ _ _ fun e w' => e = .returned (.tuple #[.agg #[.int .i64 0, .int .i64 0, .int .i64 0, .int .i64 0], .int .i64 19]) ∧ Below w.heap.size w w'
      go_enter Try.func74, Try.ntmps74
      go_wp2_with fail
      refine (HO.out _).mono ?_
      rintro e w1 ⟨rfl, hr1, hb1, hz1⟩
      have hz0 : (w.alloc (.cells #[.int .i64 0, .int .i64 0, .int .i64 0, .int .i64 0] 60)).heap.size = w.heap.size + 1 := by simp
      have K := (Blk.new w [.int .i64 0, .int .i64 0, .int .i64 0, .int .i64 0] 60).below hb1
      have BB := below_to (below_box w (.cells #[.int .i64 0, .int .i64 0, .int .i64 0, .int .i64 0] 60)) hb1
      rw [hz0] at hr1 hz1
      clear hb1
      go_wp2_with fail
      refine (HR.out _ _ hr1).mono ?_
      rintro e w2 ⟨rfl, ho2⟩
      replace K := K.only ho2 (by omega)
      replace BB := ho2.below BB (by omega) (by omega)
      have hz2 := ho2.size
      clear ho2 hr1
      go_upto_region 2 with (fail)
      have K2 := Blk.new w2 [.int .i64 a, .int .i64 b, .int .i64 c, .int .i64 d] 60
      replace K := K.below (below_box w2 (.cells #[.int .i64 a, .int .i64 b, .int .i64 c, .int .i64 d] 60))
      replace BB := below_to BB (below_box w2 (.cells #[.int .i64 a, .int .i64 b, .int .i64 c, .int .i64 d] 60))
      generalize w2.alloc (.cells #[.int .i64 a, .int .i64 b, .int .i64 c, .int .i64 d] 60) = w3 at K K2 BB ⊢
      generalize w2.heap.size = g2 at K2 hz2 ⊢
      have v0 := K2.cell 0 _ rfl
      have v1 := K2.cell 1 _ rfl
      have v2 := K2.cell 2 _ rfl
      have v3 := K2.cell 3 _ rfl
      go_wp2_with fail
      refine (HP.out _).mono ?_
      rintro e w5 ⟨rfl, hb⟩
      replace K := K.below hb
      replace K2 := K2.below hb
      replace BB := below_to BB hb
      clear hb v0 v1 v2 v3
      go_upto_region 5 with (fail)
      have K4 := Blk.new w5 [.int .i64 0, .int .i64 0, .int .i64 0, .int .i64 0] 60
      replace K := K.below (below_box w5 (.cells #[.int .i64 0, .int .i64 0, .int .i64 0, .int .i64 0] 60))
      replace BB := below_to BB (below_box w5 (.cells #[.int .i64 0, .int .i64 0, .int .i64 0, .int .i64 0] 60))
      generalize w5.alloc (.cells #[.int .i64 0, .int .i64 0, .int .i64 0, .int .i64 0] 60) = w6 at K K4 BB ⊢
      generalize w5.heap.size = g4 at K4 ⊢
      have x0 := K.cell 0 _ rfl
      have y0 := K.froz 0 _ rfl
      have x1 := K.cell 1 _ rfl
      have y1 := K.froz 1 _ rfl
      have x2 := K.cell 2 _ rfl
      have y2 := K.froz 2 _ rfl
      have x3 := K.cell 3 _ rfl
      have y3 := K.froz 3 _ rfl
      have u0 := K4.cell 0 _ rfl
      have u1 := K4.cell 1 _ rfl
      have u2 := K4.cell 2 _ rfl
      have u3 := K4.cell 3 _ rfl
      go_wp2_with fail
      have KK := ((((K.put 0 (.int .i64 0) (by simp)).put 1 (.int .i64 0) (by simp)).put 2 (.int .i64 0) (by simp)).put 3 (.int .i64 0) (by simp))
      have z0 := KK.cell 0 _ rfl
      have z1 := KK.cell 1 _ rfl
      have z2 := KK.cell 2 _ rfl
      have z3 := KK.cell 3 _ rfl
      refine bodyPost_ret (v := .tuple #[.agg #[.int .i64 0, .int .i64 0, .int .i64 0, .int .i64 0], .int .i64 19]) (by simp [results, Try.results74, go_sem, z0, z1, z2, z3]) rfl ?_
      exact ⟨rfl, ((((BB.setCell (p := ⟨w.heap.size, 0, none⟩) (Nat.le_refl _) (.int .i64 0)).setCell (p := ⟨w.heap.size, 1, none⟩) (Nat.le_refl _) (.int .i64 0)).setCell (p := ⟨w.heap.size, 2, none⟩) (Nat.le_refl _) (.int .i64 0)).setCell (p := ⟨w.heap.size, 3, none⟩) (Nat.le_refl _) (.int .i64 0))⟩
theorem decBucket (s S : ByteArray) (m a b c d : Int) (n : Nat) (ok : Bool)
    (HR : Hid (∀ w bb, RdAt w bb s 0 → Calls Try.prog 80 #[.pointer (some ⟨bb, 0, none⟩)] w fun x w' => x = .returned (.agg #[.int .i64 m, .int .i64 a, .int .i64 b, .int .i64 c, .int .i64 d, .int .u64 (n : Int)]) ∧ Only bb w w'))
    (HP : Hid (∀ w, Calls Try.prog 30 #[.agg #[.int .i64 m, .int .i64 a, .int .i64 b, .int .i64 c, .int .i64 d, .int .u64 (n : Int)]] w fun e w' => e = .returned (.tuple #[.string S, .int .i64 (argE ok)]) ∧ Below w.heap.size w w')) (w : World) :
    Calls Try.prog 79 #[.string s, .func (.func 30) #[] #[], .func (.func 80) #[] #[]] w fun e w' => e = .returned (.tuple #[pickV (ok && decide (S = s)) (.agg #[.int .i64 m, .int .i64 a, .int .i64 b, .int .i64 c, .int .i64 d, .int .u64 (n : Int)]) (.agg #[.int .i64 0, .int .i64 0, .int .i64 0, .int .i64 0, .int .i64 0, .int .u64 0]), .int .i64 (errF (ok && decide (S = s)))]) ∧ Below w.heap.size w w' := by
  have HO := Lib.hid (fun w => rdopen_any s w)
  cases ok with
  | false =>
    replace HP : Hid (∀ w, Calls Try.prog 30 #[.agg #[.int .i64 m, .int .i64 a, .int .i64 b, .int .i64 c, .int .i64 d, .int .u64 (n : Int)]] w fun e w' => e = .returned (.tuple #[.string S, .int .i64 18]) ∧ Below w.heap.size w w') := HP
    show Calls _ _ _ _ fun e w' => e = .returned (.tuple #[.agg #[.int .i64 0, .int .i64 0, .int .i64 0, .int .i64 0, .int .i64 0, .int .u64 0], .int .i64 19]) ∧ Below w.heap.size w w'
    go_enter Try.func79, Try.ntmps79
    go_wp2_with fail
    refine (HO.out _).mono ?_
    rintro e w1 ⟨rfl, hr1, hb1, hz1⟩
    have hz0 : (w.alloc (.cells #[.int .i64 0, .int .i64 0, .int .i64 0, .int .i64 0, .int .i64 0, .int .u64 0] 51)).heap.size = w.heap.size + 1 := by simp
    have K := (Blk.new w [.int .i64 0, .int .i64 0, .int .i64 0, .int .i64 0, .int .i64 0, .int .u64 0] 51).below hb1
    have BB := below_to (below_box w (.cells #[.int .i64 0, .int .i64 0, .int .i64 0, .int .i64 0, .int .i64 0, .int .u64 0] 51)) hb1
    rw [hz0] at hr1 hz1
    clear hb1
    go_wp2_with fail
    refine (HR.out _ _ hr1).mono ?_
    rintro e w2 ⟨rfl, ho2⟩
    replace K := K.only ho2 (by omega)
    replace BB := ho2.below BB (by omega) (by omega)
    have hz2 := ho2.size
    clear ho2 hr1
    go_upto_region 2 with (fail)
    have K2 := Blk.new w2 [.int .i64 m, .int .i64 a, .int .i64 b, .int .i64 c, .int .i64 d, .int .u64 (n : Int)] 51
    replace K := K.below (below_box w2 (.cells #[.int .i64 m, .int .i64 a, .int .i64 b, .int .i64 c, .int .i64 d, .int .u64 (n : Int)] 51))
    replace BB := below_to BB (below_box w2 (.cells #[.int .i64 m, .int .i64 a, .int .i64 b, .int .i64 c, .int .i64 d, .int .u64 (n : Int)] 51))
    generalize w2.alloc (.cells #[.int .i64 m, .int .i64 a, .int .i64 b, .int .i64 c, .int .i64 d, .int .u64 (n : Int)] 51) = w3 at K K2 BB ⊢
    generalize w2.heap.size = g2 at K2 hz2 ⊢
    have v0 := K2.cell 0 _ rfl
    have v1 := K2.cell 1 _ rfl
    have v2 := K2.cell 2 _ rfl
    have v3 := K2.cell 3 _ rfl
    have v4 := K2.cell 4 _ rfl
    have v5 := K2.cell 5 _ rfl
    go_wp2_with fail
    refine (HP.out _).mono ?_
    rintro e w5 ⟨rfl, hb⟩
    replace K := K.below hb
    replace K2 := K2.below hb
    replace BB := below_to BB hb
    clear hb v0 v1 v2 v3 v4 v5
    go_upto_region 5 with (fail)
    have K4 := Blk.new w5 [.int .i64 0, .int .i64 0, .int .i64 0, .int .i64 0, .int .i64 0, .int .u64 0] 51
    replace K := K.below (below_box w5 (.cells #[.int .i64 0, .int .i64 0, .int .i64 0, .int .i64 0, .int .i64 0, .int .u64 0] 51))
    replace BB := below_to BB (below_box w5 (.cells #[.int .i64 0, .int .i64 0, .int .i64 0, .int .i64 0, .int .i64 0, .int .u64 0] 51))
    generalize w5.alloc (.cells #[.int .i64 0, .int .i64 0, .int .i64 0, .int .i64 0, .int .i64 0, .int .u64 0] 51) = w6 at K K4 BB ⊢
    generalize w5.heap.size = g4 at K4 ⊢
    have x0 := K.cell 0 _ rfl
    have y0 := K.froz 0 _ rfl
    have x1 := K.cell 1 _ rfl
    have y1 := K.froz 1 _ rfl
    have x2 := K.cell 2 _ rfl
    have y2 := K.froz 2 _ rfl
    have x3 := K.cell 3 _ rfl
    have y3 := K.froz 3 _ rfl
    have x4 := K.cell 4 _ rfl
    have y4 := K.froz 4 _ rfl
    have x5 := K.cell 5 _ rfl
    have y5 := K.froz 5 _ rfl
    have u0 := K4.cell 0 _ rfl
    have u1 := K4.cell 1 _ rfl
    have u2 := K4.cell 2 _ rfl
    have u3 := K4.cell 3 _ rfl
    have u4 := K4.cell 4 _ rfl
    have u5 := K4.cell 5 _ rfl
    go_wp2_with fail
    have KK := ((((((K.put 0 (.int .i64 0) (by simp)).put 1 (.int .i64 0) (by simp)).put 2 (.int .i64 0) (by simp)).put 3 (.int .i64 0) (by simp)).put 4 (.int .i64 0) (by simp)).put 5 (.int .u64 0) (by simp))
    have z0 := KK.cell 0 _ rfl
    have z1 := KK.cell 1 _ rfl
    have z2 := KK.cell 2 _ rfl
    have z3 := KK.cell 3 _ rfl
    have z4 := KK.cell 4 _ rfl
    have z5 := KK.cell 5 _ rfl
    refine bodyPost_ret (v := .tuple #[.agg #[.int .i64 0, .int .i64 0, .int .i64 0, .int .i64 0, .int .i64 0, .int .u64 0], .int .i64 19]) (by simp [results, Try.results79, go_sem, z0, z1, z2, z3, z4, z5]) rfl ?_
    exact ⟨rfl, ((((((BB.setCell (p := ⟨w.heap.size, 0, none⟩) (Nat.le_refl _) (.int .i64 0)).setCell (p := ⟨w.heap.size, 1, none⟩) (Nat.le_refl _) (.int .i64 0)).setCell (p := ⟨w.heap.size, 2, none⟩) (Nat.le_refl _) (.int .i64 0)).setCell (p := ⟨w.heap.size, 3, none⟩) (Nat.le_refl _) (.int .i64 0)).setCell (p := ⟨w.heap.size, 4, none⟩) (Nat.le_refl _) (.int .i64 0)).setCell (p := ⟨w.heap.size, 5, none⟩) (Nat.le_refl _) (.int .u64 0))⟩
  | true =>
    replace HP : Hid (∀ w, Calls Try.prog 30 #[.agg #[.int .i64 m, .int .i64 a, .int .i64 b, .int .i64 c, .int .i64 d, .int .u64 (n : Int)]] w fun e w' => e = .returned (.tuple #[.string S, .int .i64 0]) ∧ Below w.heap.size w w') := HP
    by_cases hS : S = s
    · have hq : decide (S = s) = true := decide_eq_true hS
      rw [hq]
      subst hS
      show Calls _ _ _ _ fun e w' => e = .returned (.tuple #[.agg #[.int .i64 m, .int .i64 a, .int .i64 b, .int .i64 c, .int .i64 d, .int .u64 (n : Int)], .int .i64 0]) ∧ Below w.heap.size w w'
      go_enter Try.func79, Try.ntmps79
      go_wp2_with fail
      refine (HO.out _).mono ?_
      rintro e w1 ⟨rfl, hr1, hb1, hz1⟩
      have hz0 : (w.alloc (.cells #[.int .i64 0, .int .i64 0, .int .i64 0, .int .i64 0, .int .i64 0, .int .u64 0] 51)).heap.size = w.heap.size + 1 := by simp
      have K := (Blk.new w [.int .i64 0, .int .i64 0, .int .i64 0, .int .i64 0, .int .i64 0, .int .u64 0] 51).below hb1
      have BB := below_to (below_box w (.cells #[.int .i64 0, .int .i64 0, .int .i64 0, .int .i64 0, .int .i64 0, .int .u64 0] 51)) hb1
      rw [hz0] at hr1 hz1
      clear hb1
      go_wp2_with fail
      refine (HR.out _ _ hr1).mono ?_
      rintro e w2 ⟨rfl, ho2⟩
      replace K := K.only ho2 (by omega)
      replace BB := ho2.below BB (by omega) (by omega)
      have hz2 := ho2.size
      clear ho2 hr1
      go_upto_region 2 with (fail)
      have K2 := Blk.new w2 [.int .i64 m, .int .i64 a, .int .i64 b, .int .i64 c, .int .i64 d, .int .u64 (n : Int)] 51
      replace K := K.below (below_box w2 (.cells #[.int .i64 m, .int .i64 a, .int .i64 b, .int .i64 c, .int .i64 d, .int .u64 (n : Int)] 51))
      replace BB := below_to BB (below_box w2 (.cells #[.int .i64 m, .int .i64 a, .int .i64 b, .int .i64 c, .int .i64 d, .int .u64 (n : Int)] 51))
      generalize w2.alloc (.cells #[.int .i64 m, .int .i64 a, .int .i64 b, .int .i64 c, .int .i64 d, .int .u64 (n : Int)] 51) = w3 at K K2 BB ⊢
      generalize w2.heap.size = g2 at K2 hz2 ⊢
      have v0 := K2.cell 0 _ rfl
      have v1 := K2.cell 1 _ rfl
      have v2 := K2.cell 2 _ rfl
      have v3 := K2.cell 3 _ rfl
      have v4 := K2.cell 4 _ rfl
      have v5 := K2.cell 5 _ rfl
      go_wp2_with fail
      refine (HP.out _).mono ?_
      rintro e w5 ⟨rfl, hb⟩
      replace K := K.below hb
      replace K2 := K2.below hb
      replace BB := below_to BB hb
      clear hb v0 v1 v2 v3 v4 v5
      have x0 := K.cell 0 _ rfl
      have y0 := K.froz 0 _ rfl
      have x1 := K.cell 1 _ rfl
      have y1 := K.froz 1 _ rfl
      have x2 := K.cell 2 _ rfl
      have y2 := K.froz 2 _ rfl
      have x3 := K.cell 3 _ rfl
      have y3 := K.froz 3 _ rfl
      have x4 := K.cell 4 _ rfl
      have y4 := K.froz 4 _ rfl
      have x5 := K.cell 5 _ rfl
      have y5 := K.froz 5 _ rfl
      have v0 := K2.cell 0 _ rfl
      have v1 := K2.cell 1 _ rfl
      have v2 := K2.cell 2 _ rfl
      have v3 := K2.cell 3 _ rfl
      have v4 := K2.cell 4 _ rfl
      have v5 := K2.cell 5 _ rfl
      go_wp2_with fail
      have KK := ((((((K.put 0 (.int .i64 m) (by simp)).put 1 (.int .i64 a) (by simp)).put 2 (.int .i64 b) (by simp)).put 3 (.int .i64 c) (by simp)).put 4 (.int .i64 d) (by simp)).put 5 (.int .u64 (n : Int)) (by simp))
      have z0 := KK.cell 0 _ rfl
      have z1 := KK.cell 1 _ rfl
      have z2 := KK.cell 2 _ rfl
      have z3 := KK.cell 3 _ rfl
      have z4 := KK.cell 4 _ rfl
      have z5 := KK.cell 5 _ rfl
      refine bodyPost_ret (v := .tuple #[.agg #[.int .i64 m, .int .i64 a, .int .i64 b, .int .i64 c, .int .i64 d, .int .u64 (n : Int)], .int .i64 0]) (by simp [results, Try.results79, go_sem, z0, z1, z2, z3, z4, z5]) rfl ?_
      exact ⟨rfl, ((((((BB.setCell (p := ⟨w.heap.size, 0, none⟩) (Nat.le_refl _) (.int .i64 m)).setCell (p := ⟨w.heap.size, 1, none⟩) (Nat.le_refl _) (.int .i64 a)).setCell (p := ⟨w.heap.size, 2, none⟩) (Nat.le_refl _) (.int .i64 b)).setCell (p := ⟨w.heap.size, 3, none⟩) (Nat.le_refl _) (.int .i64 c)).setCell (p := ⟨w.heap.size, 4, none⟩) (Nat.le_refl _) (.int .i64 d)).setCell (p := ⟨w.heap.size, 5, none⟩) (Nat.le_refl _) (.int .u64 (n : Int)))⟩
    · have hq : decide (S = s) = false := decide_eq_false hS
      have hq2 : (S.toList == s.toList) = false := by
        rw [beq_eq_false_iff_ne]
        intro e
        rw [ByteArray.toList_eq, ByteArray.toList_eq] at e
        exact hS (by rw [← bs_of S, ← bs_of s, e])
      rw [hq]
      show Calls _ _ _ _ fun e w' => e = .returned (.tuple #[.agg #[.int .i64 0, .int .i64 0, .int .i64 0, .int .i64 0, .int .i64 0, .int .u64 0], .int .i64 19]) ∧ Below w.heap.size w w'
      go_enter Try.func79, Try.ntmps79
      go_wp2_with fail
      refine (HO.out _).mono ?_
      rintro e w1 ⟨rfl, hr1, hb1, hz1⟩
      have hz0 : (w.alloc (.cells #[.int .i64 0, .int .i64 0, .int .i64 0, .int .i64 0, .int .i64 0, .int .u64 0] 51)).heap.size = w.heap.size + 1 := by simp
      have K := (Blk.new w [.int .i64 0, .int .i64 0, .int .i64 0, .int .i64 0, .int .i64 0, .int .u64 0] 51).below hb1
      have BB := below_to (below_box w (.cells #[.int .i64 0, .int .i64 0, .int .i64 0, .int .i64 0, .int .i64 0, .int .u64 0] 51)) hb1
      rw [hz0] at hr1 hz1
      clear hb1
      go_wp2_with fail
      refine (HR.out _ _ hr1).mono ?_
      rintro e w2 ⟨rfl, ho2⟩
      replace K := K.only ho2 (by omega)
      replace BB := ho2.below BB (by omega) (by omega)
      have hz2 := ho2.size
      clear ho2 hr1
      go_upto_region 2 with (fail)
      have K2 := Blk.new w2 [.int .i64 m, .int .i64 a, .int .i64 b, .int .i64 c, .int .i64 d, .int .u64 (n : Int)] 51
      replace K := K.below (below_box w2 (.cells #[.int .i64 m, .int .i64 a, .int .i64 b, .int .i64 c, .int .i64 d, .int .u64 (n : Int)] 51))
      replace BB := below_to BB (below_box w2 (.cells #[.int .i64 m, .int .i64 a, .int .i64 b, .int .i64 c, .int .i64 d, .int .u64 (n : Int)] 51))
      generalize w2.alloc (.cells #[.int .i64 m, .int .i64 a, .int .i64 b, .int .i64 c, .int .i64 d, .int .u64 (n : Int)] 51) = w3 at K K2 BB ⊢
      generalize w2.heap.size = g2 at K2 hz2 ⊢
      have v0 := K2.cell 0 _ rfl
      have v1 := K2.cell 1 _ rfl
      have v2 := K2.cell 2 _ rfl
      have v3 := K2.cell 3 _ rfl
      have v4 := K2.cell 4 _ rfl
      have v5 := K2.cell 5 _ rfl
      go_wp2_with fail
      refine (HP.out _).mono ?_
      rintro e w5 ⟨rfl, hb⟩
      replace K := K.below hb
      replace K2 := K2.below hb
      replace BB := below_to BB hb
      clear hb v0 v1 v2 v3 v4 v5
      go_upto_region 5 with (fail)
      have K4 := Blk.new w5 [.int .i64 0, .int .i64 0, .int .i64 0, .int .i64 0, .int .i64 0, .int .u64 0] 51
      replace K := K.below (below_box w5 (.cells #[.int .i64 0, .int .i64 0, .int .i64 0, .int .i64 0, .int .i64 0, .int .u64 0] 51))
      replace BB := below_to BB (below_box w5 (.cells #[.int .i64 0, .int .i64 0, .int .i64 0, .int .i64 0, .int .i64 0, .int .u64 0] 51))
      generalize w5.alloc (.cells #[.int .i64 0, .int .i64 0, .int .i64 0, .int .i64 0, .int .i64 0, .int .u64 0] 51) = w6 at K K4 BB ⊢
      generalize w5.heap.size = g4 at K4 ⊢
      have x0 := K.cell 0 _ rfl
      have y0 := K.froz 0 _ rfl
      have x1 := K.cell 1 _ rfl
      have y1 := K.froz 1 _ rfl
      have x2 := K.cell 2 _ rfl
      have y2 := K.froz 2 _ rfl
      have x3 := K.cell 3 _ rfl
      have y3 := K.froz 3 _ rfl
      have x4 := K.cell 4 _ rfl
      have y4 := K.froz 4 _ rfl
      have x5 := K.cell 5 _ rfl
      have y5 := K.froz 5 _ rfl
      have u0 := K4.cell 0 _ rfl
      have u1 := K4.cell 1 _ rfl
      have u2 := K4.cell 2 _ rfl
      have u3 := K4.cell 3 _ rfl
      have u4 := K4.cell 4 _ rfl
      have u5 := K4.cell 5 _ rfl
      go_wp2_with fail
      have KK := ((((((K.put 0 (.int .i64 0) (by simp)).put 1 (.int .i64 0) (by simp)).put 2 (.int .i64 0) (by simp)).put 3 (.int .i64 0) (by simp)).put 4 (.int .i64 0) (by simp)).put 5 (.int .u64 0) (by simp))
      have z0 := KK.cell 0 _ rfl
      have z1 := KK.cell 1 _ rfl
      have z2 := KK.cell 2 _ rfl
      have z3 := KK.cell 3 _ rfl
      have z4 := KK.cell 4 _ rfl
      have z5 := KK.cell 5 _ rfl
      refine bodyPost_ret (v := .tuple #[.agg #[.int .i64 0, .int .i64 0, .int .i64 0, .int .i64 0, .int .i64 0, .int .u64 0], .int .i64 19]) (by simp [results, Try.results79, go_sem, z0, z1, z2, z3, z4, z5]) rfl ?_
      exact ⟨rfl, ((((((BB.setCell (p := ⟨w.heap.size, 0, none⟩) (Nat.le_refl _) (.int .i64 0)).setCell (p := ⟨w.heap.size, 1, none⟩) (Nat.le_refl _) (.int .i64 0)).setCell (p := ⟨w.heap.size, 2, none⟩) (Nat.le_refl _) (.int .i64 0)).setCell (p := ⟨w.heap.size, 3, none⟩) (Nat.le_refl _) (.int .i64 0)).setCell (p := ⟨w.heap.size, 4, none⟩) (Nat.le_refl _) (.int .i64 0)).setCell (p := ⟨w.heap.size, 5, none⟩) (Nat.le_refl _) (.int .u64 0))⟩
theorem decVersion (s S : ByteArray) (i : Nat) (q : Bool) (n : Nat) (f z : Int) (ok : Bool)
    (HR : Hid (∀ w bb, RdAt w bb s 0 → Calls Try.prog 84 #[.pointer (some ⟨bb, 0, none⟩)] w fun x w' => x = .returned (.agg #[.int .u64 (i : Int), .bool q, .int .u32 (n : Int), .int .i64 f, .int .i64 z]) ∧ Only bb w w'))
    (HP : Hid (∀ w, Calls Try.prog 32 #[.agg #[.int .u64 (i : Int), .bool q, .int .u32 (n : Int), .int .i64 f, .int .i64 z]] w fun e w' => e = .returned (.tuple #[.string S, .int .i64 (argE ok)]) ∧ Below w.heap.size w w')) (w : World) :
    Calls Try.prog 83 #[.string s, .func (.func 32) #[] #[], .func (.func 84) #[] #[]] w fun e w' => e = .returned (.tuple #[pickV (ok && decide (S = s)) (.agg #[.int .u64 (i : Int), .bool q, .int .u32 (n : Int), .int .i64 f, .int .i64 z]) (.agg #[.int .u64 0, .bool false, .int .u32 0, .int .i64 0, .int .i64 0]), .int .i64 (errF (ok && decide (S = s)))]) ∧ Below w.heap.size w w' := by
  have HO := Lib.hid (fun w => rdopen_any s w)
  cases ok with
  | false =>
    replace HP : Hid (∀ w, Calls Try.prog 32 #[.agg #[.int .u64 (i : Int), .bool q, .int .u32 (n : Int), .int .i64 f, .int .i64 z]] w fun e w' => e = .returned (.tuple #[.string S, .int .i64 18]) ∧ Below w.heap.size w w') := HP
    show Calls _ _ _ _ fun e w' => e = .returned (.tuple #[.agg #[.int .u64 0, .bool false, .int .u32 0, .int .i64 0, .int .i64 0], .int .i64 19]) ∧ Below w.heap.size w w'
    go_enter Try.func83, Try.ntmps83
    go_wp2_with fail
    refine (HO.out _).mono ?_
    rintro e w1 ⟨rfl, hr1, hb1, hz1⟩
    have hz0 : (w.alloc (.cells #[.int .u64 0, .bool false, .int .u32 0, .int .i64 0, .int .i64 0] 56)).heap.size = w.heap.size + 1 := by simp
    have K := (Blk.new w [.int .u64 0, .bool false, .int .u32 0, .int .i64 0, .int .i64 0] 56).below hb1
    have BB := below_to (below_box w (.cells #[.int .u64 0, .bool false, .int .u32 0, .int .i64 0, .int .i64 0] 56)) hb1
    rw [hz0] at hr1 hz1
    clear hb1
    go_wp2_with fail
    refine (HR.out _ _ hr1).mono ?_
    rintro e w2 ⟨rfl, ho2⟩
    replace K := K.only ho2 (by omega)
    replace BB := ho2.below BB (by omega) (by omega)
    have hz2 := ho2.size
    clear ho2 hr1
    go_upto_region 2 with (fail)
    have K2 := Blk.new w2 [.int .u64 (i : Int), .bool q, .int .u32 (n : Int), .int .i64 f, .int .i64 z] 56
    replace K := K.below (below_box w2 (.cells #[.int .u64 (i : Int), .bool q, .int .u32 (n : Int), .int .i64 f, .int .i64 z] 56))
    replace BB := below_to BB (below_box w2 (.cells #[.int .u64 (i : Int), .bool q, .int .u32 (n : Int), .int .i64 f, .int .i64 z] 56))
    generalize w2.alloc (.cells #[.int .u64 (i : Int), .bool q, .int .u32 (n : Int), .int .i64 f, .int .i64 z] 56) = w3 at K K2 BB ⊢
    generalize w2.heap.size = g2 at K2 hz2 ⊢
    have v0 := K2.cell 0 _ rfl
    have v1 := K2.cell 1 _ rfl
    have v2 := K2.cell 2 _ rfl
    have v3 := K2.cell 3 _ rfl
    have v4 := K2.cell 4 _ rfl
    go_wp2_with fail
    refine (HP.out _).mono ?_
    rintro e w5 ⟨rfl, hb⟩
    replace K := K.below hb
    replace K2 := K2.below hb
    replace BB := below_to BB hb
    clear hb v0 v1 v2 v3 v4
    go_upto_region 5 with (fail)
    have K4 := Blk.new w5 [.int .u64 0, .bool false, .int .u32 0, .int .i64 0, .int .i64 0] 56
    replace K := K.below (below_box w5 (.cells #[.int .u64 0, .bool false, .int .u32 0, .int .i64 0, .int .i64 0] 56))
    replace BB := below_to BB (below_box w5 (.cells #[.int .u64 0, .bool false, .int .u32 0, .int .i64 0, .int .i64 0] 56))
    generalize w5.alloc (.cells #[.int .u64 0, .bool false, .int .u32 0, .int .i64 0, .int .i64 0] 56) = w6 at K K4 BB ⊢
    generalize w5.heap.size = g4 at K4 ⊢
    have x0 := K.cell 0 _ rfl
    have y0 := K.froz 0 _ rfl
    have x1 := K.cell 1 _ rfl
    have y1 := K.froz 1 _ rfl
    have x2 := K.cell 2 _ rfl
    have y2 := K.froz 2 _ rfl
    have x3 := K.cell 3 _ rfl
    have y3 := K.froz 3 _ rfl
    have x4 := K.cell 4 _ rfl
    have y4 := K.froz 4 _ rfl
    have u0 := K4.cell 0 _ rfl
    have u1 := K4.cell 1 _ rfl
    have u2 := K4.cell 2 _ rfl
    have u3 := K4.cell 3 _ rfl
    have u4 := K4.cell 4 _ rfl
    go_wp2_with fail
    have KK := (((((K.put 0 (.int .u64 0) (by simp)).put 1 (.bool false) (by simp)).put 2 (.int .u32 0) (by simp)).put 3 (.int .i64 0) (by simp)).put 4 (.int .i64 0) (by simp))
    have z0 := KK.cell 0 _ rfl
    have z1 := KK.cell 1 _ rfl
    have z2 := KK.cell 2 _ rfl
    have z3 := KK.cell 3 _ rfl
    have z4 := KK.cell 4 _ rfl
    refine bodyPost_ret (v := .tuple #[.agg #[.int .u64 0, .bool false, .int .u32 0, .int .i64 0, .int .i64 0], .int .i64 19]) (by simp [results, Try.results83, go_sem, z0, z1, z2, z3, z4]) rfl ?_
    exact ⟨rfl, (((((BB.setCell (p := ⟨w.heap.size, 0, none⟩) (Nat.le_refl _) (.int .u64 0)).setCell (p := ⟨w.heap.size, 1, none⟩) (Nat.le_refl _) (.bool false)).setCell (p := ⟨w.heap.size, 2, none⟩) (Nat.le_refl _) (.int .u32 0)).setCell (p := ⟨w.heap.size, 3, none⟩) (Nat.le_refl _) (.int .i64 0)).setCell (p := ⟨w.heap.size, 4, none⟩) (Nat.le_refl _) (.int .i64 0))⟩
  | true =>
    replace HP : Hid (∀ w, Calls Try.prog 32 #[.agg #[.int .u64 (i : Int), .bool q, .int .u32 (n : Int), .int .i64 f, .int .i64 z]] w fun e w' => e = .returned (.tuple #[.string S, .int .i64 0]) ∧ Below w.heap.size w w') := HP
    by_cases hS : S = s
    · have hq : decide (S = s) = true := decide_eq_true hS
      rw [hq]
      subst hS
      show Calls _ _ _ _ fun e w' => e = .returned (.tuple #[.agg #[.int .u64 (i : Int), .bool q, .int .u32 (n : Int), .int .i64 f, .int .i64 z], .int .i64 0]) ∧ Below w.heap.size w w'
      go_enter Try.func83, Try.ntmps83
      go_wp2_with fail
      refine (HO.out _).mono ?_
      rintro e w1 ⟨rfl, hr1, hb1, hz1⟩
      have hz0 : (w.alloc (.cells #[.int .u64 0, .bool false, .int .u32 0, .int .i64 0, .int .i64 0] 56)).heap.size = w.heap.size + 1 := by simp
      have K := (Blk.new w [.int .u64 0, .bool false, .int .u32 0, .int .i64 0, .int .i64 0] 56).below hb1
      have BB := below_to (below_box w (.cells #[.int .u64 0, .bool false, .int .u32 0, .int .i64 0, .int .i64 0] 56)) hb1
      rw [hz0] at hr1 hz1
      clear hb1
      go_wp2_with fail
      refine (HR.out _ _ hr1).mono ?_
      rintro e w2 ⟨rfl, ho2⟩
      replace K := K.only ho2 (by omega)
      replace BB := ho2.below BB (by omega) (by omega)
      have hz2 := ho2.size
      clear ho2 hr1
      go_upto_region 2 with (fail)
      have K2 := Blk.new w2 [.int .u64 (i : Int), .bool q, .int .u32 (n : Int), .int .i64 f, .int .i64 z] 56
      replace K := K.below (below_box w2 (.cells #[.int .u64 (i : Int), .bool q, .int .u32 (n : Int), .int .i64 f, .int .i64 z] 56))
      replace BB := below_to BB (below_box w2 (.cells #[.int .u64 (i : Int), .bool q, .int .u32 (n : Int), .int .i64 f, .int .i64 z] 56))
      generalize w2.alloc (.cells #[.int .u64 (i : Int), .bool q, .int .u32 (n : Int), .int .i64 f, .int .i64 z] 56) = w3 at K K2 BB ⊢
      generalize w2.heap.size = g2 at K2 hz2 ⊢
      have v0 := K2.cell 0 _ rfl
      have v1 := K2.cell 1 _ rfl
      have v2 := K2.cell 2 _ rfl
      have v3 := K2.cell 3 _ rfl
      have v4 := K2.cell 4 _ rfl
      go_wp2_with fail
      refine (HP.out _).mono ?_
      rintro e w5 ⟨rfl, hb⟩
      replace K := K.below hb
      replace K2 := K2.below hb
      replace BB := below_to BB hb
      clear hb v0 v1 v2 v3 v4
      have x0 := K.cell 0 _ rfl
      have y0 := K.froz 0 _ rfl
      have x1 := K.cell 1 _ rfl
      have y1 := K.froz 1 _ rfl
      have x2 := K.cell 2 _ rfl
      have y2 := K.froz 2 _ rfl
      have x3 := K.cell 3 _ rfl
      have y3 := K.froz 3 _ rfl
      have x4 := K.cell 4 _ rfl
      have y4 := K.froz 4 _ rfl
      have v0 := K2.cell 0 _ rfl
      have v1 := K2.cell 1 _ rfl
      have v2 := K2.cell 2 _ rfl
      have v3 := K2.cell 3 _ rfl
      have v4 := K2.cell 4 _ rfl
      go_wp2_with fail
      have KK := (((((K.put 0 (.int .u64 (i : Int)) (by simp)).put 1 (.bool q) (by simp)).put 2 (.int .u32 (n : Int)) (by simp)).put 3 (.int .i64 f) (by simp)).put 4 (.int .i64 z) (by simp))
      have z0 := KK.cell 0 _ rfl
      have z1 := KK.cell 1 _ rfl
      have z2 := KK.cell 2 _ rfl
      have z3 := KK.cell 3 _ rfl
      have z4 := KK.cell 4 _ rfl
      refine bodyPost_ret (v := .tuple #[.agg #[.int .u64 (i : Int), .bool q, .int .u32 (n : Int), .int .i64 f, .int .i64 z], .int .i64 0]) (by simp [results, Try.results83, go_sem, z0, z1, z2, z3, z4]) rfl ?_
      exact ⟨rfl, (((((BB.setCell (p := ⟨w.heap.size, 0, none⟩) (Nat.le_refl _) (.int .u64 (i : Int))).setCell (p := ⟨w.heap.size, 1, none⟩) (Nat.le_refl _) (.bool q)).setCell (p := ⟨w.heap.size, 2, none⟩) (Nat.le_refl _) (.int .u32 (n : Int))).setCell (p := ⟨w.heap.size, 3, none⟩) (Nat.le_refl _) (.int .i64 f)).setCell (p := ⟨w.heap.size, 4, none⟩) (Nat.le_refl _) (.int .i64 z))⟩
    · have hq : decide (S = s) = false := decide_eq_false hS
      have hq2 : (S.toList == s.toList) = false := by
        rw [beq_eq_false_iff_ne]
        intro e
        rw [ByteArray.toList_eq, ByteArray.toList_eq] at e
        exact hS (by rw [← bs_of S, ← bs_of s, e])
      rw [hq]
      show Calls _ _ _ _ fun e w' => e = .returned (.tuple #[.agg #[.int .u64 0, .bool false, .int .u32 0, .int .i64 0, .int .i64 0], .int .i64 19]) ∧ Below w.heap.size w w'
      go_enter Try.func83, Try.ntmps83
      go_wp2_with fail
      refine (HO.out _).mono ?_
      rintro e w1 ⟨rfl, hr1, hb1, hz1⟩
      have hz0 : (w.alloc (.cells #[.int .u64 0, .bool false, .int .u32 0, .int .i64 0, .int .i64 0] 56)).heap.size = w.heap.size + 1 := by simp
      have K := (Blk.new w [.int .u64 0, .bool false, .int .u32 0, .int .i64 0, .int .i64 0] 56).below hb1
      have BB := below_to (below_box w (.cells #[.int .u64 0, .bool false, .int .u32 0, .int .i64 0, .int .i64 0] 56)) hb1
      rw [hz0] at hr1 hz1
      clear hb1
      go_wp2_with fail
      refine (HR.out _ _ hr1).mono ?_
      rintro e w2 ⟨rfl, ho2⟩
      replace K := K.only ho2 (by omega)
      replace BB := ho2.below BB (by omega) (by omega)
      have hz2 := ho2.size
      clear ho2 hr1
      go_upto_region 2 with (fail)
      have K2 := Blk.new w2 [.int .u64 (i : Int), .bool q, .int .u32 (n : Int), .int .i64 f, .int .i64 z] 56
      replace K := K.below (below_box w2 (.cells #[.int .u64 (i : Int), .bool q, .int .u32 (n : Int), .int .i64 f, .int .i64 z] 56))
      replace BB := below_to BB (below_box w2 (.cells #[.int .u64 (i : Int), .bool q, .int .u32 (n : Int), .int .i64 f, .int .i64 z] 56))
      generalize w2.alloc (.cells #[.int .u64 (i : Int), .bool q, .int .u32 (n : Int), .int .i64 f, .int .i64 z] 56) = w3 at K K2 BB ⊢
      generalize w2.heap.size = g2 at K2 hz2 ⊢
      have v0 := K2.cell 0 _ rfl
      have v1 := K2.cell 1 _ rfl
      have v2 := K2.cell 2 _ rfl
      have v3 := K2.cell 3 _ rfl
      have v4 := K2.cell 4 _ rfl
      go_wp2_with fail
      refine (HP.out _).mono ?_
      rintro e w5 ⟨rfl, hb⟩
      replace K := K.below hb
      replace K2 := K2.below hb
      replace BB := below_to BB hb
      clear hb v0 v1 v2 v3 v4
      go_upto_region 5 with (fail)
      have K4 := Blk.new w5 [.int .u64 0, .bool false, .int .u32 0, .int .i64 0, .int .i64 0] 56
      replace K := K.below (below_box w5 (.cells #[.int .u64 0, .bool false, .int .u32 0, .int .i64 0, .int .i64 0] 56))
      replace BB := below_to BB (below_box w5 (.cells #[.int .u64 0, .bool false, .int .u32 0, .int .i64 0, .int .i64 0] 56))
      generalize w5.alloc (.cells #[.int .u64 0, .bool false, .int .u32 0, .int .i64 0, .int .i64 0] 56) = w6 at K K4 BB ⊢
      generalize w5.heap.size = g4 at K4 ⊢
      have x0 := K.cell 0 _ rfl
      have y0 := K.froz 0 _ rfl
      have x1 := K.cell 1 _ rfl
      have y1 := K.froz 1 _ rfl
      have x2 := K.cell 2 _ rfl
      have y2 := K.froz 2 _ rfl
      have x3 := K.cell 3 _ rfl
      have y3 := K.froz 3 _ rfl
      have x4 := K.cell 4 _ rfl
      have y4 := K.froz 4 _ rfl
      have u0 := K4.cell 0 _ rfl
      have u1 := K4.cell 1 _ rfl
      have u2 := K4.cell 2 _ rfl
      have u3 := K4.cell 3 _ rfl
      have u4 := K4.cell 4 _ rfl
      go_wp2_with fail
      have KK := (((((K.put 0 (.int .u64 0) (by simp)).put 1 (.bool false) (by simp)).put 2 (.int .u32 0) (by simp)).put 3 (.int .i64 0) (by simp)).put 4 (.int .i64 0) (by simp))
      have z0 := KK.cell 0 _ rfl
      have z1 := KK.cell 1 _ rfl
      have z2 := KK.cell 2 _ rfl
      have z3 := KK.cell 3 _ rfl
      have z4 := KK.cell 4 _ rfl
      refine bodyPost_ret (v := .tuple #[.agg #[.int .u64 0, .bool false, .int .u32 0, .int .i64 0, .int .i64 0], .int .i64 19]) (by simp [results, Try.results83, go_sem, z0, z1, z2, z3, z4]) rfl ?_
      exact ⟨rfl, (((((BB.setCell (p := ⟨w.heap.size, 0, none⟩) (Nat.le_refl _) (.int .u64 0)).setCell (p := ⟨w.heap.size, 1, none⟩) (Nat.le_refl _) (.bool false)).setCell (p := ⟨w.heap.size, 2, none⟩) (Nat.le_refl _) (.int .u32 0)).setCell (p := ⟨w.heap.size, 3, none⟩) (Nat.le_refl _) (.int .i64 0)).setCell (p := ⟨w.heap.size, 4, none⟩) (Nat.le_refl _) (.int .i64 0))⟩
theorem decUpload (s S : ByteArray) (k : ByteArray) (ok : Bool)
    (HR : Hid (∀ w bb, RdAt w bb s 0 → Calls Try.prog 88 #[.pointer (some ⟨bb, 0, none⟩)] w fun x w' => x = .returned (.agg #[.string k]) ∧ Only bb w w'))
    (HP : Hid (∀ w, Calls Try.prog 34 #[.agg #[.string k]] w fun e w' => e = .returned (.tuple #[.string S, .int .i64 (argE ok)]) ∧ Below w.heap.size w w')) (w : World) :
    Calls Try.prog 87 #[.string s, .func (.func 34) #[] #[], .func (.func 88) #[] #[]] w fun e w' => e = .returned (.tuple #[pickV (ok && decide (S = s)) (.agg #[.string k]) (.agg #[.string ⟨#[]⟩]), .int .i64 (errF (ok && decide (S = s)))]) ∧ Below w.heap.size w w' := by
  have HO := Lib.hid (fun w => rdopen_any s w)
  cases ok with
  | false =>
    replace HP : Hid (∀ w, Calls Try.prog 34 #[.agg #[.string k]] w fun e w' => e = .returned (.tuple #[.string S, .int .i64 18]) ∧ Below w.heap.size w w') := HP
    show Calls _ _ _ _ fun e w' => e = .returned (.tuple #[.agg #[.string ⟨#[]⟩], .int .i64 19]) ∧ Below w.heap.size w w'
    go_enter Try.func87, Try.ntmps87
    go_wp2_with fail
    refine (HO.out _).mono ?_
    rintro e w1 ⟨rfl, hr1, hb1, hz1⟩
    have hz0 : (w.alloc (.cells #[.string ⟨#[]⟩] 66)).heap.size = w.heap.size + 1 := by simp
    have K := (Blk.new w [.string ⟨#[]⟩] 66).below hb1
    have BB := below_to (below_box w (.cells #[.string ⟨#[]⟩] 66)) hb1
    rw [hz0] at hr1 hz1
    clear hb1
    go_wp2_with fail
    refine (HR.out _ _ hr1).mono ?_
    rintro e w2 ⟨rfl, ho2⟩
    replace K := K.only ho2 (by omega)
    replace BB := ho2.below BB (by omega) (by omega)
    have hz2 := ho2.size
    clear ho2 hr1
    go_upto_region 2 with (fail)
    have K2 := Blk.new w2 [.string k] 66
    replace K := K.below (below_box w2 (.cells #[.string k] 66))
    replace BB := below_to BB (below_box w2 (.cells #[.string k] 66))
    generalize w2.alloc (.cells #[.string k] 66) = w3 at K K2 BB ⊢
    generalize w2.heap.size = g2 at K2 hz2 ⊢
    have v0 := K2.cell 0 _ rfl
    go_wp2_with fail
    refine (HP.out _).mono ?_
    rintro e w5 ⟨rfl, hb⟩
    replace K := K.below hb
    replace K2 := K2.below hb
    replace BB := below_to BB hb
    clear hb v0
    go_upto_region 5 with (fail)
    have K4 := Blk.new w5 [.string ⟨#[]⟩] 66
    replace K := K.below (below_box w5 (.cells #[.string ⟨#[]⟩] 66))
    replace BB := below_to BB (below_box w5 (.cells #[.string ⟨#[]⟩] 66))
    generalize w5.alloc (.cells #[.string ⟨#[]⟩] 66) = w6 at K K4 BB ⊢
    generalize w5.heap.size = g4 at K4 ⊢
    have x0 := K.cell 0 _ rfl
    have y0 := K.froz 0 _ rfl
    have u0 := K4.cell 0 _ rfl
    go_wp2_with fail
    have KK := (K.put 0 (.string ⟨#[]⟩) (by simp))
    have z0 := KK.cell 0 _ rfl
    refine bodyPost_ret (v := .tuple #[.agg #[.string ⟨#[]⟩], .int .i64 19]) (by simp [results, Try.results87, go_sem, z0]) rfl ?_
    exact ⟨rfl, (BB.setCell (p := ⟨w.heap.size, 0, none⟩) (Nat.le_refl _) (.string ⟨#[]⟩))⟩
  | true =>
    replace HP : Hid (∀ w, Calls Try.prog 34 #[.agg #[.string k]] w fun e w' => e = .returned (.tuple #[.string S, .int .i64 0]) ∧ Below w.heap.size w w') := HP
    by_cases hS : S = s
    · have hq : decide (S = s) = true := decide_eq_true hS
      rw [hq]
      subst hS
      show Calls _ _ _ _ fun e w' => e = .returned (.tuple #[.agg #[.string k], .int .i64 0]) ∧ Below w.heap.size w w'
      go_enter Try.func87, Try.ntmps87
      go_wp2_with fail
      refine (HO.out _).mono ?_
      rintro e w1 ⟨rfl, hr1, hb1, hz1⟩
      have hz0 : (w.alloc (.cells #[.string ⟨#[]⟩] 66)).heap.size = w.heap.size + 1 := by simp
      have K := (Blk.new w [.string ⟨#[]⟩] 66).below hb1
      have BB := below_to (below_box w (.cells #[.string ⟨#[]⟩] 66)) hb1
      rw [hz0] at hr1 hz1
      clear hb1
      go_wp2_with fail
      refine (HR.out _ _ hr1).mono ?_
      rintro e w2 ⟨rfl, ho2⟩
      replace K := K.only ho2 (by omega)
      replace BB := ho2.below BB (by omega) (by omega)
      have hz2 := ho2.size
      clear ho2 hr1
      go_upto_region 2 with (fail)
      have K2 := Blk.new w2 [.string k] 66
      replace K := K.below (below_box w2 (.cells #[.string k] 66))
      replace BB := below_to BB (below_box w2 (.cells #[.string k] 66))
      generalize w2.alloc (.cells #[.string k] 66) = w3 at K K2 BB ⊢
      generalize w2.heap.size = g2 at K2 hz2 ⊢
      have v0 := K2.cell 0 _ rfl
      go_wp2_with fail
      refine (HP.out _).mono ?_
      rintro e w5 ⟨rfl, hb⟩
      replace K := K.below hb
      replace K2 := K2.below hb
      replace BB := below_to BB hb
      clear hb v0
      have x0 := K.cell 0 _ rfl
      have y0 := K.froz 0 _ rfl
      have v0 := K2.cell 0 _ rfl
      go_wp2_with fail
      have KK := (K.put 0 (.string k) (by simp))
      have z0 := KK.cell 0 _ rfl
      refine bodyPost_ret (v := .tuple #[.agg #[.string k], .int .i64 0]) (by simp [results, Try.results87, go_sem, z0]) rfl ?_
      exact ⟨rfl, (BB.setCell (p := ⟨w.heap.size, 0, none⟩) (Nat.le_refl _) (.string k))⟩
    · have hq : decide (S = s) = false := decide_eq_false hS
      have hq2 : (S.toList == s.toList) = false := by
        rw [beq_eq_false_iff_ne]
        intro e
        rw [ByteArray.toList_eq, ByteArray.toList_eq] at e
        exact hS (by rw [← bs_of S, ← bs_of s, e])
      rw [hq]
      show Calls _ _ _ _ fun e w' => e = .returned (.tuple #[.agg #[.string ⟨#[]⟩], .int .i64 19]) ∧ Below w.heap.size w w'
      go_enter Try.func87, Try.ntmps87
      go_wp2_with fail
      refine (HO.out _).mono ?_
      rintro e w1 ⟨rfl, hr1, hb1, hz1⟩
      have hz0 : (w.alloc (.cells #[.string ⟨#[]⟩] 66)).heap.size = w.heap.size + 1 := by simp
      have K := (Blk.new w [.string ⟨#[]⟩] 66).below hb1
      have BB := below_to (below_box w (.cells #[.string ⟨#[]⟩] 66)) hb1
      rw [hz0] at hr1 hz1
      clear hb1
      go_wp2_with fail
      refine (HR.out _ _ hr1).mono ?_
      rintro e w2 ⟨rfl, ho2⟩
      replace K := K.only ho2 (by omega)
      replace BB := ho2.below BB (by omega) (by omega)
      have hz2 := ho2.size
      clear ho2 hr1
      go_upto_region 2 with (fail)
      have K2 := Blk.new w2 [.string k] 66
      replace K := K.below (below_box w2 (.cells #[.string k] 66))
      replace BB := below_to BB (below_box w2 (.cells #[.string k] 66))
      generalize w2.alloc (.cells #[.string k] 66) = w3 at K K2 BB ⊢
      generalize w2.heap.size = g2 at K2 hz2 ⊢
      have v0 := K2.cell 0 _ rfl
      go_wp2_with fail
      refine (HP.out _).mono ?_
      rintro e w5 ⟨rfl, hb⟩
      replace K := K.below hb
      replace K2 := K2.below hb
      replace BB := below_to BB hb
      clear hb v0
      go_upto_region 5 with (fail)
      have K4 := Blk.new w5 [.string ⟨#[]⟩] 66
      replace K := K.below (below_box w5 (.cells #[.string ⟨#[]⟩] 66))
      replace BB := below_to BB (below_box w5 (.cells #[.string ⟨#[]⟩] 66))
      generalize w5.alloc (.cells #[.string ⟨#[]⟩] 66) = w6 at K K4 BB ⊢
      generalize w5.heap.size = g4 at K4 ⊢
      have x0 := K.cell 0 _ rfl
      have y0 := K.froz 0 _ rfl
      have u0 := K4.cell 0 _ rfl
      go_wp2_with fail
      have KK := (K.put 0 (.string ⟨#[]⟩) (by simp))
      have z0 := KK.cell 0 _ rfl
      refine bodyPost_ret (v := .tuple #[.agg #[.string ⟨#[]⟩], .int .i64 19]) (by simp [results, Try.results87, go_sem, z0]) rfl ?_
      exact ⟨rfl, (BB.setCell (p := ⟨w.heap.size, 0, none⟩) (Nat.le_refl _) (.string ⟨#[]⟩))⟩
theorem decPart (s S : ByteArray) (n : Nat) (f z : Int) (ok : Bool)
    (HR : Hid (∀ w bb, RdAt w bb s 0 → Calls Try.prog 92 #[.pointer (some ⟨bb, 0, none⟩)] w fun x w' => x = .returned (.agg #[.int .u32 (n : Int), .int .i64 f, .int .i64 z]) ∧ Only bb w w'))
    (HP : Hid (∀ w, Calls Try.prog 36 #[.agg #[.int .u32 (n : Int), .int .i64 f, .int .i64 z]] w fun e w' => e = .returned (.tuple #[.string S, .int .i64 (argE ok)]) ∧ Below w.heap.size w w')) (w : World) :
    Calls Try.prog 91 #[.string s, .func (.func 36) #[] #[], .func (.func 92) #[] #[]] w fun e w' => e = .returned (.tuple #[pickV (ok && decide (S = s)) (.agg #[.int .u32 (n : Int), .int .i64 f, .int .i64 z]) (.agg #[.int .u32 0, .int .i64 0, .int .i64 0]), .int .i64 (errF (ok && decide (S = s)))]) ∧ Below w.heap.size w w' := by
  have HO := Lib.hid (fun w => rdopen_any s w)
  cases ok with
  | false =>
    replace HP : Hid (∀ w, Calls Try.prog 36 #[.agg #[.int .u32 (n : Int), .int .i64 f, .int .i64 z]] w fun e w' => e = .returned (.tuple #[.string S, .int .i64 18]) ∧ Below w.heap.size w w') := HP
    show Calls _ _ _ _ fun e w' => e = .returned (.tuple #[.agg #[.int .u32 0, .int .i64 0, .int .i64 0], .int .i64 19]) ∧ Below w.heap.size w w'
    go_enter Try.func91, Try.ntmps91
    go_wp2_with fail
    refine (HO.out _).mono ?_
    rintro e w1 ⟨rfl, hr1, hb1, hz1⟩
    have hz0 : (w.alloc (.cells #[.int .u32 0, .int .i64 0, .int .i64 0] 69)).heap.size = w.heap.size + 1 := by simp
    have K := (Blk.new w [.int .u32 0, .int .i64 0, .int .i64 0] 69).below hb1
    have BB := below_to (below_box w (.cells #[.int .u32 0, .int .i64 0, .int .i64 0] 69)) hb1
    rw [hz0] at hr1 hz1
    clear hb1
    go_wp2_with fail
    refine (HR.out _ _ hr1).mono ?_
    rintro e w2 ⟨rfl, ho2⟩
    replace K := K.only ho2 (by omega)
    replace BB := ho2.below BB (by omega) (by omega)
    have hz2 := ho2.size
    clear ho2 hr1
    go_upto_region 2 with (fail)
    have K2 := Blk.new w2 [.int .u32 (n : Int), .int .i64 f, .int .i64 z] 69
    replace K := K.below (below_box w2 (.cells #[.int .u32 (n : Int), .int .i64 f, .int .i64 z] 69))
    replace BB := below_to BB (below_box w2 (.cells #[.int .u32 (n : Int), .int .i64 f, .int .i64 z] 69))
    generalize w2.alloc (.cells #[.int .u32 (n : Int), .int .i64 f, .int .i64 z] 69) = w3 at K K2 BB ⊢
    generalize w2.heap.size = g2 at K2 hz2 ⊢
    have v0 := K2.cell 0 _ rfl
    have v1 := K2.cell 1 _ rfl
    have v2 := K2.cell 2 _ rfl
    go_wp2_with fail
    refine (HP.out _).mono ?_
    rintro e w5 ⟨rfl, hb⟩
    replace K := K.below hb
    replace K2 := K2.below hb
    replace BB := below_to BB hb
    clear hb v0 v1 v2
    go_upto_region 5 with (fail)
    have K4 := Blk.new w5 [.int .u32 0, .int .i64 0, .int .i64 0] 69
    replace K := K.below (below_box w5 (.cells #[.int .u32 0, .int .i64 0, .int .i64 0] 69))
    replace BB := below_to BB (below_box w5 (.cells #[.int .u32 0, .int .i64 0, .int .i64 0] 69))
    generalize w5.alloc (.cells #[.int .u32 0, .int .i64 0, .int .i64 0] 69) = w6 at K K4 BB ⊢
    generalize w5.heap.size = g4 at K4 ⊢
    have x0 := K.cell 0 _ rfl
    have y0 := K.froz 0 _ rfl
    have x1 := K.cell 1 _ rfl
    have y1 := K.froz 1 _ rfl
    have x2 := K.cell 2 _ rfl
    have y2 := K.froz 2 _ rfl
    have u0 := K4.cell 0 _ rfl
    have u1 := K4.cell 1 _ rfl
    have u2 := K4.cell 2 _ rfl
    go_wp2_with fail
    have KK := (((K.put 0 (.int .u32 0) (by simp)).put 1 (.int .i64 0) (by simp)).put 2 (.int .i64 0) (by simp))
    have z0 := KK.cell 0 _ rfl
    have z1 := KK.cell 1 _ rfl
    have z2 := KK.cell 2 _ rfl
    refine bodyPost_ret (v := .tuple #[.agg #[.int .u32 0, .int .i64 0, .int .i64 0], .int .i64 19]) (by simp [results, Try.results91, go_sem, z0, z1, z2]) rfl ?_
    exact ⟨rfl, (((BB.setCell (p := ⟨w.heap.size, 0, none⟩) (Nat.le_refl _) (.int .u32 0)).setCell (p := ⟨w.heap.size, 1, none⟩) (Nat.le_refl _) (.int .i64 0)).setCell (p := ⟨w.heap.size, 2, none⟩) (Nat.le_refl _) (.int .i64 0))⟩
  | true =>
    replace HP : Hid (∀ w, Calls Try.prog 36 #[.agg #[.int .u32 (n : Int), .int .i64 f, .int .i64 z]] w fun e w' => e = .returned (.tuple #[.string S, .int .i64 0]) ∧ Below w.heap.size w w') := HP
    by_cases hS : S = s
    · have hq : decide (S = s) = true := decide_eq_true hS
      rw [hq]
      subst hS
      show Calls _ _ _ _ fun e w' => e = .returned (.tuple #[.agg #[.int .u32 (n : Int), .int .i64 f, .int .i64 z], .int .i64 0]) ∧ Below w.heap.size w w'
      go_enter Try.func91, Try.ntmps91
      go_wp2_with fail
      refine (HO.out _).mono ?_
      rintro e w1 ⟨rfl, hr1, hb1, hz1⟩
      have hz0 : (w.alloc (.cells #[.int .u32 0, .int .i64 0, .int .i64 0] 69)).heap.size = w.heap.size + 1 := by simp
      have K := (Blk.new w [.int .u32 0, .int .i64 0, .int .i64 0] 69).below hb1
      have BB := below_to (below_box w (.cells #[.int .u32 0, .int .i64 0, .int .i64 0] 69)) hb1
      rw [hz0] at hr1 hz1
      clear hb1
      go_wp2_with fail
      refine (HR.out _ _ hr1).mono ?_
      rintro e w2 ⟨rfl, ho2⟩
      replace K := K.only ho2 (by omega)
      replace BB := ho2.below BB (by omega) (by omega)
      have hz2 := ho2.size
      clear ho2 hr1
      go_upto_region 2 with (fail)
      have K2 := Blk.new w2 [.int .u32 (n : Int), .int .i64 f, .int .i64 z] 69
      replace K := K.below (below_box w2 (.cells #[.int .u32 (n : Int), .int .i64 f, .int .i64 z] 69))
      replace BB := below_to BB (below_box w2 (.cells #[.int .u32 (n : Int), .int .i64 f, .int .i64 z] 69))
      generalize w2.alloc (.cells #[.int .u32 (n : Int), .int .i64 f, .int .i64 z] 69) = w3 at K K2 BB ⊢
      generalize w2.heap.size = g2 at K2 hz2 ⊢
      have v0 := K2.cell 0 _ rfl
      have v1 := K2.cell 1 _ rfl
      have v2 := K2.cell 2 _ rfl
      go_wp2_with fail
      refine (HP.out _).mono ?_
      rintro e w5 ⟨rfl, hb⟩
      replace K := K.below hb
      replace K2 := K2.below hb
      replace BB := below_to BB hb
      clear hb v0 v1 v2
      have x0 := K.cell 0 _ rfl
      have y0 := K.froz 0 _ rfl
      have x1 := K.cell 1 _ rfl
      have y1 := K.froz 1 _ rfl
      have x2 := K.cell 2 _ rfl
      have y2 := K.froz 2 _ rfl
      have v0 := K2.cell 0 _ rfl
      have v1 := K2.cell 1 _ rfl
      have v2 := K2.cell 2 _ rfl
      go_wp2_with fail
      have KK := (((K.put 0 (.int .u32 (n : Int)) (by simp)).put 1 (.int .i64 f) (by simp)).put 2 (.int .i64 z) (by simp))
      have z0 := KK.cell 0 _ rfl
      have z1 := KK.cell 1 _ rfl
      have z2 := KK.cell 2 _ rfl
      refine bodyPost_ret (v := .tuple #[.agg #[.int .u32 (n : Int), .int .i64 f, .int .i64 z], .int .i64 0]) (by simp [results, Try.results91, go_sem, z0, z1, z2]) rfl ?_
      exact ⟨rfl, (((BB.setCell (p := ⟨w.heap.size, 0, none⟩) (Nat.le_refl _) (.int .u32 (n : Int))).setCell (p := ⟨w.heap.size, 1, none⟩) (Nat.le_refl _) (.int .i64 f)).setCell (p := ⟨w.heap.size, 2, none⟩) (Nat.le_refl _) (.int .i64 z))⟩
    · have hq : decide (S = s) = false := decide_eq_false hS
      have hq2 : (S.toList == s.toList) = false := by
        rw [beq_eq_false_iff_ne]
        intro e
        rw [ByteArray.toList_eq, ByteArray.toList_eq] at e
        exact hS (by rw [← bs_of S, ← bs_of s, e])
      rw [hq]
      show Calls _ _ _ _ fun e w' => e = .returned (.tuple #[.agg #[.int .u32 0, .int .i64 0, .int .i64 0], .int .i64 19]) ∧ Below w.heap.size w w'
      go_enter Try.func91, Try.ntmps91
      go_wp2_with fail
      refine (HO.out _).mono ?_
      rintro e w1 ⟨rfl, hr1, hb1, hz1⟩
      have hz0 : (w.alloc (.cells #[.int .u32 0, .int .i64 0, .int .i64 0] 69)).heap.size = w.heap.size + 1 := by simp
      have K := (Blk.new w [.int .u32 0, .int .i64 0, .int .i64 0] 69).below hb1
      have BB := below_to (below_box w (.cells #[.int .u32 0, .int .i64 0, .int .i64 0] 69)) hb1
      rw [hz0] at hr1 hz1
      clear hb1
      go_wp2_with fail
      refine (HR.out _ _ hr1).mono ?_
      rintro e w2 ⟨rfl, ho2⟩
      replace K := K.only ho2 (by omega)
      replace BB := ho2.below BB (by omega) (by omega)
      have hz2 := ho2.size
      clear ho2 hr1
      go_upto_region 2 with (fail)
      have K2 := Blk.new w2 [.int .u32 (n : Int), .int .i64 f, .int .i64 z] 69
      replace K := K.below (below_box w2 (.cells #[.int .u32 (n : Int), .int .i64 f, .int .i64 z] 69))
      replace BB := below_to BB (below_box w2 (.cells #[.int .u32 (n : Int), .int .i64 f, .int .i64 z] 69))
      generalize w2.alloc (.cells #[.int .u32 (n : Int), .int .i64 f, .int .i64 z] 69) = w3 at K K2 BB ⊢
      generalize w2.heap.size = g2 at K2 hz2 ⊢
      have v0 := K2.cell 0 _ rfl
      have v1 := K2.cell 1 _ rfl
      have v2 := K2.cell 2 _ rfl
      go_wp2_with fail
      refine (HP.out _).mono ?_
      rintro e w5 ⟨rfl, hb⟩
      replace K := K.below hb
      replace K2 := K2.below hb
      replace BB := below_to BB hb
      clear hb v0 v1 v2
      go_upto_region 5 with (fail)
      have K4 := Blk.new w5 [.int .u32 0, .int .i64 0, .int .i64 0] 69
      replace K := K.below (below_box w5 (.cells #[.int .u32 0, .int .i64 0, .int .i64 0] 69))
      replace BB := below_to BB (below_box w5 (.cells #[.int .u32 0, .int .i64 0, .int .i64 0] 69))
      generalize w5.alloc (.cells #[.int .u32 0, .int .i64 0, .int .i64 0] 69) = w6 at K K4 BB ⊢
      generalize w5.heap.size = g4 at K4 ⊢
      have x0 := K.cell 0 _ rfl
      have y0 := K.froz 0 _ rfl
      have x1 := K.cell 1 _ rfl
      have y1 := K.froz 1 _ rfl
      have x2 := K.cell 2 _ rfl
      have y2 := K.froz 2 _ rfl
      have u0 := K4.cell 0 _ rfl
      have u1 := K4.cell 1 _ rfl
      have u2 := K4.cell 2 _ rfl
      go_wp2_with fail
      have KK := (((K.put 0 (.int .u32 0) (by simp)).put 1 (.int .i64 0) (by simp)).put 2 (.int .i64 0) (by simp))
      have z0 := KK.cell 0 _ rfl
      have z1 := KK.cell 1 _ rfl
      have z2 := KK.cell 2 _ rfl
      refine bodyPost_ret (v := .tuple #[.agg #[.int .u32 0, .int .i64 0, .int .i64 0], .int .i64 19]) (by simp [results, Try.results91, go_sem, z0, z1, z2]) rfl ?_
      exact ⟨rfl, (((BB.setCell (p := ⟨w.heap.size, 0, none⟩) (Nat.le_refl _) (.int .u32 0)).setCell (p := ⟨w.heap.size, 1, none⟩) (Nat.le_refl _) (.int .i64 0)).setCell (p := ⟨w.heap.size, 2, none⟩) (Nat.le_refl _) (.int .i64 0))⟩
end Go.Proofs.Yteekjndhehnpaaa
