/- Contracts: cmp.Compare on int, gauge.Order, and the reference's Ahead and Same. -/
import Derived.Test.YtmhfbgcfagfmbaaF5
namespace Go.Proofs.Ytmhfbgcfagfmbaa
open Go.RowKit

/-- The place of a float64 in the total order; all NaNs have one place. -/
def tk (x : Nat) : Int :=
  if x < 9223372036854775808 then (if x ≤ 9218868437227405312 then (x : Int) else 9223372036854775808)
  else (if x ≤ 18442240474082181120 then 9223372036854775807 - (x : Int) else 9223372036854775808)
/-- -1, 0 or 1. -/
def cmp3 (a b : Int) : Int := if a < b then -1 else if b < a then 1 else 0
theorem cmp3_lt {a b : Int} (h : a < b) : cmp3 a b = -1 := by simp [cmp3, h]
theorem cmp3_gt {a b : Int} (h : b < a) : cmp3 a b = 1 := by unfold cmp3; rw [if_neg (by omega), if_pos h]
theorem cmp3_eq {a b : Int} (h : a = b) : cmp3 a b = 0 := by unfold cmp3; rw [if_neg (by omega), if_neg (by omega)]

/-- The ranges of bits, one a kind. -/
theorem kind_cases {x : Nat} (hx : Fit x) : (x = 0 ∧ kindF x = 3 ∧ tk x = 0) ∨ (0 < x ∧ x < 9218868437227405312 ∧ kindF x = 4 ∧ tk x = x) ∨ (x = 9218868437227405312 ∧ kindF x = 5 ∧ tk x = 9218868437227405312) ∨
    (NaN x ∧ kindF x = 6 ∧ tk x = 9223372036854775808) ∨ (x = 9223372036854775808 ∧ kindF x = 2 ∧ tk x = -1) ∨ (9223372036854775808 < x ∧ x < 18442240474082181120 ∧ kindF x = 1 ∧ tk x = 9223372036854775807 - (x : Int)) ∨
    (x = 18442240474082181120 ∧ kindF x = 0 ∧ tk x = -9218868437227405313) := by
  unfold Fit at hx
  unfold kindF tk NaN
  (repeat' split) <;> omega

theorem kind_tk {x y : Nat} (hx : Fit x) (hy : Fit y) (h : kindF x < kindF y) : tk x < tk y := by
  unfold Fit at hx hy
  rcases kind_cases hx with ⟨_, k1, t1⟩ | ⟨_, _, k1, t1⟩ | ⟨_, k1, t1⟩ | ⟨_, k1, t1⟩ | ⟨_, k1, t1⟩ | ⟨_, _, k1, t1⟩ | ⟨_, k1, t1⟩ <;>
  rcases kind_cases hy with ⟨_, k2, t2⟩ | ⟨_, _, k2, t2⟩ | ⟨_, k2, t2⟩ | ⟨_, k2, t2⟩ | ⟨_, k2, t2⟩ | ⟨_, _, k2, t2⟩ | ⟨_, k2, t2⟩ <;>
  rw [k1, k2] at h <;> rw [t1, t2] <;> omega

theorem not_nan_lo {x : Nat} (h : x ≤ 9218868437227405312) : ¬ NaN x := by unfold NaN; omega
theorem not_nan_hi {x : Nat} (h : 9223372036854775808 ≤ x) (h2 : x ≤ 18442240474082181120) : ¬ NaN x := by unfold NaN; omega

theorem same_lt {x y : Nat} (hx : Fit x) (hy : Fit y) (h : kindF x = kindF y) : (FloatKind.f64.format.order x y == some .lt) = decide (tk x < tk y) := by
  rcases kind_cases hx with ⟨a1, k1, t1⟩ | ⟨a1, b1, k1, t1⟩ | ⟨a1, k1, t1⟩ | ⟨a1, k1, t1⟩ | ⟨a1, k1, t1⟩ | ⟨a1, b1, k1, t1⟩ | ⟨a1, k1, t1⟩ <;>
  rcases kind_cases hy with ⟨a2, k2, t2⟩ | ⟨a2, b2, k2, t2⟩ | ⟨a2, k2, t2⟩ | ⟨a2, k2, t2⟩ | ⟨a2, k2, t2⟩ | ⟨a2, b2, k2, t2⟩ | ⟨a2, k2, t2⟩ <;>
  first
  | (exfalso; rw [k1, k2] at h; omega)
  | (rw [ordNanL hx a1, t1, t2]; rfl)
  | (rw [ordLt hx hy (not_nan_lo (by omega)) (not_nan_lo (by omega)), t1, t2]; unfold kx; rw [if_pos (by omega), if_pos (by omega)]; try (congr 1; simp only [eq_iff_iff]; omega))
  | (rw [ordLt hx hy (not_nan_hi (by omega) (by omega)) (not_nan_hi (by omega) (by omega)), t1, t2]; unfold kx; rw [if_neg (by omega), if_neg (by omega)]; try (congr 1; simp only [eq_iff_iff]; omega))

theorem compare_any (a b : Int) (w : World) : Calls Try.prog 72 #[.int .i64 a, .int .i64 b] w fun e w' => e = .returned (.int .i64 (cmp3 a b)) ∧ w = w' := by
  rcases Int.lt_trichotomy a b with h | h | h
  · rw [cmp3_lt h]
    go_enter Try.func72, Try.ntmps72
    go_wp2
    go_ret
    exact ⟨rfl, rfl⟩
  · rw [cmp3_eq h]
    subst h
    go_enter Try.func72, Try.ntmps72
    go_wp2
    go_ret
    exact ⟨rfl, rfl⟩
  · rw [cmp3_gt h]
    go_enter Try.func72, Try.ntmps72
    go_wp2
    go_ret
    exact ⟨rfl, rfl⟩

theorem order_any (x y : Nat) (hx : Fit x) (hy : Fit y) (w : World) : Calls Try.prog 53 #[.float .f64 x, .float .f64 y] w fun e w' => e = .returned (.int .i64 (cmp3 (tk x) (tk y))) ∧ w = w' := by
  rcases Int.lt_trichotomy (kindF x) (kindF y) with h | h | h
  · rw [cmp3_lt (kind_tk hx hy h)]
    have hc := cmp3_lt h
    go_enter Try.func53, Try.ntmps53
    go_wp2_with fail
    refine (kind_any x hx _).mono ?_
    rintro e w' ⟨rfl, rfl⟩
    go_wp2_with fail
    refine (kind_any y hy _).mono ?_
    rintro e w' ⟨rfl, rfl⟩
    go_wp2_with fail
    refine (compare_any _ _ _).mono ?_
    rintro e w' ⟨rfl, rfl⟩
    rw [hc]
    go_wp2
    go_ret
    exact ⟨rfl, rfl⟩
  · have hc := cmp3_eq h
    have f1 := same_lt hx hy h
    have f2 := same_lt hy hx h.symm
    have HK := Lib.hid h
    clear h
    rcases Int.lt_trichotomy (tk x) (tk y) with g | g | g
    · rw [cmp3_lt g]
      rw [decide_eq_true g] at f1
      clear f2
      go_enter Try.func53, Try.ntmps53
      go_wp2_with fail
      refine (kind_any x hx _).mono ?_
      rintro e w' ⟨rfl, rfl⟩
      go_wp2_with fail
      refine (kind_any y hy _).mono ?_
      rintro e w' ⟨rfl, rfl⟩
      go_wp2_with fail
      refine (compare_any _ _ _).mono ?_
      rintro e w' ⟨rfl, rfl⟩
      rw [hc]
      go_wp2
      go_ret
      exact ⟨rfl, rfl⟩
    · rw [cmp3_eq g]
      rw [decide_eq_false (by omega)] at f1
      rw [decide_eq_false (by omega)] at f2
      clear g
      go_enter Try.func53, Try.ntmps53
      go_wp2_with fail
      refine (kind_any x hx _).mono ?_
      rintro e w' ⟨rfl, rfl⟩
      go_wp2_with fail
      refine (kind_any y hy _).mono ?_
      rintro e w' ⟨rfl, rfl⟩
      go_wp2_with fail
      refine (compare_any _ _ _).mono ?_
      rintro e w' ⟨rfl, rfl⟩
      rw [hc]
      go_wp2
      go_ret
      exact ⟨rfl, rfl⟩
    · rw [cmp3_gt g]
      rw [decide_eq_false (by omega)] at f1
      rw [decide_eq_true g] at f2
      go_enter Try.func53, Try.ntmps53
      go_wp2_with fail
      refine (kind_any x hx _).mono ?_
      rintro e w' ⟨rfl, rfl⟩
      go_wp2_with fail
      refine (kind_any y hy _).mono ?_
      rintro e w' ⟨rfl, rfl⟩
      go_wp2_with fail
      refine (compare_any _ _ _).mono ?_
      rintro e w' ⟨rfl, rfl⟩
      rw [hc]
      go_wp2
      go_ret
      exact ⟨rfl, rfl⟩
  · rw [cmp3_gt (kind_tk hy hx h)]
    have hc := cmp3_gt h
    go_enter Try.func53, Try.ntmps53
    go_wp2_with fail
    refine (kind_any x hx _).mono ?_
    rintro e w' ⟨rfl, rfl⟩
    go_wp2_with fail
    refine (kind_any y hy _).mono ?_
    rintro e w' ⟨rfl, rfl⟩
    go_wp2_with fail
    refine (compare_any _ _ _).mono ?_
    rintro e w' ⟨rfl, rfl⟩
    rw [hc]
    go_wp2
    go_ret
    exact ⟨rfl, rfl⟩
end Go.Proofs.Ytmhfbgcfagfmbaa
