/- float64: order, kinds, negation, by the bits. -/
import Derived.Test.YtmhfbgcfagfmbaaF1
import Derived.Test.YtmhfbgcfagfmbaaT1
import Derived.Laws.Cover2
import Derived.Laws.FloatArith
import Derived.Lib.Hide
namespace Go.Proofs.Ytmhfbgcfagfmbaa
open Go.RowKit

abbrev dord (x y : Nat) : Option Ordering := FloatKind.f64.format.order x y
theorem d_sw : FloatKind.f64.format.signWeight = 9223372036854775808 := by rfl
theorem d_inf : FloatKind.f64.format.infRung = 9218868437227405312 := by rfl
theorem d_bin : FloatKind.f64.format.binade = 4503599627370496 := by rfl
theorem d_exp : 1 ≤ FloatKind.f64.format.exponentBits := by decide

/-- A float64's bits fit. -/
def Fit (x : Nat) : Prop := x < 18446744073709551616
/-- No number. -/
def NaN (x : Nat) : Prop := (9218868437227405312 < x ∧ x < 9223372036854775808) ∨ 18442240474082181120 < x
instance (x : Nat) : Decidable (NaN x) := by unfold NaN; infer_instance
/-- The place of a float64 in the order of numbers. -/
def kx (x : Nat) : Int := if x < 9223372036854775808 then (x : Int) else 9223372036854775808 - (x : Int)

theorem rung_eq (x : Nat) : Fl.rung FloatKind.f64.format x = x % 9223372036854775808 := by unfold Fl.rung; rw [d_sw]
theorem sgn_eq (x : Nat) : Fl.sgn FloatKind.f64.format x = (x / 9223372036854775808 % 2 == 1) := by unfold Fl.sgn; rw [d_sw]
theorem key_eq {x : Nat} (hx : Fit x) : Fl.key FloatKind.f64.format x = kx x := by
  unfold Fit at hx
  unfold Fl.key kx
  rw [rung_eq, sgn_eq]
  by_cases h : x < 9223372036854775808
  · have e : x / 9223372036854775808 = 0 := by omega
    rw [e, if_pos h]; simp; omega
  · have e : x / 9223372036854775808 = 1 := by omega
    rw [e, if_neg h]; simp; omega
theorem nan_rung {x : Nat} (hx : Fit x) : NaN x ↔ FloatKind.f64.format.infRung < Fl.rung FloatKind.f64.format x := by
  unfold Fit at hx
  rw [rung_eq, d_inf]; unfold NaN; omega

theorem dord_key {x y : Nat} (hx : Fit x) (hy : Fit y) (nx : ¬ NaN x) (ny : ¬ NaN y) : dord x y = some (compare (kx x) (kx y)) := by
  rw [← key_eq hx, ← key_eq hy]
  rw [nan_rung hx] at nx
  rw [nan_rung hy] at ny
  exact Fl.order_key _ d_exp (by omega) (by omega)
theorem dord_nan_l {x y : Nat} (hx : Fit x) (nx : NaN x) : dord x y = none := Fl.order_nan_l _ d_exp ((nan_rung hx).1 nx)
theorem dord_nan_r {x y : Nat} (hy : Fit y) (ny : NaN y) : dord x y = none := Fl.order_nan_r _ d_exp ((nan_rung hy).1 ny)

theorem dord_lt {x y : Nat} (hx : Fit x) (hy : Fit y) (nx : ¬ NaN x) (ny : ¬ NaN y) (h : kx x < kx y) : dord x y = some .lt := by
  rw [dord_key hx hy nx ny, Fl.compare_int, if_pos h]
theorem dord_eq {x y : Nat} (hx : Fit x) (hy : Fit y) (nx : ¬ NaN x) (ny : ¬ NaN y) (h : kx x = kx y) : dord x y = some .eq := by
  rw [dord_key hx hy nx ny, Fl.compare_int, if_neg (by omega), if_pos h]
theorem dord_gt {x y : Nat} (hx : Fit x) (hy : Fit y) (nx : ¬ NaN x) (ny : ¬ NaN y) (h : kx y < kx x) : dord x y = some .gt := by
  rw [dord_key hx hy nx ny, Fl.compare_int, if_neg (by omega), if_neg (by omega)]

/-- -x. -/
def negN (x : Nat) : Nat := x ^^^ 2 ^ 63
theorem xor_small {x : Nat} (h : x < 2 ^ 63) : x ^^^ 2 ^ 63 = 2 ^ 63 + x := by
  apply Nat.eq_of_testBit_eq
  intro i
  rw [Nat.testBit_xor, Nat.testBit_two_pow]
  rcases Nat.lt_trichotomy i 63 with hi | hi | hi
  · rw [Nat.testBit_two_pow_add_gt hi, show decide (63 = i) = false by simp; omega, Bool.xor_false]
  · subst hi
    rw [Nat.testBit_two_pow_add_eq, Nat.testBit_lt_two_pow h]; simp
  · have h1 : x < 2 ^ i := Nat.lt_of_lt_of_le h (Nat.pow_le_pow_right (by omega) (by omega))
    have h2 : 2 ^ 63 + x < 2 ^ i := by
      have : 2 ^ 64 ≤ 2 ^ i := Nat.pow_le_pow_right (by omega) (by omega)
      omega
    rw [Nat.testBit_lt_two_pow h1, Nat.testBit_lt_two_pow h2]; simp; omega
theorem negN_lo {x : Nat} (h : x < 9223372036854775808) : negN x = 9223372036854775808 + x := xor_small h
theorem negN_hi {x : Nat} (h : 9223372036854775808 ≤ x) (hx : Fit x) : negN x = x - 9223372036854775808 := by
  unfold Fit at hx
  obtain ⟨y, rfl⟩ : ∃ y, x = 9223372036854775808 + y := ⟨x - 9223372036854775808, by omega⟩
  have hy : y < 2 ^ 63 := by omega
  have e := xor_small hy
  unfold negN
  rw [show (9223372036854775808 + y) = y ^^^ 2 ^ 63 from e.symm, Nat.xor_assoc, Nat.xor_self, Nat.xor_zero]
  omega
theorem negN_fit {x : Nat} (hx : Fit x) : Fit (negN x) := by
  by_cases h : x < 9223372036854775808
  · rw [negN_lo h]; unfold Fit at *; omega
  · rw [negN_hi (by omega) hx]; unfold Fit at *; omega
theorem run_neg (x : Nat) (w : World) : (Op.unary UnOp.neg (.float .f64 x)).run Try.prog w = .ok (.float .f64 (negN x)) w := rfl

/-- The kind of a float64, from 0 to 6. -/
def kindF (x : Nat) : Int :=
  if x = 0 then 3 else if x < 9218868437227405312 then 4 else if x = 9218868437227405312 then 5 else if x < 9223372036854775808 then 6
  else if x = 9223372036854775808 then 2 else if x < 18442240474082181120 then 1 else if x = 18442240474082181120 then 0 else 6

theorem wrap64_lo {x : Nat} (h : x < 9223372036854775808) : decide (wrap64 (x : Int) < 0) = false := by
  unfold wrap64; simp; omega
theorem wrap64_hi {x : Nat} (h : 9223372036854775808 ≤ x) (hx : Fit x) : decide (wrap64 (x : Int) < 0) = true := by
  unfold Fit at hx
  unfold wrap64; simp; omega
end Go.Proofs.Ytmhfbgcfagfmbaa
