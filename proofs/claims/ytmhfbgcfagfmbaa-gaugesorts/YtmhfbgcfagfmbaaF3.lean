/- Contracts: math.IsNaN, IsInf, Signbit, gauge.Kind, and the reference's Kind. -/
import Derived.Test.YtmhfbgcfagfmbaaF2
namespace Go.Proofs.Ytmhfbgcfagfmbaa
open Go.RowKit

theorem ordGt {x y : Nat} (hx : Fit x) (hy : Fit y) (nx : ¬ NaN x) (ny : ¬ NaN y) : (FloatKind.f64.format.order x y == some .gt) = decide (kx y < kx x) := by
  rw [show FloatKind.f64.format.order x y = _ from dord_key hx hy nx ny, Fl.compare_int]
  rcases Int.lt_trichotomy (kx x) (kx y) with h | h | h
  · rw [if_pos h, decide_eq_false (by omega)]; rfl
  · rw [if_neg (by omega), if_pos h, decide_eq_false (by omega)]; rfl
  · rw [if_neg (by omega), if_neg (by omega), decide_eq_true h]; rfl
theorem ordLt {x y : Nat} (hx : Fit x) (hy : Fit y) (nx : ¬ NaN x) (ny : ¬ NaN y) : (FloatKind.f64.format.order x y == some .lt) = decide (kx x < kx y) := by
  rw [show FloatKind.f64.format.order x y = _ from dord_key hx hy nx ny, Fl.compare_int]
  rcases Int.lt_trichotomy (kx x) (kx y) with h | h | h
  · rw [if_pos h, decide_eq_true h]; rfl
  · rw [if_neg (by omega), if_pos h, decide_eq_false (by omega)]; rfl
  · rw [if_neg (by omega), if_neg (by omega), decide_eq_false (by omega)]; rfl
theorem ordEq {x y : Nat} (hx : Fit x) (hy : Fit y) (nx : ¬ NaN x) (ny : ¬ NaN y) : (FloatKind.f64.format.order x y == some .eq) = decide (kx x = kx y) := by
  rw [show FloatKind.f64.format.order x y = _ from dord_key hx hy nx ny, Fl.compare_int]
  rcases Int.lt_trichotomy (kx x) (kx y) with h | h | h
  · rw [if_pos h, decide_eq_false (by omega)]; rfl
  · rw [if_neg (by omega), if_pos h, decide_eq_true h]; rfl
  · rw [if_neg (by omega), if_neg (by omega), decide_eq_false (by omega)]; rfl
theorem ordNe {x y : Nat} (hx : Fit x) (hy : Fit y) (nx : ¬ NaN x) (ny : ¬ NaN y) : (FloatKind.f64.format.order x y != some .eq) = !decide (kx x = kx y) := by
  rw [← ordEq hx hy nx ny]; rfl
theorem ordNanL {x y : Nat} (hx : Fit x) (nx : NaN x) : FloatKind.f64.format.order x y = none := dord_nan_l hx nx
theorem ordNanR {x y : Nat} (hy : Fit y) (ny : NaN y) : FloatKind.f64.format.order x y = none := dord_nan_r hy ny

theorem run75 (b : Nat) (w : World) : (callFunc 75 #[.float .f64 b]).run Try.prog w = .ok (.value (.int .u64 b)) w := by kernel_rfl
theorem run74 (n : Int) (w : World) : (callFunc 74 #[.int .u64 n]).run Try.prog w = .ok (.value (.float .f64 n.toNat)) w := by kernel_rfl

/-- Is it a NaN? -/
def nanB (x : Nat) : Bool := decide (NaN x)
theorem nan_self {x : Nat} (hx : Fit x) : (FloatKind.f64.format.order x x != some .eq) = nanB x := by
  by_cases h : NaN x
  · rw [ordNanL hx h]; unfold nanB; rw [decide_eq_true h]; rfl
  · rw [ordNe hx hx h h]; unfold nanB; rw [decide_eq_false h]; simp
theorem isNaN_any (x : Nat) (hx : Fit x) (w : World) : Calls Try.prog 64 #[.float .f64 x] w fun e w' => e = .returned (.bool (nanB x)) ∧ w = w' := by
  rw [← nan_self hx]
  go_enter Try.func64, Try.ntmps64
  go_wp2
  go_ret
  exact ⟨rfl, rfl⟩

theorem kind_z (x : Nat) (hx : Fit x) (h : x = 0) (w : World) : Calls Try.prog 39 #[.float .f64 x] w fun e w' => e = .returned (.int .i64 3) ∧ w = w' := by
  have r75 := run75
  have rn := fun w => run_neg x w
  have hN : ¬ NaN x := by unfold NaN; unfold Fit at hx; omega
  have hb : nanB x = false := by unfold nanB; simpa using hN
  have hm : Fit 9218868437227405311 := by unfold Fit; omega
  have h0 : Fit 0 := by unfold Fit; omega
  have nm : ¬ NaN 9218868437227405311 := by unfold NaN; omega
  have n0 : ¬ NaN 0 := by unfold NaN; omega
  have en : negN x = 9223372036854775808 + x := negN_lo (by omega)
  have hnf := negN_fit hx
  have nn : ¬ NaN (negN x) := by rw [en]; unfold NaN at *; unfold Fit at hx; omega
  have f2 : (FloatKind.f64.format.order (negN x) 9218868437227405311 == some .gt) = false := by rw [ordGt hnf hm nn nm, en]; simp [kx]; unfold Fit at hx; omega
  have f3 : (FloatKind.f64.format.order x 9218868437227405311 == some .gt) = false := by rw [ordGt hx hm hN nm]; simp [kx]; unfold Fit at hx; omega
  have f4 : (FloatKind.f64.format.order x 0 == some .lt) = false := by rw [ordLt hx h0 hN n0]; simp [kx]; unfold Fit at hx; omega
  have f5 : (FloatKind.f64.format.order x 0 == some .gt) = false := by rw [ordGt hx h0 hN n0]; simp [kx]; unfold Fit at hx; omega
  have f6 : decide (wrap64 (x : Int) < 0) = false := wrap64_lo (by omega)
  have H := Lib.hid en
  clear en hm h0 nm n0 hnf nn hN
  have HH := Lib.hid h
  clear h
  go_enter Try.func39, Try.ntmps39
  go_wp2_with (first | (go_at_call 64; refine (isNaN_any _ hx _).mono ?_; rintro e w' ⟨rfl, rfl⟩) | go_in)
  go_ret
  exact ⟨rfl, rfl⟩
theorem kind_p (x : Nat) (hx : Fit x) (h : 0 < x ∧ x < 9218868437227405312) (w : World) : Calls Try.prog 39 #[.float .f64 x] w fun e w' => e = .returned (.int .i64 4) ∧ w = w' := by
  have r75 := run75
  have rn := fun w => run_neg x w
  have hN : ¬ NaN x := by unfold NaN; unfold Fit at hx; omega
  have hb : nanB x = false := by unfold nanB; simpa using hN
  have hm : Fit 9218868437227405311 := by unfold Fit; omega
  have h0 : Fit 0 := by unfold Fit; omega
  have nm : ¬ NaN 9218868437227405311 := by unfold NaN; omega
  have n0 : ¬ NaN 0 := by unfold NaN; omega
  have en : negN x = 9223372036854775808 + x := negN_lo (by omega)
  have hnf := negN_fit hx
  have nn : ¬ NaN (negN x) := by rw [en]; unfold NaN at *; unfold Fit at hx; omega
  have f2 : (FloatKind.f64.format.order (negN x) 9218868437227405311 == some .gt) = false := by rw [ordGt hnf hm nn nm, en]; simp [kx]; unfold Fit at hx; omega
  have f3 : (FloatKind.f64.format.order x 9218868437227405311 == some .gt) = false := by rw [ordGt hx hm hN nm]; simp [kx]; unfold Fit at hx; omega
  have f4 : (FloatKind.f64.format.order x 0 == some .lt) = false := by rw [ordLt hx h0 hN n0]; simp [kx]; unfold Fit at hx; omega
  have f5 : (FloatKind.f64.format.order x 0 == some .gt) = true := by rw [ordGt hx h0 hN n0]; simp [kx]; unfold Fit at hx; omega
  have f6 : decide (wrap64 (x : Int) < 0) = false := wrap64_lo (by omega)
  have H := Lib.hid en
  clear en hm h0 nm n0 hnf nn hN
  have HH := Lib.hid h
  clear h
  go_enter Try.func39, Try.ntmps39
  go_wp2_with (first | (go_at_call 64; refine (isNaN_any _ hx _).mono ?_; rintro e w' ⟨rfl, rfl⟩) | go_in)
  go_ret
  exact ⟨rfl, rfl⟩
theorem kind_pi (x : Nat) (hx : Fit x) (h : x = 9218868437227405312) (w : World) : Calls Try.prog 39 #[.float .f64 x] w fun e w' => e = .returned (.int .i64 5) ∧ w = w' := by
  have r75 := run75
  have rn := fun w => run_neg x w
  have hN : ¬ NaN x := by unfold NaN; unfold Fit at hx; omega
  have hb : nanB x = false := by unfold nanB; simpa using hN
  have hm : Fit 9218868437227405311 := by unfold Fit; omega
  have h0 : Fit 0 := by unfold Fit; omega
  have nm : ¬ NaN 9218868437227405311 := by unfold NaN; omega
  have n0 : ¬ NaN 0 := by unfold NaN; omega
  have en : negN x = 9223372036854775808 + x := negN_lo (by omega)
  have hnf := negN_fit hx
  have nn : ¬ NaN (negN x) := by rw [en]; unfold NaN at *; unfold Fit at hx; omega
  have f2 : (FloatKind.f64.format.order (negN x) 9218868437227405311 == some .gt) = false := by rw [ordGt hnf hm nn nm, en]; simp [kx]; unfold Fit at hx; omega
  have f3 : (FloatKind.f64.format.order x 9218868437227405311 == some .gt) = true := by rw [ordGt hx hm hN nm]; simp [kx]; unfold Fit at hx; omega
  have f4 : (FloatKind.f64.format.order x 0 == some .lt) = false := by rw [ordLt hx h0 hN n0]; simp [kx]; unfold Fit at hx; omega
  have f5 : (FloatKind.f64.format.order x 0 == some .gt) = true := by rw [ordGt hx h0 hN n0]; simp [kx]; unfold Fit at hx; omega
  have f6 : decide (wrap64 (x : Int) < 0) = false := wrap64_lo (by omega)
  have H := Lib.hid en
  clear en hm h0 nm n0 hnf nn hN
  have HH := Lib.hid h
  clear h
  go_enter Try.func39, Try.ntmps39
  go_wp2_with (first | (go_at_call 64; refine (isNaN_any _ hx _).mono ?_; rintro e w' ⟨rfl, rfl⟩) | go_in)
  go_ret
  exact ⟨rfl, rfl⟩
theorem kind_pn (x : Nat) (hx : Fit x) (h : 9218868437227405312 < x ∧ x < 9223372036854775808) (w : World) : Calls Try.prog 39 #[.float .f64 x] w fun e w' => e = .returned (.int .i64 6) ∧ w = w' := by
  have r75 := run75
  have rn := fun w => run_neg x w
  have hN : NaN x := by unfold NaN; unfold Fit at hx; omega
  have hb : nanB x = true := by unfold nanB; simpa using hN
  clear hN
  have HH := Lib.hid h
  clear h
  go_enter Try.func39, Try.ntmps39
  go_wp2_with (first | (go_at_call 64; refine (isNaN_any _ hx _).mono ?_; rintro e w' ⟨rfl, rfl⟩) | go_in)
  go_ret
  exact ⟨rfl, rfl⟩
theorem kind_nz (x : Nat) (hx : Fit x) (h : x = 9223372036854775808) (w : World) : Calls Try.prog 39 #[.float .f64 x] w fun e w' => e = .returned (.int .i64 2) ∧ w = w' := by
  have r75 := run75
  have rn := fun w => run_neg x w
  have hN : ¬ NaN x := by unfold NaN; unfold Fit at hx; omega
  have hb : nanB x = false := by unfold nanB; simpa using hN
  have hm : Fit 9218868437227405311 := by unfold Fit; omega
  have h0 : Fit 0 := by unfold Fit; omega
  have nm : ¬ NaN 9218868437227405311 := by unfold NaN; omega
  have n0 : ¬ NaN 0 := by unfold NaN; omega
  have en : negN x = x - 9223372036854775808 := negN_hi (by omega) hx
  have hnf := negN_fit hx
  have nn : ¬ NaN (negN x) := by rw [en]; unfold NaN at *; unfold Fit at hx; omega
  have f2 : (FloatKind.f64.format.order (negN x) 9218868437227405311 == some .gt) = false := by rw [ordGt hnf hm nn nm, en]; simp [kx]; unfold Fit at hx; omega
  have f3 : (FloatKind.f64.format.order x 9218868437227405311 == some .gt) = false := by rw [ordGt hx hm hN nm]; simp [kx]; unfold Fit at hx; omega
  have f4 : (FloatKind.f64.format.order x 0 == some .lt) = false := by rw [ordLt hx h0 hN n0]; simp [kx]; unfold Fit at hx; omega
  have f5 : (FloatKind.f64.format.order x 0 == some .gt) = false := by rw [ordGt hx h0 hN n0]; simp [kx]; unfold Fit at hx; omega
  have f6 : decide (wrap64 (x : Int) < 0) = true := wrap64_hi (by omega) hx
  have H := Lib.hid en
  clear en hm h0 nm n0 hnf nn hN
  have HH := Lib.hid h
  clear h
  go_enter Try.func39, Try.ntmps39
  go_wp2_with (first | (go_at_call 64; refine (isNaN_any _ hx _).mono ?_; rintro e w' ⟨rfl, rfl⟩) | go_in)
  go_ret
  exact ⟨rfl, rfl⟩
theorem kind_n (x : Nat) (hx : Fit x) (h : 9223372036854775808 < x ∧ x < 18442240474082181120) (w : World) : Calls Try.prog 39 #[.float .f64 x] w fun e w' => e = .returned (.int .i64 1) ∧ w = w' := by
  have r75 := run75
  have rn := fun w => run_neg x w
  have hN : ¬ NaN x := by unfold NaN; unfold Fit at hx; omega
  have hb : nanB x = false := by unfold nanB; simpa using hN
  have hm : Fit 9218868437227405311 := by unfold Fit; omega
  have h0 : Fit 0 := by unfold Fit; omega
  have nm : ¬ NaN 9218868437227405311 := by unfold NaN; omega
  have n0 : ¬ NaN 0 := by unfold NaN; omega
  have en : negN x = x - 9223372036854775808 := negN_hi (by omega) hx
  have hnf := negN_fit hx
  have nn : ¬ NaN (negN x) := by rw [en]; unfold NaN at *; unfold Fit at hx; omega
  have f2 : (FloatKind.f64.format.order (negN x) 9218868437227405311 == some .gt) = false := by rw [ordGt hnf hm nn nm, en]; simp [kx]; unfold Fit at hx; omega
  have f3 : (FloatKind.f64.format.order x 9218868437227405311 == some .gt) = false := by rw [ordGt hx hm hN nm]; simp [kx]; unfold Fit at hx; omega
  have f4 : (FloatKind.f64.format.order x 0 == some .lt) = true := by rw [ordLt hx h0 hN n0]; simp [kx]; unfold Fit at hx; omega
  have f5 : (FloatKind.f64.format.order x 0 == some .gt) = false := by rw [ordGt hx h0 hN n0]; simp [kx]; unfold Fit at hx; omega
  have f6 : decide (wrap64 (x : Int) < 0) = true := wrap64_hi (by omega) hx
  have H := Lib.hid en
  clear en hm h0 nm n0 hnf nn hN
  have HH := Lib.hid h
  clear h
  go_enter Try.func39, Try.ntmps39
  go_wp2_with (first | (go_at_call 64; refine (isNaN_any _ hx _).mono ?_; rintro e w' ⟨rfl, rfl⟩) | go_in)
  go_ret
  exact ⟨rfl, rfl⟩
theorem kind_ni (x : Nat) (hx : Fit x) (h : x = 18442240474082181120) (w : World) : Calls Try.prog 39 #[.float .f64 x] w fun e w' => e = .returned (.int .i64 0) ∧ w = w' := by
  have r75 := run75
  have rn := fun w => run_neg x w
  have hN : ¬ NaN x := by unfold NaN; unfold Fit at hx; omega
  have hb : nanB x = false := by unfold nanB; simpa using hN
  have hm : Fit 9218868437227405311 := by unfold Fit; omega
  have h0 : Fit 0 := by unfold Fit; omega
  have nm : ¬ NaN 9218868437227405311 := by unfold NaN; omega
  have n0 : ¬ NaN 0 := by unfold NaN; omega
  have en : negN x = x - 9223372036854775808 := negN_hi (by omega) hx
  have hnf := negN_fit hx
  have nn : ¬ NaN (negN x) := by rw [en]; unfold NaN at *; unfold Fit at hx; omega
  have f2 : (FloatKind.f64.format.order (negN x) 9218868437227405311 == some .gt) = true := by rw [ordGt hnf hm nn nm, en]; simp [kx]; unfold Fit at hx; omega
  have f3 : (FloatKind.f64.format.order x 9218868437227405311 == some .gt) = false := by rw [ordGt hx hm hN nm]; simp [kx]; unfold Fit at hx; omega
  have f4 : (FloatKind.f64.format.order x 0 == some .lt) = true := by rw [ordLt hx h0 hN n0]; simp [kx]; unfold Fit at hx; omega
  have f5 : (FloatKind.f64.format.order x 0 == some .gt) = false := by rw [ordGt hx h0 hN n0]; simp [kx]; unfold Fit at hx; omega
  have f6 : decide (wrap64 (x : Int) < 0) = true := wrap64_hi (by omega) hx
  have H := Lib.hid en
  clear en hm h0 nm n0 hnf nn hN
  have HH := Lib.hid h
  clear h
  go_enter Try.func39, Try.ntmps39
  go_wp2_with (first | (go_at_call 64; refine (isNaN_any _ hx _).mono ?_; rintro e w' ⟨rfl, rfl⟩) | go_in)
  go_ret
  exact ⟨rfl, rfl⟩
theorem kind_nn (x : Nat) (hx : Fit x) (h : 18442240474082181120 < x) (w : World) : Calls Try.prog 39 #[.float .f64 x] w fun e w' => e = .returned (.int .i64 6) ∧ w = w' := by
  have r75 := run75
  have rn := fun w => run_neg x w
  have hN : NaN x := by unfold NaN; unfold Fit at hx; omega
  have hb : nanB x = true := by unfold nanB; simpa using hN
  clear hN
  have HH := Lib.hid h
  clear h
  go_enter Try.func39, Try.ntmps39
  go_wp2_with (first | (go_at_call 64; refine (isNaN_any _ hx _).mono ?_; rintro e w' ⟨rfl, rfl⟩) | go_in)
  go_ret
  exact ⟨rfl, rfl⟩
end Go.Proofs.Ytmhfbgcfagfmbaa
