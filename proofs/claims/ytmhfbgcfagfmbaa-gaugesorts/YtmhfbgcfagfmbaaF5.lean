/- The contract of the reference's Kind. -/
import Derived.Test.YtmhfbgcfagfmbaaF4
namespace Go.Proofs.Ytmhfbgcfagfmbaa
open Go.RowKit

theorem one_by_zero : floatBits .quo .f64 4607182418800017408 0 = some 9218868437227405312 := by decide +kernel
theorem one_by_nzero : floatBits .quo .f64 4607182418800017408 9223372036854775808 = some 18442240474082181120 := by decide +kernel
theorem fit0 : Fit 0 := by unfold Fit; omega
theorem nan0 : ¬ NaN 0 := by unfold NaN; omega
theorem sub_fin {x : Nat} (h : x % 9223372036854775808 < 9218868437227405312) : floatBits .sub .f64 x x = some 0 := by
  exact Fl.sub_self_fin _ (by rw [rung_eq, d_inf]; exact h)
theorem sub_inf {x : Nat} (h : x % 9223372036854775808 = 9218868437227405312) : floatBits .sub .f64 x x = none := by
  exact Fl.sub_self_inf _ d_exp (by rw [rung_eq, d_inf]; exact h)

theorem rkind_z (x : Nat) (hx : Fit x) (h : x = 0) (w : World) : Calls Try.prog 40 #[.float .f64 x] w fun e w' => e = .returned (.int .i64 3) ∧ Below w.heap.size w w' := by
  have hN : ¬ NaN x := by unfold NaN; unfold Fit at hx; omega
  have f1 : (FloatKind.f64.format.order x x != some .eq) = false := by rw [nan_self hx]; unfold nanB; simpa using hN
  have f2 : (FloatKind.f64.format.order x 0 == some .eq) = true := by rw [ordEq hx fit0 hN nan0]; simp [kx]; unfold Fit at hx; omega
  subst h
  have q := fun w => run_float_arith (P := Try.prog) w .quo 45 .f64 4607182418800017408 0 9218868437227405312 one_by_zero
  have f3 : (FloatKind.f64.format.order 9218868437227405312 0 == some .lt) = false := by rw [ordLt (by unfold Fit; omega) fit0 (by unfold NaN; omega) nan0]; simp [kx]
  clear hN
  go_enter Try.func40, Try.ntmps40
  go_wp2
  go_ret
  exact ⟨rfl, Below.refl _ _⟩
theorem rkind_p (x : Nat) (hx : Fit x) (h : 0 < x ∧ x < 9218868437227405312) (w : World) : Calls Try.prog 40 #[.float .f64 x] w fun e w' => e = .returned (.int .i64 4) ∧ Below w.heap.size w w' := by
  have hN : ¬ NaN x := by unfold NaN; unfold Fit at hx; omega
  have f1 : (FloatKind.f64.format.order x x != some .eq) = false := by rw [nan_self hx]; unfold nanB; simpa using hN
  have f2 : (FloatKind.f64.format.order x 0 == some .eq) = false := by rw [ordEq hx fit0 hN nan0]; simp [kx]; unfold Fit at hx; omega
  have f4 : (FloatKind.f64.format.order x 0 == some .lt) = false := by rw [ordLt hx fit0 hN nan0]; simp [kx]; unfold Fit at hx; omega
  have q := fun w => run_float_arith (P := Try.prog) w .sub 45 .f64 x x 0 (sub_fin (by omega))
  have f5 : (FloatKind.f64.format.order 0 0 != some .eq) = false := by rw [ordNe fit0 fit0 nan0 nan0]; simp
  have HH := Lib.hid h
  clear h hN
  go_enter Try.func40, Try.ntmps40
  go_wp2
  go_ret
  exact ⟨rfl, Below.refl _ _⟩
theorem rkind_pi (x : Nat) (hx : Fit x) (h : x = 9218868437227405312) (w : World) : Calls Try.prog 40 #[.float .f64 x] w fun e w' => e = .returned (.int .i64 5) ∧ Below w.heap.size w w' := by
  have hN : ¬ NaN x := by unfold NaN; unfold Fit at hx; omega
  have f1 : (FloatKind.f64.format.order x x != some .eq) = false := by rw [nan_self hx]; unfold nanB; simpa using hN
  have f2 : (FloatKind.f64.format.order x 0 == some .eq) = false := by rw [ordEq hx fit0 hN nan0]; simp [kx]; unfold Fit at hx; omega
  have f4 : (FloatKind.f64.format.order x 0 == some .lt) = false := by rw [ordLt hx fit0 hN nan0]; simp [kx]; unfold Fit at hx; omega
  obtain ⟨b, w1, q, hb, ⟨e, _⟩ | ⟨_, nb, rfl⟩⟩ := run_arith .sub (.inr (.inl rfl)) 45 x x w
  · rw [sub_inf (by omega)] at e; cases e
  have f5 : (FloatKind.f64.format.order b 0 != some .eq) = true := by rw [ordNanL hb nb]; rfl
  clear hb nb
  have HH := Lib.hid h
  clear h hN
  go_enter Try.func40, Try.ntmps40
  go_wp2
  go_ret
  exact ⟨rfl, (Below.refl _ _).drew⟩
theorem rkind_pn (x : Nat) (hx : Fit x) (h : 9218868437227405312 < x ∧ x < 9223372036854775808) (w : World) : Calls Try.prog 40 #[.float .f64 x] w fun e w' => e = .returned (.int .i64 6) ∧ Below w.heap.size w w' := by
  have hN : NaN x := by unfold NaN; unfold Fit at hx; omega
  have f1 : (FloatKind.f64.format.order x x != some .eq) = true := by rw [nan_self hx]; unfold nanB; simpa using hN
  have HH := Lib.hid h
  clear h hN
  go_enter Try.func40, Try.ntmps40
  go_wp2
  go_ret
  exact ⟨rfl, Below.refl _ _⟩
theorem rkind_nz (x : Nat) (hx : Fit x) (h : x = 9223372036854775808) (w : World) : Calls Try.prog 40 #[.float .f64 x] w fun e w' => e = .returned (.int .i64 2) ∧ Below w.heap.size w w' := by
  have hN : ¬ NaN x := by unfold NaN; unfold Fit at hx; omega
  have f1 : (FloatKind.f64.format.order x x != some .eq) = false := by rw [nan_self hx]; unfold nanB; simpa using hN
  have f2 : (FloatKind.f64.format.order x 0 == some .eq) = true := by rw [ordEq hx fit0 hN nan0]; simp [kx]; unfold Fit at hx; omega
  subst h
  have q := fun w => run_float_arith (P := Try.prog) w .quo 45 .f64 4607182418800017408 9223372036854775808 18442240474082181120 one_by_nzero
  have f3 : (FloatKind.f64.format.order 18442240474082181120 0 == some .lt) = true := by rw [ordLt (by unfold Fit; omega) fit0 (by unfold NaN; omega) nan0]; simp [kx]
  clear hN
  go_enter Try.func40, Try.ntmps40
  go_wp2
  go_ret
  exact ⟨rfl, Below.refl _ _⟩
theorem rkind_n (x : Nat) (hx : Fit x) (h : 9223372036854775808 < x ∧ x < 18442240474082181120) (w : World) : Calls Try.prog 40 #[.float .f64 x] w fun e w' => e = .returned (.int .i64 1) ∧ Below w.heap.size w w' := by
  have hN : ¬ NaN x := by unfold NaN; unfold Fit at hx; omega
  have f1 : (FloatKind.f64.format.order x x != some .eq) = false := by rw [nan_self hx]; unfold nanB; simpa using hN
  have f2 : (FloatKind.f64.format.order x 0 == some .eq) = false := by rw [ordEq hx fit0 hN nan0]; simp [kx]; unfold Fit at hx; omega
  have f4 : (FloatKind.f64.format.order x 0 == some .lt) = true := by rw [ordLt hx fit0 hN nan0]; simp [kx]; unfold Fit at hx; omega
  have q := fun w => run_float_arith (P := Try.prog) w .sub 45 .f64 x x 0 (sub_fin (by omega))
  have f5 : (FloatKind.f64.format.order 0 0 != some .eq) = false := by rw [ordNe fit0 fit0 nan0 nan0]; simp
  have HH := Lib.hid h
  clear h hN
  go_enter Try.func40, Try.ntmps40
  go_wp2
  go_ret
  exact ⟨rfl, Below.refl _ _⟩
theorem rkind_ni (x : Nat) (hx : Fit x) (h : x = 18442240474082181120) (w : World) : Calls Try.prog 40 #[.float .f64 x] w fun e w' => e = .returned (.int .i64 0) ∧ Below w.heap.size w w' := by
  have hN : ¬ NaN x := by unfold NaN; unfold Fit at hx; omega
  have f1 : (FloatKind.f64.format.order x x != some .eq) = false := by rw [nan_self hx]; unfold nanB; simpa using hN
  have f2 : (FloatKind.f64.format.order x 0 == some .eq) = false := by rw [ordEq hx fit0 hN nan0]; simp [kx]; unfold Fit at hx; omega
  have f4 : (FloatKind.f64.format.order x 0 == some .lt) = true := by rw [ordLt hx fit0 hN nan0]; simp [kx]; unfold Fit at hx; omega
  obtain ⟨b, w1, q, hb, ⟨e, _⟩ | ⟨_, nb, rfl⟩⟩ := run_arith .sub (.inr (.inl rfl)) 45 x x w
  · rw [sub_inf (by omega)] at e; cases e
  have f5 : (FloatKind.f64.format.order b 0 != some .eq) = true := by rw [ordNanL hb nb]; rfl
  clear hb nb
  have HH := Lib.hid h
  clear h hN
  go_enter Try.func40, Try.ntmps40
  go_wp2
  go_ret
  exact ⟨rfl, (Below.refl _ _).drew⟩
theorem rkind_nn (x : Nat) (hx : Fit x) (h : 18442240474082181120 < x) (w : World) : Calls Try.prog 40 #[.float .f64 x] w fun e w' => e = .returned (.int .i64 6) ∧ Below w.heap.size w w' := by
  have hN : NaN x := by unfold NaN; unfold Fit at hx; omega
  have f1 : (FloatKind.f64.format.order x x != some .eq) = true := by rw [nan_self hx]; unfold nanB; simpa using hN
  have HH := Lib.hid h
  clear h hN
  go_enter Try.func40, Try.ntmps40
  go_wp2
  go_ret
  exact ⟨rfl, Below.refl _ _⟩
theorem rkind_any (x : Nat) (hx : Fit x) (w : World) : Calls Try.prog 40 #[.float .f64 x] w fun e w' => e = .returned (.int .i64 (kindF x)) ∧ Below w.heap.size w w' := by
  unfold kindF
  split
  · exact rkind_z x hx ‹_› w
  split
  · exact rkind_p x hx (by omega) w
  split
  · exact rkind_pi x hx ‹_› w
  split
  · exact rkind_pn x hx (by omega) w
  split
  · exact rkind_nz x hx ‹_› w
  split
  · exact rkind_n x hx (by omega) w
  split
  · exact rkind_ni x hx ‹_› w
  · exact rkind_nn x hx (by omega) w
end Go.Proofs.Ytmhfbgcfagfmbaa
