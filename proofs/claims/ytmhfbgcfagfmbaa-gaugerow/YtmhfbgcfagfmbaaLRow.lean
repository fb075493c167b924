/- The walk of GaugeRow. -/
import Derived.Test.YtmhfbgcfagfmbaaLOf
namespace Go.Proofs.Ytmhfbgcfagfmbaa.gaugeRow
open Go.RowKit

theorem cmp3_self (a : Int) : cmp3 a a = 0 := cmp3_eq rfl

set_option maxHeartbeats 1000000 in
theorem e1_0 (a b c : Nat) (ha : Fit a) (hb : Fit b) (hc : Fit c) (w : World) (na : NaN a) (nb : NaN b) (hx : cmp3 (tk a) (tk b) = 0) (hr : cmp3 (tk b) (tk a) = 0) (hy : cmp3 (tk b) (tk c) = -1) (hz : cmp3 (tk a) (tk c) = -1) :
    Calls Try.prog 10 #[.float .f64 a, .float .f64 b, .float .f64 c] w fun e w' => e = .returned (.bool true) ∧ Below w.heap.size w w' := by
  have HX := Lib.hid hx
  have HR := Lib.hid hr
  have HY := Lib.hid hy
  have HA := Lib.hid (cmp3_self (tk a))
  have HZ := Lib.hid hz
  clear hz
  clear hx hr hy
  have f1 : (FloatKind.f64.format.order a b == some .eq) = false := by rw [ordNanL ha na]; rfl
  have f2 := nan_self ha
  have f3 := nan_self hb
  rw [nanB_true na] at f2
  rw [nanB_true nb] at f3
  clear na nb
  go_enter Try.func10, Try.ntmps10
  go_wp2_with fail
  refine (lives2_any _).mono ?_
  rintro e w1 ⟨rfl, B1⟩
  go_wp2_with fail
  refine (order_any a b ha hb _).mono ?_
  rintro e w2 ⟨rfl, rfl⟩
  rw [HX.out]
  go_wp2_with fail
  refine (order_any b c hb hc _).mono ?_
  rintro e w2 ⟨rfl, rfl⟩
  rw [HY.out]
  go_wp2_with fail
  refine (order_any b a hb ha _).mono ?_
  rintro e w2 ⟨rfl, rfl⟩
  rw [HR.out]
  go_wp2_with fail
  refine (order_any a a ha ha _).mono ?_
  rintro e w2 ⟨rfl, rfl⟩
  rw [HA.out]
  go_wp2_with fail
  refine (order_any a c ha hc _).mono ?_
  rintro e w2 ⟨rfl, rfl⟩
  rw [HZ.out]
  go_wp2
  go_ret
  exact ⟨rfl, B1⟩
set_option maxHeartbeats 1000000 in
theorem e2_0 (a b c : Nat) (ha : Fit a) (hb : Fit b) (hc : Fit c) (w : World) (na : ¬ NaN a) (e : a = b) (nz : a ≠ 0 ∧ a ≠ 9223372036854775808) (hx : cmp3 (tk a) (tk b) = 0) (hr : cmp3 (tk b) (tk a) = 0) (hy : cmp3 (tk b) (tk c) = -1) (hz : cmp3 (tk a) (tk c) = -1) :
    Calls Try.prog 10 #[.float .f64 a, .float .f64 b, .float .f64 c] w fun e w' => e = .returned (.bool true) ∧ Below w.heap.size w w' := by
  subst e
  have HX := Lib.hid hx
  have HR := Lib.hid hr
  have HY := Lib.hid hy
  have HA := Lib.hid (cmp3_self (tk a))
  have HZ := Lib.hid hz
  clear hz
  clear hx hr hy
  have f1 := ord_self ha na
  have f2 : (FloatKind.f64.format.order a 0 != some .eq) = true := by rw [ordNe ha fit0 na nan0]; simp [kx]; unfold Fit at ha; omega
  clear na nz
  go_enter Try.func10, Try.ntmps10
  go_wp2_with fail
  refine (lives2_any _).mono ?_
  rintro e w1 ⟨rfl, B1⟩
  go_wp2_with fail
  refine (order_any a a ha hb _).mono ?_
  rintro e w2 ⟨rfl, rfl⟩
  rw [HX.out]
  go_wp2_with fail
  refine (order_any a c hb hc _).mono ?_
  rintro e w2 ⟨rfl, rfl⟩
  rw [HY.out]
  go_wp2_with fail
  refine (order_any a a hb ha _).mono ?_
  rintro e w2 ⟨rfl, rfl⟩
  rw [HR.out]
  go_wp2_with fail
  refine (order_any a a ha ha _).mono ?_
  rintro e w2 ⟨rfl, rfl⟩
  rw [HA.out]
  go_wp2_with fail
  refine (order_any a c ha hc _).mono ?_
  rintro e w2 ⟨rfl, rfl⟩
  rw [HZ.out]
  go_wp2
  go_ret
  exact ⟨rfl, B1⟩
set_option maxHeartbeats 1000000 in
theorem e3_0 (a b c : Nat) (ha : Fit a) (hb : Fit b) (hc : Fit c) (w : World) (e1 : a = 0) (e2 : b = 0) (hx : cmp3 (tk a) (tk b) = 0) (hr : cmp3 (tk b) (tk a) = 0) (hy : cmp3 (tk b) (tk c) = -1) (hz : cmp3 (tk a) (tk c) = -1) :
    Calls Try.prog 10 #[.float .f64 a, .float .f64 b, .float .f64 c] w fun e w' => e = .returned (.bool true) ∧ Below w.heap.size w w' := by
  subst e1
  subst e2
  have HX := Lib.hid hx
  have HR := Lib.hid hr
  have HY := Lib.hid hy
  have HA := Lib.hid (cmp3_self (tk 0))
  have HZ := Lib.hid hz
  clear hz
  clear hx hr hy
  have f1 := ord_self ha (by unfold NaN; omega)
  have f2 : (FloatKind.f64.format.order 0 0 != some .eq) = false := by rw [ordNe ha fit0 (by unfold NaN; omega) nan0]; simp [kx]
  have q := fun w => run_float_arith (P := Try.prog) w .quo 45 .f64 4607182418800017408 0 9218868437227405312 one_by_zero
  have f3 := ord_self (x := 9218868437227405312) (by unfold Fit; omega) (by unfold NaN; omega)
  go_enter Try.func10, Try.ntmps10
  go_wp2_with fail
  refine (lives2_any _).mono ?_
  rintro e w1 ⟨rfl, B1⟩
  go_wp2_with fail
  refine (order_any 0 0 ha hb _).mono ?_
  rintro e w2 ⟨rfl, rfl⟩
  rw [HX.out]
  go_wp2_with fail
  refine (order_any 0 c hb hc _).mono ?_
  rintro e w2 ⟨rfl, rfl⟩
  rw [HY.out]
  go_wp2_with fail
  refine (order_any 0 0 hb ha _).mono ?_
  rintro e w2 ⟨rfl, rfl⟩
  rw [HR.out]
  go_wp2_with fail
  refine (order_any 0 0 ha ha _).mono ?_
  rintro e w2 ⟨rfl, rfl⟩
  rw [HA.out]
  go_wp2_with fail
  refine (order_any 0 c ha hc _).mono ?_
  rintro e w2 ⟨rfl, rfl⟩
  rw [HZ.out]
  go_wp2
  go_ret
  exact ⟨rfl, B1⟩
set_option maxHeartbeats 1000000 in
theorem e4_0 (a b c : Nat) (ha : Fit a) (hb : Fit b) (hc : Fit c) (w : World) (e1 : a = 9223372036854775808) (e2 : b = 9223372036854775808) (hx : cmp3 (tk a) (tk b) = 0) (hr : cmp3 (tk b) (tk a) = 0) (hy : cmp3 (tk b) (tk c) = -1) (hz : cmp3 (tk a) (tk c) = -1) :
    Calls Try.prog 10 #[.float .f64 a, .float .f64 b, .float .f64 c] w fun e w' => e = .returned (.bool true) ∧ Below w.heap.size w w' := by
  subst e1
  subst e2
  have HX := Lib.hid hx
  have HR := Lib.hid hr
  have HY := Lib.hid hy
  have HA := Lib.hid (cmp3_self (tk 9223372036854775808))
  have HZ := Lib.hid hz
  clear hz
  clear hx hr hy
  have f1 := ord_self ha (by unfold NaN; omega)
  have f2 : (FloatKind.f64.format.order 9223372036854775808 0 != some .eq) = false := by rw [ordNe ha fit0 (by unfold NaN; omega) nan0]; simp [kx]
  have q := fun w => run_float_arith (P := Try.prog) w .quo 45 .f64 4607182418800017408 9223372036854775808 18442240474082181120 one_by_nzero
  have f3 := ord_self (x := 18442240474082181120) (by unfold Fit; omega) (by unfold NaN; omega)
  go_enter Try.func10, Try.ntmps10
  go_wp2_with fail
  refine (lives2_any _).mono ?_
  rintro e w1 ⟨rfl, B1⟩
  go_wp2_with fail
  refine (order_any 9223372036854775808 9223372036854775808 ha hb _).mono ?_
  rintro e w2 ⟨rfl, rfl⟩
  rw [HX.out]
  go_wp2_with fail
  refine (order_any 9223372036854775808 c hb hc _).mono ?_
  rintro e w2 ⟨rfl, rfl⟩
  rw [HY.out]
  go_wp2_with fail
  refine (order_any 9223372036854775808 9223372036854775808 hb ha _).mono ?_
  rintro e w2 ⟨rfl, rfl⟩
  rw [HR.out]
  go_wp2_with fail
  refine (order_any 9223372036854775808 9223372036854775808 ha ha _).mono ?_
  rintro e w2 ⟨rfl, rfl⟩
  rw [HA.out]
  go_wp2_with fail
  refine (order_any 9223372036854775808 c ha hc _).mono ?_
  rintro e w2 ⟨rfl, rfl⟩
  rw [HZ.out]
  go_wp2
  go_ret
  exact ⟨rfl, B1⟩
set_option maxHeartbeats 1000000 in
theorem e1_1 (a b c : Nat) (ha : Fit a) (hb : Fit b) (hc : Fit c) (w : World) (na : NaN a) (nb : NaN b) (hx : cmp3 (tk a) (tk b) = 0) (hr : cmp3 (tk b) (tk a) = 0) (hy : cmp3 (tk b) (tk c) = 0) (hz : cmp3 (tk a) (tk c) = 0) :
    Calls Try.prog 10 #[.float .f64 a, .float .f64 b, .float .f64 c] w fun e w' => e = .returned (.bool true) ∧ Below w.heap.size w w' := by
  have HX := Lib.hid hx
  have HR := Lib.hid hr
  have HY := Lib.hid hy
  have HA := Lib.hid (cmp3_self (tk a))
  have HZ := Lib.hid hz
  clear hz
  clear hx hr hy
  have f1 : (FloatKind.f64.format.order a b == some .eq) = false := by rw [ordNanL ha na]; rfl
  have f2 := nan_self ha
  have f3 := nan_self hb
  rw [nanB_true na] at f2
  rw [nanB_true nb] at f3
  clear na nb
  go_enter Try.func10, Try.ntmps10
  go_wp2_with fail
  refine (lives2_any _).mono ?_
  rintro e w1 ⟨rfl, B1⟩
  go_wp2_with fail
  refine (order_any a b ha hb _).mono ?_
  rintro e w2 ⟨rfl, rfl⟩
  rw [HX.out]
  go_wp2_with fail
  refine (order_any b c hb hc _).mono ?_
  rintro e w2 ⟨rfl, rfl⟩
  rw [HY.out]
  go_wp2_with fail
  refine (order_any b a hb ha _).mono ?_
  rintro e w2 ⟨rfl, rfl⟩
  rw [HR.out]
  go_wp2_with fail
  refine (order_any a a ha ha _).mono ?_
  rintro e w2 ⟨rfl, rfl⟩
  rw [HA.out]
  go_wp2_with fail
  refine (order_any a c ha hc _).mono ?_
  rintro e w2 ⟨rfl, rfl⟩
  rw [HZ.out]
  go_wp2
  go_ret
  exact ⟨rfl, B1⟩
set_option maxHeartbeats 1000000 in
theorem e2_1 (a b c : Nat) (ha : Fit a) (hb : Fit b) (hc : Fit c) (w : World) (na : ¬ NaN a) (e : a = b) (nz : a ≠ 0 ∧ a ≠ 9223372036854775808) (hx : cmp3 (tk a) (tk b) = 0) (hr : cmp3 (tk b) (tk a) = 0) (hy : cmp3 (tk b) (tk c) = 0) (hz : cmp3 (tk a) (tk c) = 0) :
    Calls Try.prog 10 #[.float .f64 a, .float .f64 b, .float .f64 c] w fun e w' => e = .returned (.bool true) ∧ Below w.heap.size w w' := by
  subst e
  have HX := Lib.hid hx
  have HR := Lib.hid hr
  have HY := Lib.hid hy
  have HA := Lib.hid (cmp3_self (tk a))
  have HZ := Lib.hid hz
  clear hz
  clear hx hr hy
  have f1 := ord_self ha na
  have f2 : (FloatKind.f64.format.order a 0 != some .eq) = true := by rw [ordNe ha fit0 na nan0]; simp [kx]; unfold Fit at ha; omega
  clear na nz
  go_enter Try.func10, Try.ntmps10
  go_wp2_with fail
  refine (lives2_any _).mono ?_
  rintro e w1 ⟨rfl, B1⟩
  go_wp2_with fail
  refine (order_any a a ha hb _).mono ?_
  rintro e w2 ⟨rfl, rfl⟩
  rw [HX.out]
  go_wp2_with fail
  refine (order_any a c hb hc _).mono ?_
  rintro e w2 ⟨rfl, rfl⟩
  rw [HY.out]
  go_wp2_with fail
  refine (order_any a a hb ha _).mono ?_
  rintro e w2 ⟨rfl, rfl⟩
  rw [HR.out]
  go_wp2_with fail
  refine (order_any a a ha ha _).mono ?_
  rintro e w2 ⟨rfl, rfl⟩
  rw [HA.out]
  go_wp2_with fail
  refine (order_any a c ha hc _).mono ?_
  rintro e w2 ⟨rfl, rfl⟩
  rw [HZ.out]
  go_wp2
  go_ret
  exact ⟨rfl, B1⟩
set_option maxHeartbeats 1000000 in
theorem e3_1 (a b c : Nat) (ha : Fit a) (hb : Fit b) (hc : Fit c) (w : World) (e1 : a = 0) (e2 : b = 0) (hx : cmp3 (tk a) (tk b) = 0) (hr : cmp3 (tk b) (tk a) = 0) (hy : cmp3 (tk b) (tk c) = 0) (hz : cmp3 (tk a) (tk c) = 0) :
    Calls Try.prog 10 #[.float .f64 a, .float .f64 b, .float .f64 c] w fun e w' => e = .returned (.bool true) ∧ Below w.heap.size w w' := by
  subst e1
  subst e2
  have HX := Lib.hid hx
  have HR := Lib.hid hr
  have HY := Lib.hid hy
  have HA := Lib.hid (cmp3_self (tk 0))
  have HZ := Lib.hid hz
  clear hz
  clear hx hr hy
  have f1 := ord_self ha (by unfold NaN; omega)
  have f2 : (FloatKind.f64.format.order 0 0 != some .eq) = false := by rw [ordNe ha fit0 (by unfold NaN; omega) nan0]; simp [kx]
  have q := fun w => run_float_arith (P := Try.prog) w .quo 45 .f64 4607182418800017408 0 9218868437227405312 one_by_zero
  have f3 := ord_self (x := 9218868437227405312) (by unfold Fit; omega) (by unfold NaN; omega)
  go_enter Try.func10, Try.ntmps10
  go_wp2_with fail
  refine (lives2_any _).mono ?_
  rintro e w1 ⟨rfl, B1⟩
  go_wp2_with fail
  refine (order_any 0 0 ha hb _).mono ?_
  rintro e w2 ⟨rfl, rfl⟩
  rw [HX.out]
  go_wp2_with fail
  refine (order_any 0 c hb hc _).mono ?_
  rintro e w2 ⟨rfl, rfl⟩
  rw [HY.out]
  go_wp2_with fail
  refine (order_any 0 0 hb ha _).mono ?_
  rintro e w2 ⟨rfl, rfl⟩
  rw [HR.out]
  go_wp2_with fail
  refine (order_any 0 0 ha ha _).mono ?_
  rintro e w2 ⟨rfl, rfl⟩
  rw [HA.out]
  go_wp2_with fail
  refine (order_any 0 c ha hc _).mono ?_
  rintro e w2 ⟨rfl, rfl⟩
  rw [HZ.out]
  go_wp2
  go_ret
  exact ⟨rfl, B1⟩
set_option maxHeartbeats 1000000 in
theorem e4_1 (a b c : Nat) (ha : Fit a) (hb : Fit b) (hc : Fit c) (w : World) (e1 : a = 9223372036854775808) (e2 : b = 9223372036854775808) (hx : cmp3 (tk a) (tk b) = 0) (hr : cmp3 (tk b) (tk a) = 0) (hy : cmp3 (tk b) (tk c) = 0) (hz : cmp3 (tk a) (tk c) = 0) :
    Calls Try.prog 10 #[.float .f64 a, .float .f64 b, .float .f64 c] w fun e w' => e = .returned (.bool true) ∧ Below w.heap.size w w' := by
  subst e1
  subst e2
  have HX := Lib.hid hx
  have HR := Lib.hid hr
  have HY := Lib.hid hy
  have HA := Lib.hid (cmp3_self (tk 9223372036854775808))
  have HZ := Lib.hid hz
  clear hz
  clear hx hr hy
  have f1 := ord_self ha (by unfold NaN; omega)
  have f2 : (FloatKind.f64.format.order 9223372036854775808 0 != some .eq) = false := by rw [ordNe ha fit0 (by unfold NaN; omega) nan0]; simp [kx]
  have q := fun w => run_float_arith (P := Try.prog) w .quo 45 .f64 4607182418800017408 9223372036854775808 18442240474082181120 one_by_nzero
  have f3 := ord_self (x := 18442240474082181120) (by unfold Fit; omega) (by unfold NaN; omega)
  go_enter Try.func10, Try.ntmps10
  go_wp2_with fail
  refine (lives2_any _).mono ?_
  rintro e w1 ⟨rfl, B1⟩
  go_wp2_with fail
  refine (order_any 9223372036854775808 9223372036854775808 ha hb _).mono ?_
  rintro e w2 ⟨rfl, rfl⟩
  rw [HX.out]
  go_wp2_with fail
  refine (order_any 9223372036854775808 c hb hc _).mono ?_
  rintro e w2 ⟨rfl, rfl⟩
  rw [HY.out]
  go_wp2_with fail
  refine (order_any 9223372036854775808 9223372036854775808 hb ha _).mono ?_
  rintro e w2 ⟨rfl, rfl⟩
  rw [HR.out]
  go_wp2_with fail
  refine (order_any 9223372036854775808 9223372036854775808 ha ha _).mono ?_
  rintro e w2 ⟨rfl, rfl⟩
  rw [HA.out]
  go_wp2_with fail
  refine (order_any 9223372036854775808 c ha hc _).mono ?_
  rintro e w2 ⟨rfl, rfl⟩
  rw [HZ.out]
  go_wp2
  go_ret
  exact ⟨rfl, B1⟩
set_option maxHeartbeats 1000000 in
theorem e1_2 (a b c : Nat) (ha : Fit a) (hb : Fit b) (hc : Fit c) (w : World) (na : NaN a) (nb : NaN b) (hx : cmp3 (tk a) (tk b) = 0) (hr : cmp3 (tk b) (tk a) = 0) (hy : cmp3 (tk b) (tk c) = 1) :
    Calls Try.prog 10 #[.float .f64 a, .float .f64 b, .float .f64 c] w fun e w' => e = .returned (.bool true) ∧ Below w.heap.size w w' := by
  have HX := Lib.hid hx
  have HR := Lib.hid hr
  have HY := Lib.hid hy
  have HA := Lib.hid (cmp3_self (tk a))
  clear hx hr hy
  have f1 : (FloatKind.f64.format.order a b == some .eq) = false := by rw [ordNanL ha na]; rfl
  have f2 := nan_self ha
  have f3 := nan_self hb
  rw [nanB_true na] at f2
  rw [nanB_true nb] at f3
  clear na nb
  go_enter Try.func10, Try.ntmps10
  go_wp2_with fail
  refine (lives2_any _).mono ?_
  rintro e w1 ⟨rfl, B1⟩
  go_wp2_with fail
  refine (order_any a b ha hb _).mono ?_
  rintro e w2 ⟨rfl, rfl⟩
  rw [HX.out]
  go_wp2_with fail
  refine (order_any b c hb hc _).mono ?_
  rintro e w2 ⟨rfl, rfl⟩
  rw [HY.out]
  go_wp2_with fail
  refine (order_any b a hb ha _).mono ?_
  rintro e w2 ⟨rfl, rfl⟩
  rw [HR.out]
  go_wp2_with fail
  refine (order_any a a ha ha _).mono ?_
  rintro e w2 ⟨rfl, rfl⟩
  rw [HA.out]
  go_wp2
  go_ret
  exact ⟨rfl, B1⟩
set_option maxHeartbeats 1000000 in
theorem e2_2 (a b c : Nat) (ha : Fit a) (hb : Fit b) (hc : Fit c) (w : World) (na : ¬ NaN a) (e : a = b) (nz : a ≠ 0 ∧ a ≠ 9223372036854775808) (hx : cmp3 (tk a) (tk b) = 0) (hr : cmp3 (tk b) (tk a) = 0) (hy : cmp3 (tk b) (tk c) = 1) :
    Calls Try.prog 10 #[.float .f64 a, .float .f64 b, .float .f64 c] w fun e w' => e = .returned (.bool true) ∧ Below w.heap.size w w' := by
  subst e
  have HX := Lib.hid hx
  have HR := Lib.hid hr
  have HY := Lib.hid hy
  have HA := Lib.hid (cmp3_self (tk a))
  clear hx hr hy
  have f1 := ord_self ha na
  have f2 : (FloatKind.f64.format.order a 0 != some .eq) = true := by rw [ordNe ha fit0 na nan0]; simp [kx]; unfold Fit at ha; omega
  clear na nz
  go_enter Try.func10, Try.ntmps10
  go_wp2_with fail
  refine (lives2_any _).mono ?_
  rintro e w1 ⟨rfl, B1⟩
  go_wp2_with fail
  refine (order_any a a ha hb _).mono ?_
  rintro e w2 ⟨rfl, rfl⟩
  rw [HX.out]
  go_wp2_with fail
  refine (order_any a c hb hc _).mono ?_
  rintro e w2 ⟨rfl, rfl⟩
  rw [HY.out]
  go_wp2_with fail
  refine (order_any a a hb ha _).mono ?_
  rintro e w2 ⟨rfl, rfl⟩
  rw [HR.out]
  go_wp2_with fail
  refine (order_any a a ha ha _).mono ?_
  rintro e w2 ⟨rfl, rfl⟩
  rw [HA.out]
  go_wp2
  go_ret
  exact ⟨rfl, B1⟩
set_option maxHeartbeats 1000000 in
theorem e3_2 (a b c : Nat) (ha : Fit a) (hb : Fit b) (hc : Fit c) (w : World) (e1 : a = 0) (e2 : b = 0) (hx : cmp3 (tk a) (tk b) = 0) (hr : cmp3 (tk b) (tk a) = 0) (hy : cmp3 (tk b) (tk c) = 1) :
    Calls Try.prog 10 #[.float .f64 a, .float .f64 b, .float .f64 c] w fun e w' => e = .returned (.bool true) ∧ Below w.heap.size w w' := by
  subst e1
  subst e2
  have HX := Lib.hid hx
  have HR := Lib.hid hr
  have HY := Lib.hid hy
  have HA := Lib.hid (cmp3_self (tk 0))
  clear hx hr hy
  have f1 := ord_self ha (by unfold NaN; omega)
  have f2 : (FloatKind.f64.format.order 0 0 != some .eq) = false := by rw [ordNe ha fit0 (by unfold NaN; omega) nan0]; simp [kx]
  have q := fun w => run_float_arith (P := Try.prog) w .quo 45 .f64 4607182418800017408 0 9218868437227405312 one_by_zero
  have f3 := ord_self (x := 9218868437227405312) (by unfold Fit; omega) (by unfold NaN; omega)
  go_enter Try.func10, Try.ntmps10
  go_wp2_with fail
  refine (lives2_any _).mono ?_
  rintro e w1 ⟨rfl, B1⟩
  go_wp2_with fail
  refine (order_any 0 0 ha hb _).mono ?_
  rintro e w2 ⟨rfl, rfl⟩
  rw [HX.out]
  go_wp2_with fail
  refine (order_any 0 c hb hc _).mono ?_
  rintro e w2 ⟨rfl, rfl⟩
  rw [HY.out]
  go_wp2_with fail
  refine (order_any 0 0 hb ha _).mono ?_
  rintro e w2 ⟨rfl, rfl⟩
  rw [HR.out]
  go_wp2_with fail
  refine (order_any 0 0 ha ha _).mono ?_
  rintro e w2 ⟨rfl, rfl⟩
  rw [HA.out]
  go_wp2
  go_ret
  exact ⟨rfl, B1⟩
set_option maxHeartbeats 1000000 in
theorem e4_2 (a b c : Nat) (ha : Fit a) (hb : Fit b) (hc : Fit c) (w : World) (e1 : a = 9223372036854775808) (e2 : b = 9223372036854775808) (hx : cmp3 (tk a) (tk b) = 0) (hr : cmp3 (tk b) (tk a) = 0) (hy : cmp3 (tk b) (tk c) = 1) :
    Calls Try.prog 10 #[.float .f64 a, .float .f64 b, .float .f64 c] w fun e w' => e = .returned (.bool true) ∧ Below w.heap.size w w' := by
  subst e1
  subst e2
  have HX := Lib.hid hx
  have HR := Lib.hid hr
  have HY := Lib.hid hy
  have HA := Lib.hid (cmp3_self (tk 9223372036854775808))
  clear hx hr hy
  have f1 := ord_self ha (by unfold NaN; omega)
  have f2 : (FloatKind.f64.format.order 9223372036854775808 0 != some .eq) = false := by rw [ordNe ha fit0 (by unfold NaN; omega) nan0]; simp [kx]
  have q := fun w => run_float_arith (P := Try.prog) w .quo 45 .f64 4607182418800017408 9223372036854775808 18442240474082181120 one_by_nzero
  have f3 := ord_self (x := 18442240474082181120) (by unfold Fit; omega) (by unfold NaN; omega)
  go_enter Try.func10, Try.ntmps10
  go_wp2_with fail
  refine (lives2_any _).mono ?_
  rintro e w1 ⟨rfl, B1⟩
  go_wp2_with fail
  refine (order_any 9223372036854775808 9223372036854775808 ha hb _).mono ?_
  rintro e w2 ⟨rfl, rfl⟩
  rw [HX.out]
  go_wp2_with fail
  refine (order_any 9223372036854775808 c hb hc _).mono ?_
  rintro e w2 ⟨rfl, rfl⟩
  rw [HY.out]
  go_wp2_with fail
  refine (order_any 9223372036854775808 9223372036854775808 hb ha _).mono ?_
  rintro e w2 ⟨rfl, rfl⟩
  rw [HR.out]
  go_wp2_with fail
  refine (order_any 9223372036854775808 9223372036854775808 ha ha _).mono ?_
  rintro e w2 ⟨rfl, rfl⟩
  rw [HA.out]
  go_wp2
  go_ret
  exact ⟨rfl, B1⟩
set_option maxHeartbeats 1000000 in
theorem d1a_p (a b c : Nat) (ha : Fit a) (hb : Fit b) (hc : Fit c) (w : World) (na : ¬ NaN a) (f1 : (FloatKind.f64.format.order a b == some .eq) = false) (hx : cmp3 (tk a) (tk b) = 1) (hr : cmp3 (tk b) (tk a) = -1) :
    Calls Try.prog 10 #[.float .f64 a, .float .f64 b, .float .f64 c] w fun e w' => e = .returned (.bool true) ∧ Below w.heap.size w w' := by
  obtain ⟨yv, hy⟩ : ∃ v, cmp3 (tk b) (tk c) = v := ⟨_, rfl⟩
  have HX := Lib.hid hx
  have HR := Lib.hid hr
  have HY := Lib.hid hy
  have HA := Lib.hid (cmp3_self (tk a))
  clear hx hr hy
  have f2 := nan_self ha
  rw [nanB_false na] at f2
  clear na
  go_enter Try.func10, Try.ntmps10
  go_wp2_with fail
  refine (lives2_any _).mono ?_
  rintro e w1 ⟨rfl, B1⟩
  go_wp2_with fail
  refine (order_any a b ha hb _).mono ?_
  rintro e w2 ⟨rfl, rfl⟩
  rw [HX.out]
  go_wp2_with fail
  refine (order_any b c hb hc _).mono ?_
  rintro e w2 ⟨rfl, rfl⟩
  rw [HY.out]
  go_wp2_with fail
  refine (order_any b a hb ha _).mono ?_
  rintro e w2 ⟨rfl, rfl⟩
  rw [HR.out]
  go_wp2_with fail
  refine (order_any a a ha ha _).mono ?_
  rintro e w2 ⟨rfl, rfl⟩
  rw [HA.out]
  go_wp2
  go_ret
  exact ⟨rfl, B1⟩
set_option maxHeartbeats 1000000 in
theorem d1a_m0 (a b c : Nat) (ha : Fit a) (hb : Fit b) (hc : Fit c) (w : World) (na : ¬ NaN a) (f1 : (FloatKind.f64.format.order a b == some .eq) = false) (g1 : (FloatKind.f64.format.order a b == some .gt) = false) (hx : cmp3 (tk a) (tk b) = -1) (hr : cmp3 (tk b) (tk a) = 1) (hy : cmp3 (tk b) (tk c) = -1) (hz : cmp3 (tk a) (tk c) = -1) :
    Calls Try.prog 10 #[.float .f64 a, .float .f64 b, .float .f64 c] w fun e w' => e = .returned (.bool true) ∧ Below w.heap.size w w' := by
  have HX := Lib.hid hx
  have HR := Lib.hid hr
  have HY := Lib.hid hy
  have HA := Lib.hid (cmp3_self (tk a))
  have HZ := Lib.hid hz
  clear hz
  clear hx hr hy
  have f2 := nan_self ha
  rw [nanB_false na] at f2
  clear na
  go_enter Try.func10, Try.ntmps10
  go_wp2_with fail
  refine (lives2_any _).mono ?_
  rintro e w1 ⟨rfl, B1⟩
  go_wp2_with fail
  refine (order_any a b ha hb _).mono ?_
  rintro e w2 ⟨rfl, rfl⟩
  rw [HX.out]
  go_wp2_with fail
  refine (order_any b c hb hc _).mono ?_
  rintro e w2 ⟨rfl, rfl⟩
  rw [HY.out]
  go_wp2_with fail
  refine (order_any b a hb ha _).mono ?_
  rintro e w2 ⟨rfl, rfl⟩
  rw [HR.out]
  go_wp2_with fail
  refine (order_any a a ha ha _).mono ?_
  rintro e w2 ⟨rfl, rfl⟩
  rw [HA.out]
  go_wp2_with fail
  refine (order_any a c ha hc _).mono ?_
  rintro e w2 ⟨rfl, rfl⟩
  rw [HZ.out]
  go_wp2_with fail
  refine (order_any a c ha hc _).mono ?_
  rintro e w2 ⟨rfl, rfl⟩
  rw [HZ.out]
  go_wp2
  go_ret
  exact ⟨rfl, B1⟩
set_option maxHeartbeats 1000000 in
theorem d1a_m1 (a b c : Nat) (ha : Fit a) (hb : Fit b) (hc : Fit c) (w : World) (na : ¬ NaN a) (f1 : (FloatKind.f64.format.order a b == some .eq) = false) (g1 : (FloatKind.f64.format.order a b == some .gt) = false) (hx : cmp3 (tk a) (tk b) = -1) (hr : cmp3 (tk b) (tk a) = 1) (hy : cmp3 (tk b) (tk c) = 0) (hz : cmp3 (tk a) (tk c) = -1) :
    Calls Try.prog 10 #[.float .f64 a, .float .f64 b, .float .f64 c] w fun e w' => e = .returned (.bool true) ∧ Below w.heap.size w w' := by
  have HX := Lib.hid hx
  have HR := Lib.hid hr
  have HY := Lib.hid hy
  have HA := Lib.hid (cmp3_self (tk a))
  have HZ := Lib.hid hz
  clear hz
  clear hx hr hy
  have f2 := nan_self ha
  rw [nanB_false na] at f2
  clear na
  go_enter Try.func10, Try.ntmps10
  go_wp2_with fail
  refine (lives2_any _).mono ?_
  rintro e w1 ⟨rfl, B1⟩
  go_wp2_with fail
  refine (order_any a b ha hb _).mono ?_
  rintro e w2 ⟨rfl, rfl⟩
  rw [HX.out]
  go_wp2_with fail
  refine (order_any b c hb hc _).mono ?_
  rintro e w2 ⟨rfl, rfl⟩
  rw [HY.out]
  go_wp2_with fail
  refine (order_any b a hb ha _).mono ?_
  rintro e w2 ⟨rfl, rfl⟩
  rw [HR.out]
  go_wp2_with fail
  refine (order_any a a ha ha _).mono ?_
  rintro e w2 ⟨rfl, rfl⟩
  rw [HA.out]
  go_wp2_with fail
  refine (order_any a c ha hc _).mono ?_
  rintro e w2 ⟨rfl, rfl⟩
  rw [HZ.out]
  go_wp2_with fail
  refine (order_any a c ha hc _).mono ?_
  rintro e w2 ⟨rfl, rfl⟩
  rw [HZ.out]
  go_wp2
  go_ret
  exact ⟨rfl, B1⟩
set_option maxHeartbeats 1000000 in
theorem d1a_m2 (a b c : Nat) (ha : Fit a) (hb : Fit b) (hc : Fit c) (w : World) (na : ¬ NaN a) (f1 : (FloatKind.f64.format.order a b == some .eq) = false) (g1 : (FloatKind.f64.format.order a b == some .gt) = false) (hx : cmp3 (tk a) (tk b) = -1) (hr : cmp3 (tk b) (tk a) = 1) (hy : cmp3 (tk b) (tk c) = 1) :
    Calls Try.prog 10 #[.float .f64 a, .float .f64 b, .float .f64 c] w fun e w' => e = .returned (.bool true) ∧ Below w.heap.size w w' := by
  have HX := Lib.hid hx
  have HR := Lib.hid hr
  have HY := Lib.hid hy
  have HA := Lib.hid (cmp3_self (tk a))
  clear hx hr hy
  have f2 := nan_self ha
  rw [nanB_false na] at f2
  clear na
  go_enter Try.func10, Try.ntmps10
  go_wp2_with fail
  refine (lives2_any _).mono ?_
  rintro e w1 ⟨rfl, B1⟩
  go_wp2_with fail
  refine (order_any a b ha hb _).mono ?_
  rintro e w2 ⟨rfl, rfl⟩
  rw [HX.out]
  go_wp2_with fail
  refine (order_any b c hb hc _).mono ?_
  rintro e w2 ⟨rfl, rfl⟩
  rw [HY.out]
  go_wp2_with fail
  refine (order_any b a hb ha _).mono ?_
  rintro e w2 ⟨rfl, rfl⟩
  rw [HR.out]
  go_wp2_with fail
  refine (order_any a a ha ha _).mono ?_
  rintro e w2 ⟨rfl, rfl⟩
  rw [HA.out]
  go_wp2
  go_ret
  exact ⟨rfl, B1⟩
set_option maxHeartbeats 1000000 in
theorem d1b (a b c : Nat) (ha : Fit a) (hb : Fit b) (hc : Fit c) (w : World) (na : NaN a) (nb : ¬ NaN b) (hx : cmp3 (tk a) (tk b) = 1) (hr : cmp3 (tk b) (tk a) = -1) :
    Calls Try.prog 10 #[.float .f64 a, .float .f64 b, .float .f64 c] w fun e w' => e = .returned (.bool true) ∧ Below w.heap.size w w' := by
  obtain ⟨yv, hy⟩ : ∃ v, cmp3 (tk b) (tk c) = v := ⟨_, rfl⟩
  have HX := Lib.hid hx
  have HR := Lib.hid hr
  have HY := Lib.hid hy
  have HA := Lib.hid (cmp3_self (tk a))
  clear hx hr hy
  have f1 : (FloatKind.f64.format.order a b == some .eq) = false := by rw [ordNanL ha na]; rfl
  have f2 := nan_self ha
  have f3 := nan_self hb
  rw [nanB_true na] at f2
  rw [nanB_false nb] at f3
  clear na nb
  go_enter Try.func10, Try.ntmps10
  go_wp2_with fail
  refine (lives2_any _).mono ?_
  rintro e w1 ⟨rfl, B1⟩
  go_wp2_with fail
  refine (order_any a b ha hb _).mono ?_
  rintro e w2 ⟨rfl, rfl⟩
  rw [HX.out]
  go_wp2_with fail
  refine (order_any b c hb hc _).mono ?_
  rintro e w2 ⟨rfl, rfl⟩
  rw [HY.out]
  go_wp2_with fail
  refine (order_any b a hb ha _).mono ?_
  rintro e w2 ⟨rfl, rfl⟩
  rw [HR.out]
  go_wp2_with fail
  refine (order_any a a ha ha _).mono ?_
  rintro e w2 ⟨rfl, rfl⟩
  rw [HA.out]
  go_wp2
  go_ret
  exact ⟨rfl, B1⟩
set_option maxHeartbeats 1000000 in
theorem d2 (a b c : Nat) (ha : Fit a) (hb : Fit b) (hc : Fit c) (w : World) (e1 : a = 0) (e2 : b = 9223372036854775808) (hx : cmp3 (tk a) (tk b) = 1) (hr : cmp3 (tk b) (tk a) = -1) :
    Calls Try.prog 10 #[.float .f64 a, .float .f64 b, .float .f64 c] w fun e w' => e = .returned (.bool true) ∧ Below w.heap.size w w' := by
  subst e1
  subst e2
  obtain ⟨yv, hy⟩ : ∃ v, cmp3 (tk 9223372036854775808) (tk c) = v := ⟨_, rfl⟩
  have HX := Lib.hid hx
  have HR := Lib.hid hr
  have HY := Lib.hid hy
  have HA := Lib.hid (cmp3_self (tk 0))
  clear hx hr hy
  have f1 : (FloatKind.f64.format.order 0 9223372036854775808 == some .eq) = true := by rw [ordEq ha hb (by unfold NaN; omega) (by unfold NaN; omega)]; simp [kx]
  have f2 : (FloatKind.f64.format.order 0 0 != some .eq) = false := by rw [ordNe ha fit0 (by unfold NaN; omega) nan0]; simp [kx]
  have q1 := fun w => run_float_arith (P := Try.prog) w .quo 45 .f64 4607182418800017408 0 9218868437227405312 one_by_zero
  have q2 := fun w => run_float_arith (P := Try.prog) w .quo 45 .f64 4607182418800017408 9223372036854775808 18442240474082181120 one_by_nzero
  have f3 : (FloatKind.f64.format.order 9218868437227405312 18442240474082181120 == some .eq) = false := by rw [ordEq (by unfold Fit; omega) (by unfold Fit; omega) (by unfold NaN; omega) (by unfold NaN; omega)]; simp [kx]
  have f4 := nan_self ha
  rw [nanB_false (by unfold NaN; omega)] at f4
  go_enter Try.func10, Try.ntmps10
  go_wp2_with fail
  refine (lives2_any _).mono ?_
  rintro e w1 ⟨rfl, B1⟩
  go_wp2_with fail
  refine (order_any 0 9223372036854775808 ha hb _).mono ?_
  rintro e w2 ⟨rfl, rfl⟩
  rw [HX.out]
  go_wp2_with fail
  refine (order_any 9223372036854775808 c hb hc _).mono ?_
  rintro e w2 ⟨rfl, rfl⟩
  rw [HY.out]
  go_wp2_with fail
  refine (order_any 9223372036854775808 0 hb ha _).mono ?_
  rintro e w2 ⟨rfl, rfl⟩
  rw [HR.out]
  go_wp2_with fail
  refine (order_any 0 0 ha ha _).mono ?_
  rintro e w2 ⟨rfl, rfl⟩
  rw [HA.out]
  go_wp2
  go_ret
  exact ⟨rfl, B1⟩
set_option maxHeartbeats 1000000 in
theorem d3_0 (a b c : Nat) (ha : Fit a) (hb : Fit b) (hc : Fit c) (w : World) (e1 : a = 9223372036854775808) (e2 : b = 0) (hx : cmp3 (tk a) (tk b) = -1) (hr : cmp3 (tk b) (tk a) = 1) (hy : cmp3 (tk b) (tk c) = -1) (hz : cmp3 (tk a) (tk c) = -1) :
    Calls Try.prog 10 #[.float .f64 a, .float .f64 b, .float .f64 c] w fun e w' => e = .returned (.bool true) ∧ Below w.heap.size w w' := by
  subst e1
  subst e2
  have HX := Lib.hid hx
  have HR := Lib.hid hr
  have HY := Lib.hid hy
  have HA := Lib.hid (cmp3_self (tk 9223372036854775808))
  have HZ := Lib.hid hz
  clear hz
  clear hx hr hy
  have f1 : (FloatKind.f64.format.order 9223372036854775808 0 == some .eq) = true := by rw [ordEq ha hb (by unfold NaN; omega) (by unfold NaN; omega)]; simp [kx]
  have f2 : (FloatKind.f64.format.order 9223372036854775808 0 != some .eq) = false := by rw [ordNe ha fit0 (by unfold NaN; omega) nan0]; simp [kx]
  have q1 := fun w => run_float_arith (P := Try.prog) w .quo 45 .f64 4607182418800017408 9223372036854775808 18442240474082181120 one_by_nzero
  have q2 := fun w => run_float_arith (P := Try.prog) w .quo 45 .f64 4607182418800017408 0 9218868437227405312 one_by_zero
  have f3 : (FloatKind.f64.format.order 18442240474082181120 9218868437227405312 == some .eq) = false := by rw [ordEq (by unfold Fit; omega) (by unfold Fit; omega) (by unfold NaN; omega) (by unfold NaN; omega)]; simp [kx]
  have f4 := nan_self ha
  rw [nanB_false (by unfold NaN; omega)] at f4
  have g1 : (FloatKind.f64.format.order 9223372036854775808 0 == some .gt) = false := by rw [ordGt ha hb (by unfold NaN; omega) (by unfold NaN; omega)]; simp [kx]
  go_enter Try.func10, Try.ntmps10
  go_wp2_with fail
  refine (lives2_any _).mono ?_
  rintro e w1 ⟨rfl, B1⟩
  go_wp2_with fail
  refine (order_any 9223372036854775808 0 ha hb _).mono ?_
  rintro e w2 ⟨rfl, rfl⟩
  rw [HX.out]
  go_wp2_with fail
  refine (order_any 0 c hb hc _).mono ?_
  rintro e w2 ⟨rfl, rfl⟩
  rw [HY.out]
  go_wp2_with fail
  refine (order_any 0 9223372036854775808 hb ha _).mono ?_
  rintro e w2 ⟨rfl, rfl⟩
  rw [HR.out]
  go_wp2_with fail
  refine (order_any 9223372036854775808 9223372036854775808 ha ha _).mono ?_
  rintro e w2 ⟨rfl, rfl⟩
  rw [HA.out]
  go_wp2_with fail
  refine (order_any 9223372036854775808 c ha hc _).mono ?_
  rintro e w2 ⟨rfl, rfl⟩
  rw [HZ.out]
  go_wp2_with fail
  refine (order_any 9223372036854775808 c ha hc _).mono ?_
  rintro e w2 ⟨rfl, rfl⟩
  rw [HZ.out]
  go_wp2
  go_ret
  exact ⟨rfl, B1⟩
set_option maxHeartbeats 1000000 in
theorem d3_1 (a b c : Nat) (ha : Fit a) (hb : Fit b) (hc : Fit c) (w : World) (e1 : a = 9223372036854775808) (e2 : b = 0) (hx : cmp3 (tk a) (tk b) = -1) (hr : cmp3 (tk b) (tk a) = 1) (hy : cmp3 (tk b) (tk c) = 0) (hz : cmp3 (tk a) (tk c) = -1) :
    Calls Try.prog 10 #[.float .f64 a, .float .f64 b, .float .f64 c] w fun e w' => e = .returned (.bool true) ∧ Below w.heap.size w w' := by
  subst e1
  subst e2
  have HX := Lib.hid hx
  have HR := Lib.hid hr
  have HY := Lib.hid hy
  have HA := Lib.hid (cmp3_self (tk 9223372036854775808))
  have HZ := Lib.hid hz
  clear hz
  clear hx hr hy
  have f1 : (FloatKind.f64.format.order 9223372036854775808 0 == some .eq) = true := by rw [ordEq ha hb (by unfold NaN; omega) (by unfold NaN; omega)]; simp [kx]
  have f2 : (FloatKind.f64.format.order 9223372036854775808 0 != some .eq) = false := by rw [ordNe ha fit0 (by unfold NaN; omega) nan0]; simp [kx]
  have q1 := fun w => run_float_arith (P := Try.prog) w .quo 45 .f64 4607182418800017408 9223372036854775808 18442240474082181120 one_by_nzero
  have q2 := fun w => run_float_arith (P := Try.prog) w .quo 45 .f64 4607182418800017408 0 9218868437227405312 one_by_zero
  have f3 : (FloatKind.f64.format.order 18442240474082181120 9218868437227405312 == some .eq) = false := by rw [ordEq (by unfold Fit; omega) (by unfold Fit; omega) (by unfold NaN; omega) (by unfold NaN; omega)]; simp [kx]
  have f4 := nan_self ha
  rw [nanB_false (by unfold NaN; omega)] at f4
  have g1 : (FloatKind.f64.format.order 9223372036854775808 0 == some .gt) = false := by rw [ordGt ha hb (by unfold NaN; omega) (by unfold NaN; omega)]; simp [kx]
  go_enter Try.func10, Try.ntmps10
  go_wp2_with fail
  refine (lives2_any _).mono ?_
  rintro e w1 ⟨rfl, B1⟩
  go_wp2_with fail
  refine (order_any 9223372036854775808 0 ha hb _).mono ?_
  rintro e w2 ⟨rfl, rfl⟩
  rw [HX.out]
  go_wp2_with fail
  refine (order_any 0 c hb hc _).mono ?_
  rintro e w2 ⟨rfl, rfl⟩
  rw [HY.out]
  go_wp2_with fail
  refine (order_any 0 9223372036854775808 hb ha _).mono ?_
  rintro e w2 ⟨rfl, rfl⟩
  rw [HR.out]
  go_wp2_with fail
  refine (order_any 9223372036854775808 9223372036854775808 ha ha _).mono ?_
  rintro e w2 ⟨rfl, rfl⟩
  rw [HA.out]
  go_wp2_with fail
  refine (order_any 9223372036854775808 c ha hc _).mono ?_
  rintro e w2 ⟨rfl, rfl⟩
  rw [HZ.out]
  go_wp2_with fail
  refine (order_any 9223372036854775808 c ha hc _).mono ?_
  rintro e w2 ⟨rfl, rfl⟩
  rw [HZ.out]
  go_wp2
  go_ret
  exact ⟨rfl, B1⟩
set_option maxHeartbeats 1000000 in
theorem d3_2 (a b c : Nat) (ha : Fit a) (hb : Fit b) (hc : Fit c) (w : World) (e1 : a = 9223372036854775808) (e2 : b = 0) (hx : cmp3 (tk a) (tk b) = -1) (hr : cmp3 (tk b) (tk a) = 1) (hy : cmp3 (tk b) (tk c) = 1) :
    Calls Try.prog 10 #[.float .f64 a, .float .f64 b, .float .f64 c] w fun e w' => e = .returned (.bool true) ∧ Below w.heap.size w w' := by
  subst e1
  subst e2
  have HX := Lib.hid hx
  have HR := Lib.hid hr
  have HY := Lib.hid hy
  have HA := Lib.hid (cmp3_self (tk 9223372036854775808))
  clear hx hr hy
  have f1 : (FloatKind.f64.format.order 9223372036854775808 0 == some .eq) = true := by rw [ordEq ha hb (by unfold NaN; omega) (by unfold NaN; omega)]; simp [kx]
  have f2 : (FloatKind.f64.format.order 9223372036854775808 0 != some .eq) = false := by rw [ordNe ha fit0 (by unfold NaN; omega) nan0]; simp [kx]
  have q1 := fun w => run_float_arith (P := Try.prog) w .quo 45 .f64 4607182418800017408 9223372036854775808 18442240474082181120 one_by_nzero
  have q2 := fun w => run_float_arith (P := Try.prog) w .quo 45 .f64 4607182418800017408 0 9218868437227405312 one_by_zero
  have f3 : (FloatKind.f64.format.order 18442240474082181120 9218868437227405312 == some .eq) = false := by rw [ordEq (by unfold Fit; omega) (by unfold Fit; omega) (by unfold NaN; omega) (by unfold NaN; omega)]; simp [kx]
  have f4 := nan_self ha
  rw [nanB_false (by unfold NaN; omega)] at f4
  have g1 : (FloatKind.f64.format.order 9223372036854775808 0 == some .gt) = false := by rw [ordGt ha hb (by unfold NaN; omega) (by unfold NaN; omega)]; simp [kx]
  go_enter Try.func10, Try.ntmps10
  go_wp2_with fail
  refine (lives2_any _).mono ?_
  rintro e w1 ⟨rfl, B1⟩
  go_wp2_with fail
  refine (order_any 9223372036854775808 0 ha hb _).mono ?_
  rintro e w2 ⟨rfl, rfl⟩
  rw [HX.out]
  go_wp2_with fail
  refine (order_any 0 c hb hc _).mono ?_
  rintro e w2 ⟨rfl, rfl⟩
  rw [HY.out]
  go_wp2_with fail
  refine (order_any 0 9223372036854775808 hb ha _).mono ?_
  rintro e w2 ⟨rfl, rfl⟩
  rw [HR.out]
  go_wp2_with fail
  refine (order_any 9223372036854775808 9223372036854775808 ha ha _).mono ?_
  rintro e w2 ⟨rfl, rfl⟩
  rw [HA.out]
  go_wp2
  go_ret
  exact ⟨rfl, B1⟩

theorem tk_inj {a b : Nat} (ha : Fit a) (hb : Fit b) (h : tk a = tk b) : (NaN a ∧ NaN b) ∨ (¬ NaN a ∧ a = b) := by
  unfold Fit at ha hb; unfold tk at h; unfold NaN
  (repeat' split at h) <;> omega
theorem ord_ne {a b : Nat} (ha : Fit a) (hb : Fit b) (h : tk a ≠ tk b) (hz : ¬ (a = 0 ∧ b = 9223372036854775808)) (hz2 : ¬ (a = 9223372036854775808 ∧ b = 0)) : (FloatKind.f64.format.order a b == some .eq) = false := by
  by_cases na : NaN a
  · rw [ordNanL ha na]; rfl
  · by_cases nb : NaN b
    · rw [ordNanR hb nb]; rfl
    · rw [ordEq ha hb na nb]
      apply decide_eq_false
      unfold Fit at ha hb; unfold NaN at na nb; unfold tk at h; unfold kx
      (repeat' split) <;> (repeat' split at h) <;> omega
theorem ord_ngt {a b : Nat} (ha : Fit a) (hb : Fit b) (h : tk a < tk b) : (FloatKind.f64.format.order a b == some .gt) = false := by
  by_cases na : NaN a
  · rw [ordNanL ha na]; rfl
  · by_cases nb : NaN b
    · rw [ordNanR hb nb]; rfl
    · rw [ordGt ha hb na nb]
      apply decide_eq_false
      unfold Fit at ha hb; unfold NaN at na nb; unfold tk at h; unfold kx
      (repeat' split) <;> (repeat' split at h) <;> omega
theorem cmp3_cases (a b : Int) : (cmp3 a b = -1 ∧ a < b) ∨ (cmp3 a b = 0 ∧ a = b) ∨ (cmp3 a b = 1 ∧ b < a) := by unfold cmp3; (repeat' split) <;> omega

theorem gaugeRow_walk (a : Nat) (wa : (Lit.float .f64 a).wf = true) (b : Nat) (wb : (Lit.float .f64 b).wf = true) (c : Nat) (wc : (Lit.float .f64 c).wf = true) (w : World) :
    Calls Try.prog 10 #[.float .f64 a, .float .f64 b, .float .f64 c] w fun e w' => e = .returned (.bool true) ∧ Below w.heap.size w w' := by
  have ha := fit_of_wf wa
  have hb := fit_of_wf wb
  have hc := fit_of_wf wc
  rcases cmp3_cases (tk a) (tk b) with ⟨hx, lx⟩ | ⟨hx, lx⟩ | ⟨hx, lx⟩
  · have hr : cmp3 (tk b) (tk a) = 1 := cmp3_gt lx
    have g1 := ord_ngt ha hb lx
    by_cases z : a = 9223372036854775808 ∧ b = 0
    · rcases cmp3_cases (tk b) (tk c) with ⟨hy, ly⟩ | ⟨hy, ly⟩ | ⟨hy, ly⟩
      · exact d3_0 a b c ha hb hc w z.1 z.2 hx hr hy (cmp3_lt (by omega))
      · exact d3_1 a b c ha hb hc w z.1 z.2 hx hr hy (cmp3_lt (by omega))
      · exact d3_2 a b c ha hb hc w z.1 z.2 hx hr hy
    · have na : ¬ NaN a := fun n => by
        have := tk_nan ha n
        unfold Fit at hb; unfold tk at lx this; (repeat' split at lx) <;> (repeat' split at this) <;> omega
      have f1 := ord_ne ha hb (by omega) (fun h => by rw [h.1, h.2, tk_const.1, tk_const.2] at lx; omega) z
      rcases cmp3_cases (tk b) (tk c) with ⟨hy, ly⟩ | ⟨hy, ly⟩ | ⟨hy, ly⟩
      · exact d1a_m0 a b c ha hb hc w na f1 g1 hx hr hy (cmp3_lt (by omega))
      · exact d1a_m1 a b c ha hb hc w na f1 g1 hx hr hy (cmp3_lt (by omega))
      · exact d1a_m2 a b c ha hb hc w na f1 g1 hx hr hy
  · have hr : cmp3 (tk b) (tk a) = -0 := by rw [cmp3_eq lx.symm]; rfl
    rcases tk_inj ha hb lx with ⟨na, nb⟩ | ⟨na, e⟩
    · rcases cmp3_cases (tk b) (tk c) with ⟨hy, ly⟩ | ⟨hy, ly⟩ | ⟨hy, ly⟩
      · exact e1_0 a b c ha hb hc w na nb hx hr hy (cmp3_lt (by omega))
      · exact e1_1 a b c ha hb hc w na nb hx hr hy (cmp3_eq (by omega))
      · exact e1_2 a b c ha hb hc w na nb hx hr hy
    · by_cases z0 : a = 0
      · rcases cmp3_cases (tk b) (tk c) with ⟨hy, ly⟩ | ⟨hy, ly⟩ | ⟨hy, ly⟩
        · exact e3_0 a b c ha hb hc w z0 (by omega) hx hr hy (cmp3_lt (by omega))
        · exact e3_1 a b c ha hb hc w z0 (by omega) hx hr hy (cmp3_eq (by omega))
        · exact e3_2 a b c ha hb hc w z0 (by omega) hx hr hy
      · by_cases z1 : a = 9223372036854775808
        · rcases cmp3_cases (tk b) (tk c) with ⟨hy, ly⟩ | ⟨hy, ly⟩ | ⟨hy, ly⟩
          · exact e4_0 a b c ha hb hc w z1 (by omega) hx hr hy (cmp3_lt (by omega))
          · exact e4_1 a b c ha hb hc w z1 (by omega) hx hr hy (cmp3_eq (by omega))
          · exact e4_2 a b c ha hb hc w z1 (by omega) hx hr hy
        · rcases cmp3_cases (tk b) (tk c) with ⟨hy, ly⟩ | ⟨hy, ly⟩ | ⟨hy, ly⟩
          · exact e2_0 a b c ha hb hc w na e ⟨z0, z1⟩ hx hr hy (cmp3_lt (by omega))
          · exact e2_1 a b c ha hb hc w na e ⟨z0, z1⟩ hx hr hy (cmp3_eq (by omega))
          · exact e2_2 a b c ha hb hc w na e ⟨z0, z1⟩ hx hr hy
  · have hr : cmp3 (tk b) (tk a) = -1 := cmp3_lt lx
    by_cases na : NaN a
    · exact d1b a b c ha hb hc w na (fun n => by rw [tk_nan ha na, tk_nan hb n] at lx; omega) hx hr
    · by_cases z : a = 0 ∧ b = 9223372036854775808
      · exact d2 a b c ha hb hc w z.1 z.2 hx hr
      · exact d1a_p a b c ha hb hc w na (ord_ne ha hb (by omega) z (fun h => by rw [h.1, h.2, tk_const.1, tk_const.2] at lx; omega)) hx hr
end Go.Proofs.Ytmhfbgcfagfmbaa.gaugeRow
