/- Contracts: gauge.Permille and the reference's Permille. -/
import Derived.Test.YtmhfbgcfagfmbaaF7
import Derived.Test.YtmhfbgcfagfmbaaFB
namespace Go.Proofs.Ytmhfbgcfagfmbaa
open Go.RowKit

theorem posK : Pos 4652007308841189376 := by unfold Pos; omega
theorem mulKK : floatBits .mul .f64 4652007308841189376 4652007308841189376 = some 4696837146684686336 := by decide +kernel
theorem fi6 : fi 1000000 = 4696837146684686336 := by decide +kernel
theorem mul1K : floatBits .mul .f64 4607182418800017408 4652007308841189376 = some 4652007308841189376 := by decide +kernel
theorem fi3 : fi 1000 = 4652007308841189376 := by decide +kernel

/-- 1000 x, rounded, and then rounded down. -/
def thou (x : Nat) : Nat := flo ((floatBits .mul .f64 x 4652007308841189376).getD 0)
theorem thou_spec {x : Nat} (hx : 0 < x) (hk : x ≤ 4652007308841189376) : ∃ r, floatBits .mul .f64 x 4652007308841189376 = some r ∧ r ≤ 4696837146684686336 ∧ thou x = flo r ∧ flo r ≤ 1000000 := by
  have px : Pos x := by unfold Pos; omega
  obtain ⟨r, hr⟩ := mul_total px posK
  have h1 := mul_mono px posK posK hk hr mulKK
  refine ⟨r, hr, h1, by unfold thou; rw [hr]; rfl, ?_⟩
  have := flo_mono h1
  rw [← fi6, flo_fi (by omega)] at this
  exact this
theorem thou_mono {x y : Nat} (hx : 0 < x) (h : x ≤ y) (hk : y ≤ 4652007308841189376) : thou x ≤ thou y := by
  obtain ⟨r, e, _, t, _⟩ := thou_spec hx (by omega)
  obtain ⟨s, e', _, t', _⟩ := thou_spec (x := y) (by omega) hk
  rw [t, t']
  exact flo_mono (mul_mono (by unfold Pos; omega) (by unfold Pos; omega) posK h e e')
theorem thou_one : thou 4607182418800017408 = 1000 := by
  unfold thou; rw [mul1K]
  show flo 4652007308841189376 = 1000
  rw [← fi3, flo_fi (by omega)]

def permF (x : Nat) : Int := if NaN x then -1 else if x = 0 ∨ 9223372036854775808 ≤ x then 0 else if 4652007308841189376 ≤ x then 1000000 else (thou x : Int)

theorem fitK : Fit 4652007308841189376 := by unfold Fit; omega
theorem nanK : ¬ NaN 4652007308841189376 := by unfold NaN; omega

theorem floor_any {r : Nat} (h : r < 9218868437227405312) (w : World) : Calls Try.prog 67 #[.float .f64 r] w fun e w' => e = .returned (.float .f64 (fi (flo r))) ∧ w = w' := by
  have r77 := fun w => run77 h w
  go_enter Try.func67, Try.ntmps67
  go_wp2
  go_ret
  exact ⟨rfl, rfl⟩

theorem permille_any (x : Nat) (hx : Fit x) (w : World) : Calls Try.prog 41 #[.float .f64 x] w fun e w' => e = .returned (.int .i64 (permF x)) ∧ w = w' := by
  by_cases hN : NaN x
  · have hb : nanB x = true := by unfold nanB; simpa using hN
    have HP : Hid (permF x = -1) := Lib.hid (by unfold permF; rw [if_pos hN])
    clear hN
    go_enter Try.func41, Try.ntmps41
    go_wp2_with (go_at_call 64; refine (isNaN_any _ hx _).mono ?_; rintro e w' ⟨rfl, rfl⟩)
    go_ret
    exact ⟨ret_int HP.out.symm, rfl⟩
  · have hb : nanB x = false := by unfold nanB; simpa using hN
    have o1 := ordLt hx fit0 hN nan0
    have o2 := ordEq hx fit0 hN nan0
    have o3 := ordGt hx fitK hN nanK
    have o4 := ordEq hx fitK hN nanK
    by_cases h0 : x = 0 ∨ 9223372036854775808 ≤ x
    · have HP : Hid (permF x = 0) := Lib.hid (by unfold permF; rw [if_neg hN, if_pos h0])
      have f : ((FloatKind.f64.format.order x 0 == some .lt) || (FloatKind.f64.format.order x 0 == some .eq)) = true := by
        rw [o1, o2]; simp [kx]; unfold Fit at hx; omega
      clear o1 o2 o3 o4 hN h0
      go_enter Try.func41, Try.ntmps41
      go_wp2_with (go_at_call 64; refine (isNaN_any _ hx _).mono ?_; rintro e w' ⟨rfl, rfl⟩)
      go_ret
      exact ⟨ret_int HP.out.symm, rfl⟩
    · have f : ((FloatKind.f64.format.order x 0 == some .lt) || (FloatKind.f64.format.order x 0 == some .eq)) = false := by
        rw [o1, o2]; simp [kx]; omega
      by_cases hk : 4652007308841189376 ≤ x
      · have HP : Hid (permF x = 1000000) := Lib.hid (by unfold permF; rw [if_neg hN, if_neg h0, if_pos hk])
        have g : ((FloatKind.f64.format.order x 4652007308841189376 == some .gt) || (FloatKind.f64.format.order x 4652007308841189376 == some .eq)) = true := by
          rw [o3, o4]; simp [kx]; omega
        clear o1 o2 o3 o4 hN h0 hk
        go_enter Try.func41, Try.ntmps41
        go_wp2_with (go_at_call 64; refine (isNaN_any _ hx _).mono ?_; rintro e w' ⟨rfl, rfl⟩)
        go_ret
        exact ⟨ret_int HP.out.symm, rfl⟩
      · have HP : Hid (permF x = (thou x : Int)) := Lib.hid (by unfold permF; rw [if_neg hN, if_neg h0, if_neg hk])
        have g : ((FloatKind.f64.format.order x 4652007308841189376 == some .gt) || (FloatKind.f64.format.order x 4652007308841189376 == some .eq)) = false := by
          rw [o3, o4]; simp [kx]; omega
        obtain ⟨r, e, hr, ht, hf⟩ := thou_spec (x := x) (by omega) (by omega)
        have q := fun w => run_float_arith (P := Try.prog) w .mul 45 .f64 x 4652007308841189376 r e
        have hr2 : r < 9218868437227405312 := by omega
        have hi : fi (flo r) < 9218868437227405312 := by have := fi_mono hf; rw [fi6] at this; omega
        have c := fun w => run_convert_float_int (P := Try.prog) w 45 3 .f64 .i64 (fi (flo r)) (flo (fi (flo r)) : Int) (by rw [Try.underlying45]; rfl) Try.underlying3 (toIntVal hi (by rw [flo_fi (by omega)]; omega))
        have HT : Hid ((flo (fi (flo r)) : Int) = thou x) := Lib.hid (by rw [flo_fi (by omega), ht])
        have HR := Lib.hid hr2
        clear o1 o2 o3 o4 hN h0 hk e hr ht hf hi hr2
        go_enter Try.func41, Try.ntmps41
        go_wp2_with (first | (go_at_call 64; refine (isNaN_any _ hx _).mono ?_; rintro e w' ⟨rfl, rfl⟩) | (go_at_call 67; refine (floor_any HR.out _).mono ?_; rintro e w' ⟨rfl, rfl⟩))
        go_ret
        exact ⟨ret_int (by rw [HP.out, HT.out]), rfl⟩

theorem kindF_nan {x : Nat} (hx : Fit x) (h : NaN x) : kindF x = 6 := by
  rcases kind_cases hx with h1 | h1 | h1 | h1 | h1 | h1 | h1
  case inr.inr.inr.inl => exact h1.2.1
  all_goals (exfalso; unfold NaN at h; omega)

set_option maxHeartbeats 1000000 in
theorem rpermille_any (x : Nat) (hx : Fit x) (w : World) : Calls Try.prog 42 #[.float .f64 x] w fun e w' => e = .returned (.int .i64 (permF x)) ∧ Below w.heap.size w w' := by
  obtain ⟨k, hk0⟩ : ∃ k, k = kindF x := ⟨_, rfl⟩
  have HK := Lib.hid hk0.symm
  by_cases hN : NaN x
  · have HP : Hid (permF x = -1) := Lib.hid (by unfold permF; rw [if_pos hN])
    have e6 := kindF_nan hx hN
    rw [← hk0] at e6
    subst e6
    clear hN hk0
    go_enter Try.func42, Try.ntmps42
    go_wp2_with fail
    refine (rkind_any x hx _).mono ?_
    rintro e w1 ⟨rfl, B1⟩
    rw [HK.out]
    go_wp2
    go_ret
    exact ⟨ret_int HP.out.symm, B1⟩
  · have k6 : (k == 6) = false := by
      rcases kind_cases hx with h1 | h1 | h1 | h1 | h1 | h1 | h1
      case inr.inr.inr.inl => exact absurd h1.1 hN
      all_goals (simp; omega)
    have o3 := ordGt hx fitK hN nanK
    have o4 := ordEq hx fitK hN nanK
    by_cases h0 : x = 0 ∨ 9223372036854775808 ≤ x
    · have HP : Hid (permF x = 0) := Lib.hid (by unfold permF; rw [if_neg hN, if_pos h0])
      have k4 : k < 4 := by
        rcases kind_cases hx with h1 | h1 | h1 | h1 | h1 | h1 | h1
        case inr.inr.inr.inl => exact absurd h1.1 hN
        all_goals omega
      clear o3 o4 hN h0 hk0
      go_enter Try.func42, Try.ntmps42
      go_wp2_with fail
      refine (rkind_any x hx _).mono ?_
      rintro e w1 ⟨rfl, B1⟩
      rw [HK.out]
      go_wp2_with fail
      refine (rkind_any x hx _).mono ?_
      rintro e w2 ⟨rfl, B2⟩
      rw [HK.out]
      go_wp2
      go_ret
      exact ⟨ret_int HP.out.symm, B1.trans (B2.mono B1.size)⟩
    · have k4 : ¬ k < 4 := by
        rcases kind_cases hx with h1 | h1 | h1 | h1 | h1 | h1 | h1
        case inr.inr.inr.inl => exact absurd h1.1 hN
        all_goals omega
      by_cases hk : 4652007308841189376 ≤ x
      · have HP : Hid (permF x = 1000000) := Lib.hid (by unfold permF; rw [if_neg hN, if_neg h0, if_pos hk])
        have g : ((FloatKind.f64.format.order x 4652007308841189376 == some .gt) || (FloatKind.f64.format.order x 4652007308841189376 == some .eq)) = true := by
          rw [o3, o4]; simp [kx]; omega
        clear o3 o4 hN h0 hk hk0
        go_enter Try.func42, Try.ntmps42
        go_wp2_with fail
        refine (rkind_any x hx _).mono ?_
        rintro e w1 ⟨rfl, B1⟩
        rw [HK.out]
        go_wp2_with fail
        refine (rkind_any x hx _).mono ?_
        rintro e w2 ⟨rfl, B2⟩
        rw [HK.out]
        go_wp2
        go_ret
        exact ⟨ret_int HP.out.symm, B1.trans (B2.mono B1.size)⟩
      · have HP : Hid (permF x = (thou x : Int)) := Lib.hid (by unfold permF; rw [if_neg hN, if_neg h0, if_neg hk])
        have g : ((FloatKind.f64.format.order x 4652007308841189376 == some .gt) || (FloatKind.f64.format.order x 4652007308841189376 == some .eq)) = false := by
          rw [o3, o4]; simp [kx]; omega
        obtain ⟨r, e, hr, ht, hf⟩ := thou_spec (x := x) (by omega) (by omega)
        have q := fun w => run_float_arith (P := Try.prog) w .mul 45 .f64 x 4652007308841189376 r e
        have c := fun w => run_convert_float_int (P := Try.prog) w 45 3 .f64 .i64 r (flo r : Int) (by rw [Try.underlying45]; rfl) Try.underlying3 (toIntVal (by omega) (by omega))
        have HT : Hid ((flo r : Int) = thou x) := Lib.hid (by rw [ht])
        clear o3 o4 hN h0 hk hk0 e hr ht hf
        go_enter Try.func42, Try.ntmps42
        go_wp2_with fail
        refine (rkind_any x hx _).mono ?_
        rintro e w1 ⟨rfl, B1⟩
        rw [HK.out]
        go_wp2_with fail
        refine (rkind_any x hx _).mono ?_
        rintro e w2 ⟨rfl, B2⟩
        rw [HK.out]
        go_wp2
        go_ret
        exact ⟨ret_int (by rw [HP.out, HT.out]), B1.trans (B2.mono B1.size)⟩
end Go.Proofs.Ytmhfbgcfagfmbaa
