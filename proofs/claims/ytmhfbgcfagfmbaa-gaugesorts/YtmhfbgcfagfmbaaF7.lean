/- Contracts: the reference's Ahead and Same; gauge.Of and the reference's Of. -/
import Derived.Test.YtmhfbgcfagfmbaaF6
namespace Go.Proofs.Ytmhfbgcfagfmbaa
open Go.RowKit

theorem tk_of_kind {x y : Nat} (hx : Fit x) (hy : Fit y) (h : kindF x = kindF y) (h1 : kindF x ≠ 1) (h4 : kindF x ≠ 4) : tk x = tk y := by
  rcases kind_cases hx with ⟨a1, k1, t1⟩ | ⟨a1, b1, k1, t1⟩ | ⟨a1, k1, t1⟩ | ⟨a1, k1, t1⟩ | ⟨a1, k1, t1⟩ | ⟨a1, b1, k1, t1⟩ | ⟨a1, k1, t1⟩ <;>
  rcases kind_cases hy with ⟨a2, k2, t2⟩ | ⟨a2, b2, k2, t2⟩ | ⟨a2, k2, t2⟩ | ⟨a2, k2, t2⟩ | ⟨a2, k2, t2⟩ | ⟨a2, b2, k2, t2⟩ | ⟨a2, k2, t2⟩ <;>
  rw [k1] at h h1 h4 <;> rw [k2] at h <;> omega

set_option maxHeartbeats 1000000 in
theorem ahead_any (x y : Nat) (hx : Fit x) (hy : Fit y) (w : World) : Calls Try.prog 62 #[.float .f64 x, .float .f64 y] w fun e w' => e = .returned (.bool (decide (tk x < tk y))) ∧ Below w.heap.size w w' := by
  obtain ⟨k, hk⟩ : ∃ k, k = kindF x := ⟨_, rfl⟩
  obtain ⟨j, hj⟩ : ∃ k, k = kindF y := ⟨_, rfl⟩
  have HK := Lib.hid hk.symm
  have HJ := Lib.hid hj.symm
  rcases Int.lt_trichotomy k j with h | h | h
  · have R := Lib.hid (decide_eq_true (kind_tk hx hy (by omega)))
    clear hk hj
    go_enter Try.func62, Try.ntmps62
    go_wp2_with fail
    refine (rkind_any x hx _).mono ?_
    rintro e w1 ⟨rfl, B1⟩
    rw [HK.out]
    go_wp2_with fail
    refine (rkind_any y hy _).mono ?_
    rintro e w2 ⟨rfl, B2⟩
    rw [HJ.out]
    go_wp2
    go_ret
    exact ⟨ret_bool R.out.symm, B1.trans (B2.mono B1.size)⟩
  · by_cases h1 : k = 1
    · have f1 := same_lt hx hy (by omega)
      generalize hR : decide (tk x < tk y) = R at f1
      have HR := Lib.hid hR
      clear hR hk hj
      subst h1
      subst h
      go_enter Try.func62, Try.ntmps62
      go_wp2_with fail
      refine (rkind_any x hx _).mono ?_
      rintro e w1 ⟨rfl, B1⟩
      rw [HK.out]
      go_wp2_with fail
      refine (rkind_any y hy _).mono ?_
      rintro e w2 ⟨rfl, B2⟩
      rw [HJ.out]
      go_wp2
      go_ret
      exact ⟨by simp, B1.trans (B2.mono B1.size)⟩
    · by_cases h4 : k = 4
      · have f1 := same_lt hx hy (by omega)
        generalize hR : decide (tk x < tk y) = R at f1
        have HR := Lib.hid hR
        clear hR hk hj h1
        subst h4
        subst h
        go_enter Try.func62, Try.ntmps62
        go_wp2_with fail
        refine (rkind_any x hx _).mono ?_
        rintro e w1 ⟨rfl, B1⟩
        rw [HK.out]
        go_wp2_with fail
        refine (rkind_any y hy _).mono ?_
        rintro e w2 ⟨rfl, B2⟩
        rw [HJ.out]
        go_wp2
        go_ret
        exact ⟨by simp, B1.trans (B2.mono B1.size)⟩
      · have R : Hid (decide (tk x < tk y) = false) := Lib.hid (decide_eq_false (by rw [tk_of_kind hx hy (by omega) (by omega) (by omega)]; omega))
        have g1 : (k == 1) = false := by simpa using h1
        have g4 : (k == 4) = false := by simpa using h4
        clear hk hj h1 h4
        subst h
        go_enter Try.func62, Try.ntmps62
        go_wp2_with fail
        refine (rkind_any x hx _).mono ?_
        rintro e w1 ⟨rfl, B1⟩
        rw [HK.out]
        go_wp2_with fail
        refine (rkind_any y hy _).mono ?_
        rintro e w2 ⟨rfl, B2⟩
        rw [HJ.out]
        go_wp2
        go_ret
        exact ⟨ret_bool R.out.symm, B1.trans (B2.mono B1.size)⟩
  · have R : Hid (decide (tk x < tk y) = false) := Lib.hid (decide_eq_false (by have := kind_tk hy hx (by omega); omega))
    have g1 : (k == j) = false := by simp; omega
    clear hk hj
    go_enter Try.func62, Try.ntmps62
    go_wp2_with fail
    refine (rkind_any x hx _).mono ?_
    rintro e w1 ⟨rfl, B1⟩
    rw [HK.out]
    go_wp2_with fail
    refine (rkind_any y hy _).mono ?_
    rintro e w2 ⟨rfl, B2⟩
    rw [HJ.out]
    go_wp2
    go_ret
    exact ⟨ret_bool (by rw [R.out, decide_eq_false (by omega)]), B1.trans (B2.mono B1.size)⟩

theorem same_any (x y : Nat) (hx : Fit x) (hy : Fit y) (w : World) : Calls Try.prog 36 #[.float .f64 x, .float .f64 y] w fun e w' => e = .returned (.bool (decide (tk x = tk y))) ∧ Below w.heap.size w w' := by
  obtain ⟨R1, h1⟩ : ∃ R, R = decide (tk x < tk y) := ⟨_, rfl⟩
  obtain ⟨R2, h2⟩ : ∃ R, R = decide (tk y < tk x) := ⟨_, rfl⟩
  have H1 := Lib.hid h1.symm
  have H2 := Lib.hid h2.symm
  obtain ⟨R, hR⟩ : ∃ R, R = decide (tk x = tk y) := ⟨_, rfl⟩
  have HR := Lib.hid hR.symm
  cases R1 with
  | true =>
    have e : Hid (R = false) := Lib.hid (by rw [hR]; exact decide_eq_false (by have := of_decide_eq_true h1.symm; omega))
    clear h1 h2 hR
    go_enter Try.func36, Try.ntmps36
    go_wp2_with fail
    refine (ahead_any x y hx hy _).mono ?_
    rintro e w1 ⟨rfl, B1⟩
    rw [H1.out]
    go_wp2
    go_ret
    exact ⟨ret_bool (by rw [HR.out, ‹Hid (R = false)›.out]), B1⟩
  | false =>
    have e : Hid (R = !R2) := Lib.hid (by
      rw [hR, h2]
      have := of_decide_eq_false h1.symm
      by_cases g : tk y < tk x
      · rw [decide_eq_true g, decide_eq_false (by omega)]; rfl
      · rw [decide_eq_false g, decide_eq_true (by omega)]; rfl)
    clear h1 h2 hR
    go_enter Try.func36, Try.ntmps36
    go_wp2_with fail
    refine (ahead_any x y hx hy _).mono ?_
    rintro e w1 ⟨rfl, B1⟩
    rw [H1.out]
    go_wp2_with fail
    refine (ahead_any y x hy hx _).mono ?_
    rintro e w2 ⟨rfl, B2⟩
    rw [H2.out]
    go_wp2
    go_ret
    exact ⟨ret_bool (by rw [HR.out, ‹Hid (R = !R2)›.out]), B1.trans (B2.mono B1.size)⟩

/-- b is what an operation gives: its result, or some NaN where it has none. -/
def AR (op : BinOp) (x y b : Nat) : Prop := floatBits op .f64 x y = some b ∨ (floatBits op .f64 x y = none ∧ NaN b)
theorem tk_nan {x : Nat} (hx : Fit x) (h : NaN x) : tk x = 9223372036854775808 := by
  unfold Fit at hx; unfold NaN at h; unfold tk; (repeat' split) <;> omega
theorem AR.tk_eq {op : BinOp} {x y b c : Nat} (hb : Fit b) (hc : Fit c) (h : AR op x y b) (k : AR op x y c) : tk b = tk c := by
  rcases h with h | ⟨h, n⟩ <;> rcases k with k | ⟨k, m⟩
  · rw [h] at k; rw [Option.some.inj k]
  · rw [h] at k; cases k
  · rw [h] at k; cases k
  · rw [tk_nan hb n, tk_nan hc m]

/-- A float64 is returned that P says. -/
def FRet (P : Nat → Prop) (w : World) (e : Ending) (w' : World) : Prop := ∃ b, P b ∧ Fit b ∧ e = .returned (.float .f64 b) ∧ Below w.heap.size w w'
def OfIs (u l : Int) (b : Nat) : Prop := if l < 0 then b = 9223372036854775808 else AR .quo (floatOfInt .f64 u) (floatOfInt .f64 l) b

theorem drew_below {w w1 : World} {A B : Prop} (h : (A ∧ w = w1) ∨ (B ∧ w1 = w.drew)) : Below w.heap.size w w1 := by
  rcases h with ⟨_, rfl⟩ | ⟨_, rfl⟩
  · exact Below.refl _ _
  · exact (Below.refl _ _).drew

theorem of_any (u l : Int) (w : World) : Calls Try.prog 37 #[.int .i64 u, .int .i64 l] w (FRet (OfIs u l) w) := by
  by_cases h : l < 0
  · have r75 := run75
    have r74 := run74
    go_enter Try.func37, Try.ntmps37
    go_wp2
    go_ret
    exact ⟨9223372036854775808, by unfold OfIs; rw [if_pos h], by unfold Fit; omega, by rfl, Below.refl _ _⟩
  · obtain ⟨b, w1, q, hb, hq⟩ := run_arith .quo (.inr (.inr (.inr rfl))) 45 (floatOfInt .f64 u) (floatOfInt .f64 l) w
    have HP : Hid (OfIs u l b ∧ Below w.heap.size w w1) := Lib.hid ⟨by unfold OfIs; rw [if_neg h]; rcases hq with ⟨e, _⟩ | ⟨e, n, _⟩; exact .inl e; exact .inr ⟨e, n⟩, by rcases hq with ⟨_, rfl⟩ | ⟨_, _, rfl⟩; exact Below.refl _ _; exact (Below.refl _ _).drew⟩
    clear hq
    go_enter Try.func37, Try.ntmps37
    go_wp2
    go_ret
    exact ⟨b, HP.out.1, hb, rfl, HP.out.2⟩
theorem rof_any (u l : Int) (w : World) : Calls Try.prog 38 #[.int .i64 u, .int .i64 l] w (FRet (OfIs u l) w) := by
  by_cases h : l < 0
  · have rn := fun w => run_neg 0 w
    have e0 : Hid (negN 0 = 9223372036854775808) := Lib.hid (negN_lo (by omega))
    go_enter Try.func38, Try.ntmps38
    go_wp2
    go_ret
    exact ⟨negN 0, by unfold OfIs; rw [if_pos h, e0.out], by rw [e0.out]; unfold Fit; omega, by rfl, Below.refl _ _⟩
  · obtain ⟨b, w1, q, hb, hq⟩ := run_arith .quo (.inr (.inr (.inr rfl))) 45 (floatOfInt .f64 u) (floatOfInt .f64 l) w
    have HP : Hid (OfIs u l b ∧ Below w.heap.size w w1) := Lib.hid ⟨by unfold OfIs; rw [if_neg h]; rcases hq with ⟨e, _⟩ | ⟨e, n, _⟩; exact .inl e; exact .inr ⟨e, n⟩, by rcases hq with ⟨_, rfl⟩ | ⟨_, _, rfl⟩; exact Below.refl _ _; exact (Below.refl _ _).drew⟩
    clear hq
    go_enter Try.func38, Try.ntmps38
    go_wp2
    go_ret
    exact ⟨b, HP.out.1, hb, rfl, HP.out.2⟩
end Go.Proofs.Ytmhfbgcfagfmbaa
