/- The contract of the statements' own examples (lives, package 2). -/
import Derived.Test.YtmhfbgcfagfmbaaFF
namespace Go.Proofs.Ytmhfbgcfagfmbaa
open Go.RowKit

theorem AR.some {op : BinOp} {x y b r : Nat} (h : AR op x y b) (e : floatBits op .f64 x y = .some r) : b = r := by
  rcases h with h | ⟨h, _⟩
  · rw [e] at h; exact (Option.some.inj h).symm
  · rw [e] at h; cases h
theorem AR.none {op : BinOp} {x y b : Nat} (h : AR op x y b) (e : floatBits op .f64 x y = .none) : NaN b := by
  rcases h with h | ⟨_, h⟩
  · rw [e] at h; cases h
  · exact h
theorem OfIs.neg {u l : Int} {b : Nat} (h : OfIs u l b) (hl : l < 0) : b = 9223372036854775808 := by unfold OfIs at h; rwa [if_pos hl] at h
theorem OfIs.ar {u l : Int} {b : Nat} (h : OfIs u l b) (hl : ¬ l < 0) : AR .quo (floatOfInt .f64 u) (floatOfInt .f64 l) b := by unfold OfIs at h; rwa [if_neg hl] at h

theorem gv1 : floatBits .quo .f64 (floatOfInt .f64 0) (floatOfInt .f64 0) = none := by decide +kernel
theorem gv2 : floatBits .quo .f64 (floatOfInt .f64 5) (floatOfInt .f64 0) = some 9218868437227405312 := by decide +kernel
theorem gv3 : floatBits .quo .f64 (floatOfInt .f64 1) (floatOfInt .f64 4) = some 4598175219545276416 := by decide +kernel
theorem gv4 : floatBits .add .f64 0 4607182418800017408 = some 4607182418800017408 := by decide +kernel
theorem gv5 : floatBits .add .f64 4607182418800017408 4611686018427387904 = some 4613937818241073152 := by decide +kernel
theorem gv6 : floatBits .quo .f64 4613937818241073152 (floatOfInt .f64 2) = some 4609434218613702656 := by decide +kernel
theorem gv7 : floatBits .mul .f64 4598175219545276416 4652007308841189376 = some 4643000109586448384 := by decide +kernel
theorem gv8 : fi 250 = 4643000109586448384 := by decide +kernel
theorem gv9 : floatBits .sub .f64 4613937818241073152 4607182418800017408 = some 4611686018427387904 := by decide +kernel
theorem gvA : floatBits .quo .f64 4611686018427387904 (floatOfInt .f64 (max 2 1)) = some 4607182418800017408 := by decide +kernel
theorem gvB : floatBits .add .f64 4607182418800017408 4607182418800017408 = some 4611686018427387904 := by decide +kernel

theorem perm_quarter : permF 4598175219545276416 = 250 := by
  unfold permF
  rw [if_neg (by unfold NaN; omega), if_neg (by omega), if_neg (by omega)]
  unfold thou
  rw [gv7]
  show ((flo 4643000109586448384 : Nat) : Int) = 250
  rw [← gv8, flo_fi (by omega)]; rfl
theorem perm_nan {x : Nat} (h : NaN x) : permF x = -1 := by unfold permF; rw [if_pos h]
theorem kind_const : kindF 9223372036854775808 = 2 ∧ kindF 9218868437227405312 = 5 := by unfold kindF; omega
theorem tk_const : tk 9223372036854775808 = -1 ∧ tk 0 = 0 := by unfold tk; omega
theorem ord_self {x : Nat} (hx : Fit x) (h : ¬ NaN x) : (FloatKind.f64.format.order x x == some .eq) = true := by rw [ordEq hx hx h h]; simp

theorem flts3_new (w : World) (x y z : Nat) (hx : Fit x) (hy : Fit y) (hz : Fit z) : Flts (w.alloc (.cells #[.float .f64 x, .float .f64 y, .float .f64 z] 45)) (some ⟨w.heap.size, 0, none⟩) 3 [x, y, z] := by
  refine ⟨rfl, by simp [hx, hy, hz], .inr ⟨_, _, rfl, fun j hj => ?_⟩⟩
  match j, hj with
  | 0, _ => simp [go_sem]
  | 1, _ => simp [go_sem]
  | 2, _ => simp [go_sem]
theorem good3 {z : Nat} (h : NaN z) : good [4607182418800017408, z, 4611686018427387904] = [4607182418800017408, 4611686018427387904] := by
  have h1 : nanB 4607182418800017408 = false := nanB_false (by unfold NaN; omega)
  have h2 : nanB 4611686018427387904 = false := nanB_false (by unfold NaN; omega)
  simp [good, h1, h2, nanB_true h]
theorem mean12 {b : Nat} (h : MeanIs [4607182418800017408, 4611686018427387904] b) : b = 4609434218613702656 := by
  rcases h with ⟨h, _⟩ | ⟨_, s, _, ⟨t, _, a1, t2, _, a2, rfl⟩, a⟩
  · cases h
  · have e1 := a1.some gv4
    subst e1
    have e2 := a2.some gv5
    subst e2
    exact a.some gv6

set_option maxHeartbeats 1000000 in
theorem lives2_any (w : World) : Calls Try.prog 35 #[] w fun e w' => e = .returned (.bool true) ∧ Below w.heap.size w w' := by
  have f3 : Fit 4613937818241073152 := by unfold Fit; omega
  have f1 : Fit 4607182418800017408 := by unfold Fit; omega
  have f2 : Fit 4611686018427387904 := by unfold Fit; omega
  have fq : Fit 4598175219545276416 := by unfold Fit; omega
  have fm : Fit 4609434218613702656 := by unfold Fit; omega
  have fs : Fit 9223372036854775808 := by unfold Fit; omega
  have o1 := ord_self fq (by unfold NaN; omega)
  have o2 := ord_self fm (by unfold NaN; omega)
  have o3 := ord_self f3 (by unfold NaN; omega)
  have o4 := ord_self f2 (by unfold NaN; omega)
  go_enter Try.func35, Try.ntmps35
  go_wp2_with fail
  refine (of_any 5 (-1) _).mono ?_
  rintro e w1 ⟨b1, h1, _, rfl, B1⟩
  have e1 := h1.neg (by omega)
  subst e1
  clear h1
  go_wp2_with fail
  refine (of_any 0 0 _).mono ?_
  rintro e w2 ⟨z, hz, fz, rfl, b2⟩
  have B2 := B1.trans (b2.mono B1.size)
  have nz := (hz.ar (by omega)).none gv1
  clear b2 B1 hz
  go_wp2_with fail
  refine (of_any 5 0 _).mono ?_
  rintro e w3 ⟨b3, h3, _, rfl, c3⟩
  have B3 := B2.trans (c3.mono B2.size)
  have e3 := (h3.ar (by omega)).some gv2
  subst e3
  clear c3 B2 h3
  have HN := Lib.hid nz
  clear nz
  go_wp2_with fail
  refine (mean_any _ 3 3 [4607182418800017408, z, 4611686018427387904] _ (by omega) (flts3_new w3 _ z _ f1 fz f2)).mono ?_
  rintro e w4 ⟨m, hm, fm', rfl, c4⟩
  rw [good3 HN.out] at hm ⊢
  have B4 := (B3.alloc B3.size (.cells #[.float .f64 4607182418800017408, .float .f64 z, .float .f64 4611686018427387904] 45)).trans (c4.mono (by have := B3.size; simp; omega))
  have em := mean12 hm
  subst em
  clear c4 B3 hm
  simp only [List.length_cons, List.length_nil]
  have kn := kind_const.1
  have ki := kind_const.2
  have kz := kindF_nan fz HN.out
  go_wp2_with fail
  refine (kind_any _ fs _).mono ?_
  rintro e w5 ⟨rfl, rfl⟩
  rw [kn]
  go_wp2_with fail
  refine (kind_any _ fz _).mono ?_
  rintro e w5 ⟨rfl, rfl⟩
  rw [kz]
  go_wp2_with fail
  refine (kind_any _ (by unfold Fit; omega) _).mono ?_
  rintro e w5 ⟨rfl, rfl⟩
  rw [ki]
  go_wp2_with fail
  refine (of_any 1 4 _).mono ?_
  rintro e w5 ⟨b5, h5, _, rfl, c5⟩
  have B5 := B4.trans (c5.mono B4.size)
  have e5 := (h5.ar (by omega)).some gv3
  subst e5
  clear c5 B4 h5
  go_wp2_with fail
  refine (permille_any _ fq _).mono ?_
  rintro e w6 ⟨rfl, rfl⟩
  rw [perm_quarter]
  go_wp2_with fail
  refine (permille_any _ fz _).mono ?_
  rintro e w6 ⟨rfl, rfl⟩
  rw [perm_nan HN.out]
  go_wp2_with fail
  refine (order_any _ 0 fs fit0 _).mono ?_
  rintro e w6 ⟨rfl, rfl⟩
  rw [tk_const.1, tk_const.2, cmp3_lt (by omega)]
  go_wp2_with fail
  refine (blend_any z 4613937818241073152 2 fz f3 _).mono ?_
  rintro e w6 ⟨b6, h6, _, rfl, c6⟩
  have B6 := B5.trans (c6.mono B5.size)
  unfold BlIs at h6
  rw [if_pos HN.out] at h6
  subst h6
  clear c6 B5
  go_wp2_with fail
  refine (blend_any 4607182418800017408 4613937818241073152 2 f1 f3 _).mono ?_
  rintro e w7 ⟨b7, h7, _, rfl, c7⟩
  have B7 := B6.trans (c7.mono B6.size)
  unfold BlIs at h7
  rw [if_neg (by unfold NaN; omega), if_neg (by unfold NaN; omega)] at h7
  obtain ⟨d, q, s, _, _, _, a1, a2, a3, hb⟩ := h7
  have d1 := a1.some gv9
  subst d1
  have d2 := a2.some gvA
  subst d2
  have d3 := a3.some gvB
  subst d3
  rw [if_neg (by unfold NaN; omega)] at hb
  subst hb
  clear c7 B6 a1 a2 a3
  go_wp2
  go_ret
  exact ⟨rfl, B7⟩
end Go.Proofs.Ytmhfbgcfagfmbaa
