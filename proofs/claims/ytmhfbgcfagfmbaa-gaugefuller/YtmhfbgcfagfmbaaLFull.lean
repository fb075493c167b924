/- The walk of GaugeFuller. -/
import Derived.Test.YtmhfbgcfagfmbaaFH
import Derived.OpenShut
namespace Go.Proofs.Ytmhfbgcfagfmbaa.gaugeFuller
open Go.RowKit

set_option maxHeartbeats 1000000 in
theorem none_way (u m l v : Int) (w : World) (h : u < 0 ∨ (0 ≤ u ∧ m < u) ∨ (0 ≤ u ∧ u ≤ m ∧ l < 1) ∨ (0 ≤ u ∧ u ≤ m ∧ 1 ≤ l ∧ v < l)) :
    Calls Try.prog 11 #[.int .i64 u, .int .i64 m, .int .i64 l, .int .i64 v] w fun e w' => e = .returned (.bool true) ∧ Below w.heap.size w w' := by
  have fs : Fit 9223372036854775808 := by unfold Fit; omega
  have kn := Lib.hid kind_const.1
  have pn := Lib.hid perm_nzero
  rcases h with h | ⟨h, h2⟩ | ⟨h, h2, h3⟩ | ⟨h, h2, h3, h4⟩
  all_goals
    go_enter Try.func11, Try.ntmps11
    go_wp2_with fail
    refine (lives2_any _).mono ?_
    rintro e w1 ⟨rfl, B1⟩
    go_wp2_with fail
    refine (of_any u (-1) _).mono ?_
    rintro e w2 ⟨b, hb, _, rfl, c⟩
    have B2 := B1.trans (c.mono B1.size)
    have e1 := hb.neg (by omega)
    subst e1
    clear c B1 hb
    go_wp2_with fail
    refine (kind_any _ fs _).mono ?_
    rintro e w3 ⟨rfl, rfl⟩
    rw [kn.out]
    go_wp2_with fail
    refine (of_any u (-1) _).mono ?_
    rintro e w3 ⟨b, hb, _, rfl, c⟩
    have B3 := B2.trans (c.mono B2.size)
    have e1 := hb.neg (by omega)
    subst e1
    clear c B2 hb
    go_wp2_with fail
    refine (permille_any _ fs _).mono ?_
    rintro e w4 ⟨rfl, rfl⟩
    rw [pn.out]
    go_wp2
    go_ret
    exact ⟨rfl, B3⟩

set_option maxHeartbeats 1000000 in
theorem full_way (u m l v : Nat) (w : World) (h1 : u ≤ m) (h2 : 0 < l) (h3 : l ≤ v) (hm : m ≤ 9223372036854775807) (hv : v ≤ 9223372036854775807) :
    Calls Try.prog 11 #[.int .i64 (u : Int), .int .i64 (m : Int), .int .i64 (l : Int), .int .i64 (v : Int)] w fun e w' => e = .returned (.bool true) ∧ Below w.heap.size w w' := by
  have d1 : decide (m < u) = false := by simp; omega
  have d2 : decide ((l : Int) < 1) = false := by simp; omega
  have d3 : decide (v < l) = false := by simp; omega
  have d0 : decide ((u : Int) < 0) = false := by simp
  go_enter Try.func11, Try.ntmps11
  go_wp2_with fail
  refine (lives2_any _).mono ?_
  rintro e w1 ⟨rfl, B1⟩
  go_wp2_with fail
  refine (of_any u l _).mono ?_
  rintro e w2 ⟨a, ha, fa, rfl, c⟩
  have B2 := B1.trans (c.mono B1.size)
  clear c B1
  go_wp2_with fail
  refine (of_any m l _).mono ?_
  rintro e w3 ⟨b, hb, fb, rfl, c⟩
  have B3 := B2.trans (c.mono B2.size)
  clear c B2
  go_wp2_with fail
  refine (of_any u v _).mono ?_
  rintro e w4 ⟨d, hd, fd, rfl, c⟩
  have B4 := B3.trans (c.mono B3.size)
  clear c B3
  obtain ⟨lab, lb⟩ := ha.le hb h2 (Nat.le_refl _) h1 hm (by omega)
  obtain ⟨lda, la⟩ := hd.le ha h2 h3 (Nat.le_refl _) (by omega) hv
  obtain ⟨v1, e1⟩ : ∃ x, cmp3 (tk a) (tk b) = x := ⟨_, rfl⟩
  obtain ⟨v2, e2⟩ : ∃ x, cmp3 (tk d) (tk a) = x := ⟨_, rfl⟩
  obtain ⟨p1, f1⟩ : ∃ x, permF a = x := ⟨_, rfl⟩
  obtain ⟨p2, f2⟩ : ∃ x, permF b = x := ⟨_, rfl⟩
  obtain ⟨p3, f3⟩ : ∃ x, permF d = x := ⟨_, rfl⟩
  have c1 : v1 ≤ 0 := by rw [← e1]; exact cmp3_le (by rw [tk_lo la, tk_lo lb]; omega)
  have c2 : v2 ≤ 0 := by rw [← e2]; exact cmp3_le (by rw [tk_lo la, tk_lo (by omega)]; omega)
  have c3 : p1 ≤ p2 := by rw [← f1, ← f2]; exact perm_mono lab lb
  have c4 : p3 ≤ p1 := by rw [← f1, ← f3]; exact perm_mono lda la
  have E1 := Lib.hid e1
  have E2 := Lib.hid e2
  have F1 := Lib.hid f1
  have F2 := Lib.hid f2
  have F3 := Lib.hid f3
  clear e1 e2 f1 f2 f3 ha hb hd lab lb lda la d0 d1 d2 d3
  go_wp2_with fail
  refine (order_any a b fa fb _).mono ?_
  rintro e w5 ⟨rfl, rfl⟩
  rw [E1.out]
  go_wp2_with fail
  refine (permille_any a fa _).mono ?_
  rintro e w5 ⟨rfl, rfl⟩
  rw [F1.out]
  go_wp2_with fail
  refine (permille_any b fb _).mono ?_
  rintro e w5 ⟨rfl, rfl⟩
  rw [F2.out]
  go_wp2_with fail
  refine (order_any d a fd fa _).mono ?_
  rintro e w5 ⟨rfl, rfl⟩
  rw [E2.out]
  go_wp2_with fail
  refine (permille_any d fd _).mono ?_
  rintro e w5 ⟨rfl, rfl⟩
  rw [F3.out]
  go_wp2_with fail
  refine (permille_any a fa _).mono ?_
  rintro e w5 ⟨rfl, rfl⟩
  rw [F1.out]
  go_wp2
  go_ret
  exact ⟨rfl, B4⟩

theorem gaugeFuller_walk (u : Int) (_ : (Lit.int .i64 u).wf = true) (m : Int) (wm : (Lit.int .i64 m).wf = true) (l : Int) (_ : (Lit.int .i64 l).wf = true) (v : Int) (wv : (Lit.int .i64 v).wf = true) (w : World) :
    Calls Try.prog 11 #[.int .i64 u, .int .i64 m, .int .i64 l, .int .i64 v] w fun e w' => e = .returned (.bool true) ∧ Below w.heap.size w w' := by
  by_cases h : 0 ≤ u ∧ u ≤ m ∧ 1 ≤ l ∧ l ≤ v
  · obtain ⟨h1, h2, h3, h4⟩ := h
    obtain ⟨u', rfl⟩ := Int.eq_ofNat_of_zero_le h1
    obtain ⟨m', rfl⟩ := Int.eq_ofNat_of_zero_le (show 0 ≤ m by omega)
    obtain ⟨l', rfl⟩ := Int.eq_ofNat_of_zero_le (show 0 ≤ l by omega)
    obtain ⟨v', rfl⟩ := Int.eq_ofNat_of_zero_le (show 0 ≤ v by omega)
    have b1 := (bounds_i64 wm).2
    have b2 := (bounds_i64 wv).2
    exact full_way u' m' l' v' w (by omega) (by omega) (by omega) (by omega) (by omega)
  · exact none_way u m l v w (by omega)
end Go.Proofs.Ytmhfbgcfagfmbaa.gaugeFuller
