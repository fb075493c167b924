/- float64: adding zero, and dividing by one, leave a number as it is. -/
import Derived.Test.YtmhfbgcfagfmbaaFH
namespace Go.Proofs.Ytmhfbgcfagfmbaa
open Go.RowKit

theorem word_sgn {x : Nat} (hx : Fit x) : D64.word (Fl.sgn D64 x) (Fl.rung D64 x) = x := by
  unfold Fit at hx
  unfold Ieee.Format.word
  rw [rung_eq, sgn_eq, d_sw]
  by_cases h : x < 9223372036854775808
  · rw [show x / 9223372036854775808 = 0 by omega]; simp; omega
  · rw [show x / 9223372036854775808 = 1 by omega]; simp; omega
theorem fin_of {x : Nat} (hx : Fit x) (n : ¬ NaN x) : Fl.rung D64 x < D64.infRung ∨ Fl.rung D64 x = D64.infRung := by
  rw [nan_rung hx] at n; exact Nat.lt_or_eq_of_le (Nat.le_of_not_lt n)
/-- A magnitude of the format is written as itself. -/
theorem nearest_exact (neg : Bool) {r : Nat} (h0 : 0 < r) (h1 : r < D64.infRung) : D64.nearest neg (Fl.magV D64 r) D64.leastPlace = D64.word neg r := by
  have hm : Fl.magV D64 r ≠ 0 := by have := Fl.magV_lt D64 h0; omega
  rw [Fl.nearest_G D64 neg hm (b := D64.leastPlace) (Int.le_refl _) (Int.le_refl _), Int.sub_self, Int.toNat_zero, Fl.G_magV D64 0 h0, Nat.min_eq_left (Nat.le_of_lt h1)]
theorem signed_abs (neg : Bool) (v : Nat) (h : 0 < v) : (Fl.sval neg v).natAbs = v ∧ (Fl.sval neg v ≠ 0) ∧ (decide (Fl.sval neg v < 0) = neg) := by
  cases neg <;> simp [Fl.sval] <;> omega

/-- The same number (the two zeros are one). -/
def SameN (r x : Nat) : Prop := Fit r ∧ ¬ NaN r ∧ kx r = kx x

theorem rung_zero {x : Nat} (hx : Fit x) (h : Fl.rung D64 x = 0) : x = 0 ∨ x = 9223372036854775808 := by unfold Fit at hx; rw [rung_eq] at h; omega
theorem kx_zero {x : Nat} (h : x = 0 ∨ x = 9223372036854775808) : kx x = 0 := by rcases h with rfl | rfl <;> simp [kx]

theorem sum_zero {x : Nat} (hx : Fit x) (n : ¬ NaN x) : (∃ d, (D64.read x).sum (D64.read 0) = some d ∧ SameN (D64.write d) x) ∧ (∃ d, (D64.read 0).sum (D64.read x) = some d ∧ SameN (D64.write d) x) := by
  have e0 : D64.read 0 = .number false 0 D64.leastPlace := rfl
  rw [e0]
  rcases fin_of hx n with h | h
  · obtain ⟨m, i, e, l, v⟩ := Fl.read_fin D64 h
    rw [e]
    simp only [Ieee.Datum.sum]
    have hmin : min i D64.leastPlace = D64.leastPlace := by omega
    have hmin2 : min D64.leastPlace i = D64.leastPlace := by omega
    rw [hmin, hmin2]
    have hs : Ieee.signed (Fl.sgn D64 x) m (i - D64.leastPlace).toNat = Fl.sval (Fl.sgn D64 x) (Fl.magV D64 (Fl.rung D64 x)) := by
      rw [← v]; unfold Ieee.signed Fl.sval; rw [Nat.shiftLeft_eq]
    have hz : Ieee.signed false 0 (D64.leastPlace - D64.leastPlace).toNat = 0 := by simp [Ieee.signed]
    rw [hs, hz, Int.add_zero, Int.zero_add]
    by_cases h0 : Fl.rung D64 x = 0
    · have hv : Fl.sval (Fl.sgn D64 x) (Fl.magV D64 (Fl.rung D64 x)) = 0 := by rw [h0, Fl.magV_zero]; cases Fl.sgn D64 x <;> simp [Fl.sval]
      rw [hv]
      have hk := kx_zero (rung_zero hx h0)
      refine ⟨⟨_, rfl, ?_⟩, ⟨_, rfl, ?_⟩⟩
      all_goals
        simp only [if_true, Int.natAbs_zero, Ieee.Format.write, Ieee.Format.nearest, Bool.and_false, Bool.false_and]
        rw [word_pos]
        exact ⟨fit0, nan0, by rw [hk]; rfl⟩
    · obtain ⟨a1, a2, a3⟩ := signed_abs (Fl.sgn D64 x) (Fl.magV D64 (Fl.rung D64 x)) (by have := Fl.magV_lt D64 (show 0 < Fl.rung D64 x by omega); omega)
      have hw : D64.nearest (Fl.sgn D64 x) (Fl.magV D64 (Fl.rung D64 x)) D64.leastPlace = x := by rw [nearest_exact _ (by omega) h, word_sgn hx]
      refine ⟨⟨_, rfl, ?_⟩, ⟨_, rfl, ?_⟩⟩
      all_goals
        simp only [if_neg a2, a1, Ieee.Format.write]
        rw [a3, hw]
        exact ⟨hx, n, rfl⟩
  · rw [Fl.read_inf D64 d_exp h]
    simp only [Ieee.Datum.sum]
    refine ⟨⟨_, rfl, ?_⟩, ⟨_, rfl, ?_⟩⟩
    all_goals
      simp only [Ieee.Format.write]
      rw [← h, word_sgn hx]
      exact ⟨hx, n, rfl⟩
theorem add_zero {x : Nat} (hx : Fit x) (n : ¬ NaN x) : (∃ r, floatBits .add .f64 x 0 = some r ∧ SameN r x) ∧ (∃ r, floatBits .add .f64 0 x = some r ∧ SameN r x) := by
  obtain ⟨⟨d, e, s⟩, ⟨d', e', s'⟩⟩ := sum_zero hx n
  refine ⟨⟨_, ?_, s⟩, ⟨_, ?_, s'⟩⟩
  · show D64.add x 0 = _; unfold Ieee.Format.add; rw [e]; rfl
  · show D64.add 0 x = _; unfold Ieee.Format.add; rw [e']; rfl

theorem by_one {x : Nat} (hx : Fit x) (n : ¬ NaN x) : ∃ r, floatBits .quo .f64 x 4607182418800017408 = some r ∧ SameN r x := by
  have r1 : Fl.rung D64 4607182418800017408 = 4607182418800017408 := rung_lo (by omega)
  have s1 : Fl.sgn D64 4607182418800017408 = false := sgn_lo (by omega)
  obtain ⟨m1, i1, e1, l1, v1⟩ := Fl.read_fin D64 (x := 4607182418800017408) (by rw [r1, d_inf]; omega)
  rw [r1] at v1
  have n1 : m1 ≠ 0 := by intro h; rw [h, Nat.zero_mul] at v1; have := Fl.magV_lt D64 (show 0 < 4607182418800017408 by omega); omega
  rcases fin_of hx n with h | h
  · by_cases h0 : Fl.rung D64 x = 0
    · have hk := kx_zero (rung_zero hx h0)
      rcases rung_zero hx h0 with e | e
      · refine ⟨0, ?_, by unfold Fit; omega, by unfold NaN; omega, by rw [hk]; rfl⟩
        rw [e]; exact zero_div (by unfold Pos; omega)
      · refine ⟨9223372036854775808, ?_, by unfold Fit; omega, by unfold NaN; omega, by rw [hk]; rfl⟩
        rw [e]; decide +kernel
    · obtain ⟨B, hB⟩ := Fl.div_GQ D64 h (by omega) (y := 4607182418800017408) (by rw [r1, d_inf]; omega) (by rw [r1]; omega)
      obtain ⟨b, hb1, hb2, hb3⟩ : ∃ b : Int, b ≤ B ∧ b ≤ D64.leastPlace ∧ b ≤ 0 := ⟨min B (min D64.leastPlace 0), by omega, by omega, by omega⟩
      refine ⟨x, ?_, hx, n, rfl⟩
      show D64.div x 4607182418800017408 = some x
      rw [hB b hb1 hb2 hb3, s1, r1, Bool.xor_false]
      have hone : Fl.magV D64 4607182418800017408 = 2 ^ (-D64.leastPlace).toNat := by
        unfold Fl.magV
        obtain ⟨t, ht⟩ : ∃ t : Nat, t = 4607182418800017408 / 4503599627370496 - 1 := ⟨_, rfl⟩
        rw [d_bin, d_least, if_neg (by omega), ← ht]
        have ht2 : t = 1022 := by omega
        obtain ⟨c, hc⟩ : ∃ c : Nat, c = (-(-1074 : Int)).toNat := ⟨_, rfl⟩
        have hc2 : c = 52 + t := by omega
        rw [← hc, hc2, Nat.pow_add]
      rw [hone, show (-b).toNat = (D64.leastPlace - b).toNat + (-D64.leastPlace).toNat by rw [d_least]; rw [d_least] at hb2; omega, Nat.pow_add, ← Nat.mul_assoc]
      have hs := Fl.GQ_scale (F := D64.fractionBits) (L := (D64.leastPlace - b).toNat) (N := Fl.magV D64 (Fl.rung D64 x) * 2 ^ (D64.leastPlace - b).toNat) (D := 1) (Nat.two_pow_pos (-D64.leastPlace).toNat)
      rw [Nat.one_mul] at hs
      rw [hs, Fl.GQ_one, Fl.G_magV D64 _ (by omega), Nat.min_eq_left (Nat.le_of_lt h), word_sgn hx]
  · refine ⟨x, ?_, hx, n, rfl⟩
    show D64.div x 4607182418800017408 = some x
    unfold Ieee.Format.div
    rw [Fl.read_inf D64 d_exp h, e1, s1]
    simp only [Ieee.Datum.quotient, Option.map_some, Ieee.Format.write, Bool.xor_false]
    rw [← h, word_sgn hx]
end Go.Proofs.Ytmhfbgcfagfmbaa
