/- Utilizations of numbers that are not negative grow with the use and shrink with the limit; so do the permille values. -/
import Derived.Test.YtmhfbgcfagfmbaaFG
namespace Go.Proofs.Ytmhfbgcfagfmbaa
open Go.RowKit

theorem of_nat (n : Nat) : floatOfInt .f64 (n : Int) = fi n := rfl
theorem OfIs.spec {u l b : Nat} (h : OfIs (u : Int) (l : Int) b) (hl : 0 < l) (hu : u ≤ 9223372036854775807) (hl2 : l ≤ 9223372036854775807) :
    (u = 0 ∧ b = 0) ∨ (0 < u ∧ floatBits .quo .f64 (fi u) (fi l) = some b ∧ b ≤ 9218868437227405312) := by
  have a := h.ar (by omega)
  rw [of_nat, of_nat] at a
  have pl := fi_pos hl hl2
  by_cases h0 : u = 0
  · subst h0
    rw [fi_zero] at a
    exact .inl ⟨rfl, a.some (zero_div pl)⟩
  · obtain ⟨r, e, hr⟩ := div_total (fi_pos (by omega) hu) pl
    have := a.some e
    subst this
    exact .inr ⟨by omega, e, hr⟩
theorem OfIs.le {u l u' l' b b' : Nat} (h : OfIs (u : Int) (l : Int) b) (h' : OfIs (u' : Int) (l' : Int) b') (hl' : 0 < l') (hll : l' ≤ l) (huu : u ≤ u') (hu : u' ≤ 9223372036854775807) (hl2 : l ≤ 9223372036854775807) :
    b ≤ b' ∧ b' ≤ 9218868437227405312 := by
  rcases h.spec (by omega) (by omega) hl2 with ⟨_, e⟩ | ⟨u0, e, hb⟩
  · rcases h'.spec hl' hu (by omega) with ⟨_, e'⟩ | ⟨_, _, hb'⟩
    · omega
    · omega
  · rcases h'.spec hl' hu (by omega) with ⟨_, _⟩ | ⟨_, e', hb'⟩
    · omega
    · exact ⟨div_mono (fi_pos u0 (by omega)) (fi_pos (by omega) hl2) (fi_pos (by omega) hu) (fi_pos hl' (by omega)) (Nat.mul_le_mul (mv_le (fi_mono huu)) (mv_le (fi_mono hll))) e e', hb'⟩
theorem OfIs.full {l b : Nat} (h : OfIs (l : Int) (l : Int) b) (hl : 0 < l) (hl2 : l ≤ 9223372036854775807) : b = 4607182418800017408 := by
  rcases h.spec hl hl2 hl2 with ⟨_, _⟩ | ⟨_, e, _⟩
  · omega
  · rw [div_self (fi_pos hl hl2)] at e; exact (Option.some.inj e).symm

theorem tk_lo {b : Nat} (h : b ≤ 9218868437227405312) : tk b = b := by unfold tk; rw [if_pos (by omega), if_pos h]
theorem cmp3_le {a b : Int} (h : a ≤ b) : cmp3 a b ≤ 0 := by unfold cmp3; (repeat' split) <;> omega
theorem perm_mono {b c : Nat} (h : b ≤ c) (hc : c ≤ 9218868437227405312) : permF b ≤ permF c := by
  have nb : ¬ NaN b := by unfold NaN; omega
  have nc : ¬ NaN c := by unfold NaN; omega
  unfold permF
  rw [if_neg nb, if_neg nc]
  by_cases b0 : b = 0
  · rw [if_pos (.inl b0)]
    (repeat' split) <;> omega
  · have hb0 : ¬ (b = 0 ∨ 9223372036854775808 ≤ b) := by omega
    have hc0 : ¬ (c = 0 ∨ 9223372036854775808 ≤ c) := by omega
    rw [if_neg hb0, if_neg hc0]
    by_cases bk : 4652007308841189376 ≤ b
    · rw [if_pos bk, if_pos (by omega)]; omega
    · rw [if_neg bk]
      by_cases ck : 4652007308841189376 ≤ c
      · rw [if_pos ck]
        obtain ⟨r, _, _, t, hf⟩ := thou_spec (x := b) (by omega) (by omega)
        rw [t]; omega
      · rw [if_neg ck]
        have := thou_mono (x := b) (y := c) (by omega) h (by omega)
        omega
theorem perm_one : permF 4607182418800017408 = 1000 := by
  unfold permF
  rw [if_neg (by unfold NaN; omega), if_neg (by omega), if_neg (by omega), thou_one]; rfl
theorem perm_nzero : permF 9223372036854775808 = 0 := by unfold permF; rw [if_neg (by unfold NaN; omega), if_pos (by omega)]
end Go.Proofs.Ytmhfbgcfagfmbaa
