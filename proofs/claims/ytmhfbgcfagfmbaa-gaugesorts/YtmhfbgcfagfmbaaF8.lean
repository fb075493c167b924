/- Rounding to the nearest word, ties to even: it is monotone, and exact on words. -/
import Derived.Test.YtmhfbgcfagfmbaaF1
namespace Go.Proofs.Ytmhfbgcfagfmbaa.Fl
open Ieee

/-- n / d to the nearest whole number, ties to even. -/
def rE (n d : Nat) : Nat := n / d + (if d < 2 * (n % d) ∨ (d = 2 * (n % d) ∧ n / d % 2 = 1) then 1 else 0)

theorem rE_small {n d : Nat} (h : 2 * n < d) : rE n d = 0 := by
  unfold rE
  have h1 : n / d = 0 := Nat.div_eq_of_lt (by omega)
  have h2 : n % d = n := Nat.mod_eq_of_lt (by omega)
  rw [h1, h2, if_neg (by omega)]
theorem rE_mono {n m d : Nat} (h : n ≤ m) : rE n d ≤ rE m d := by
  have hq : n / d ≤ m / d := Nat.div_le_div_right h
  unfold rE
  rcases Nat.lt_or_ge (n / d) (m / d) with hlt | hge
  · split <;> split <;> omega
  · have e : n / d = m / d := Nat.le_antisymm hq hge
    have e1 := Nat.div_add_mod n d
    have e2 := Nat.div_add_mod m d
    rw [e] at e1 ⊢
    have hr : n % d ≤ m % d := by omega
    split
    · rename_i hc
      rw [if_pos (by rcases hc with hc | ⟨hc, ho⟩; left; omega; by_cases g : n % d = m % d; right; exact ⟨by omega, ho⟩; left; omega)]
      exact Nat.le_refl _
    · omega
theorem rE_scale {n d c : Nat} (hc : 0 < c) : rE (n * c) (d * c) = rE n d := by
  unfold rE
  rw [Nat.mul_div_mul_right _ _ hc, Nat.mul_mod_mul_right]
  congr 1
  have e1 : d * c < 2 * (n % d * c) ↔ d < 2 * (n % d) := by
    rw [← Nat.mul_assoc]; exact ⟨fun h => Nat.lt_of_mul_lt_mul_right h, fun h => Nat.mul_lt_mul_of_pos_right h hc⟩
  have e2 : d * c = 2 * (n % d * c) ↔ d = 2 * (n % d) := by
    rw [← Nat.mul_assoc]; exact ⟨fun h => Nat.eq_of_mul_eq_mul_right hc h, fun h => by rw [← h]⟩
  simp only [e1, e2]
theorem rE_exact {q d : Nat} (hd : 0 < d) : rE (q * d) d = q := by
  unfold rE
  rw [Nat.mul_div_cancel _ hd, Nat.mul_mod_left, if_neg (by omega)]; omega
theorem rE_le {n q d : Nat} (hd : 0 < d) (h : n ≤ q * d) : rE n d ≤ q := by have := rE_mono (d := d) h; rwa [rE_exact hd] at this
theorem rE_ge {n q d : Nat} (hd : 0 < d) (h : q * d ≤ n) : q ≤ rE n d := by have := rE_mono (d := d) h; rwa [rE_exact hd] at this

theorem cut_even (neg : Bool) (n drop : Nat) : Toward.even.cut neg n drop = rE n (2 ^ drop) := by
  have key : ∀ g, Toward.even.cut neg n drop = n / g + (decide (g < 2 * (n % g)) || (g == 2 * (n % g) && n / g % 2 == 1)).toNat → g = 1 <<< min drop (n.log2 + 2) → Toward.even.cut neg n drop = rE n g := by
    intro g h _
    rw [h]; unfold rE
    congr 1
    by_cases c : g < 2 * (n % g) ∨ (g = 2 * (n % g) ∧ n / g % 2 = 1)
    · rw [if_pos c]
      rcases c with c | ⟨c, d⟩
      · simp [c]
      · have : (g == 2 * (n % g) && n / g % 2 == 1) = true := by rw [Bool.and_eq_true, beq_iff_eq, beq_iff_eq]; exact ⟨c, d⟩
        rw [this, Bool.or_true]; rfl
    · rw [if_neg c]
      have c1 : ¬ g < 2 * (n % g) := fun h => c (.inl h)
      have c2 : (g == 2 * (n % g) && n / g % 2 == 1) = false := by
        rw [Bool.eq_false_iff]; intro h; rw [Bool.and_eq_true, beq_iff_eq, beq_iff_eq] at h; exact c (.inr h)
      rw [decide_eq_false c1, c2]; rfl
  have e := key _ rfl rfl
  rw [e, Nat.one_shiftLeft]
  rcases Nat.le_total drop (n.log2 + 2) with h | h
  · rw [Nat.min_eq_left h]
  · rw [Nat.min_eq_right h]
    have hn : n < 2 ^ (n.log2 + 1) := Nat.lt_log2_self
    have h2 : 2 ^ (n.log2 + 2) = 2 * 2 ^ (n.log2 + 1) := by rw [Nat.pow_succ]; omega
    have h3 : 2 ^ (n.log2 + 2) ≤ 2 ^ drop := Nat.pow_le_pow_right (by omega) h
    rw [rE_small (by omega), rE_small (by omega)]

/-- The rung of a positive number U, in units of which the least place has 2 ^ L. -/
def G (F L U : Nat) : Nat := (max (U.log2 - F) L - L) * 2 ^ F + rE U (2 ^ max (U.log2 - F) L)

theorem log2_mono {a b : Nat} (ha : 0 < a) (h : a ≤ b) : a.log2 ≤ b.log2 :=
  (Nat.le_log2 (by omega)).2 (Nat.le_trans (Nat.log2_self_le (by omega)) h)

theorem G_mono {F L U V : Nat} (hU : 0 < U) (h : U ≤ V) : G F L U ≤ G F L V := by
  have hl := log2_mono hU h
  unfold G
  generalize hE : max (U.log2 - F) L = E
  generalize hE' : max (V.log2 - F) L = E'
  rcases Nat.lt_or_ge E E' with hlt | hge
  · have e' : E' = V.log2 - F := by omega
    have hu : U < 2 ^ (U.log2 + 1) := Nat.lt_log2_self
    have h1 : rE U (2 ^ E) ≤ 2 * 2 ^ F := by
      refine rE_le (Nat.two_pow_pos _) ?_
      have : 2 ^ (U.log2 + 1) ≤ 2 * 2 ^ F * 2 ^ E := by
        rw [Nat.mul_assoc, ← Nat.pow_add, ← Nat.pow_succ']
        exact Nat.pow_le_pow_right (by omega) (by omega)
      omega
    have h2 : 2 ^ F ≤ rE V (2 ^ E') := by
      refine rE_ge (Nat.two_pow_pos _) ?_
      rw [← Nat.pow_add]
      exact Nat.le_trans (Nat.pow_le_pow_right (by omega) (by omega)) (Nat.log2_self_le (by omega))
    have h3 : (E - L) * 2 ^ F + 2 * 2 ^ F ≤ (E' - L) * 2 ^ F + 2 ^ F := by
      have : (E - L + 1) * 2 ^ F ≤ (E' - L) * 2 ^ F := Nat.mul_le_mul_right _ (by omega)
      rw [Nat.add_mul] at this; omega
    omega
  · have e : E = E' := by omega
    subst e
    exact Nat.add_le_add_left (rE_mono h) _

variable (f : Format)

theorem nearest_G (neg : Bool) {mag : Nat} {place b : Int} (hm : mag ≠ 0) (hp : b ≤ place) (hl : b ≤ f.leastPlace) :
    f.nearest neg mag place = f.word neg (min (G f.fractionBits (f.leastPlace - b).toNat (mag * 2 ^ (place - b).toNat)) f.infRung) := by
  unfold Format.nearest
  rw [if_neg hm]
  dsimp only
  congr 2
  have hlog : (mag * 2 ^ (place - b).toNat).log2 = mag.log2 + (place - b).toNat := by
    apply (Nat.log2_eq_iff (by have := Nat.two_pow_pos (place - b).toNat; exact Nat.mul_ne_zero hm (by omega))).2
    have h1 := Nat.log2_self_le hm
    have h2 : mag < 2 ^ (mag.log2 + 1) := Nat.lt_log2_self
    rw [show mag.log2 + (place - b).toNat + 1 = (mag.log2 + 1) + (place - b).toNat by omega, Nat.pow_add, Nat.pow_add]
    exact ⟨Nat.mul_le_mul_right _ h1, Nat.mul_lt_mul_of_pos_right h2 (Nat.two_pow_pos _)⟩
  unfold G
  rw [hlog]
  generalize hlast : max (place + (mag.log2 : Int) - (f.fractionBits : Int)) f.leastPlace = last
  have hE : max (mag.log2 + (place - b).toNat - f.fractionBits) (f.leastPlace - b).toNat = (last - b).toNat := by omega
  rw [hE, cut_even, Nat.shiftLeft_eq]
  have hb : f.binade = 2 ^ f.fractionBits := rfl
  rw [hb, show (last - b).toNat - (f.leastPlace - b).toNat = (last - f.leastPlace).toNat by omega]
  congr 1
  rcases Int.le_total last place with h | h
  · rw [show (last - place).toNat = 0 by omega, Nat.pow_zero,
      show mag * 2 ^ (place - b).toNat = (mag * 2 ^ (place - last).toNat) * 2 ^ (last - b).toNat by rw [Nat.mul_assoc, ← Nat.pow_add]; congr 2; omega,
      rE_exact (Nat.two_pow_pos _)]
    have := rE_exact (q := mag * 2 ^ (place - last).toNat) (d := 1) (by omega)
    rwa [Nat.mul_one] at this
  · rw [show (place - last).toNat = 0 by omega, Nat.pow_zero, Nat.mul_one,
      show (last - b).toNat = (last - place).toNat + (place - b).toNat by omega, Nat.pow_add, rE_scale (Nat.two_pow_pos _)]

/-- A magnitude of the format is its own rung. -/
theorem G_magV {r : Nat} (L : Nat) (hr : 0 < r) : G f.fractionBits L (magV f r * 2 ^ L) = r := by
  have hb : f.binade = 2 ^ f.fractionBits := rfl
  have hp := binade_pos f
  have hlog : ∀ m, 0 < m → (m * 2 ^ L).log2 = m.log2 + L := by
    intro m hm
    apply (Nat.log2_eq_iff (by have := Nat.two_pow_pos L; exact Nat.mul_ne_zero (by omega) (by omega))).2
    have h1 := Nat.log2_self_le (n := m) (by omega)
    have h2 : m < 2 ^ (m.log2 + 1) := Nat.lt_log2_self
    rw [show m.log2 + L + 1 = (m.log2 + 1) + L by omega, Nat.pow_add, Nat.pow_add]
    exact ⟨Nat.mul_le_mul_right _ h1, Nat.mul_lt_mul_of_pos_right h2 (Nat.two_pow_pos _)⟩
  have hmp : 0 < magV f r := by have := magV_lt f hr; omega
  unfold G
  rw [hlog _ hmp]
  unfold magV
  by_cases h : r < f.binade
  · rw [if_pos h]
    have hl : r.log2 < f.fractionBits := (Nat.log2_lt (by omega)).2 (by rw [← hb]; exact h)
    rw [show max (r.log2 + L - f.fractionBits) L = L by omega, rE_exact (Nat.two_pow_pos _)]; simp
  · rw [if_neg h]
    have hq : 1 ≤ r / f.binade := (Nat.le_div_iff_mul_le hp).2 (by omega)
    have hm := Nat.mod_lt r hp
    have hl : ((f.binade + r % f.binade) * 2 ^ (r / f.binade - 1)).log2 = f.fractionBits + (r / f.binade - 1) := by
      apply (Nat.log2_eq_iff (by have := Nat.two_pow_pos (r / f.binade - 1); exact Nat.mul_ne_zero (by omega) (by omega))).2
      rw [show f.fractionBits + (r / f.binade - 1) + 1 = (f.fractionBits + 1) + (r / f.binade - 1) by omega, Nat.pow_add, Nat.pow_add _ (f.fractionBits + 1)]
      exact ⟨Nat.mul_le_mul_right _ (by omega), Nat.mul_lt_mul_of_pos_right (by rw [Nat.pow_succ]; omega) (Nat.two_pow_pos _)⟩
    rw [hl, show max (f.fractionBits + (r / f.binade - 1) + L - f.fractionBits) L = (r / f.binade - 1) + L by omega,
      Nat.mul_assoc, ← Nat.pow_add, rE_exact (Nat.two_pow_pos _), show r / f.binade - 1 + L - L = r / f.binade - 1 by omega, ← hb]
    have e := Nat.div_add_mod r f.binade
    have e2 : (r / f.binade - 1) * f.binade + f.binade = f.binade * (r / f.binade) := by
      rw [← Nat.succ_mul, Nat.mul_comm]; congr 1; omega
    omega
end Go.Proofs.Ytmhfbgcfagfmbaa.Fl
