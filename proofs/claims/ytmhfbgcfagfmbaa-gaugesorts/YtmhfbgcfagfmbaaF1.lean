/- Words of a floating-point format in their order: by sign and rung. -/
import Ieee.Arith
namespace Go.Proofs.Ytmhfbgcfagfmbaa.Fl
open Ieee

variable (f : Format)

def rung (x : Nat) : Nat := x % f.signWeight
def sgn (x : Nat) : Bool := x / f.signWeight % 2 == 1
/-- NaN, by the rung. -/
def nanB (x : Nat) : Bool := decide (f.infRung < rung f x)
/-- The place of a word in the order. -/
def key (x : Nat) : Int := if sgn f x then -(rung f x : Int) else (rung f x : Int)

/-- The magnitude of a finite rung, in units of the least place. -/
def magV (r : Nat) : Nat := if r < f.binade then r else (f.binade + r % f.binade) * 2 ^ (r / f.binade - 1)

theorem binade_pos : 0 < f.binade := Nat.two_pow_pos _

theorem magV_lo (r : Nat) (h : ¬ r < f.binade) : f.binade * 2 ^ (r / f.binade - 1) ≤ magV f r := by
  unfold magV; rw [if_neg h]; exact Nat.mul_le_mul_right _ (Nat.le_add_right _ _)
theorem magV_hi (r : Nat) : magV f r < f.binade * 2 ^ (r / f.binade) := by
  have hp := binade_pos f
  unfold magV
  split
  · rename_i h
    rw [Nat.div_eq_of_lt h]; omega
  · rename_i h
    have hq : 1 ≤ r / f.binade := (Nat.le_div_iff_mul_le hp).2 (by omega)
    have hm := Nat.mod_lt r hp
    have e : 2 ^ (r / f.binade) = 2 * 2 ^ (r / f.binade - 1) := by
      conv => lhs; rw [show r / f.binade = (r / f.binade - 1) + 1 by omega]
      rw [Nat.pow_succ]; omega
    rw [e, ← Nat.mul_assoc]
    exact Nat.mul_lt_mul_of_pos_right (by omega) (Nat.two_pow_pos _)

theorem magV_lt {r s : Nat} (h : r < s) : magV f r < magV f s := by
  have hp := binade_pos f
  rcases Nat.lt_or_ge (r / f.binade) (s / f.binade) with hq | hq
  · have hs : ¬ s < f.binade := by
      intro hs
      rw [Nat.div_eq_of_lt hs] at hq; exact absurd hq (Nat.not_lt_zero _)
    refine Nat.lt_of_lt_of_le (magV_hi f r) (Nat.le_trans (Nat.mul_le_mul_left _ (Nat.pow_le_pow_right (by omega) (by omega))) (magV_lo f s hs))
  · have hq' : r / f.binade = s / f.binade := Nat.le_antisymm (Nat.div_le_div_right (Nat.le_of_lt h)) hq
    have er := Nat.div_add_mod r f.binade
    have es := Nat.div_add_mod s f.binade
    rw [hq'] at er
    have hm : r % f.binade < s % f.binade := by omega
    unfold magV
    by_cases h1 : s < f.binade
    · rw [if_pos h1, if_pos (by omega)]; exact h
    · have h2 : ¬ r < f.binade := by
        intro h2
        rw [Nat.div_eq_of_lt h2] at hq'
        have := (Nat.div_eq_zero_iff_lt hp).1 hq'.symm
        omega
      rw [if_neg h1, if_neg h2, hq']
      exact Nat.mul_lt_mul_of_pos_right (by omega) (Nat.two_pow_pos _)

theorem magV_zero : magV f 0 = 0 := by unfold magV; rw [if_pos (binade_pos f)]

/-- A finite word reads as a number whose magnitude is that of its rung. -/
theorem read_fin {x : Nat} (h : rung f x < f.infRung) : ∃ m i, f.read x = .number (sgn f x) m i ∧ f.leastPlace ≤ i ∧ m * 2 ^ (i - f.leastPlace).toNat = magV f (rung f x) := by
  unfold Format.read
  dsimp only
  by_cases h1 : rung f x < f.binade
  · refine ⟨rung f x, f.leastPlace, ?_, Int.le_refl _, ?_⟩
    · have h1' : x % f.signWeight < f.binade := h1
      rw [if_pos h1']; rfl
    · unfold magV; rw [if_pos h1]; simp
  · refine ⟨f.binade + rung f x % f.binade, f.leastPlace + (rung f x / f.binade - 1 : Nat), ?_, by omega, ?_⟩
    · have h1' : ¬ x % f.signWeight < f.binade := h1
      have h' : x % f.signWeight < f.infRung := h
      rw [if_neg h1', if_pos h']; rfl
    · unfold magV; rw [if_neg h1]
      rw [show (f.leastPlace + ((rung f x / f.binade - 1 : Nat) : Int) - f.leastPlace).toNat = rung f x / f.binade - 1 by omega]
theorem binade_le_inf (h : 1 ≤ f.exponentBits) : f.binade ≤ f.infRung := by
  unfold Format.infRung
  have : 2 ≤ 2 ^ f.exponentBits := by
    calc 2 = 2 ^ 1 := rfl
      _ ≤ 2 ^ f.exponentBits := Nat.pow_le_pow_right (by omega) h
  exact Nat.le_mul_of_pos_left _ (by omega)
theorem read_inf {x : Nat} (hf : 1 ≤ f.exponentBits) (h : rung f x = f.infRung) : f.read x = .infinity (sgn f x) := by
  have hb := binade_le_inf f hf
  have h' : x % f.signWeight = f.infRung := h
  unfold Format.read
  dsimp only
  rw [h', if_neg (by omega), if_neg (by omega), if_pos rfl]; rfl
theorem read_nan {x : Nat} (hf : 1 ≤ f.exponentBits) (h : f.infRung < rung f x) : f.read x = .nan (sgn f x) (rung f x - f.infRung) := by
  have hb := binade_le_inf f hf
  have h' : f.infRung < x % f.signWeight := h
  unfold Format.read
  dsimp only
  rw [if_neg (by omega), if_neg (by omega), if_neg (by omega)]; rfl

theorem compare_int (a b : Int) : compare a b = if a < b then .lt else if a = b then .eq else .gt := rfl

theorem compare_scale (a b c : Int) (hc : 0 < c) : compare (a * c) (b * c) = compare a b := by
  simp only [compare_int]
  by_cases h1 : a < b
  · rw [if_pos h1, if_pos (Int.mul_lt_mul_of_pos_right h1 hc)]
  · rw [if_neg h1]
    by_cases h2 : a = b
    · rw [if_pos h2, if_neg (by rw [h2]; omega), if_pos (by rw [h2])]
    · have h3 : b < a := by omega
      have h4 := Int.mul_lt_mul_of_pos_right h3 hc
      rw [if_neg h2, if_neg (by omega), if_neg (by omega)]

def sval (neg : Bool) (v : Nat) : Int := if neg then -(v : Int) else (v : Int)
theorem signed_scale (neg : Bool) (m up c : Nat) : signed neg m up * ((2 ^ c : Nat) : Int) = sval neg (m * 2 ^ (up + c)) := by
  unfold signed sval
  cases neg <;> simp [Nat.shiftLeft_eq, Nat.pow_add, Int.mul_assoc, Int.neg_mul]

theorem sval_compare (a b : Bool) (u v : Nat) : compare (sval a (magV f u)) (sval b (magV f v)) = compare (sval a u) (sval b v) := by
  have z := magV_zero f
  have hu : magV f u = 0 ↔ u = 0 := by
    constructor
    · intro h
      rcases Nat.eq_zero_or_pos u with h0 | h0
      · exact h0
      · have := magV_lt f h0; omega
    · intro h; rw [h]; exact z
  have hv : magV f v = 0 ↔ v = 0 := by
    constructor
    · intro h
      rcases Nat.eq_zero_or_pos v with h0 | h0
      · exact h0
      · have := magV_lt f h0; omega
    · intro h; rw [h]; exact z
  have h1 : u < v → magV f u < magV f v := magV_lt f
  have h2 : v < u → magV f v < magV f u := magV_lt f
  have h3 : u = v → magV f u = magV f v := fun h => by rw [h]
  simp only [compare_int]
  cases a <;> cases b <;> simp only [sval, Bool.false_eq_true, if_false, if_true] <;> (repeat' split) <;> first | rfl | (exfalso; omega)

/-- The order of two words that are no NaNs. -/
theorem order_key {x y : Nat} (hf : 1 ≤ f.exponentBits) (hx : rung f x ≤ f.infRung) (hy : rung f y ≤ f.infRung) : f.order x y = some (compare (key f x) (key f y)) := by
  unfold Format.order
  have ek : ∀ x, key f x = sval (sgn f x) (rung f x) := fun _ => rfl
  rw [ek, ek]
  rcases Nat.lt_or_eq_of_le hx with hx | hx <;> rcases Nat.lt_or_eq_of_le hy with hy | hy
  · obtain ⟨m, i, e1, l1, v1⟩ := read_fin f hx
    obtain ⟨n, j, e2, l2, v2⟩ := read_fin f hy
    rw [e1, e2]
    simp only [Datum.order]
    congr 1
    rw [← sval_compare f, ← v1, ← v2]
    have a1 : (i - f.leastPlace).toNat = (i - min i j).toNat + (min i j - f.leastPlace).toNat := by omega
    have a2 : (j - f.leastPlace).toNat = (j - min i j).toNat + (min i j - f.leastPlace).toNat := by omega
    rw [a1, a2, ← signed_scale, ← signed_scale, compare_scale]
    exact Int.natCast_pos.2 (Nat.two_pow_pos _)
  · obtain ⟨m, i, e1, l1, v1⟩ := read_fin f hx
    rw [e1, read_inf f hf hy, hy]
    simp only [Datum.order, compare_int]
    congr 1
    cases sgn f x <;> cases sgn f y <;> simp only [sval, Bool.false_eq_true, if_false, if_true] <;> (repeat' split) <;> first | rfl | (exfalso; omega)
  · obtain ⟨n, j, e2, l2, v2⟩ := read_fin f hy
    rw [e2, read_inf f hf hx, hx]
    simp only [Datum.order, compare_int]
    congr 1
    cases sgn f x <;> cases sgn f y <;> simp only [sval, Bool.false_eq_true, if_false, if_true] <;> (repeat' split) <;> first | rfl | (exfalso; omega)
  · rw [read_inf f hf hx, read_inf f hf hy, hx, hy]
    have hi : 0 < f.infRung := Nat.lt_of_lt_of_le (binade_pos f) (binade_le_inf f hf)
    simp only [Datum.order, compare_int]
    congr 1
    cases sgn f x <;> cases sgn f y <;> simp only [sval, Bool.false_eq_true, if_false, if_true] <;> (repeat' split) <;> first | rfl | (exfalso; omega) | (exfalso; simp_all)
theorem order_nan_l {x y : Nat} (hf : 1 ≤ f.exponentBits) (hx : f.infRung < rung f x) : f.order x y = none := by
  unfold Format.order; rw [read_nan f hf hx]; rfl
theorem order_nan_r {x y : Nat} (hf : 1 ≤ f.exponentBits) (hy : f.infRung < rung f y) : f.order x y = none := by
  unfold Format.order; rw [read_nan f hf hy]; cases f.read x <;> rfl
end Go.Proofs.Ytmhfbgcfagfmbaa.Fl
