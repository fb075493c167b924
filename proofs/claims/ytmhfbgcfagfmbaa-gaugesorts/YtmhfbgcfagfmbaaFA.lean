/- float64: whole numbers, quotients, products and floors of numbers that are not negative. -/
import Derived.Test.YtmhfbgcfagfmbaaF9
import Derived.Test.YtmhfbgcfagfmbaaF2
namespace Go.Proofs.Ytmhfbgcfagfmbaa
open Go.RowKit

abbrev D64 : Ieee.Format := FloatKind.f64.format
theorem d_least : D64.leastPlace = -1074 := by rfl
theorem d_frac : D64.fractionBits = 52 := by rfl
theorem rung_lo {x : Nat} (h : x < 9223372036854775808) : Fl.rung D64 x = x := by rw [rung_eq]; omega
theorem sgn_lo {x : Nat} (h : x < 9223372036854775808) : Fl.sgn D64 x = false := by rw [sgn_eq, show x / 9223372036854775808 = 0 by omega]; rfl
theorem word_pos (r : Nat) : D64.word false r = r := rfl

/-- float64(n) of a natural number. -/
def fi (n : Nat) : Nat := floatOfInt .f64 (n : Int)
theorem fi_eq (n : Nat) : fi n = D64.nearest false n 0 := by
  unfold fi floatOfInt FloatKind.nearest FloatKind.encode
  rw [show decide ((n : Int) < 0) = false by simp]; rfl
theorem fi_G {n : Nat} (hn : n ≠ 0) {b : Int} (hb : b ≤ -1074) : fi n = min (Fl.G 52 (-1074 - b).toNat (n * 2 ^ (-b).toNat)) 9218868437227405312 := by
  rw [fi_eq, Fl.nearest_G D64 false hn (b := b) (by omega) (by rw [d_least]; exact hb), word_pos, d_inf, d_least, d_frac, show (0 - b) = -b by omega]
theorem fi_zero : fi 0 = 0 := by rw [fi_eq]; rfl
theorem fi_one : fi 1 = 4607182418800017408 := by decide +kernel
theorem fi_top : fi 9223372036854775807 = 4890909195324358656 := by decide +kernel
theorem fi_mono {n m : Nat} (h : n ≤ m) : fi n ≤ fi m := by
  by_cases h0 : n = 0
  · rw [h0, fi_zero]; omega
  · rw [fi_G h0 (b := -1074) (by omega), fi_G (by omega : m ≠ 0) (b := -1074) (by omega)]
    have := Fl.G_mono (F := 52) (L := (-1074 - (-1074 : Int)).toNat) (U := n * 2 ^ (-(-1074 : Int)).toNat) (V := m * 2 ^ (-(-1074 : Int)).toNat) (Nat.mul_pos (by omega) (Nat.two_pow_pos _)) (Nat.mul_le_mul_right _ h)
    omega
theorem fi_bd {n : Nat} (h0 : 0 < n) (h1 : n ≤ 9223372036854775807) : 4607182418800017408 ≤ fi n ∧ fi n ≤ 4890909195324358656 := by
  have a := fi_mono (n := 1) (m := n) h0
  have b := fi_mono h1
  rw [fi_one] at a
  rw [fi_top] at b
  exact ⟨a, b⟩

/-- Positive and finite. -/
def Pos (x : Nat) : Prop := 0 < x ∧ x < 9218868437227405312
theorem Pos.fit {x : Nat} (h : Pos x) : Fit x := by unfold Pos at h; unfold Fit; omega
theorem fi_pos {n : Nat} (h0 : 0 < n) (h1 : n ≤ 9223372036854775807) : Pos (fi n) := by have := fi_bd h0 h1; unfold Pos; omega

/-- The magnitude, in units of 2 ^ -1074. -/
def mv (x : Nat) : Nat := Fl.magV D64 x
theorem mv_lt {x y : Nat} (h : x < y) : mv x < mv y := by unfold mv; exact Fl.magV_lt D64 h
theorem mv_le {x y : Nat} (h : x ≤ y) : mv x ≤ mv y := by rcases Nat.lt_or_eq_of_le h with h | h; exact Nat.le_of_lt (mv_lt h); rw [h]; exact Nat.le_refl _
theorem mv_pos {x : Nat} (h : 0 < x) : 0 < mv x := by have := mv_lt h; omega

/-- The quotient of positive finite numbers. -/
theorem div_pos {x y : Nat} (hx : Pos x) (hy : Pos y) : ∃ B : Int, ∀ b : Int, b ≤ B → b ≤ -1074 →
    floatBits .quo .f64 x y = some (min (Fl.GQ 52 (-1074 - b).toNat (mv x * 2 ^ (-b).toNat) (mv y)) 9218868437227405312) := by
  unfold Pos at hx hy
  have h := Fl.div_GQ D64 (x := x) (y := y) (by rw [rung_lo (by omega), d_inf]; omega) (by rw [rung_lo (by omega)]; omega) (by rw [rung_lo (by omega), d_inf]; omega) (by rw [rung_lo (by omega)]; omega)
  obtain ⟨B, h⟩ := h
  refine ⟨B, fun b hb hb2 => ?_⟩
  have := h b hb (by rw [d_least]; exact hb2) (by omega)
  rw [rung_lo (by omega : x < 9223372036854775808), rung_lo (by omega : y < 9223372036854775808), sgn_lo (by omega : x < 9223372036854775808), sgn_lo (by omega : y < 9223372036854775808), d_least, d_inf, d_frac, show (false ^^ false) = false from rfl, word_pos] at this
  unfold mv
  rw [show floatBits .quo .f64 x y = D64.div x y from rfl]
  exact this

theorem big_exp (p q : Nat) (hp : 0 < p) : ∃ c0 : Nat, ∀ c, c0 ≤ c → q ≤ p * 2 ^ c := by
  refine ⟨q.log2 + 1, fun c hc => ?_⟩
  have h1 : q < 2 ^ (q.log2 + 1) := Nat.lt_log2_self
  have h2 : 2 ^ (q.log2 + 1) ≤ 2 ^ c := Nat.pow_le_pow_right (by omega) hc
  have h3 : 2 ^ c ≤ p * 2 ^ c := Nat.le_mul_of_pos_left _ hp
  omega

theorem div_mono {x y x' y' r r' : Nat} (hx : Pos x) (hy : Pos y) (hx' : Pos x') (hy' : Pos y') (h : mv x * mv y' ≤ mv x' * mv y)
    (e : floatBits .quo .f64 x y = some r) (e' : floatBits .quo .f64 x' y' = some r') : r ≤ r' := by
  obtain ⟨B, hB⟩ := div_pos hx hy
  obtain ⟨B', hB'⟩ := div_pos hx' hy'
  obtain ⟨c0, hc⟩ := big_exp (mv x) (mv y) (mv_pos hx.1)
  obtain ⟨b, hb1, hb2, hb3, hb4⟩ : ∃ b : Int, b ≤ B ∧ b ≤ B' ∧ b ≤ -1074 ∧ b ≤ -(c0 : Int) := ⟨min (min B B') (min (-1074) (-(c0 : Int))), by omega, by omega, by omega, by omega⟩
  rw [hB b hb1 hb3] at e
  rw [hB' b hb2 hb3] at e'
  have := Fl.GQ_mono (F := 52) (L := (-1074 - b).toNat) (N := mv x * 2 ^ (-b).toNat) (D := mv y) (N' := mv x' * 2 ^ (-b).toNat) (D' := mv y') (mv_pos hy.1) (mv_pos hy'.1) (hc _ (by omega))
    (by rw [Nat.mul_right_comm, Nat.mul_right_comm (mv x')]; exact Nat.mul_le_mul_right _ h)
  rw [← Option.some.inj e, ← Option.some.inj e']
  omega

theorem div_self {x : Nat} (hx : Pos x) : floatBits .quo .f64 x x = some 4607182418800017408 := by
  obtain ⟨B, hB⟩ := div_pos hx hx
  obtain ⟨b, hb1, hb2⟩ : ∃ b : Int, b ≤ B ∧ b ≤ -1074 := ⟨min B (-1074), by omega, by omega⟩
  rw [hB b hb1 hb2]
  have h1 := fi_G (n := 1) (by omega) hb2
  rw [fi_one, Nat.one_mul] at h1
  have h2 : Fl.GQ 52 (-1074 - b).toNat (mv x * 2 ^ (-b).toNat) (mv x) = Fl.G 52 (-1074 - b).toNat (2 ^ (-b).toNat) := by
    rw [← Fl.GQ_one, ← Fl.GQ_scale (N := 2 ^ (-b).toNat) (D := 1) (mv_pos hx.1), Nat.one_mul, Nat.mul_comm]
  rw [h2, ← h1]

theorem div_total {x y : Nat} (hx : Pos x) (hy : Pos y) : ∃ r, floatBits .quo .f64 x y = some r ∧ r ≤ 9218868437227405312 := by
  obtain ⟨B, hB⟩ := div_pos hx hy
  obtain ⟨b, hb1, hb2⟩ : ∃ b : Int, b ≤ B ∧ b ≤ -1074 := ⟨min B (-1074), by omega, by omega⟩
  exact ⟨_, hB b hb1 hb2, Nat.min_le_right _ _⟩

theorem zero_div {y : Nat} (hy : Pos y) : floatBits .quo .f64 0 y = some 0 := by
  unfold Pos at hy
  obtain ⟨m, i, e1, _, _⟩ := Fl.read_fin D64 (x := 0) (by rw [rung_lo (by omega), d_inf]; omega)
  obtain ⟨n, j, e2, _, v2⟩ := Fl.read_fin D64 (x := y) (by rw [rung_lo (by omega), d_inf]; omega)
  have hn : n ≠ 0 := by
    intro h
    rw [h, Nat.zero_mul, rung_lo (by omega)] at v2
    have := mv_pos (x := y) (by omega)
    unfold mv at this; omega
  show D64.div 0 y = some 0
  unfold Ieee.Format.div
  have e0 : D64.read 0 = .number false 0 D64.leastPlace := rfl
  rw [e0, e2, sgn_lo (by omega)]
  simp [Ieee.Datum.quotient, hn, Ieee.Format.write, Ieee.Format.nearest, Ieee.Format.word]
end Go.Proofs.Ytmhfbgcfagfmbaa
