/- float64: products and floors of numbers that are not negative. -/
import Derived.Test.YtmhfbgcfagfmbaaFA
import Derived.KernelRfl
import Derived.Laws.Externs
namespace Go.Proofs.Ytmhfbgcfagfmbaa
open Go.RowKit

/-- A word below infinity, read: its sign is plus. -/
theorem read_lo {x : Nat} (h : x < 9218868437227405312) : ∃ m i, D64.read x = .number false m i ∧ (-1074 : Int) ≤ i ∧ m * 2 ^ (i + 1074).toNat = mv x := by
  obtain ⟨m, i, e, l, v⟩ := Fl.read_fin D64 (x := x) (by rw [rung_lo (by omega), d_inf]; exact h)
  rw [rung_lo (by omega), d_least] at v
  rw [sgn_lo (by omega)] at e
  rw [d_least] at l
  refine ⟨m, i, e, l, ?_⟩
  unfold mv
  rw [← v]
  rw [show i - -1074 = i + 1074 by omega]

theorem mul_pos {x y : Nat} (hx : Pos x) (hy : Pos y) {b : Int} (hb : b ≤ -2148) :
    floatBits .mul .f64 x y = some (min (Fl.G 52 (-1074 - b).toNat (mv x * mv y * 2 ^ (-2148 - b).toNat)) 9218868437227405312) := by
  obtain ⟨m, i, e1, l1, v1⟩ := read_lo hx.2
  obtain ⟨n, j, e2, l2, v2⟩ := read_lo hy.2
  have p1 := mv_pos hx.1
  have p2 := mv_pos hy.1
  have hm : m ≠ 0 := by intro h; rw [h, Nat.zero_mul] at v1; omega
  have hn : n ≠ 0 := by intro h; rw [h, Nat.zero_mul] at v2; omega
  rw [show floatBits .mul .f64 x y = D64.mul x y from rfl]
  unfold Ieee.Format.mul
  rw [e1, e2]
  simp only [Ieee.Datum.product, Option.map_some, Ieee.Format.write]
  rw [show (false ^^ false) = false from rfl, Fl.nearest_G D64 false (Nat.mul_ne_zero hm hn) (b := b) (by omega) (by rw [d_least]; omega), word_pos, d_inf, d_least, d_frac, ← v1, ← v2]
  have e : m * n * 2 ^ (i + j - b).toNat = m * 2 ^ (i + 1074).toNat * (n * 2 ^ (j + 1074).toNat) * 2 ^ (-2148 - b).toNat := by
    rw [show (i + j - b).toNat = (i + 1074).toNat + (j + 1074).toNat + (-2148 - b).toNat by omega, Nat.pow_add, Nat.pow_add]
    simp only [Nat.mul_assoc, Nat.mul_left_comm]
  rw [e]

theorem mul_mono {x x' y r r' : Nat} (hx : Pos x) (hx' : Pos x') (hy : Pos y) (h : x ≤ x') (e : floatBits .mul .f64 x y = some r) (e' : floatBits .mul .f64 x' y = some r') : r ≤ r' := by
  rw [mul_pos hx hy (b := -2148) (by omega)] at e
  rw [mul_pos hx' hy (b := -2148) (by omega)] at e'
  have := Fl.G_mono (F := 52) (L := (-1074 - (-2148 : Int)).toNat) (U := mv x * mv y * 2 ^ (-2148 - (-2148 : Int)).toNat) (V := mv x' * mv y * 2 ^ (-2148 - (-2148 : Int)).toNat)
    (Nat.mul_pos (Nat.mul_pos (mv_pos hx.1) (mv_pos hy.1)) (Nat.two_pow_pos _)) (Nat.mul_le_mul_right _ (Nat.mul_le_mul_right _ (mv_le h)))
  rw [← Option.some.inj e, ← Option.some.inj e']
  omega
theorem mul_total {x y : Nat} (hx : Pos x) (hy : Pos y) : ∃ r, floatBits .mul .f64 x y = some r := ⟨_, mul_pos hx hy (b := -2148) (by omega)⟩

/-- 2 ^ e, not reckoned. -/
def pw (e : Nat) : Nat := 2 ^ e
theorem pw_pos (e : Nat) : 0 < pw e := Nat.two_pow_pos e
theorem pw_add {e : Nat} (a c : Nat) (h : e = a + c) : pw e = 2 ^ a * 2 ^ c := by rw [h]; unfold pw; exact Nat.pow_add _ _ _
/-- The whole part. -/
def flo (x : Nat) : Nat := mv x / pw 1074
theorem flo_mono {x y : Nat} (h : x ≤ y) : flo x ≤ flo y := Nat.div_le_div_right (mv_le h)

theorem cut_zero (neg : Bool) (n drop : Nat) : Ieee.Toward.zero.cut neg n drop = n / 2 ^ drop := by
  unfold Ieee.Toward.cut
  simp only [Bool.toNat_false, Nat.add_zero, Nat.one_shiftLeft]
  rcases Nat.le_total drop (n.log2 + 2) with h | h
  · rw [Nat.min_eq_left h]
  · rw [Nat.min_eq_right h]
    have hn : n < 2 ^ (n.log2 + 1) := Nat.lt_log2_self
    have h2 : 2 ^ (n.log2 + 1) ≤ 2 ^ (n.log2 + 2) := Nat.pow_le_pow_right (by omega) (by omega)
    have h3 : 2 ^ (n.log2 + 2) ≤ 2 ^ drop := Nat.pow_le_pow_right (by omega) h
    rw [Nat.div_eq_of_lt (by omega), Nat.div_eq_of_lt (by omega)]
theorem cut_down (n drop : Nat) : Ieee.Toward.down.cut false n drop = n / 2 ^ drop := by
  rw [← cut_zero false]
  unfold Ieee.Toward.cut
  simp

theorem whole_eq {m : Nat} {i : Int} {v : Nat} (l : (-1074 : Int) ≤ i) (h : m * 2 ^ (i + 1074).toNat = v) : (m <<< i.toNat) / 2 ^ (-i).toNat = v / pw 1074 := by
  rw [Nat.shiftLeft_eq, ← h]
  rcases Int.le_total 0 i with hi | hi
  · obtain ⟨t, ht⟩ : ∃ t : Nat, t = 1074 := ⟨_, rfl⟩
    have hp : pw 1074 = 2 ^ t := by rw [← ht]; rfl
    rw [show (-i).toNat = 0 by omega, Nat.pow_zero, Nat.div_one, show (i + 1074).toNat = i.toNat + t by omega, Nat.pow_add, ← Nat.mul_assoc, hp, Nat.mul_div_cancel _ (Nat.two_pow_pos _)]
  · rw [show i.toNat = 0 by omega, Nat.pow_zero, Nat.mul_one]
    obtain ⟨a, c, ha, hc⟩ : ∃ a c : Nat, (i + 1074).toNat = a ∧ (-i).toNat = c := ⟨_, _, rfl, rfl⟩
    rw [ha, hc, pw_add (e := 1074) c a (by omega), Nat.mul_div_mul_right _ _ (Nat.two_pow_pos _)]

theorem integral_down {x : Nat} (h : x < 9218868437227405312) : (D64.read x).integral .down = .number false (flo x) 0 := by
  obtain ⟨m, i, e, l, v⟩ := read_lo h
  rw [e]
  simp only [Ieee.Datum.integral]
  rw [cut_down, whole_eq l v]; rfl
theorem toInt_zero {x : Nat} (h : x < 9218868437227405312) : (FloatKind.f64.decode x).toInt .zero = some (flo x : Int) := by
  show (D64.read x).toInt .zero = some (flo x : Int)
  obtain ⟨m, i, e, l, v⟩ := read_lo h
  rw [e]
  simp only [Ieee.Datum.toInt, Ieee.Datum.integral]
  rw [cut_zero, whole_eq l v]
  simp [Ieee.signed, flo]
theorem toIntVal {x : Nat} (h : x < 9218868437227405312) (hm : flo x ≤ 9223372036854775807) : floatToIntVal .f64 x .i64 = some (flo x : Int) := by
  unfold floatToIntVal
  rw [toInt_zero h]
  dsimp only
  rw [if_pos]
  rw [show IntKind.i64.min = -9223372036854775808 from rfl, show IntKind.i64.max = 9223372036854775807 from rfl]
  omega

/-- A whole number below 2 ^ 53 is a float64. -/
theorem flo_fi {N : Nat} (h : N < 2 ^ 53) : flo (fi N) = N := by
  by_cases h0 : N = 0
  · rw [h0, fi_zero]; unfold flo mv; rw [Fl.magV_zero]; exact Nat.zero_div _
  · obtain ⟨b, hbb⟩ : ∃ b : Int, b = -1074 := ⟨_, rfl⟩
    have hG := fi_G h0 (b := b) (by omega)
    obtain ⟨c, hc⟩ : ∃ c : Nat, c = (-b).toNat := ⟨_, rfl⟩
    have hc2 : c = 1074 := by omega
    rw [show (-1074 - b).toNat = 0 by omega, ← hc] at hG
    obtain ⟨l, hl⟩ : ∃ l, l = N.log2 := ⟨_, rfl⟩
    have l1 : 2 ^ l ≤ N := by rw [hl]; exact Nat.log2_self_le h0
    have l2 : N < 2 ^ (l + 1) := by rw [hl]; exact Nat.lt_log2_self
    have l3 : l ≤ 52 := by
      have : N.log2 < 53 := (Nat.log2_lt h0).2 h
      omega
    have hlog : (N * 2 ^ c).log2 = l + c := by
      rw [hl]
      exact Fl.log2_between (by omega) (Nat.le_refl _) (Nat.mul_lt_mul_of_pos_right (Nat.lt_succ_self _) (Nat.two_pow_pos _))
    have hk1 : 2 ^ 52 ≤ N * 2 ^ (52 - l) := by
      have : 2 ^ l * 2 ^ (52 - l) = 2 ^ 52 := by rw [← Nat.pow_add, show l + (52 - l) = 52 by omega]
      rw [← this]; exact Nat.mul_le_mul_right _ l1
    have hk2 : N * 2 ^ (52 - l) < 2 ^ 53 := by
      have : 2 ^ (l + 1) * 2 ^ (52 - l) = 2 ^ 53 := by rw [← Nat.pow_add, show l + 1 + (52 - l) = 53 by omega]
      rw [← this]; exact Nat.mul_lt_mul_of_pos_right l2 (Nat.two_pow_pos _)
    have hval : Fl.G 52 0 (N * 2 ^ c) = (l + 1022) * 2 ^ 52 + N * 2 ^ (52 - l) := by
      unfold Fl.G
      rw [hlog, show max (l + c - 52) 0 = l + 1022 by omega, Nat.sub_zero]
      have e : N * 2 ^ c = N * 2 ^ (52 - l) * 2 ^ (l + 1022) := by rw [Nat.mul_assoc, ← Nat.pow_add, show 52 - l + (l + 1022) = c by omega]
      rw [e, Fl.rE_exact (Nat.two_pow_pos _)]
    rw [hval] at hG
    generalize hK : N * 2 ^ (52 - l) = K at *
    have hlt : (l + 1022) * 2 ^ 52 + K < 9218868437227405312 := by
      have : (l + 1022) * 2 ^ 52 ≤ 1074 * 2 ^ 52 := Nat.mul_le_mul_right _ (by omega)
      omega
    rw [Nat.min_eq_left (Nat.le_of_lt hlt)] at hG
    unfold flo mv Fl.magV
    rw [hG, d_bin]
    have q : ((l + 1022) * 2 ^ 52 + K) / 4503599627370496 = l + 1023 := by omega
    have r : ((l + 1022) * 2 ^ 52 + K) % 4503599627370496 = K - 2 ^ 52 := by omega
    rw [q, r, if_neg (by omega), show 4503599627370496 + (K - 2 ^ 52) = K by omega, show l + 1023 - 1 = l + 1022 by omega, ← hK, Nat.mul_assoc, pw_add (e := 1074) (52 - l) (l + 1022) (by omega),
      Nat.mul_div_cancel _ (Nat.mul_pos (Nat.two_pow_pos _) (Nat.two_pow_pos _))]

theorem run77 {r : Nat} (h : r < 9218868437227405312) (w : World) : (callFunc 77 #[.float .f64 r]).run Try.prog w = .ok (.value (.float .f64 (fi (flo r)))) w := by
  obtain ⟨m, i, e, l, v⟩ := read_lo h
  have hd := integral_down h
  have e' : FloatKind.f64.decode r = .number false m i := e
  have he : FloatKind.f64.encode (Ieee.Datum.integral .down (.number false m i)) = fi (flo r) := by
    rw [← e, hd, fi_eq]; rfl
  rw [run_callFunc_extern (e := Extern.MathFloor.toIntegral "math.archFloor" .down) Try.func77 (by kernel_rfl) (by kernel_rfl) (by kernel_rfl) (by kernel_rfl)]
  have ht : Extern.MathFloor.toIntegral "math.archFloor" .down #[.float .f64 r] = pure (.float .f64 (FloatKind.f64.encode (Ieee.Datum.integral .down (.number false m i)))) := by
    delta Extern.MathFloor.toIntegral
    with_unfolding_all change (match FloatKind.f64.decode r with | .nan s t => _ | d => _) = _
    rw [e']
  rw [ht, he]
  rfl
end Go.Proofs.Ytmhfbgcfagfmbaa
