/- Quotients, rounded: by the exact quotient; monotone. -/
import Derived.Test.YtmhfbgcfagfmbaaF8
namespace Go.Proofs.Ytmhfbgcfagfmbaa.Fl
open Ieee

/-- The rung of the quotient N / D, in units of which the least place has 2 ^ L. -/
def GQ (F L N D : Nat) : Nat := (max ((N / D).log2 - F) L - L) * 2 ^ F + rE N (D * 2 ^ max ((N / D).log2 - F) L)

theorem GQ_one (F L U : Nat) : GQ F L U 1 = G F L U := by unfold GQ G; rw [Nat.div_one, Nat.one_mul]

theorem GQ_mono {F L N D N' D' : Nat} (hD : 0 < D) (hD' : 0 < D') (h1 : D ≤ N) (h : N * D' ≤ N' * D) : GQ F L N D ≤ GQ F L N' D' := by
  have hq : N / D ≤ N' / D' := by
    rw [Nat.le_div_iff_mul_le hD']
    have h2 : N / D * D ≤ N := Nat.div_mul_le_self _ _
    have h3 : (N / D * D') * D ≤ N' * D := by
      calc (N / D * D') * D = (N / D * D) * D' := by rw [Nat.mul_assoc, Nat.mul_comm D' D, ← Nat.mul_assoc]
        _ ≤ N * D' := Nat.mul_le_mul_right _ h2
        _ ≤ N' * D := h
    exact Nat.le_of_mul_le_mul_right h3 hD
  have hp : 0 < N / D := Nat.div_pos h1 hD
  have hl := log2_mono hp hq
  unfold GQ
  generalize hE : max ((N / D).log2 - F) L = E
  generalize hE' : max ((N' / D').log2 - F) L = E'
  rcases Nat.lt_or_ge E E' with hlt | hge
  · have e' : E' = (N' / D').log2 - F := by omega
    have hu : N / D < 2 ^ ((N / D).log2 + 1) := Nat.lt_log2_self
    have hN : N < 2 ^ ((N / D).log2 + 1) * D := (Nat.div_lt_iff_lt_mul hD).1 hu
    have a1 : rE N (D * 2 ^ E) ≤ 2 * 2 ^ F := by
      refine rE_le (Nat.mul_pos hD (Nat.two_pow_pos _)) ?_
      have : 2 ^ ((N / D).log2 + 1) * D ≤ 2 * 2 ^ F * (D * 2 ^ E) := by
        have e : 2 * 2 ^ F * (D * 2 ^ E) = 2 ^ (F + 1 + E) * D := by rw [Nat.pow_add, Nat.pow_succ, Nat.mul_comm D, ← Nat.mul_assoc, Nat.mul_comm 2]
        rw [e]; exact Nat.mul_le_mul_right _ (Nat.pow_le_pow_right (by omega) (by omega))
      omega
    have a2 : 2 ^ F ≤ rE N' (D' * 2 ^ E') := by
      refine rE_ge (Nat.mul_pos hD' (Nat.two_pow_pos _)) ?_
      have hs : 2 ^ (N' / D').log2 ≤ N' / D' := Nat.log2_self_le (by omega)
      have hs2 : 2 ^ (N' / D').log2 * D' ≤ N' := (Nat.le_div_iff_mul_le hD').1 hs
      have e : 2 ^ F * (D' * 2 ^ E') = 2 ^ (F + E') * D' := by rw [Nat.pow_add, Nat.mul_comm D', ← Nat.mul_assoc]
      rw [e]
      exact Nat.le_trans (Nat.mul_le_mul_right _ (Nat.pow_le_pow_right (by omega) (by omega))) hs2
    have a3 : (E - L) * 2 ^ F + 2 * 2 ^ F ≤ (E' - L) * 2 ^ F + 2 ^ F := by
      have : (E - L + 1) * 2 ^ F ≤ (E' - L) * 2 ^ F := Nat.mul_le_mul_right _ (by omega)
      rw [Nat.add_mul] at this; omega
    omega
  · have e : E = E' := by omega
    subst e
    refine Nat.add_le_add_left ?_ _
    rw [← rE_scale (n := N) (d := D * 2 ^ E) hD', ← rE_scale (n := N') (d := D' * 2 ^ E) hD,
      show D' * 2 ^ E * D = D * 2 ^ E * D' by rw [Nat.mul_comm (D' * 2 ^ E) D, Nat.mul_comm D' (2 ^ E), ← Nat.mul_assoc]]
    exact rE_mono h

/-- A quotient cut off, with a digit that tells whether anything is left, is rounded as the quotient itself. -/
theorem rE_sticky {N n k : Nat} (hn : 0 < n) (hk : 1 ≤ k) : rE (2 * (N / n) + (N % n != 0).toNat) (2 * 2 ^ k) = rE N (n * 2 ^ k) := by
  have hN := Nat.div_add_mod N n
  have hr := Nat.mod_lt N hn
  generalize hq : N / n = q at hN
  generalize hrr : N % n = r at hN hr
  have hs : (r != 0).toNat = if r = 0 then 0 else 1 := by by_cases h : r = 0 <;> simp [h]
  rw [hs]
  obtain ⟨j, hj⟩ : ∃ j, 2 ^ k = 2 * j := ⟨2 ^ (k - 1), by conv => lhs; rw [show k = (k - 1) + 1 by omega]; rw [Nat.pow_succ, Nat.mul_comm]⟩
  have hkp := Nat.two_pow_pos k
  generalize hK : 2 ^ k = K at hj hkp ⊢
  have hu := Nat.mod_lt q hkp
  have hd := Nat.div_add_mod q K
  generalize hU : q % K = u at hu hd
  generalize hT : q / K = t at hd
  -- both quotients are t
  have e1 : N / (n * K) = t := by rw [← Nat.div_div_eq_div_mul, hq, hT]
  have e2 : N % (n * K) = n * u + r := by
    have := Nat.div_add_mod N (n * K)
    rw [e1] at this
    have : n * K * t + (n * u + r) = N := by rw [Nat.mul_assoc, ← Nat.add_assoc, ← Nat.mul_add, hd, hN]
    omega
  generalize hS : (if r = 0 then 0 else 1) = s
  have hs1 : s ≤ 1 := by rw [← hS]; split <;> omega
  have hs0 : s = 0 ↔ r = 0 := by rw [← hS]; by_cases h : r = 0 <;> simp [h]
  have e3 : (2 * q + s) / (2 * K) = t := by
    rw [← Nat.div_div_eq_div_mul, show (2 * q + s) / 2 = q by omega, hT]
  have e4 : (2 * q + s) % (2 * K) = 2 * u + s := by
    have := Nat.div_add_mod (2 * q + s) (2 * K)
    rw [e3] at this
    have h2 : 2 * K * t + (2 * u + s) = 2 * q + s := by rw [Nat.mul_assoc, ← hd]; omega
    omega
  unfold rE
  rw [e1, e2, e3, e4]
  congr 1
  -- compare 2u + s with K, and 2(nu + r) with nK
  have hc : (2 * K < 2 * (2 * u + s) ↔ n * K < 2 * (n * u + r)) ∧ (2 * K = 2 * (2 * u + s) ↔ n * K = 2 * (n * u + r)) := by
    rcases Nat.lt_trichotomy u j with hlt | heq | hgt
    · have h1 : n * (u + 1) ≤ n * j := Nat.mul_le_mul_left _ hlt
      rw [Nat.mul_add] at h1
      have h2 : n * K = 2 * (n * j) := by rw [hj, Nat.mul_left_comm]
      omega
    · subst heq
      have h2 : n * K = 2 * (n * u) := by rw [hj, Nat.mul_left_comm]
      omega
    · have h1 : n * (j + 1) ≤ n * u := Nat.mul_le_mul_left _ hgt
      rw [Nat.mul_add] at h1
      have h2 : n * K = 2 * (n * j) := by rw [hj, Nat.mul_left_comm]
      omega
  simp only [hc.1, hc.2]

theorem GQ_scale {F L N D c : Nat} (hc : 0 < c) : GQ F L (N * c) (D * c) = GQ F L N D := by
  unfold GQ
  rw [Nat.mul_div_mul_right _ _ hc]
  congr 1
  rw [Nat.mul_right_comm, rE_scale hc]

theorem log2_between {v q c : Nat} (hq : 0 < q) (h1 : q * 2 ^ c ≤ v) (h2 : v < (q + 1) * 2 ^ c) : v.log2 = q.log2 + c := by
  have hp := Nat.two_pow_pos c
  have hv : v ≠ 0 := by have := Nat.mul_pos hq hp; omega
  apply (Nat.log2_eq_iff hv).2
  have a1 := Nat.log2_self_le (n := q) (by omega)
  have a2 : q < 2 ^ (q.log2 + 1) := Nat.lt_log2_self
  rw [show q.log2 + c + 1 = (q.log2 + 1) + c by omega, Nat.pow_add, Nat.pow_add]
  exact ⟨Nat.le_trans (Nat.mul_le_mul_right _ a1) h1, Nat.lt_of_lt_of_le h2 (Nat.mul_le_mul_right _ a2)⟩

/-- The rounded sticky quotient is the rounded quotient. -/
theorem G_sticky {F L N n a : Nat} (hn : 0 < n) (hq : 2 ^ (F + 1) ≤ N / n) : G F L ((2 * (N / n) + (N % n != 0).toNat) * 2 ^ a) = GQ F L (N * 2 ^ (a + 1)) n := by
  have hqp : 0 < N / n := Nat.lt_of_lt_of_le (Nat.two_pow_pos _) hq
  have hs : (N % n != 0).toNat ≤ 1 := by cases (N % n != 0) <;> simp
  generalize hS : 2 * (N / n) + (N % n != 0).toNat = S
  have l1 : (S * 2 ^ a).log2 = (N / n).log2 + (a + 1) := by
    apply log2_between hqp
    · rw [Nat.pow_succ, ← Nat.mul_assoc, Nat.mul_right_comm]
      exact Nat.mul_le_mul_right _ (by omega)
    · rw [Nat.pow_succ, Nat.mul_comm (2 ^ a) 2, ← Nat.mul_assoc]
      exact Nat.mul_lt_mul_of_pos_right (by omega) (Nat.two_pow_pos _)
  have l2 : (N * 2 ^ (a + 1) / n).log2 = (N / n).log2 + (a + 1) := by
    apply log2_between hqp
    · rw [Nat.le_div_iff_mul_le hn, Nat.mul_right_comm]
      exact Nat.mul_le_mul_right _ (Nat.div_mul_le_self _ _)
    · rw [Nat.div_lt_iff_lt_mul hn, Nat.mul_right_comm]
      exact Nat.mul_lt_mul_of_pos_right ((Nat.div_lt_iff_lt_mul hn).1 (Nat.lt_succ_self _)) (Nat.two_pow_pos _)
  unfold G GQ
  rw [l1, l2]
  congr 1
  have hl : F + 1 ≤ (N / n).log2 := (Nat.le_log2 (by omega)).2 hq
  obtain ⟨k, hk⟩ : ∃ k, max ((N / n).log2 + (a + 1) - F) L = k + (a + 1) := ⟨max ((N / n).log2 + (a + 1) - F) L - (a + 1), by omega⟩
  have hk1 : 1 ≤ k := by omega
  rw [hk]
  have e1 : 2 ^ (k + (a + 1)) = (2 * 2 ^ k) * 2 ^ a := by rw [show k + (a + 1) = (k + 1) + a by omega, Nat.pow_add, Nat.pow_succ, Nat.mul_comm 2]
  have e2 : n * 2 ^ (k + (a + 1)) = (n * 2 ^ k) * 2 ^ (a + 1) := by rw [Nat.pow_add, ← Nat.mul_assoc]
  rw [e2, rE_scale (Nat.two_pow_pos _), e1, rE_scale (Nat.two_pow_pos _), ← hS]
  exact rE_sticky hn hk1

variable (f : Format)
/-- A quotient of two finite words that are not zero. -/
theorem div_GQ {x y : Nat} (hx : rung f x < f.infRung) (hx0 : 0 < rung f x) (hy : rung f y < f.infRung) (hy0 : 0 < rung f y) :
    ∃ B : Int, ∀ b : Int, b ≤ B → b ≤ f.leastPlace → b ≤ 0 →
      f.div x y = some (f.word (sgn f x ^^ sgn f y) (min (GQ f.fractionBits (f.leastPlace - b).toNat (magV f (rung f x) * 2 ^ (-b).toNat) (magV f (rung f y))) f.infRung)) := by
  obtain ⟨m, i, e1, l1, v1⟩ := read_fin f hx
  obtain ⟨n, j, e2, l2, v2⟩ := read_fin f hy
  have p1 : 0 < magV f (rung f x) := by have := magV_lt f hx0; omega
  have p2 : 0 < magV f (rung f y) := by have := magV_lt f hy0; omega
  have hm : m ≠ 0 := by intro h; rw [h, Nat.zero_mul] at v1; omega
  have hn : n ≠ 0 := by intro h; rw [h, Nat.zero_mul] at v2; omega
  generalize hmore : f.fractionBits + 2 + n.log2 - m.log2 = more
  refine ⟨i - j - more - 1, fun b hb hbl hb0 => ?_⟩
  unfold Format.div
  rw [e1, e2]
  simp only [Datum.quotient, if_neg hn, Option.map_some, Format.write, hmore, Nat.shiftLeft_eq]
  have hq : 2 ^ (f.fractionBits + 1) ≤ m * 2 ^ more / n := by
    rw [Nat.le_div_iff_mul_le (by omega)]
    have a1 := Nat.log2_self_le hm
    have a2 : n < 2 ^ (n.log2 + 1) := Nat.lt_log2_self
    have a3 : 2 ^ (m.log2 + more) ≤ m * 2 ^ more := by rw [Nat.pow_add]; exact Nat.mul_le_mul_right _ a1
    have a4 : 2 ^ (f.fractionBits + 1 + (n.log2 + 1)) ≤ 2 ^ (m.log2 + more) := Nat.pow_le_pow_right (by omega) (by omega)
    have a5 : 2 ^ (f.fractionBits + 1) * n ≤ 2 ^ (f.fractionBits + 1 + (n.log2 + 1)) := by rw [Nat.pow_add _ (f.fractionBits + 1)]; exact Nat.mul_le_mul_left _ (Nat.le_of_lt a2)
    omega
  have hS : 2 * (m * 2 ^ more / n) + (m * 2 ^ more % n != 0).toNat ≠ 0 := by
    have := Nat.two_pow_pos (f.fractionBits + 1); omega
  rw [nearest_G f _ hS hb hbl, G_sticky (by omega) hq]
  congr 3
  have e3 : m * 2 ^ more * 2 ^ ((i - j - (more : Int) - 1 - b).toNat + 1) = m * 2 ^ (i - j - b).toNat := by
    rw [Nat.mul_assoc, ← Nat.pow_add]; congr 2; omega
  rw [e3, ← v1, ← v2]
  have e4 : m * 2 ^ (i - f.leastPlace).toNat * 2 ^ (-b).toNat = m * 2 ^ (i - j - b).toNat * 2 ^ (j - f.leastPlace).toNat := by
    rw [Nat.mul_assoc, Nat.mul_assoc, ← Nat.pow_add, ← Nat.pow_add]; congr 2; omega
  rw [e4, GQ_scale (Nat.two_pow_pos _)]
end Go.Proofs.Ytmhfbgcfagfmbaa.Fl
