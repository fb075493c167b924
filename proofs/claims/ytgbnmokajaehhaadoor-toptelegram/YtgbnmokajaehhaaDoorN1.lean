/- Decimal digits, the plain mathematics. -/
import Derived.Lib.ParseIntB
import Derived.Lib.ItoaNum
import Derived.Lib.ItoaMem
namespace Go.Proofs.YtgbnmokajaehhaaDoor
open Go.Lib
theorem parse_snoc (M : Nat) : ∀ (l : List UInt8) (acc a : Nat) (c : UInt8), parseUintM M acc l = .ok a → parseUintM M acc (l ++ [c]) = parseUintM M a [c]
  | [], acc, a, c, h => by simp only [parseUintM] at h; injection h with h; subst h; rfl
  | d :: l, acc, a, c, h => by
    simp only [List.cons_append]
    unfold parseUintM at h ⊢
    split at h
    · rename_i hd
      split at h
      · cases h
      · rename_i h1
        split at h
        · cases h
        · rename_i h2
          rw [if_pos hd, if_neg h1, if_neg h2]
          exact parse_snoc M l _ a c h
    · cases h
theorem digit_toNat (d : Nat) (h : d < 10) : (UInt8.ofNat (48 + d)).toNat = 48 + d := by
  simp; omega
theorem decDigits_rec (u : Nat) (h : ¬ u < 10) : decDigits u = decDigits (u / 10) ++ [UInt8.ofNat (48 + u % 10)] := by
  rw [decDigits, dif_neg h]
theorem parse_digits (u : Nat) (h : u < 18446744073709551616) : parseUintM (2 ^ 64 - 1) 0 (decDigits u) = .ok u := by
  induction u using Nat.strongRecOn with
  | ind u ih =>
    by_cases h10 : u < 10
    · rw [decDigits_one h10]
      unfold parseUintM
      rw [digit_toNat u h10, if_pos (by omega), if_neg (by omega), if_neg (by omega)]
      show NumEnd.ok _ = _
      congr 1; omega
    · rw [decDigits_rec u h10, parse_snoc _ _ _ _ _ (ih (u / 10) (by omega) (by omega))]
      unfold parseUintM
      rw [digit_toNat (u % 10) (by omega), if_pos (by omega), if_neg (by omega), if_neg (by omega)]
      show NumEnd.ok _ = _
      congr 1; omega
theorem decDigits_ne (u : Nat) : decDigits u ≠ [] := by
  by_cases h10 : u < 10
  · rw [decDigits_one h10]; simp
  · rw [decDigits_rec u h10]; simp
theorem parseB_digits (u : Nat) (h : u < 18446744073709551616) : parseUintB 64 (decDigits u) = .ok u := by
  unfold parseUintB; rw [if_neg (decDigits_ne u)]; exact parse_digits u h
theorem parse_lt (M : Nat) : ∀ (l : List UInt8) (acc a : Nat), acc ≤ M → parseUintM M acc l = .ok a → a ≤ M
  | [], acc, a, h0, h => by simp only [parseUintM] at h; injection h with h; omega
  | d :: l, acc, a, h0, h => by
    unfold parseUintM at h
    split at h
    · split at h
      · cases h
      · split at h
        · cases h
        · exact parse_lt M l _ a (by omega) h
    · cases h
/-- The number whose digits they are, if there is one. -/
def numN (l : List UInt8) : Option Nat := match parseUintB 64 l with | .ok u => if decDigits u = l then some u else none | _ => none
/-- The number that the first twenty bytes spell, in 64 bits. -/
def foldV (l : List UInt8) : Nat := (l.take 20).foldl (fun n c => (10 * n + (c.toNat + 208) % 256 % 10) % 18446744073709551616) 0
def refN (l : List UInt8) : Option Nat := if decDigits (foldV l) = l then some (foldV l) else none
theorem foldl_lt (l : List UInt8) (a : Nat) (ha : a < 18446744073709551616) : l.foldl (fun n c => (10 * n + (c.toNat + 208) % 256 % 10) % 18446744073709551616) a < 18446744073709551616 := by
  induction l generalizing a with
  | nil => exact ha
  | cons c l ih => exact ih _ (Nat.mod_lt _ (by omega))
theorem foldV_lt (l : List UInt8) : foldV l < 18446744073709551616 := foldl_lt _ _ (by omega)
theorem nDigits_le (u : Nat) (h : u < 18446744073709551616) : (decDigits u).length ≤ 20 := by
  rw [decDigits_length]
  by_cases h1 : 1 ≤ u
  · have := numDigits_eq u h1 h; split at this <;> omega
  · have : u = 0 := by omega
    subst this; rw [nDigits_small (by omega)]; omega
theorem fold_digits (u : Nat) (h : u < 18446744073709551616) : (decDigits u).foldl (fun n c => (10 * n + (c.toNat + 208) % 256 % 10) % 18446744073709551616) 0 = u := by
  induction u using Nat.strongRecOn with
  | ind u ih =>
    by_cases h10 : u < 10
    · rw [decDigits_one h10, List.foldl_cons, List.foldl_nil, digit_toNat u h10]; omega
    · rw [decDigits_rec u h10, List.foldl_append, ih (u / 10) (by omega) (by omega), List.foldl_cons, List.foldl_nil, digit_toNat (u % 10) (by omega)]; omega
theorem foldV_digits (u : Nat) (h : u < 18446744073709551616) : foldV (decDigits u) = u := by
  unfold foldV; rw [List.take_of_length_le (nDigits_le u h)]; exact fold_digits u h
theorem numN_eq (l : List UInt8) : numN l = refN l := by
  unfold refN
  by_cases h : decDigits (foldV l) = l
  · rw [if_pos h]
    unfold numN
    have := parseB_digits (foldV l) (foldV_lt l)
    rw [h] at this
    rw [this]
    exact if_pos h
  · rw [if_neg h]
    unfold numN
    split
    · rename_i u hu
      split
      · rename_i hd
        exfalso
        have hlt : u < 18446744073709551616 := by
          unfold parseUintB at hu
          split at hu
          · cases hu
          · have := parse_lt _ _ _ _ (by omega) hu; omega
        apply h
        rw [← hd, foldV_digits u hlt]
      · rfl
    · rfl

theorem nDigits_of_lt (k : Nat) : ∀ u, u < 10 ^ (k + 1) → nDigits u ≤ k + 1 := by
  induction k with
  | zero => intro u h; rw [nDigits_small (by simpa using h)]; omega
  | succ k ih =>
    intro u h
    by_cases h10 : u < 10
    · rw [nDigits_small h10]; omega
    · rw [nDigits, dif_neg h10]
      have := ih (u / 10) (Nat.div_lt_of_lt_mul (by rw [Nat.pow_succ] at h; omega))
      omega
theorem first_digit (u : Nat) : ∃ c r, decDigits u = c :: r ∧ 48 ≤ c.toNat ∧ c.toNat ≤ 57 := by
  induction u using Nat.strongRecOn with
  | ind u ih =>
    by_cases h10 : u < 10
    · exact ⟨_, _, decDigits_one h10, by rw [digit_toNat u h10]; omega, by rw [digit_toNat u h10]; omega⟩
    · obtain ⟨c, r, e, h1, h2⟩ := ih (u / 10) (by omega)
      rw [decDigits_rec u h10, e]
      exact ⟨c, r ++ [UInt8.ofNat (48 + u % 10)], rfl, h1, h2⟩
theorem parseI_itoa (n : Int) (h0 : -9223372036854775808 ≤ n) (h1 : n ≤ 9223372036854775807) : parseIntB 64 (itoa n) = .ok n := by
  by_cases hn : n < 0
  · obtain ⟨m, rfl⟩ : ∃ m : Nat, n = -(m : Int) := ⟨n.natAbs, by omega⟩
    rw [itoa_neg m (by omega)]
    have hp := parseB_digits m (by omega)
    have h45 : (45 : UInt8).toNat = 45 := rfl
    have h2 : ¬ (2 ^ (64 - 1) < m) := by omega
    simp [parseIntB, h45, hp, h2]
  · obtain ⟨m, rfl⟩ := Int.eq_ofNat_of_zero_le (show 0 ≤ n by omega)
    have e : itoa (m : Int) = decDigits m := itoa_nonneg m
    show parseIntB 64 (itoa (m : Int)) = .ok (m : Int)
    rw [e]
    obtain ⟨c, r, ed, d1, d2⟩ := first_digit m
    have hp := parseB_digits m (by omega)
    rw [ed] at hp ⊢
    unfold parseIntB
    simp only
    rw [if_neg (by omega), hp]
    simp only
    rw [if_neg (by omega), if_neg (by omega), if_neg (by omega)]
def intN (l : List UInt8) : Option Int := match parseIntB 64 l with | .ok v => if itoa v = l then some v else none | _ => none
def w64 (z : Int) : Int := (z + 9223372036854775808) % 18446744073709551616 - 9223372036854775808
theorem w64_bd (z : Int) : -9223372036854775808 ≤ w64 z ∧ w64 z ≤ 9223372036854775807 := by unfold w64; omega
/-- The number behind a sign, in 64 bits. -/
def foldW (l : List UInt8) : Nat := ((l.take 20).drop 1).foldl (fun n c => (10 * n + (c.toNat + 208) % 256 % 10) % 18446744073709551616) 0
def isNeg (l : List UInt8) : Bool := match l with | [] => false | c :: _ => c.toNat == 45
def refX (l : List UInt8) : Int := if isNeg l then w64 (-(foldW l : Int)) else w64 (foldV l : Int)
def refI (l : List UInt8) : Option Int := if itoa (refX l) = l then some (refX l) else none
theorem refX_bd (l : List UInt8) : -9223372036854775808 ≤ refX l ∧ refX l ≤ 9223372036854775807 := by unfold refX; split <;> exact w64_bd _
theorem refX_itoa (n : Int) (h0 : -9223372036854775808 ≤ n) (h1 : n ≤ 9223372036854775807) : refX (itoa n) = n := by
  by_cases hn : n < 0
  · obtain ⟨m, rfl⟩ : ∃ m : Nat, n = -(m : Int) := ⟨n.natAbs, by omega⟩
    rw [itoa_neg m (by omega)]
    unfold refX
    rw [if_pos (by rfl)]
    have hl : (decDigits m).length ≤ 19 := by rw [decDigits_length]; exact nDigits_of_lt 18 m (by omega)
    have hf : foldW (45 :: decDigits m) = m := by
      unfold foldW
      rw [List.take_succ_cons, List.drop_succ_cons, List.drop_zero, List.take_of_length_le hl]
      exact fold_digits m (by omega)
    rw [hf]; unfold w64; omega
  · obtain ⟨m, rfl⟩ := Int.eq_ofNat_of_zero_le (show 0 ≤ n by omega)
    have e : itoa (m : Int) = decDigits m := itoa_nonneg m
    show refX (itoa (m : Int)) = (m : Int)
    rw [e]
    obtain ⟨c, r, ed, d1, d2⟩ := first_digit m
    have hneg : isNeg (decDigits m) = false := by rw [ed]; unfold isNeg; rw [beq_eq_false_iff_ne]; omega
    unfold refX
    rw [if_neg (by rw [hneg]; simp), foldV_digits m (by omega)]
    unfold w64; omega
theorem parseI_bd (l : List UInt8) (v : Int) (h : parseIntB 64 l = .ok v) : -9223372036854775808 ≤ v ∧ v ≤ 9223372036854775807 := by
  unfold parseIntB at h
  split at h
  · cases h
  · simp only at h
    split at h
    · cases h
    · cases h
    · split at h
      · cases h
      · split at h
        · cases h
        · injection h with h
          subst h
          split <;> omega
theorem intN_eq (l : List UInt8) : intN l = refI l := by
  unfold refI
  by_cases h : itoa (refX l) = l
  · rw [if_pos h]
    unfold intN
    have := parseI_itoa (refX l) (refX_bd l).1 (refX_bd l).2
    rw [h] at this
    rw [this]
    exact if_pos h
  · rw [if_neg h]
    unfold intN
    split
    · rename_i v hv
      split
      · rename_i hd
        exfalso
        obtain ⟨b1, b2⟩ := parseI_bd l v hv
        apply h
        rw [← hd, refX_itoa v b1 b2]
      · rfl
    · rfl
end Go.Proofs.YtgbnmokajaehhaaDoor
