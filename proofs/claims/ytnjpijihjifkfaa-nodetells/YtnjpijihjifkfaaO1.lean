/- Numbers as bytes, the plain mathematics. -/
namespace Go.Proofs.Ytnjpijihjifkfaa

def numL : Nat → Nat → List UInt8
  | 0, _ => []
  | k + 1, n => UInt8.ofNat (n / 2 ^ (8 * k) % 256) :: numL k n
theorem numL_length (k n : Nat) : (numL k n).length = k := by
  induction k with
  | zero => rfl
  | succ k ih => simp [numL, ih]
def ofL (l : List UInt8) : Nat := l.foldl (fun n c => 256 * n + c.toNat) 0
theorem foldl_ofL (l : List UInt8) (a : Nat) : l.foldl (fun n c => 256 * n + c.toNat) a = a * 256 ^ l.length + ofL l := by
  induction l generalizing a with
  | nil => simp [ofL]
  | cons c l ih =>
    unfold ofL
    simp only [List.foldl_cons, List.length_cons]
    rw [ih, ih (256 * 0 + c.toNat), Nat.pow_succ]
    rw [Nat.add_mul, Nat.mul_zero, Nat.zero_add, Nat.mul_comm 256 a, Nat.mul_assoc, Nat.mul_comm 256 (256 ^ l.length)]
    omega
theorem ofL_cons (c : UInt8) (l : List UInt8) : ofL (c :: l) = c.toNat * 256 ^ l.length + ofL l := by
  have := foldl_ofL l (256 * 0 + c.toNat)
  simpa [ofL] using this
theorem ofL_snoc (l : List UInt8) (c : UInt8) : ofL (l ++ [c]) = 256 * ofL l + c.toNat := by simp [ofL]
theorem ofL_lt (l : List UInt8) : ofL l < 256 ^ l.length := by
  induction l with
  | nil => simp [ofL]
  | cons c l ih =>
    rw [ofL_cons, List.length_cons, Nat.pow_succ]
    have hc : c.toNat ≤ 255 := by have := c.toNat_lt; omega
    have := Nat.mul_le_mul_right (256 ^ l.length) hc
    omega
theorem ofL_num (k n : Nat) : ofL (numL k n) = n % 256 ^ k := by
  induction k with
  | zero => simp [numL, ofL, Nat.mod_one]
  | succ k ih =>
    rw [numL, ofL_cons, ih, numL_length]
    have e : (UInt8.ofNat (n / 2 ^ (8 * k) % 256)).toNat = n / 256 ^ k % 256 := by
      rw [Nat.pow_mul]
      simp
    rw [e, Nat.pow_succ, Nat.mod_mul]
    rw [Nat.mul_comm, Nat.add_comm]
theorem ofL_num8 (n : Nat) (h : n < 18446744073709551616) : ofL (numL 8 n) = n := by
  rw [ofL_num]; exact Nat.mod_eq_of_lt h
theorem num_ofL_aux : ∀ (l : List UInt8) (a : Nat), numL l.length (a * 256 ^ l.length + ofL l) = l
  | [], a => rfl
  | c :: l, a => by
    have hc : c.toNat < 256 := c.toNat_lt
    have hl := ofL_lt l
    have h1 : a * 256 ^ (l.length + 1) + (c.toNat * 256 ^ l.length + ofL l) = ofL l + 256 ^ l.length * (256 * a + c.toNat) := by
      have e1 : a * 256 ^ (l.length + 1) = 256 ^ l.length * (256 * a) := by rw [Nat.pow_succ]; ac_rfl
      have e2 : c.toNat * 256 ^ l.length = 256 ^ l.length * c.toNat := Nat.mul_comm _ _
      rw [e1, e2, Nat.mul_add]; omega
    have h2 : a * 256 ^ (l.length + 1) + (c.toNat * 256 ^ l.length + ofL l) = (a * 256 + c.toNat) * 256 ^ l.length + ofL l := by
      have e1 : a * 256 ^ (l.length + 1) = a * 256 * 256 ^ l.length := by rw [Nat.pow_succ]; ac_rfl
      rw [e1, Nat.add_mul]; omega
    rw [List.length_cons, numL, ofL_cons]
    congr 1
    · rw [h1, Nat.pow_mul, show (2 : Nat) ^ 8 = 256 from rfl, Nat.add_mul_div_left _ _ (Nat.pow_pos (by omega)), Nat.div_eq_of_lt hl]
      have e : (0 + (256 * a + c.toNat)) % 256 = c.toNat := by omega
      rw [e]; simp
    · rw [h2]; exact num_ofL_aux l (a * 256 + c.toNat)
theorem num_ofL (l : List UInt8) : numL l.length (ofL l) = l := by
  have := num_ofL_aux l 0
  simpa using this
theorem ofL_inj {l m : List UInt8} (hl : l.length = m.length) (h : ofL l = ofL m) : l = m := by
  rw [← num_ofL l, ← num_ofL m, hl, h]
/-- A row of zeros whose last ones are filled. -/
theorem fill_step (w k n : Nat) (h : k < w) : (List.replicate (w - k) (0 : UInt8) ++ numL k n).set (w - 1 - k) (UInt8.ofNat (n / 2 ^ (8 * k) % 256)) = List.replicate (w - (k + 1)) 0 ++ numL (k + 1) n := by
  have e : w - k = (w - (k + 1)) + 1 := by omega
  rw [e, List.replicate_succ', List.append_assoc]
  rw [show w - 1 - k = (List.replicate (w - (k + 1)) (0 : UInt8)).length by simp; omega, List.set_append_right _ _ (by omega)]
  simp [numL]
end Go.Proofs.Ytnjpijihjifkfaa
