/- The checksum's plain mathematics: the shift step is linear and loses nothing; tables, products, powers. -/
namespace Go.Proofs.YtgbnmokajaehhaaDoor.Oc

def poly : Nat := 3945912366
def stp (r : Nat) : Nat := if r % 2 = 1 then (r / 2) ^^^ poly else r / 2
theorem stp_lt {r : Nat} (h : r < 4294967296) : stp r < 4294967296 := by
  unfold stp
  split
  · exact Nat.xor_lt_two_pow (n := 32) (by omega) (by unfold poly; omega)
  · omega
theorem xor_mod2 (a b : Nat) : (a ^^^ b) % 2 = (a % 2 + b % 2) % 2 := by
  have := Nat.xor_mod_two_pow (a := a) (b := b) (n := 1)
  have ha : a % 2 = 0 ∨ a % 2 = 1 := by omega
  have hb : b % 2 = 0 ∨ b % 2 = 1 := by omega
  simp only [Nat.pow_one] at this
  rw [this]
  rcases ha with ha | ha <;> rcases hb with hb | hb <;> rw [ha, hb] <;> rfl
theorem xor_div2 (a b : Nat) : (a ^^^ b) / 2 = a / 2 ^^^ b / 2 := by
  have := Nat.xor_div_two_pow (a := a) (b := b) (n := 1)
  simpa using this
theorem xor_rot (a b c d : Nat) : (a ^^^ b) ^^^ (c ^^^ d) = (a ^^^ c) ^^^ (b ^^^ d) := by
  rw [Nat.xor_assoc, ← Nat.xor_assoc b c d, Nat.xor_comm b c, Nat.xor_assoc c b d, ← Nat.xor_assoc a c]
theorem stp_xor (a b : Nat) : stp (a ^^^ b) = stp a ^^^ stp b := by
  unfold stp
  rw [xor_mod2, xor_div2]
  have ha : a % 2 = 0 ∨ a % 2 = 1 := by omega
  have hb : b % 2 = 0 ∨ b % 2 = 1 := by omega
  rcases ha with ha | ha <;> rcases hb with hb | hb <;> rw [ha, hb] <;> simp
  · rw [Nat.xor_assoc]
  · rw [Nat.xor_assoc, Nat.xor_assoc, Nat.xor_comm (b / 2)]
  · rw [xor_rot, Nat.xor_self, Nat.xor_zero]
theorem stp_zero : stp 0 = 0 := by decide
theorem stp_ne {r : Nat} (h : r < 4294967296) (h0 : stp r = 0) : r = 0 := by
  unfold stp at h0
  split at h0
  · have : r / 2 = poly := by
      have h1 : (r / 2 ^^^ poly) ^^^ poly = 0 ^^^ poly := by rw [h0]
      rw [Nat.xor_assoc, Nat.xor_self, Nat.xor_zero, Nat.zero_xor] at h1
      exact h1
    unfold poly at this; omega
  · omega

def stps : Nat → Nat → Nat
  | 0, r => r
  | n + 1, r => stps n (stp r)
theorem stps_succ (n r : Nat) : stps (n + 1) r = stp (stps n r) := by
  induction n generalizing r with
  | zero => rfl
  | succ n ih => show stps (n + 1) (stp r) = _; rw [ih]; rfl
theorem stps_add (m n r : Nat) : stps (m + n) r = stps m (stps n r) := by
  induction m with
  | zero => rw [Nat.zero_add]; rfl
  | succ m ih => rw [Nat.succ_add, stps_succ, ih, stps_succ]
theorem stps_xor (n a b : Nat) : stps n (a ^^^ b) = stps n a ^^^ stps n b := by
  induction n generalizing a b with
  | zero => rfl
  | succ n ih => show stps n (stp (a ^^^ b)) = _; rw [stp_xor, ih]; rfl
theorem stps_zero (n : Nat) : stps n 0 = 0 := by
  induction n with
  | zero => rfl
  | succ n ih => show stps n (stp 0) = 0; rw [stp_zero, ih]
theorem stps_lt {n r : Nat} (h : r < 4294967296) : stps n r < 4294967296 := by
  induction n generalizing r with
  | zero => exact h
  | succ n ih => exact ih (stp_lt h)
theorem stps_ne {n r : Nat} (h : r < 4294967296) (h0 : stps n r = 0) : r = 0 := by
  induction n generalizing r with
  | zero => exact h0
  | succ n ih => exact stp_ne h (ih (stp_lt h) h0)

/-- Shifting out zeros. -/
theorem stp_even (y : Nat) : stp (2 * y) = y := by unfold stp; rw [if_neg (by omega)]; omega
theorem stps_shift (n y : Nat) : stps n (2 ^ n * y) = y := by
  induction n generalizing y with
  | zero => simp [stps]
  | succ n ih => show stps n (stp (2 ^ (n + 1) * y)) = y; rw [show 2 ^ (n + 1) * y = 2 * (2 ^ n * y) by rw [Nat.pow_succ]; ac_rfl, stp_even, ih]

theorem split_byte (x : Nat) : x = (256 * (x / 256)) ^^^ (x % 256) := by
  apply Nat.eq_of_testBit_eq
  intro i
  rw [Nat.testBit_xor, show (256 : Nat) = 2 ^ 8 from rfl, Nat.testBit_mod_two_pow, Nat.testBit_two_pow_mul]
  by_cases h : i < 8
  · simp [h, show ¬ 8 ≤ i by omega]
  · have h8 : 8 ≤ i := by omega
    have e : (x / 2 ^ 8).testBit (i - 8) = x.testBit i := by rw [Nat.testBit_div_two_pow]; congr 1; omega
    rw [e]
    simp [h, h8]
/-- One byte: the register shifted, and the table's entry. -/
theorem byte_table (x : Nat) : stps 8 x = x / 256 ^^^ stps 8 (x % 256) := by
  have := split_byte x
  rw [this, stps_xor]
  have h := stps_shift 8 (x / 256)
  rw [show 2 ^ 8 = 256 from rfl] at h
  rw [← this, h]
theorem byte_table' (r c : Nat) (hc : c < 256) : stps 8 (r ^^^ c) = r / 256 ^^^ stps 8 (r % 256 ^^^ c) := by
  rw [byte_table]
  have e1 : (r ^^^ c) / 256 = r / 256 := by
    have := Nat.xor_div_two_pow (a := r) (b := c) (n := 8)
    rw [show 2 ^ 8 = 256 from rfl] at this
    rw [this, Nat.div_eq_of_lt hc, Nat.xor_zero]
  have e2 : (r ^^^ c) % 256 = r % 256 ^^^ c := by
    have := Nat.xor_mod_two_pow (a := r) (b := c) (n := 8)
    rw [show 2 ^ 8 = 256 from rfl] at this
    rw [this, Nat.mod_eq_of_lt hc]
  rw [e1, e2]

/-- The register behind bytes. -/
def regs (r : Nat) : List UInt8 → Nat
  | [] => r
  | c :: l => regs (stps 8 (r ^^^ c.toNat)) l
def ffff : Nat := 4294967295
def moreN (sum : Nat) (l : List UInt8) : Nat := regs (sum ^^^ ffff) l ^^^ ffff
def sumN (l : List UInt8) : Nat := moreN 0 l
def joinN (a b n : Nat) : Nat := stps (8 * n) a ^^^ b

theorem byte_lt (c : UInt8) : c.toNat < 4294967296 := by have := c.toNat_lt; omega
theorem regs_lt {r : Nat} (l : List UInt8) (h : r < 4294967296) : regs r l < 4294967296 := by
  induction l generalizing r with
  | nil => exact h
  | cons c l ih => exact ih (stps_lt (Nat.xor_lt_two_pow (n := 32) h (byte_lt c)))
theorem ffff_lt : ffff < 4294967296 := by unfold ffff; omega
theorem moreN_lt {s : Nat} (l : List UInt8) (h : s < 4294967296) : moreN s l < 4294967296 :=
  Nat.xor_lt_two_pow (n := 32) (regs_lt l (Nat.xor_lt_two_pow (n := 32) h ffff_lt)) ffff_lt
theorem sumN_lt (l : List UInt8) : sumN l < 4294967296 := moreN_lt l (by omega)
theorem regs_append (r : Nat) (l m : List UInt8) : regs r (l ++ m) = regs (regs r l) m := by
  induction l generalizing r with
  | nil => rfl
  | cons c l ih => exact ih _
theorem xff (a : Nat) : (a ^^^ ffff) ^^^ ffff = a := by rw [Nat.xor_assoc, Nat.xor_self, Nat.xor_zero]
theorem moreN_append (s : Nat) (l m : List UInt8) : moreN s (l ++ m) = moreN (moreN s l) m := by
  unfold moreN; rw [regs_append, xff]
theorem regs_snoc (r : Nat) (l : List UInt8) (c : UInt8) : regs r (l ++ [c]) = stps 8 (regs r l ^^^ c.toNat) := by rw [regs_append]; rfl
/-- Registers differ by what was different. -/
theorem regs_xor (a b : Nat) (l : List UInt8) : regs (a ^^^ b) l = stps (8 * l.length) a ^^^ regs b l := by
  induction l generalizing a b with
  | nil => rfl
  | cons c l ih =>
    show regs (stps 8 (a ^^^ b ^^^ c.toNat)) l = stps (8 * (l.length + 1)) a ^^^ regs (stps 8 (b ^^^ c.toNat)) l
    rw [Nat.xor_assoc, stps_xor, ih, Nat.mul_add, stps_add]
theorem joinN_sum (l m : List UInt8) : joinN (sumN l) (sumN m) m.length = sumN (l ++ m) := by
  unfold joinN
  show _ = moreN 0 (l ++ m)
  rw [moreN_append]
  show _ = moreN (sumN l) m
  unfold moreN
  rw [regs_xor, Nat.xor_assoc]
  show _ = stps (8 * m.length) (sumN l) ^^^ (regs ffff m ^^^ ffff)
  unfold sumN moreN
  rw [Nat.zero_xor]
theorem joinN_lt {a b n : Nat} (ha : a < 4294967296) (hb : b < 4294967296) : joinN a b n < 4294967296 := Nat.xor_lt_two_pow (n := 32) (stps_lt ha) hb


/-- A product, bit by bit from the highest one. -/
def prodTo (a b : Nat) : Nat → Nat
  | 0 => 0
  | k + 1 => if a.testBit (31 - k) then prodTo a b k ^^^ stps k b else prodTo a b k
def prodN (a b : Nat) : Nat := prodTo a b 32
theorem prodTo_lt {a b : Nat} (k : Nat) (hb : b < 4294967296) : prodTo a b k < 4294967296 := by
  induction k with
  | zero => unfold prodTo; omega
  | succ k ih =>
    unfold prodTo
    split
    · exact Nat.xor_lt_two_pow (n := 32) ih (stps_lt hb)
    · exact ih
theorem prodN_lt {a b : Nat} (hb : b < 4294967296) : prodN a b < 4294967296 := prodTo_lt 32 hb
theorem prodTo_stps (a b m k : Nat) : prodTo a (stps m b) k = stps m (prodTo a b k) := by
  induction k with
  | zero => exact (stps_zero m).symm
  | succ k ih =>
    unfold prodTo
    split
    · rw [ih, stps_xor, ← stps_add, ← stps_add, Nat.add_comm k m]
    · exact ih
def oneN : Nat := 2147483648
theorem stps_one (k : Nat) (h : k ≤ 31) : stps k oneN = 2 ^ (31 - k) := by
  have e : oneN = 2 ^ k * 2 ^ (31 - k) := by rw [← Nat.pow_add, Nat.add_sub_cancel' h]; rfl
  rw [e, stps_shift]
theorem prodTo_one (a k i : Nat) (hk : k ≤ 32) (ha : a < 4294967296) : (prodTo a oneN k).testBit i = (a.testBit i && decide (32 - k ≤ i)) := by
  induction k with
  | zero =>
    by_cases h : 32 ≤ i
    · rw [Nat.testBit_lt_two_pow (x := a) (Nat.lt_of_lt_of_le (show a < 2 ^ 32 from ha) (Nat.pow_le_pow_right (by omega) h))]; simp [prodTo]
    · simp [prodTo, h]
  | succ k ih =>
    have ih := ih (by omega)
    unfold prodTo
    by_cases hi : i = 31 - k
    · subst hi
      split
      · rename_i hb
        rw [Nat.testBit_xor, ih, stps_one k (by omega), Nat.testBit_two_pow_self, hb]
        simp [show ¬ 32 - k ≤ 31 - k by omega]
      · rename_i hb
        rw [ih]
        simp at hb
        simp [hb]
    · have hd : decide (32 - (k + 1) ≤ i) = decide (32 - k ≤ i) := by rw [Bool.eq_iff_iff]; simp; omega
      split
      · rw [Nat.testBit_xor, ih, stps_one k (by omega), Nat.testBit_two_pow_of_ne (by omega), hd, Bool.xor_false]
      · rw [ih, hd]
theorem prodN_one (a : Nat) (ha : a < 4294967296) : prodN a oneN = a := by
  apply Nat.eq_of_testBit_eq
  intro i
  unfold prodN
  rw [prodTo_one a 32 i (by omega) ha]
  simp
theorem prodN_pow (a m : Nat) (ha : a < 4294967296) : prodN a (stps m oneN) = stps m a := by
  unfold prodN
  rw [prodTo_stps]
  show stps m (prodN a oneN) = _
  rw [prodN_one a ha]
theorem oneN_lt : oneN < 4294967296 := by unfold oneN; omega
theorem one8 : stps 8 oneN = 8388608 := by rw [stps_one 8 (by omega)]
/-- The power for so many bytes, after so many bits. -/
def powTo (n k : Nat) : Nat := stps (8 * (n % 2 ^ k)) oneN
def sqTo (k : Nat) : Nat := stps (8 * 2 ^ k) oneN
theorem powTo_lt (n k : Nat) : powTo n k < 4294967296 := stps_lt oneN_lt
theorem sqTo_lt (k : Nat) : sqTo k < 4294967296 := stps_lt oneN_lt
theorem sqTo_succ (k : Nat) : prodN (sqTo k) (sqTo k) = sqTo (k + 1) := by
  show prodN (sqTo k) (stps (8 * 2 ^ k) oneN) = _
  rw [prodN_pow _ _ (sqTo_lt k)]
  unfold sqTo
  rw [← stps_add, Nat.pow_succ]
  congr 1; omega
theorem mod_bit1 (n k : Nat) (h : n / 2 ^ k % 2 = 1) : n % 2 ^ (k + 1) = 2 ^ k + n % 2 ^ k := by
  rw [Nat.mod_pow_succ, h]; omega
theorem mod_bit0 (n k : Nat) (h : n / 2 ^ k % 2 = 0) : n % 2 ^ (k + 1) = n % 2 ^ k := by
  rw [Nat.mod_pow_succ, h]; omega
theorem powTo_succ1 (n k : Nat) (h : n / 2 ^ k % 2 = 1) : prodN (powTo n k) (sqTo k) = powTo n (k + 1) := by
  show prodN (powTo n k) (stps (8 * 2 ^ k) oneN) = _
  rw [prodN_pow _ _ (powTo_lt n k)]
  unfold powTo
  rw [← stps_add, mod_bit1 n k h, Nat.mul_add]
theorem powTo_succ0 (n k : Nat) (h : n / 2 ^ k % 2 = 0) : powTo n k = powTo n (k + 1) := by
  unfold powTo; rw [mod_bit0 n k h]
theorem powTo_end (n : Nat) (h : n ≤ 1073741824) : powTo n 31 = stps (8 * n) oneN := by
  unfold powTo; rw [Nat.mod_eq_of_lt (by omega)]
theorem joinN_of (a b n : Nat) (ha : a < 4294967296) (h : n ≤ 1073741824) : prodN a (powTo n 31) ^^^ b = joinN a b n := by
  rw [powTo_end n h, prodN_pow a _ ha]; rfl

/-- Bytes changed by a number's bytes, the lowest first. -/
def xb : List UInt8 → Nat → List UInt8
  | [], _ => []
  | c :: l, y => (c ^^^ UInt8.ofNat (y % 256)) :: xb l (y / 256)
theorem xb_length (l : List UInt8) (y : Nat) : (xb l y).length = l.length := by
  induction l generalizing y with
  | nil => rfl
  | cons c l ih => simp [xb, ih]
theorem regs_xb (r y : Nat) (l : List UInt8) (h : y < 256 ^ l.length) : regs r (xb l y) = regs (y ^^^ r) l := by
  induction l generalizing r y with
  | nil =>
    have : y = 0 := by simp at h; omega
    subst this; simp [xb]
  | cons c l ih =>
    show regs (stps 8 (r ^^^ (c ^^^ UInt8.ofNat (y % 256)).toNat)) (xb l (y / 256)) = regs (stps 8 (y ^^^ r ^^^ c.toNat)) l
    have hy : y / 256 < 256 ^ l.length := by
      rw [List.length_cons, Nat.pow_succ] at h
      exact Nat.div_lt_of_lt_mul (by rw [Nat.mul_comm]; exact h)
    rw [ih _ _ hy]
    congr 1
    have e : (c ^^^ UInt8.ofNat (y % 256)).toNat = c.toNat ^^^ y % 256 := by simp [UInt8.toNat_xor]
    rw [e]
    have hy2 := split_byte y
    have hs := stps_shift 8 (y / 256)
    rw [show 2 ^ 8 = 256 from rfl] at hs
    have e2 : stps 8 (y ^^^ r ^^^ c.toNat) = stps 8 (256 * (y / 256)) ^^^ stps 8 (r ^^^ (c.toNat ^^^ y % 256)) := by
      rw [← stps_xor]
      congr 1
      have : r ^^^ (c.toNat ^^^ y % 256) = y % 256 ^^^ (r ^^^ c.toNat) := by rw [← Nat.xor_assoc, Nat.xor_comm]
      rw [this, ← Nat.xor_assoc, ← hy2, Nat.xor_assoc]
    rw [e2, hs]
theorem found (p m q : List UInt8) (y : Nat) (hy : y < 256 ^ m.length) (h4 : m.length = 4) : sumN (p ++ (xb m y ++ q)) = sumN (p ++ (m ++ q)) ↔ y = 0 := by
  have hy' : y < 4294967296 := by rw [h4] at hy; exact hy
  have e : sumN (p ++ (xb m y ++ q)) = stps (8 * (m ++ q).length) y ^^^ sumN (p ++ (m ++ q)) := by
    unfold sumN moreN
    rw [regs_append, regs_append, regs_xb _ _ _ hy, ← regs_append, regs_xor, regs_append _ p, Nat.xor_assoc]
  rw [e]
  constructor
  · intro h
    have h1 : (stps (8 * (m ++ q).length) y ^^^ sumN (p ++ (m ++ q))) ^^^ sumN (p ++ (m ++ q)) = 0 := by rw [h, Nat.xor_self]
    rw [Nat.xor_assoc, Nat.xor_self, Nat.xor_zero] at h1
    exact stps_ne hy' h1
  · intro h; subst h; rw [stps_zero, Nat.zero_xor]
end Go.Proofs.YtgbnmokajaehhaaDoor.Oc
