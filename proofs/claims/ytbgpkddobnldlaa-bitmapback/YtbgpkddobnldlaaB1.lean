/- Bitmaps, plain: bits, free pages, spans. -/
namespace Go.Proofs.Ytbgpkddobnldlaa
/-- A bit of a byte. -/
def bitC (c : UInt8) (k : Nat) : Bool := decide (c.toNat / 2 ^ k % 2 = 1)
/-- A byte in which a bit is on, or off. -/
def setC (c : UInt8) (k : Nat) (on : Bool) : UInt8 := UInt8.ofNat (c.toNat - (if bitC c k then 2 ^ k else 0) + (if on then 2 ^ k else 0))
def bitL (l : List UInt8) (i : Nat) : Bool := bitC (l.getD (i / 8) 0) (i % 8)
def usedL (l : List UInt8) (i : Int) : Bool := decide (l.length = 480) && (decide (0 ≤ i) && (decide (i < 3840) && bitL l i.toNat))
def setL (l : List UInt8) (i : Nat) (on : Bool) : List UInt8 := l.set (i / 8) (setC (l.getD (i / 8) 0) (i % 8) on)
def setsL (l : List UInt8) (on : Bool) (is : List Nat) : List UInt8 := is.foldl (fun l i => setL l i on) l
theorem bitC_test (c : UInt8) (k : Nat) : bitC c k = c.toNat.testBit k := by
  unfold bitC; rw [Nat.testBit_eq_decide_div_mod_eq]
theorem bitC_ext (a b : UInt8) (h : ∀ k, k < 8 → bitC a k = bitC b k) : a = b := by
  apply UInt8.toNat_inj.1
  apply Nat.eq_of_testBit_eq
  intro i
  by_cases hi : i < 8
  · have := h i hi
    rwa [bitC_test, bitC_test] at this
  · have hp : 256 ≤ 2 ^ i := Nat.pow_le_pow_right (n := 2) (by omega) (show 8 ≤ i by omega)
    rw [Nat.testBit_lt_two_pow (Nat.lt_of_lt_of_le a.toNat_lt hp), Nat.testBit_lt_two_pow (Nat.lt_of_lt_of_le b.toNat_lt hp)]
theorem setC_fin : ∀ c : Fin 256, ∀ k : Fin 8, ∀ on : Bool, ∀ j : Fin 8, bitC (setC (UInt8.ofNat c.val) k.val on) j.val = if k = j then on else bitC (UInt8.ofNat c.val) j.val := by decide +kernel
theorem setC_bit (c : UInt8) (k j : Nat) (on : Bool) (hk : k < 8) (hj : j < 8) : bitC (setC c k on) j = if k = j then on else bitC c j := by
  have := setC_fin ⟨c.toNat, c.toNat_lt⟩ ⟨k, hk⟩ on ⟨j, hj⟩
  simp only [UInt8.ofNat_toNat, Fin.mk.injEq] at this
  exact this
theorem setL_length (l : List UInt8) (i : Nat) (on : Bool) : (setL l i on).length = l.length := by simp [setL]
theorem setsL_length (is : List Nat) (on : Bool) : ∀ l, (setsL l on is).length = l.length := by
  induction is with
  | nil => intro l; rfl
  | cons i r ih => intro l; show (setsL (setL l i on) on r).length = _; rw [ih, setL_length]
theorem setL_bit (l : List UInt8) (i j : Nat) (on : Bool) (hi : i / 8 < l.length) : bitL (setL l i on) j = if i = j then on else bitL l j := by
  unfold bitL setL
  by_cases hb : i / 8 = j / 8
  · rw [← hb, List.getD_eq_getElem?_getD, List.getElem?_set_self hi, Option.getD_some, setC_bit _ _ _ _ (by omega) (by omega)]
    by_cases h : i = j
    · subst h; simp
    · rw [if_neg h, if_neg (by omega)]
  · rw [List.getD_eq_getElem?_getD, List.getElem?_set_ne hb, if_neg (by intro h; subst h; exact hb rfl), ← List.getD_eq_getElem?_getD]
theorem setsL_bit (on : Bool) (is : List Nat) (j : Nat) : ∀ l : List UInt8, (∀ i ∈ is, i / 8 < l.length) → bitL (setsL l on is) j = if j ∈ is then on else bitL l j := by
  induction is with
  | nil => intro l _; simp [setsL]
  | cons i r ih =>
    intro l h
    show bitL (setsL (setL l i on) on r) j = _
    rw [ih _ (fun x hx => by rw [setL_length]; exact h x (List.mem_cons_of_mem _ hx)), setL_bit _ _ _ _ (h i (List.mem_cons_self ..))]
    by_cases hr : j ∈ r
    · simp [hr]
    · by_cases hij : i = j
      · subst hij; simp
      · simp [hr, hij, Ne.symm hij]
theorem bit_ext (a b : List UInt8) (hl : a.length = b.length) (h : ∀ i, i < 8 * a.length → bitL a i = bitL b i) : a = b := by
  apply List.ext_getElem hl
  intro n h1 h2
  apply bitC_ext
  intro k hk
  have := h (8 * n + k) (by omega)
  unfold bitL at this
  rw [show (8 * n + k) / 8 = n by omega, show (8 * n + k) % 8 = k by omega] at this
  rwa [List.getD_eq_getElem?_getD, List.getElem?_eq_getElem h1, List.getD_eq_getElem?_getD, List.getElem?_eq_getElem h2] at this
theorem used_bit (l : List UInt8) (h : l.length = 480) (i : Nat) (hi : i < 3840) : usedL l (i : Int) = bitL l i := by
  unfold usedL
  have h2 : (0 : Int) ≤ (i : Int) := by omega
  have h3 : (i : Int) < 3840 := by omega
  simp [h, h3]
theorem used_not (l : List UInt8) (i : Int) (h : ¬ (l.length = 480 ∧ 0 ≤ i ∧ i < 3840)) : usedL l i = false := by
  unfold usedL
  by_cases h1 : l.length = 480
  · by_cases h2 : 0 ≤ i
    · have h3 : ¬ i < 3840 := fun h3 => h ⟨h1, h2, h3⟩
      simp [h3]
    · simp [h2]
  · simp [h1]
theorem used_in (l : List UInt8) (i : Int) (h : usedL l i = true) : l.length = 480 ∧ 0 ≤ i ∧ i < 3840 := by
  by_cases hh : l.length = 480 ∧ 0 ≤ i ∧ i < 3840
  · exact hh
  · rw [used_not l i hh] at h; cases h
/-- Pages that are free, from a on, below b. -/
def freeN (l : List UInt8) (a b : Nat) : List Nat := (List.range' a (b - a)).filter fun i => !bitL l i
theorem range_snoc (a i : Nat) (h : a ≤ i) : List.range' a (i + 1 - a) = List.range' a (i - a) ++ [i] := by
  rw [show i + 1 - a = (i - a) + 1 by omega, List.range'_concat]
  simp; omega
theorem freeN_nil (l : List UInt8) (a : Nat) : freeN l a a = [] := by simp [freeN]
theorem freeN_free (l : List UInt8) (a i : Nat) (h : a ≤ i) (hb : bitL l i = false) : freeN l a (i + 1) = freeN l a i ++ [i] := by
  unfold freeN; rw [range_snoc a i h, List.filter_append]; simp [hb]
theorem freeN_used (l : List UInt8) (a i : Nat) (h : a ≤ i) (hb : bitL l i = true) : freeN l a (i + 1) = freeN l a i := by
  unfold freeN; rw [range_snoc a i h, List.filter_append]; simp [hb]
theorem freeN_split (l : List UInt8) (a i b : Nat) (h : a ≤ i) (h2 : i ≤ b) : freeN l a b = freeN l a i ++ freeN l i b := by
  unfold freeN
  rw [← List.filter_append]
  congr 1
  rw [show b - a = (i - a) + (b - i) by omega]
  have := List.range'_append (s := a) (m := i - a) (n := b - i) (step := 1)
  rw [← this]
  congr 2
  omega
theorem freeN_mem (l : List UInt8) (a b x : Nat) : x ∈ freeN l a b ↔ a ≤ x ∧ x < b ∧ bitL l x = false := by
  unfold freeN
  rw [List.mem_filter, List.mem_range'_1]
  constructor
  · rintro ⟨⟨h1, h2⟩, h3⟩
    exact ⟨h1, by omega, by simpa using h3⟩
  · rintro ⟨h1, h2, h3⟩
    exact ⟨⟨h1, by omega⟩, by simpa using h3⟩
theorem freeN_len (l : List UInt8) (a b : Nat) : (freeN l a b).length ≤ b - a := by
  unfold freeN
  exact Nat.le_trans (List.length_filter_le _ _) (by simp)
theorem freeN_sorted (l : List UInt8) (a b : Nat) : (freeN l a b).Pairwise (· < ·) := by
  unfold freeN
  exact List.Pairwise.filter _ (List.pairwise_lt_range')
/-- What Lowest answers: pages, and an error. -/
def inB (l : List UInt8) (a b k : Int) : Bool := decide (l.length = 480 ∧ 0 ≤ k ∧ 0 ≤ a ∧ a ≤ b ∧ b ≤ 3840)
def lowF (l : List UInt8) (a b k : Int) : List Nat × Int :=
  if inB l a b k then (if ((freeN l a.toNat b.toNat).length : Int) < k then ([], 13) else ((freeN l a.toNat b.toNat).take k.toNat, 0)) else ([], 18)
/-- What Give answers. -/
def giveF (l : List UInt8) : List Int → Option (List UInt8)
  | [] => some l
  | i :: r => if usedL l i then giveF (setL l i.toNat false) r else none
def giveS (l : List UInt8) (is : List Int) : List UInt8 := if l.length = 480 then (giveF l is).getD [] else []
def giveE (l : List UInt8) (is : List Int) : Int := if l.length = 480 then (match giveF l is with | some _ => 0 | none => 18) else 18
theorem giveF_append (is js : List Int) : ∀ l, giveF l (is ++ js) = (giveF l is).bind fun m => giveF m js := by
  induction is with
  | nil => intro l; rfl
  | cons i r ih =>
    intro l
    simp only [List.cons_append, giveF]
    split
    · exact ih _
    · rfl
theorem giveF_len (is : List Int) : ∀ l m, giveF l is = some m → m.length = l.length := by
  induction is with
  | nil => intro l m h; simp [giveF] at h; rw [h]
  | cons i r ih =>
    intro l m h
    simp only [giveF] at h
    split at h
    · rw [ih _ _ h, setL_length]
    · cases h
/-- All are in use, none twice. -/
def Gives (l : List UInt8) (is : List Int) : Prop := (∀ i ∈ is, usedL l i = true) ∧ is.Nodup
theorem used_set (l : List UInt8) (i j : Int) (hi : usedL l i = true) (on : Bool) : usedL (setL l i.toNat on) j = if i = j then on else usedL l j := by
  obtain ⟨h1, h2, h3⟩ := used_in l i hi
  by_cases hj : 0 ≤ j ∧ j < 3840
  · have e1 := used_bit (setL l i.toNat on) (by rw [setL_length]; exact h1) j.toNat (by omega)
    have e2 := used_bit l h1 j.toNat (by omega)
    rw [Int.toNat_of_nonneg hj.1] at e1 e2
    rw [e1, e2, setL_bit _ _ _ _ (by omega)]
    by_cases h : i = j
    · subst h; simp
    · rw [if_neg h, if_neg (by omega)]
  · rw [used_not _ j (by intro h; exact hj h.2), used_not l j (by intro h; exact hj h.2), if_neg (by intro h; subst h; exact hj ⟨h2, h3⟩)]
theorem giveF_yes (is : List Int) : ∀ l, Gives l is → giveF l is = some (setsL l false (is.map Int.toNat)) := by
  induction is with
  | nil => intro l _; rfl
  | cons i r ih =>
    intro l h
    have hi := h.1 i (List.mem_cons_self ..)
    have hn := List.nodup_cons.1 h.2
    simp only [giveF]
    rw [if_pos hi, ih _ ⟨fun j hj => ?_, hn.2⟩]
    · rfl
    · rw [used_set l i j hi, if_neg (by intro e; subst e; exact hn.1 hj)]
      exact h.1 j (List.mem_cons_of_mem _ hj)
theorem giveF_no (is : List Int) : ∀ l, ¬ Gives l is → giveF l is = none := by
  induction is with
  | nil => intro l h; exact absurd ⟨by simp, List.nodup_nil⟩ h
  | cons i r ih =>
    intro l h
    simp only [giveF]
    split
    · next hi =>
      apply ih
      intro hg
      apply h
      have hnot : i ∉ r := by
        intro hm
        have := hg.1 i hm
        rw [used_set l i i hi, if_pos rfl] at this
        cases this
      refine ⟨fun j hj => ?_, List.nodup_cons.2 ⟨hnot, hg.2⟩⟩
      rcases List.mem_cons.1 hj with rfl | hj
      · exact hi
      · have := hg.1 j hj
        rw [used_set l i j hi] at this
        split at this
        · cases this
        · exact this
    · rfl
/-- How many pages are in use, from a on, below b, below i. -/
def manyTo (l : List UInt8) (a b : Int) (i : Nat) : Nat := ((List.range i).filter fun (j : Nat) => decide (a ≤ (j : Int)) && (decide ((j : Int) < b) && usedL l (j : Int))).length
def manyL (l : List UInt8) (a b : Int) : Nat := manyTo l a b 3840
theorem manyTo_succ (l : List UInt8) (a b : Int) (i : Nat) : manyTo l a b (i + 1) = manyTo l a b i + if decide (a ≤ (i : Int)) && (decide ((i : Int) < b) && usedL l (i : Int)) then 1 else 0 := by
  unfold manyTo
  rw [List.range_succ, List.filter_append, List.length_append]
  congr 1
  by_cases h : (decide (a ≤ (i : Int)) && (decide ((i : Int) < b) && usedL l (i : Int))) = true
  · simp only [List.filter_cons, h]; rfl
  · rw [Bool.not_eq_true] at h
    simp only [List.filter_cons, h]; rfl
theorem manyTo_le (l : List UInt8) (a b : Int) (i : Nat) : manyTo l a b i ≤ i := by
  unfold manyTo; exact Nat.le_trans (List.length_filter_le _ _) (by simp)
theorem manyTo_zero (l : List UInt8) (a b : Int) (i : Nat) (h : ∀ j : Nat, j < i → ¬ (a ≤ (j : Int) ∧ (j : Int) < b)) : manyTo l a b i = 0 := by
  unfold manyTo
  rw [List.length_eq_zero_iff, List.filter_eq_nil_iff]
  intro j hj
  have := h j (List.mem_range.1 hj)
  simp
  intro h1 h2
  exact absurd ⟨h1, h2⟩ this
theorem manyTo_end (l : List UInt8) (a b : Int) (i n : Nat) (h : i ≤ n) (hb : ∀ j : Nat, i ≤ j → j < n → ¬ (j : Int) < b) : manyTo l a b n = manyTo l a b i := by
  induction n with
  | zero => obtain rfl : i = 0 := by omega
            rfl
  | succ n ih =>
    by_cases hi : i = n + 1
    · rw [hi]
    · rw [manyTo_succ, ih (by omega) (fun j h1 h2 => hb j h1 (by omega))]
      have := hb n (by omega) (by omega)
      simp [this]
/-- The end of the free pages from i on. -/
def endN (l : List UInt8) (b : Nat) : Nat → Nat → Nat
  | 0, i => i
  | f + 1, i => if i < b ∧ bitL l i = false then endN l b f (i + 1) else i
def endS (l : List UInt8) (b i : Nat) : Nat := endN l b (b - i) i
/-- The ranges of free pages from i on, in f steps. -/
def spN (l : List UInt8) (b : Nat) : Nat → Nat → List (Nat × Nat)
  | 0, _ => []
  | f + 1, i => if i < b then (if bitL l i then spN l b f (i + 1) else (i, endS l b i) :: spN l b f (endS l b i + 1)) else []
theorem endN_stop (l : List UInt8) (b f i : Nat) (h : ¬ (i < b ∧ bitL l i = false)) : endN l b f i = i := by
  cases f with
  | zero => rfl
  | succ f => unfold endN; rw [if_neg h]
theorem endS_stop (l : List UInt8) (b i : Nat) (h : ¬ (i < b ∧ bitL l i = false)) : endS l b i = i := endN_stop l b _ i h
theorem endS_step (l : List UInt8) (b i : Nat) (h : i < b) (hb : bitL l i = false) : endS l b i = endS l b (i + 1) := by
  unfold endS
  rw [show b - i = (b - (i + 1)) + 1 by omega]
  conv => lhs; unfold endN
  rw [if_pos ⟨h, hb⟩]
theorem endN_le (l : List UInt8) (b f : Nat) : ∀ i, i ≤ endN l b f i ∧ (i ≤ b → endN l b f i ≤ b) := by
  induction f with
  | zero => intro i; exact ⟨Nat.le_refl _, fun h => h⟩
  | succ f ih =>
    intro i
    unfold endN
    split
    · next h => exact ⟨by have := (ih (i + 1)).1; omega, fun _ => (ih (i + 1)).2 (by omega)⟩
    · exact ⟨Nat.le_refl _, fun h => h⟩
theorem endS_le (l : List UInt8) (b i : Nat) (h : i ≤ b) : i ≤ endS l b i ∧ endS l b i ≤ b := ⟨(endN_le l b _ i).1, (endN_le l b _ i).2 h⟩
theorem spN_more (l : List UInt8) (b : Nat) : ∀ f i, b - i ≤ f → spN l b (f + 1) i = spN l b f i := by
  intro f
  induction f with
  | zero => intro i h; unfold spN; rw [if_neg (by omega)]
  | succ f ih =>
    intro i h
    conv => lhs; unfold spN
    conv => rhs; unfold spN
    split
    · next hi =>
      split
      · exact ih _ (by omega)
      · rw [ih _ (by have := (endS_le l b i (by omega)).1; omega)]
    · rfl
theorem spN_any (l : List UInt8) (b : Nat) (i f : Nat) (h : b - i ≤ f) : spN l b f i = spN l b (b - i) i := by
  obtain ⟨d, rfl⟩ : ∃ d, f = (b - i) + d := ⟨f - (b - i), by omega⟩
  clear h
  induction d with
  | zero => rfl
  | succ d ih => rw [← Nat.add_assoc, spN_more l b _ _ (by omega), ih]
def spS (l : List UInt8) (b i : Nat) : List (Nat × Nat) := spN l b (b - i) i
theorem spS_end (l : List UInt8) (b i : Nat) (h : b ≤ i) : spS l b i = [] := by unfold spS; rw [show b - i = 0 by omega]; rfl
theorem spS_used (l : List UInt8) (b i : Nat) (h : i < b) (hb : bitL l i = true) : spS l b i = spS l b (i + 1) := by
  unfold spS
  rw [show b - i = (b - (i + 1)) + 1 by omega]
  conv => lhs; unfold spN
  rw [if_pos h, hb]
  rfl
theorem spS_free (l : List UInt8) (b i : Nat) (h : i < b) (hb : bitL l i = false) : spS l b i = (i, endS l b i) :: spS l b (endS l b i + 1) := by
  have he := (endS_le l b i (by omega)).1
  unfold spS
  rw [show b - i = (b - (i + 1)) + 1 by omega]
  conv => lhs; unfold spN
  rw [if_pos h, hb]
  simp only [Bool.false_eq_true, if_false]
  rw [spN_any l b (endS l b i + 1) _ (by omega)]
def spF (l : List UInt8) (a b : Int) : List (Nat × Nat) := if inB l a b 0 then spS l b.toNat a.toNat else []
end Go.Proofs.Ytbgpkddobnldlaa
