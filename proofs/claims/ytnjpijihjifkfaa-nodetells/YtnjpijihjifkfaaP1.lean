/- Items and their order: the plain mathematics. -/
import GoSem.Op.String
namespace Go.Proofs.Ytnjpijihjifkfaa
theorem less_irr : ∀ l : List UInt8, Op.bytesLess l l = false
  | [] => rfl
  | a :: l => by unfold Op.bytesLess; rw [less_irr l]; simp
theorem less_cons (a b : UInt8) (x y : List UInt8) : Op.bytesLess (a :: x) (b :: y) = true ↔ a.toNat < b.toNat ∨ a = b ∧ Op.bytesLess x y = true := by
  rw [Op.bytesLess]
  simp [UInt8.lt_iff_toNat_lt]
theorem less_trans : ∀ {x y z : List UInt8}, Op.bytesLess x y = true → Op.bytesLess y z = true → Op.bytesLess x z = true
  | _, [], _, h, _ => by cases ‹List UInt8› <;> simp [Op.bytesLess] at h
  | _, _ :: _, [], _, h => by simp [Op.bytesLess] at h
  | [], _ :: _, _ :: _, _, _ => rfl
  | a :: x, b :: y, c :: z, h1, h2 => by
    rw [less_cons] at *
    rcases h1 with h1 | ⟨rfl, h1⟩ <;> rcases h2 with h2 | ⟨rfl, h2⟩
    · left; omega
    · left; exact h1
    · left; exact h2
    · right; exact ⟨rfl, less_trans h1 h2⟩
theorem less_tri : ∀ (x y : List UInt8), Op.bytesLess x y = true ∨ x = y ∨ Op.bytesLess y x = true
  | [], [] => .inr (.inl rfl)
  | [], _ :: _ => .inl rfl
  | _ :: _, [] => .inr (.inr rfl)
  | a :: x, b :: y => by
    rw [less_cons, less_cons]
    rcases Nat.lt_trichotomy a.toNat b.toNat with h | h | h
    · exact .inl (.inl h)
    · obtain rfl : a = b := UInt8.toNat_inj.1 h
      rcases less_tri x y with h | rfl | h
      · exact .inl (.inr ⟨rfl, h⟩)
      · exact .inr (.inl rfl)
      · exact .inr (.inr (.inr ⟨rfl, h⟩))
    · exact .inr (.inr (.inl h))
/-- Is a string before another one? -/
def ltB (x y : ByteArray) : Bool := Op.bytesLess x.data.toList y.data.toList
theorem ltB_irr (x : ByteArray) : ltB x x = false := less_irr _
theorem ltB_trans {x y z : ByteArray} (h1 : ltB x y = true) (h2 : ltB y z = true) : ltB x z = true := less_trans h1 h2
theorem ba_ext {x y : ByteArray} (h : x.data.toList = y.data.toList) : x = y := ByteArray.ext (Array.toList_inj.1 h)
theorem ltB_tri (x y : ByteArray) : ltB x y = true ∨ x = y ∨ ltB y x = true := by
  rcases less_tri x.data.toList y.data.toList with h | h | h
  · exact .inl h
  · exact .inr (.inl (ba_ext h))
  · exact .inr (.inr h)
theorem ltB_asymm {x y : ByteArray} (h : ltB x y = true) : ltB y x = false := by
  cases h2 : ltB y x with
  | false => rfl
  | true => have := ltB_trans h h2; rw [ltB_irr] at this; cases this
theorem ltB_ne {x y : ByteArray} (h : ltB x y = true) : x ≠ y := by rintro rfl; rw [ltB_irr] at h; cases h
/-- An item: its key, its value. -/
abbrev It := ByteArray × ByteArray
def it0 : It := (ByteArray.empty, ByteArray.empty)
theorem getD_at {α : Type} (l : List α) (i : Nat) (d : α) (h : i < l.length) : l.getD i d = l[i] := by rw [List.getD_eq_getElem?_getD, List.getElem?_eq_getElem h]; rfl
/-- The item at a place, its key. -/
def kq (I : List It) (i : Nat) : ByteArray := (I.getD i it0).1
def vq (I : List It) (i : Nat) : ByteArray := (I.getD i it0).2
/-- Keys rise, as far as k. -/
def RiseTo (I : List It) (k : Nat) : Prop := ∀ i, i < k - 1 → ltB (kq I i) (kq I (i + 1)) = true
instance (I : List It) (k : Nat) : Decidable (RiseTo I k) := inferInstanceAs (Decidable (∀ i, i < k - 1 → ltB (kq I i) (kq I (i + 1)) = true))
theorem RiseTo.lt {I : List It} {n : Nat} (h : RiseTo I n) : ∀ {i j : Nat}, i < j → j < n → ltB (kq I i) (kq I j) = true := by
  intro i j hij
  induction j with
  | zero => omega
  | succ j ih =>
    intro hj
    have h1 := h j (by omega)
    rcases Nat.lt_or_ge i j with h2 | h2
    · exact ltB_trans (ih h2 (by omega)) h1
    · obtain rfl : i = j := by omega
      exact h1
theorem RiseTo.step {I : List It} {k : Nat} (h : RiseTo I k) (h1 : 0 < k → ltB (kq I (k - 1)) (kq I k) = true) : RiseTo I (k + 1) := by
  intro i hi
  rcases Nat.lt_or_ge i (k - 1) with h2 | h2
  · exact h i h2
  · obtain rfl : i = k - 1 := by omega
    have := h1 (by omega)
    rwa [show k - 1 + 1 = k by omega]
theorem RiseTo.zero (I : List It) : RiseTo I 0 := by intro i hi; omega
theorem RiseTo.one (I : List It) : RiseTo I 1 := by intro i hi; omega
/-- How many items of a rising list come ahead of a key, or have it. -/
def Pos (I : List It) (key : ByteArray) (m : Nat) : Prop := m ≤ I.length ∧ (∀ j, j < m → ltB key (kq I j) = false) ∧ ∀ j, m ≤ j → j < I.length → ltB key (kq I j) = true
def posN (I : List It) (key : ByteArray) : Nat := I.countP fun x => !ltB key x.1
theorem kq_cons (a : It) (l : List It) (i : Nat) : kq (a :: l) (i + 1) = kq l i := by unfold kq; rw [List.getD_cons_succ]
theorem kq_zero (a : It) (l : List It) : kq (a :: l) 0 = a.1 := rfl
theorem RiseTo.tail {a : It} {l : List It} (h : RiseTo (a :: l) (a :: l).length) : RiseTo l l.length := by
  intro i hi
  have := h (i + 1) (by simp; omega)
  rwa [kq_cons, kq_cons] at this
theorem posN_pos : ∀ (I : List It) (key : ByteArray), RiseTo I I.length → Pos I key (posN I key)
  | [], key, _ => ⟨by simp [posN], by intro j hj; simp [posN] at hj, by intro j hj hj2; simp at hj2⟩
  | a :: l, key, h => by
    have ih := posN_pos l key h.tail
    cases h0 : ltB key a.1 with
    | false =>
      have hp : posN (a :: l) key = posN l key + 1 := by unfold posN; rw [List.countP_cons_of_pos (by simp [h0])]
      rw [hp]
      refine ⟨by simpa using ih.1, ?_, ?_⟩
      · intro j hj
        cases j with
        | zero => exact h0
        | succ j => rw [kq_cons]; exact ih.2.1 j (by omega)
      · intro j hj hj2
        cases j with
        | zero => omega
        | succ j => rw [kq_cons]; exact ih.2.2 j (by omega) (by simpa using hj2)
    | true =>
      have hall : ∀ j, j < l.length + 1 → ltB key (kq (a :: l) j) = true := by
        intro j hj
        cases j with
        | zero => exact h0
        | succ j => exact ltB_trans h0 (h.lt (i := 0) (j := j + 1) (by omega) (by simpa using hj))
      have hp : posN (a :: l) key = 0 := by
        unfold posN
        rw [List.countP_eq_zero]
        intro x hx
        obtain ⟨j, hj, rfl⟩ := List.getElem_of_mem hx
        have := hall j (by simpa using hj)
        unfold kq at this
        rw [getD_at _ _ _ hj] at this
        simp [this]
      rw [hp]
      exact ⟨Nat.zero_le _, by intro j hj; omega, fun j _ hj => hall j (by simpa using hj)⟩
theorem Pos.eq {I : List It} {key : ByteArray} {m k : Nat} (h : Pos I key m) (h2 : Pos I key k) : m = k := by
  rcases Nat.lt_trichotomy m k with h1 | h1 | h1
  · have a := h.2.2 m (Nat.le_refl _) (by have := h2.1; omega)
    rw [h2.2.1 m h1] at a; cases a
  · exact h1
  · have a := h2.2.2 k (Nat.le_refl _) (by have := h.1; omega)
    rw [h.2.1 k h1] at a; cases a
/-- Does an item have the key? -/
def hasN (I : List It) (key : ByteArray) : Bool := I.any fun x => decide (x.1 = key)
def atB (I : List It) (key : ByteArray) (m : Nat) : Bool := decide (0 < m ∧ kq I (m - 1) = key)
theorem hasN_at {I : List It} {key : ByteArray} {m : Nat} (hr : RiseTo I I.length) (h : Pos I key m) : hasN I key = atB I key m := by
  unfold hasN atB
  rw [Bool.eq_iff_iff, List.any_eq_true, decide_eq_true_iff]
  constructor
  · rintro ⟨x, hx, hk⟩
    obtain ⟨j, hj, rfl⟩ := List.getElem_of_mem hx
    have hk : kq I j = key := by unfold kq; rw [getD_at _ _ _ hj]; exact of_decide_eq_true hk
    have hjm : j < m := by
      rcases Nat.lt_or_ge j m with h1 | h1
      · exact h1
      · have := h.2.2 j h1 hj; rw [hk, ltB_irr] at this; cases this
    refine ⟨by omega, ?_⟩
    rcases Nat.lt_or_ge j (m - 1) with h1 | h1
    · have a := hr.lt h1 (by have := h.1; omega)
      have b := h.2.1 (m - 1) (by omega)
      rw [hk] at a; rw [a] at b; cases b
    · rw [show m - 1 = j by omega]; exact hk
  · rintro ⟨h1, h2⟩
    have hj : m - 1 < I.length := by have := h.1; omega
    refine ⟨I[m - 1], List.getElem_mem hj, ?_⟩
    unfold kq at h2; rw [getD_at _ _ _ hj] at h2
    exact decide_eq_true h2
/-- Where a key is found. -/
def findN (leaf : Bool) (I : List It) (key : ByteArray) : Nat × Bool := (if hasN I key && leaf then posN I key - 1 else posN I key, hasN I key)
end Go.Proofs.Ytnjpijihjifkfaa
