/- A changed sector is no sector: the plain mathematics. -/
import Derived.Test.YtplngodilalbhaaAD
namespace Go.Proofs.Ytplngodilalbhaa
open Go.RowKit
theorem chg_left (X Y : List UInt8) (A y k : Nat) (h : A + k ≤ X.length) : chg (X ++ Y) A y k = chg X A y k ++ Y := by
  induction k with
  | zero => rfl
  | succ k ih =>
    have hl : A + k < (chg X A y k).length := by rw [chg_length]; omega
    simp only [chg]
    rw [ih (by omega), List.set_append_left _ _ hl]
    congr 2
    simp only [List.getD_eq_getElem?_getD, List.getElem?_append_left hl]
theorem chg_right (X Y : List UInt8) (A y k : Nat) : chg (X ++ Y) (X.length + A) y k = X ++ chg Y A y k := by
  induction k with
  | zero => rfl
  | succ k ih =>
    simp only [chg]
    rw [ih, List.set_append_right _ _ (by omega)]
    congr 1
    rw [show X.length + A + k - X.length = A + k by omega]
    congr 2
    simp only [List.getD_eq_getElem?_getD]
    rw [List.getElem?_append_right (by omega), show X.length + A + k - X.length = A + k by omega]
theorem chg_zero (l : List UInt8) (A k : Nat) (h : A + k ≤ l.length) : chg l A 0 k = l := by
  induction k with
  | zero => rfl
  | succ k ih =>
    simp only [chg]
    rw [ih (by omega)]
    have hl : A + k < l.length := by omega
    simp only [List.getD_eq_getElem?_getD, List.getElem?_eq_getElem hl, Option.getD_some, Nat.zero_div, Nat.zero_mod]
    rw [show l[A + k] ^^^ UInt8.ofNat 0 = l[A + k] by simp]
    exact List.set_getElem_self hl
/-- The bytes ahead of the sum, the sum, and the page. -/
structure Parts (l F S R : List UInt8) : Prop where
  h : l = F ++ (S ++ R)
  f : F.length = 28
  s : S.length = 4
  r : R.length = 480
  sum : S = numL 4 (sumN (F ++ R))
theorem opens_parts {b : ByteArray} {k e n a m : Nat} {p : ByteArray} (h : Opens b k e n a m p) : ∃ F S R, Parts b.data.toList F S R := by
  refine ⟨(frontB k e n a m).data.toList, numL 4 (sumN (frontB k e n a m ++ p).data.toList), p.data.toList, ?_, ?_, ?_, ?_, ?_⟩
  · rw [h.hb]; unfold sealB; simp [bs_toList]
  · rw [← blen, frontB_size]
  · exact numL_length _ _
  · rw [← blen]; exact h.ok.2.2.2.2.2.2
  · simp
theorem numL4_inj {a b : Nat} (ha : a < 4294967296) (hb : b < 4294967296) (h : numL 4 a = numL 4 b) : a = b := by
  have := congrArg ofL h
  rwa [ofL_num, ofL_num, Nat.mod_eq_of_lt (by omega), Nat.mod_eq_of_lt (by omega)] at this
theorem chg_sum {l : List UInt8} {A y : Nat} (h : A + 4 ≤ l.length) (hy : y < 4294967296) (hs : sumN (chg l A y 4) = sumN l) : y = 0 := by
  have := chg_four l A y h hy
  rw [hs] at this
  simpa using this.symm
theorem chg_no {l F S R F' S' R' : List UInt8} {A y : Nat} (hy : y < 4294967296) (h : Parts l F S R) (h' : Parts (chg l A y 4) F' S' R') (hA : A ≤ 24 ∨ A = 28 ∨ 32 ≤ A ∧ A + 4 ≤ 512) : y = 0 := by
  obtain ⟨hl, hf, hs, hr, hsum⟩ := h
  obtain ⟨hl', hf', hs', hr', hsum'⟩ := h'
  rcases hA with hA | rfl | ⟨hA, hA2⟩
  · rw [hl, chg_left F (S ++ R) A y 4 (by omega)] at hl'
    have e1 := List.append_inj hl' (by rw [chg_length, hf, hf'])
    have e2 := List.append_inj e1.2 (by rw [hs, hs'])
    rw [← e1.1, ← e2.2, ← e2.1, hsum] at hsum'
    have := numL4_inj (sumN_lt _) (sumN_lt _) hsum'
    rw [← chg_left F R A y 4 (by omega)] at this
    exact chg_sum (by simp; omega) hy this.symm
  · rw [hl, show (28 : Nat) = F.length + 0 by omega, chg_right F (S ++ R) 0 y 4, chg_left S R 0 y 4 (by omega)] at hl'
    have e1 := List.append_inj hl' (by rw [hf, hf'])
    have e2 := List.append_inj e1.2 (by rw [chg_length, hs, hs'])
    rw [← e1.1, ← e2.2, ← hsum, ← e2.1] at hsum'
    exact chg_sum (l := S) (A := 0) (by omega) hy (by rw [hsum'])
  · obtain ⟨B, rfl⟩ : ∃ B, A = B + 32 := ⟨A - 32, by omega⟩
    rw [hl, show B + 32 = F.length + (S.length + B) by omega, chg_right F (S ++ R) _ y 4, chg_right S R B y 4] at hl'
    have e1 := List.append_inj hl' (by rw [hf, hf'])
    have e2 := List.append_inj e1.2 (by rw [hs, hs'])
    rw [← e1.1, ← e2.2, ← e2.1, hsum] at hsum'
    have := numL4_inj (sumN_lt _) (sumN_lt _) hsum'
    rw [← chg_right F R B y 4] at this
    exact chg_sum (by simp; omega) hy this.symm
theorem opens_size {b : ByteArray} {k e n a m : Nat} {p : ByteArray} (h : Opens b k e n a m p) : b.size = 512 := by
  rw [h.hb, sealB_size, h.ok.2.2.2.2.2.2]
/-- What Open says of the changed bytes: its error alone matters. -/
theorem open_changed {b c : ByteArray} {k e n a m : Nat} {p : ByteArray} (h : Opens b k e n a m p) {A y : Nat} (hy : y < 4294967296) (hc : c.data.toList = chg b.data.toList A y 4) (hA : A ≤ 24 ∨ A = 28 ∨ 32 ≤ A ∧ A + 4 ≤ 512) :
    ∃ k2 e2 n2 a2 m2 p2 z, ((z == (0 : Int)) == ((y : Int) == 0)) = true ∧ ∀ w, Calls Try.prog 14 #[.string c] w fun x w' => x = secErr k2 e2 n2 a2 m2 p2 z ∧ Below w.heap.size w w' := by
  have hbl : b.data.toList.length = 512 := by rw [← blen, opens_size h]
  by_cases h0 : y = 0
  · subst h0
    rw [chg_zero _ _ _ (by omega)] at hc
    have : c = b := ByteArray.ext (Array.toList_inj.1 hc)
    subst this
    exact ⟨_, _, _, _, _, _, 0, by simp, fun w => open_is h w⟩
  · have hcs : c.size ≤ maxLen := by rw [blen, hc, chg_length, hbl]; decide
    refine ⟨_, _, _, _, _, _, 19, ?_, fun w => open_none hcs ?_ w⟩
    · have : ((y : Int) == 0) = false := by rw [beq_eq_false_iff_ne]; omega
      rw [this]; rfl
    · intro k' e' n' a' m' p' h'
      obtain ⟨F, S, R, P⟩ := opens_parts h
      obtain ⟨F', S', R', P'⟩ := opens_parts h'
      rw [hc] at P'
      exact h0 (chg_no hy P P' hA)
theorem open_size_no {c : ByteArray} (hs : c.size ≠ 512) (hm : c.size ≤ maxLen) (w : World) : Calls Try.prog 14 #[.string c] w fun x w' => x = secErr 0 0 0 0 0 ByteArray.empty 19 ∧ Below w.heap.size w w' :=
  open_none hm (fun _ _ _ _ _ _ h => hs (opens_size h)) w
end Go.Proofs.Ytplngodilalbhaa
