/- Contracts: the key that bytes are read as. -/
import Derived.Test.YteekjndhehnpaaaKE
import Derived.Test.YteekjndhehnpaaaO7
namespace Go.Proofs.Yteekjndhehnpaaa
open Go.RowKit
set_option maxRecDepth 100000
set_option linter.unusedVariables false
set_option linter.unusedSimpArgs false
set_option maxHeartbeats 8000000
theorem Six.only {w w1 : World} {g r : Nat} {a b c d e f : Value} (h : Six w g a b c d e f) (B : Only r w w1) (hr : g ≠ r) : Six w1 g a b c d e f :=
  ⟨(B.cell h.lt hr).trans h.c0, (B.cell h.lt hr).trans h.c1, (B.cell h.lt hr).trans h.c2, (B.cell h.lt hr).trans h.c3, (B.cell h.lt hr).trans h.c4, (B.cell h.lt hr).trans h.c5,
   (B.frozen h.lt hr).trans h.f0, (B.frozen h.lt hr).trans h.f1, (B.frozen h.lt hr).trans h.f2, (B.frozen h.lt hr).trans h.f3, (B.frozen h.lt hr).trans h.f4, (B.frozen h.lt hr).trans h.f5⟩
theorem numS_one (s : ByteArray) (h : 0 < s.size) : numS s 0 1 = (s.extract 1 s.size, 0, (s.data.toList.getD 0 0).toNat) := by
  have e := rawS_ok (s := s) (n := 1) (by omega)
  rw [show ((1 : Nat) : Int) = (1 : Int) from rfl] at e
  rw [numS_good (by omega) (by omega), e]
  congr 2
  rw [ext_front, bs_toList]
  cases hl : s.data.toList with
  | nil => rw [blen, hl] at h; cases h
  | cons c l => simp [ofL]
theorem numS_none (s : ByteArray) (n : Nat) (h1 : 1 ≤ n) (h8 : n ≤ 8) (h : s.size < n) : numS s 0 n = (ByteArray.empty, 20, 0) := by
  rw [numS_good (by omega) (by omega), rawS_short (by omega)]
  rfl
theorem numS_many (s : ByteArray) (n : Nat) (h1 : 1 ≤ n) (h8 : n ≤ 8) (h : n ≤ s.size) : numS s 0 n = (s.extract n s.size, 0, ofL (s.data.toList.take n)) := by
  rw [numS_good (by omega) (by omega), rawS_ok (by omega), ext_front, bs_toList]
theorem numS_wf {s : ByteArray} {e n : Int} (h : RWf s e) : RWf (numS s e n).1 (numS s e n).2.1 := by
  unfold numS
  split
  · exact .inr rfl
  · exact rawS_wf h
theorem numS_le (s : ByteArray) (e n : Int) : (numS s e n).1.size ≤ s.size := by
  unfold numS
  split
  · exact Nat.zero_le _
  · exact rawS_le s e n
/-- The first two numbers of a text, and what is left. -/
theorem read2 (s : ByteArray) : ∃ t1 y1 t2 y2 t3 y3, numS s 0 1 = (t1, y1, (s.data.toList.getD 0 0).toNat) ∧ numS t1 y1 1 = (t2, y2, (s.data.toList.getD 1 0).toNat) ∧ rawS t2 y2 t2.size = (t3, y3, bs (s.data.toList.drop 2)) ∧ RWf t1 y1 ∧ RWf t2 y2 ∧ t1.size ≤ s.size ∧ t2.size ≤ s.size := by
  by_cases h1 : 0 < s.size
  · have e1 := numS_one s h1
    have hx : (s.extract 1 s.size).size = s.size - 1 := by rw [ext_size]; omega
    have hd : (s.extract 1 s.size).data.toList = s.data.toList.drop 1 := by rw [ext_toList, List.take_of_length_le (by simp)]
    by_cases h2 : 1 < s.size
    · have e2 := numS_one (s.extract 1 s.size) (by omega)
      rw [hd] at e2
      have hy : ((s.extract 1 s.size).extract 1 (s.extract 1 s.size).size).size = s.size - 2 := by rw [ext_size]; omega
      have hl2 : ((s.extract 1 s.size).extract 1 (s.extract 1 s.size).size).data.toList = s.data.toList.drop 2 := by
        rw [ext_toList, List.take_of_length_le (by rw [blen]; exact Nat.le_refl _), hd, List.drop_drop]
      generalize (s.extract 1 s.size).extract 1 (s.extract 1 s.size).size = t2 at e2 hy hl2
      have e3 : t2.extract 0 t2.size = bs (s.data.toList.drop 2) := by
        rw [ext_front, blen, List.take_length, hl2]
      have e4 := rawS_ok (s := t2) (n := t2.size) (Nat.le_refl _)
      rw [e3] at e4
      have e5 : ((s.data.toList.drop 1).getD 0 0).toNat = (s.data.toList.getD 1 0).toNat := by simp [List.getD_eq_getElem?_getD]
      rw [e5] at e2
      exact ⟨s.extract 1 s.size, 0, t2, 0, _, 0, e1, e2, e4, .inl rfl, .inl rfl, by omega, by omega⟩
    · have e2 := numS_none (s.extract 1 s.size) 1 (by omega) (by omega) (by omega)
      have hl : s.data.toList.length = 1 := by rw [← blen]; omega
      refine ⟨s.extract 1 s.size, 0, ByteArray.empty, 20, ByteArray.empty, 20, e1, ?_, ?_, .inl rfl, .inr rfl, by omega, Nat.zero_le _⟩
      · rw [show ((1 : Int)) = ((1 : Nat) : Int) from rfl, e2, List.getD_eq_getElem?_getD, List.getElem?_eq_none (by omega)]; rfl
      · rw [rawS_failed (by omega), List.drop_of_length_le (by omega)]; rfl
  · have e1 := numS_none s 1 (by omega) (by omega) (by omega)
    have hl : s.data.toList = [] := by rw [← List.length_eq_zero_iff, ← blen]; omega
    refine ⟨ByteArray.empty, 20, ByteArray.empty, 20, ByteArray.empty, 20, ?_, ?_, ?_, .inr rfl, .inr rfl, Nat.zero_le _, Nat.zero_le _⟩
    · rw [show ((1 : Int)) = ((1 : Nat) : Int) from rfl, e1, hl]; rfl
    · rw [numS_failed (by omega), hl]; rfl
    · rw [rawS_failed (by omega), hl]; rfl
/-- Eight bytes and one. -/
theorem read9 (s : ByteArray) : ∃ t1 y1 t2 y2, numS s 0 8 = (t1, y1, riseN false s.data.toList) ∧ numS t1 y1 1 = (t2, y2, partN s.data.toList) ∧ RWf t1 y1 ∧ t1.size ≤ s.size := by
  by_cases h1 : 8 ≤ s.size
  · have hl : s.data.toList.length = s.size := (blen s).symm
    have e1 := numS_many s 8 (by omega) (by omega) h1
    have hr : riseN false s.data.toList = ofL (s.data.toList.take 8) := by unfold riseN; rw [if_neg (by simp), if_pos (by omega)]
    have hx : (s.extract 8 s.size).size = s.size - 8 := by rw [ext_size]; omega
    have hd : (s.extract 8 s.size).data.toList = s.data.toList.drop 8 := by rw [ext_toList, List.take_of_length_le (by simp)]
    by_cases h2 : 8 < s.size
    · have e2 := numS_one (s.extract 8 s.size) (by omega)
      refine ⟨s.extract 8 s.size, 0, (s.extract 8 s.size).extract 1 (s.extract 8 s.size).size, 0, ?_, ?_, .inl rfl, by omega⟩
      · rw [hr]; exact e1
      · rw [e2, hd]; unfold partN; congr 3; simp
    · have e2 := numS_none (s.extract 8 s.size) 1 (by omega) (by omega) (by omega)
      refine ⟨s.extract 8 s.size, 0, ByteArray.empty, 20, ?_, ?_, .inl rfl, by omega⟩
      · rw [hr]; exact e1
      · rw [show ((1 : Int)) = ((1 : Nat) : Int) from rfl, e2]; unfold partN; rw [List.getD_eq_getElem?_getD, List.getElem?_eq_none (by omega)]; rfl
  · have hl : s.data.toList.length = s.size := (blen s).symm
    have e1 := numS_none s 8 (by omega) (by omega) (by omega)
    have hr : riseN false s.data.toList = 0 := by unfold riseN; rw [if_neg (by simp), if_neg (by omega)]
    have hp : partN s.data.toList = 0 := by unfold partN; rw [List.getD_eq_getElem?_getD, List.getElem?_eq_none (by omega)]; rfl
    refine ⟨ByteArray.empty, 20, ByteArray.empty, 20, ?_, ?_, .inr rfl, Nat.zero_le _⟩
    · rw [hr]; exact e1
    · rw [hp, numS_failed (by omega)]
theorem ofFall_any (s : ByteArray) (w : World) : Calls Try.prog 97 #[.string s] w fun e w' => (∃ y, e = numErr (fallN true s.data.toList) y) ∧ w = w' := by
  by_cases h : s.size = 8
  · have hl : s.data.toList.length = 8 := by rw [← blen]; exact h
    have hr : fallN true s.data.toList = 18446744073709551615 - ofL s.data.toList := by unfold fallN; rw [if_pos rfl, if_pos hl]
    have h8 := ofL_lt s.data.toList
    rw [hl] at h8
    rw [hr]
    exact (ofFall_ok s _ (18446744073709551615 - ofL s.data.toList) w h rfl (by simp at h8; omega)).mono fun e w' h => ⟨⟨_, h.1⟩, h.2⟩
  · have hr : fallN true s.data.toList = 0 := by unfold fallN; rw [if_pos rfl, if_neg (by rw [← blen]; exact h)]
    rw [hr]
    exact (ofFall_no s w h).mono fun e w' h => ⟨⟨_, h.1⟩, h.2⟩
theorem ofRise_any (s : ByteArray) (w : World) : Calls Try.prog 98 #[.string s] w fun e w' => (∃ y, e = numErr (riseN true s.data.toList) y) ∧ w = w' := by
  by_cases h : s.size = 8
  · have hl : s.data.toList.length = 8 := by rw [← blen]; exact h
    have hr : riseN true s.data.toList = ofL s.data.toList := by unfold riseN; rw [if_pos rfl, if_pos hl]
    rw [hr]
    exact (ofRise_ok s w h).mono fun e w' h => ⟨⟨_, h.1⟩, h.2⟩
  · have hr : riseN true s.data.toList = 0 := by unfold riseN; rw [if_pos rfl, if_neg (by rw [← blen]; exact h)]
    rw [hr]
    exact (ofRise_no s w h).mono fun e w' h => ⟨⟨_, h.1⟩, h.2⟩
end Go.Proofs.Yteekjndhehnpaaa
