/- A node's bytes, and back: the plain mathematics. -/
import Derived.Test.YtnjpijihjifkfaaP3
import Derived.Test.YtnjpijihjifkfaaO5
namespace Go.Proofs.Ytnjpijihjifkfaa
/-- A short text, a kid, read. -/
def shortS (s : ByteArray) (e : Int) : ByteArray × Int × ByteArray := rawS (numS s e 1).1 (numS s e 1).2.1 ((numS s e 1).2.2 : Nat)
def rdLeaf : Nat → ByteArray → Int → List It
  | 0, _, _ => []
  | n + 1, s, e => ((shortS s e).2.2, (shortS (shortS s e).1 (shortS s e).2.1).2.2) :: rdLeaf n (shortS (shortS s e).1 (shortS s e).2.1).1 (shortS (shortS s e).1 (shortS s e).2.1).2.1
def rdBr : Nat → ByteArray → Int → List It × List Int
  | 0, _, _ => ([], [])
  | n + 1, s, e =>
    (((shortS s e).2.2, ByteArray.empty) :: (rdBr n (numS (shortS s e).1 (shortS s e).2.1 2).1 (numS (shortS s e).1 (shortS s e).2.1 2).2.1).1,
     ((numS (shortS s e).1 (shortS s e).2.1 2).2.2 : Int) :: (rdBr n (numS (shortS s e).1 (shortS s e).2.1 2).1 (numS (shortS s e).1 (shortS s e).2.1 2).2.1).2)
def readP (s : ByteArray) : List It × List Int :=
  if (numS s 0 1).2.2 = 1 then (rdLeaf (numS (numS s 0 1).1 (numS s 0 1).2.1 1).2.2 (numS (numS s 0 1).1 (numS s 0 1).2.1 1).1 (numS (numS s 0 1).1 (numS s 0 1).2.1 1).2.1, [])
  else if (numS s 0 1).2.2 = 2 then
    ((rdBr ((numS (numS s 0 1).1 (numS s 0 1).2.1 1).2.2 - 1) (numS (numS (numS s 0 1).1 (numS s 0 1).2.1 1).1 (numS (numS s 0 1).1 (numS s 0 1).2.1 1).2.1 2).1 (numS (numS (numS s 0 1).1 (numS s 0 1).2.1 1).1 (numS (numS s 0 1).1 (numS s 0 1).2.1 1).2.1 2).2.1).1,
     ((numS (numS (numS s 0 1).1 (numS s 0 1).2.1 1).1 (numS (numS s 0 1).1 (numS s 0 1).2.1 1).2.1 2).2.2 : Int) :: (rdBr ((numS (numS s 0 1).1 (numS s 0 1).2.1 1).2.2 - 1) (numS (numS (numS s 0 1).1 (numS s 0 1).2.1 1).1 (numS (numS s 0 1).1 (numS s 0 1).2.1 1).2.1 2).1 (numS (numS (numS s 0 1).1 (numS s 0 1).2.1 1).1 (numS (numS s 0 1).1 (numS s 0 1).2.1 1).2.1 2).2.1).2)
  else ([], [])
/-- What the reference reads. -/
def readR (s : ByteArray) : List It × List Int :=
  if (numS s 0 1).2.2 = 2 then (if (numS (numS s 0 1).1 (numS s 0 1).2.1 1).2.2 = 0 then ([], []) else readP s)
  else (rdLeaf (numS (numS s 0 1).1 (numS s 0 1).2.1 1).2.2 (numS (numS s 0 1).1 (numS s 0 1).2.1 1).1 (numS (numS s 0 1).1 (numS s 0 1).2.1 1).2.1, [])
/-- A node's bytes. -/
def itemL (x : It) : List UInt8 := numL 1 x.1.size ++ x.1.data.toList ++ numL 1 x.2.size ++ x.2.data.toList
def itemB (x : It) (z : Int) : List UInt8 := numL 1 x.1.size ++ x.1.data.toList ++ numL 2 z.toNat
def leafTo (I : List It) (k : Nat) : List UInt8 := (List.range k).flatMap fun i => itemL (I.getD i it0)
def brTo (I : List It) (K : List Int) (k : Nat) : List UInt8 := (List.range k).flatMap fun i => itemB (I.getD i it0) (K.getD (i + 1) 0)
def headL (I : List It) : List UInt8 := numL 1 1 ++ numL 1 I.length
def headB (K : List Int) : List UInt8 := numL 1 2 ++ numL 1 K.length ++ numL 2 (K.getD 0 0).toNat
def encT (I : List It) (K : List Int) : List UInt8 := if leafK K then headL I ++ leafTo I I.length else headB K ++ brTo I K I.length
def encF (I : List It) (K : List Int) : List UInt8 := encT I K ++ List.replicate (480 - (encT I K).length) 0
theorem leafTo_succ (I : List It) (k : Nat) : leafTo I (k + 1) = leafTo I k ++ itemL (I.getD k it0) := by unfold leafTo; rw [List.range_succ, List.flatMap_append]; simp
theorem brTo_succ (I : List It) (K : List Int) (k : Nat) : brTo I K (k + 1) = brTo I K k ++ itemB (I.getD k it0) (K.getD (k + 1) 0) := by unfold brTo; rw [List.range_succ, List.flatMap_append]; simp
theorem itemL_len (x : It) : (itemL x).length = wt true x := by
  unfold itemL wt; simp only [List.length_append, numL_length, if_true]
  rw [show x.1.data.toList.length = x.1.size from (Array.length_toList ..), show x.2.data.toList.length = x.2.size from (Array.length_toList ..)]; omega
theorem itemB_len (x : It) (z : Int) : (itemB x z).length = wt false x := by
  unfold itemB wt; simp only [List.length_append, numL_length]
  rw [show x.1.data.toList.length = x.1.size from (Array.length_toList ..)]; simp; omega
theorem leafTo_len (I : List It) (k : Nat) (h : k ≤ I.length) : (leafTo I k).length = bytesN true (I.take k) := by
  induction k with
  | zero => simp [leafTo, bytesN]
  | succ k ih => rw [leafTo_succ, List.length_append, ih (by omega), itemL_len, getD_at _ _ _ (show k < I.length by omega), bytesN_take_succ _ _ _ (by omega)]
theorem brTo_len (I : List It) (K : List Int) (k : Nat) (h : k ≤ I.length) : (brTo I K k).length = bytesN false (I.take k) := by
  induction k with
  | zero => simp [brTo, bytesN]
  | succ k ih => rw [brTo_succ, List.length_append, ih (by omega), itemB_len, getD_at _ _ _ (show k < I.length by omega), bytesN_take_succ _ _ _ (by omega)]
theorem encT_len (I : List It) (K : List Int) : (encT I K).length = sizeN (leafK K) I := by
  unfold encT sizeN headL headB
  split
  · rename_i h; simp only [List.length_append, numL_length, leafTo_len I _ (Nat.le_refl _), List.take_length, h]
  · rename_i h; simp only [List.length_append, numL_length, brTo_len I K _ (Nat.le_refl _), List.take_length]; simp [h]
/-- Reading ahead of the rest. -/
theorem bs_app (l m : List UInt8) : (bs (l ++ m)).extract 0 l.length = bs l ∧ (bs (l ++ m)).extract l.length (bs (l ++ m)).size = bs m := by
  constructor
  · apply ba_ext
    rw [ByteArray.data_extract]; simp [bs]
  · apply ba_ext
    rw [ByteArray.data_extract]; simp [bs, ByteArray.size]
theorem raw_app (l m : List UInt8) : rawS (bs (l ++ m)) 0 (l.length : Nat) = (bs m, 0, bs l) := by
  rw [rawS_ok (by rw [bs_size, List.length_append]; omega), (bs_app l m).1, (bs_app l m).2]
theorem num_app (k n : Nat) (m : List UInt8) (h1 : 1 ≤ k) (h2 : k ≤ 8) (hn : n < 256 ^ k) : numS (bs (numL k n ++ m)) 0 (k : Nat) = (bs m, 0, n) := by
  have h := raw_app (numL k n) m
  rw [numL_length] at h
  rw [numS_good (by omega) (by omega), h, bs_toList, ofL_num, Nat.mod_eq_of_lt hn]
theorem num1_app (n : Nat) (m : List UInt8) (hn : n < 256) : numS (bs (numL 1 n ++ m)) 0 1 = (bs m, 0, n) := num_app 1 n m (by omega) (by omega) (by omega)
theorem num2_app (n : Nat) (m : List UInt8) (hn : n < 65536) : numS (bs (numL 2 n ++ m)) 0 2 = (bs m, 0, n) := num_app 2 n m (by omega) (by omega) (by omega)
theorem short_app (x : ByteArray) (m : List UInt8) (h : x.size < 256) : shortS (bs (numL 1 x.size ++ (x.data.toList ++ m))) 0 = (bs m, 0, x) := by
  unfold shortS
  rw [num1_app _ _ h]
  have := raw_app x.data.toList m
  rw [show x.data.toList.length = x.size from (Array.length_toList ..)] at this
  rw [this, bs_of]
theorem rdLeaf_enc : ∀ (I : List It) (Z : List UInt8), I.all (okIt true) = true → rdLeaf I.length (bs (I.flatMap itemL ++ Z)) 0 = I
  | [], _, _ => rfl
  | x :: I, Z, h => by
    rw [List.all_cons, Bool.and_eq_true] at h
    have h1 := of_decide_eq_true h.1
    simp only [if_true] at h1
    have e : (x :: I).flatMap itemL ++ Z = numL 1 x.1.size ++ (x.1.data.toList ++ (numL 1 x.2.size ++ (x.2.data.toList ++ (I.flatMap itemL ++ Z)))) := by simp [itemL]
    rw [e, List.length_cons, rdLeaf, short_app _ _ (by omega), short_app _ _ (by omega), rdLeaf_enc I Z h.2]
theorem rdBr_enc : ∀ (I : List It) (K : List Int) (Z : List UInt8), I.length = K.length → I.all (okIt false) = true → K.all okKid = true → rdBr I.length (bs ((I.zip K).flatMap (fun p => itemB p.1 p.2) ++ Z)) 0 = (I, K)
  | [], [], _, _, _, _ => rfl
  | x :: I, z :: K, Z, hl, h, hk => by
    rw [List.all_cons, Bool.and_eq_true] at h hk
    have h1 := of_decide_eq_true h.1
    have h2 := of_decide_eq_true hk.1
    simp at h1
    have e : ((x :: I).zip (z :: K)).flatMap (fun p => itemB p.1 p.2) ++ Z = numL 1 x.1.size ++ (x.1.data.toList ++ (numL 2 z.toNat ++ ((I.zip K).flatMap (fun p => itemB p.1 p.2) ++ Z))) := by simp [itemB]
    rw [e, List.length_cons, rdBr, short_app _ _ (by omega), num2_app _ _ (by omega), rdBr_enc I K Z (by simpa using hl) h.2 hk.2]
    have hx : (x.1, ByteArray.empty) = x := by
      obtain ⟨a, b⟩ := x
      have hb : b = ByteArray.empty := h1.2.2
      subst hb; rfl
    have hz : ((z.toNat : Nat) : Int) = z := by omega
    simp only [hz]
    rw [hx]
theorem leafTo_flat (I : List It) : ∀ k, k ≤ I.length → leafTo I k = (I.take k).flatMap itemL
  | 0, _ => by simp [leafTo]
  | k + 1, h => by rw [leafTo_succ, leafTo_flat I k (by omega), List.take_succ_eq_append_getElem (show k < I.length by omega), List.flatMap_append, getD_at _ _ _ (show k < I.length by omega)]; simp
theorem brTo_flat (I : List It) (z : Int) (K : List Int) (hl : I.length = K.length) : ∀ k, k ≤ I.length → brTo I (z :: K) k = ((I.zip K).take k).flatMap fun p => itemB p.1 p.2
  | 0, _ => by simp [brTo]
  | k + 1, h => by
    rw [brTo_succ, brTo_flat I z K hl k (by omega), List.take_succ_eq_append_getElem (by rw [List.length_zip]; omega), List.flatMap_append, getD_at _ _ _ (show k < I.length by omega), List.getD_cons_succ, getD_at _ _ _ (show k < K.length by omega)]; simp
theorem right_small {I : List It} {K : List Int} (h : RightP I K) : I.length < 256 ∧ K.length < 256 := by
  obtain ⟨h1, _, _, h4⟩ := h
  have h5 := bytesN_pos (leafK K) I
  unfold sizeN at h4
  unfold numB at h1
  split at h1
  · rename_i h; unfold leafK at h; simp at h; subst h; simp; split at h4 <;> omega
  · have := of_decide_eq_true h1; split at h4 <;> omega
theorem readP_enc {I : List It} {K : List Int} (h : RightP I K) : readP (bs (encF I K)) = (I, K) := by
  have hs := right_small h
  obtain ⟨h1, ⟨h2, _⟩, h5, h4⟩ := h
  cases K with
  | nil =>
    have e : encF I [] = numL 1 1 ++ (numL 1 I.length ++ (I.flatMap itemL ++ List.replicate (480 - (encT I []).length) 0)) := by
      unfold encF
      have : encT I [] = headL I ++ leafTo I I.length := rfl
      rw [this, leafTo_flat I _ (Nat.le_refl _), List.take_length]; simp [headL]
    unfold readP
    rw [e, num1_app 1 _ (by omega)]
    simp only [if_true]
    rw [num1_app _ _ hs.1, rdLeaf_enc I _ h2]
  | cons z K =>
    have hl : I.length = K.length := by simp [numB, leafK] at h1; omega
    have h2' : I.all (okIt false) = true := h2
    rw [List.all_cons, Bool.and_eq_true] at h5
    have hz := of_decide_eq_true h5.1
    have e : encF I (z :: K) = numL 1 2 ++ (numL 1 (K.length + 1) ++ (numL 2 z.toNat ++ ((I.zip K).flatMap (fun p => itemB p.1 p.2) ++ List.replicate (480 - (encT I (z :: K)).length) 0))) := by
      unfold encF
      have : encT I (z :: K) = headB (z :: K) ++ brTo I (z :: K) I.length := rfl
      rw [this, brTo_flat I z K hl _ (Nat.le_refl _), List.take_of_length_le (by rw [List.length_zip]; omega)]; simp [headB]
    unfold readP
    rw [e, num1_app 2 _ (by omega)]
    simp only [show ¬ (2 = 1) by omega, if_false, if_true]
    rw [num1_app _ _ (by simpa using hs.2)]
    simp only
    rw [num2_app _ _ (by omega)]
    simp only
    rw [show K.length + 1 - 1 = I.length by omega, rdBr_enc I K _ hl h2' h5.2]
    simp only
    rw [show ((z.toNat : Nat) : Int) = z by omega]
/-- What Decode answers: the program's, the reference's. -/
def decQ (s : ByteArray) (q : List It × List Int) : (List It × List Int) × Int := if RightP q.1 q.2 ∧ encF q.1 q.2 = s.data.toList then (q, 0) else (([], []), 19)
theorem encF_kind (I : List It) (K : List Int) : ∃ m, encF I K = numL 1 (if leafK K then 1 else 2) ++ (numL 1 (if leafK K then I.length else K.length) ++ m) := by
  unfold encF
  generalize List.replicate (480 - (encT I K).length) (0 : UInt8) = Z
  unfold encT headL headB
  split
  · exact ⟨leafTo I I.length ++ Z, by simp [List.append_assoc]⟩
  · exact ⟨numL 2 (K.getD 0 0).toNat ++ brTo I K I.length ++ Z, by simp [List.append_assoc]⟩
theorem enc_starts {I : List It} {K : List Int} {s : ByteArray} (h : encF I K = s.data.toList) (hr : RightP I K) : (numS s 0 1).2.2 = (if leafK K then 1 else 2) ∧ (numS (numS s 0 1).1 (numS s 0 1).2.1 1).2.2 = if leafK K then I.length else K.length := by
  have hs := right_small hr
  obtain ⟨m, hm⟩ := encF_kind I K
  rw [h] at hm
  have hsb : s = bs (numL 1 (if leafK K then 1 else 2) ++ (numL 1 (if leafK K then I.length else K.length) ++ m)) := by rw [← hm, bs_of]
  have e1 := num1_app (if leafK K then 1 else 2) (numL 1 (if leafK K then I.length else K.length) ++ m) (by split <;> omega)
  have e2 := num1_app (if leafK K then I.length else K.length) m (by split <;> omega)
  rw [← hsb] at e1
  rw [e1]
  exact ⟨rfl, by rw [e2]⟩
theorem dec_same (s : ByteArray) : decQ s (readR s) = decQ s (readP s) := by
  have hn : ¬ RightP [] [] := by decide
  by_cases h2 : (numS s 0 1).2.2 = 2
  · by_cases h0 : (numS (numS s 0 1).1 (numS s 0 1).2.1 1).2.2 = 0
    · have e : readR s = ([], []) := by unfold readR; rw [if_pos h2, if_pos h0]
      rw [e]
      unfold decQ
      rw [if_neg (fun h => hn h.1), if_neg]
      rintro ⟨hr, he⟩
      have h3 := enc_starts he hr
      rw [h2, h0] at h3
      have h4 : (readP s).2 ≠ [] := by unfold readP; rw [if_neg (by omega), if_pos h2]; simp
      have h5 : leafK (readP s).2 = false := by unfold leafK; rw [beq_eq_false_iff_ne]; intro h; exact h4 (List.length_eq_zero_iff.1 h)
      rw [h5] at h3
      simp at h3
      exact h4 (List.length_eq_zero_iff.1 (by omega))
    · unfold readR; rw [if_pos h2, if_neg h0]
  · by_cases h1 : (numS s 0 1).2.2 = 1
    · have e : readR s = readP s := by unfold readR readP; rw [if_neg h2, if_pos h1]
      rw [e]
    · have e : readP s = ([], []) := by unfold readP; rw [if_neg h1, if_neg h2]
      have e2 : leafK (readR s).2 = true := by unfold readR; rw [if_neg h2]; rfl
      rw [e]
      unfold decQ
      rw [if_neg, if_neg (fun h => hn h.1)]
      rintro ⟨hr, he⟩
      have h3 := (enc_starts he hr).1
      rw [e2] at h3
      exact h1 h3
end Go.Proofs.Ytnjpijihjifkfaa
