/- Rows of writes, in plain words. -/
import Derived.Test.YtbhebkjadgajeaaJA
namespace Go.Proofs.Ytbhebkjadgajeaa
/-- Writes from a sector on. -/
def wrL : Nat → List ByteArray → List (Int × ByteArray)
  | _, [] => []
  | i, b :: r => ((i : Int), b) :: wrL (i + 1) r
theorem wrL_length : ∀ (i : Nat) (B : List ByteArray), (wrL i B).length = B.length
  | _, [] => rfl
  | i, b :: r => by simp [wrL, wrL_length (i + 1) r]
theorem wrL_append : ∀ (i : Nat) (A B : List ByteArray), wrL i (A ++ B) = wrL i A ++ wrL (i + A.length) B
  | i, [], B => by simp [wrL]
  | i, a :: r, B => by
    simp only [List.cons_append, wrL, wrL_append (i + 1) r B, List.length_cons]
    congr 3
    omega
theorem wrL_get : ∀ (i : Nat) (B : List ByteArray) (j : Nat) (hj : j < (wrL i B).length), (wrL i B)[j] = (((i + j : Nat) : Int), B[j]'(by rw [wrL_length] at hj; exact hj))
  | _, [], j, hj => by simp [wrL] at hj
  | i, b :: r, 0, hj => by simp [wrL]
  | i, b :: r, j + 1, hj => by
    simp only [wrL, List.getElem_cons_succ]
    rw [wrL_get (i + 1) r j]
    congr 2
    omega
theorem readT_append (S : List ByteArray) (P Q : List (Int × ByteArray)) (i : Nat) : readT S (P ++ Q) i = Q.foldl (fun s x => if x.1 = (i : Int) then x.2 else s) (readT S P i) := by
  unfold readT; rw [List.foldl_append]
theorem fold_wrL (q : Nat) : ∀ (i : Nat) (B : List ByteArray) (s : ByteArray), (wrL i B).foldl (fun s x => if x.1 = (q : Int) then x.2 else s) s = if h : i ≤ q ∧ q - i < B.length then B[q - i]'h.2 else s
  | i, [], s => by simp [wrL]
  | i, b :: r, s => by
    simp only [wrL, List.foldl_cons]
    rw [fold_wrL q (i + 1) r]
    by_cases h1 : i = q
    · subst h1
      rw [dif_neg (by omega), dif_pos (by simp)]
      simp
    · by_cases h2 : i + 1 ≤ q ∧ q - (i + 1) < r.length
      · rw [dif_pos h2, dif_pos (by simp; omega)]
        have : q - i = (q - (i + 1)) + 1 := by omega
        simp only [this, List.getElem_cons_succ]
      · rw [dif_neg h2, if_neg (by omega), dif_neg (by simp; omega)]
theorem readT_wrL (S : List ByteArray) (P : List (Int × ByteArray)) (i : Nat) (B : List ByteArray) (q : Nat) : readT S (P ++ wrL i B) q = if h : i ≤ q ∧ q - i < B.length then B[q - i]'h.2 else readT S P q := by
  rw [readT_append, fold_wrL]
/-- A row of writes: some are made, and then the disk is down; or all are. -/
theorem wrsF_form (n : Nat) : ∀ (B : List ByteArray) (i : Nat) (P : List (Int × ByteArray)) (f : Int) (d : Bool) (o : Int), i + B.length ≤ n → (∀ b ∈ B, b.size = 512) →
    ∃ k f' d' o' y, k ≤ B.length ∧ wrsF n B i (P, f, d, o) = (y, P ++ wrL i (B.take k), f', d', o') ∧ (y = 0 ∧ k = B.length ∨ y = 17 ∧ k < B.length ∧ d' = true)
  | [], i, P, f, d, o, _, _ => ⟨0, f, d, o, 0, Nat.le_refl _, by simp [wrsF, wrL], .inl ⟨rfl, rfl⟩⟩
  | b :: r, i, P, f, d, o, hi, hb => by
    have hbs := hb b (List.mem_cons_self ..)
    have hnot : ¬ ((i : Int) < 0 ∨ (n : Int) ≤ (i : Int) ∨ b.size ≠ 512) := by simp only [List.length_cons] at hi; omega
    simp only [wrsF]
    rcases opF_cases f d o with ⟨f1, d1, o1, hop⟩ | ⟨f1, d1, o1, hop⟩
    · have hw : wrF n P f d o (i : Int) b = (0, P ++ [((i : Int), b)], f1, d1, o1) := by
        unfold wrF; rw [if_neg hnot, hop]; simp
      rw [hw]
      simp only [if_true]
      obtain ⟨k, f', d', o', y, hk, he, hy⟩ := wrsF_form n r (i + 1) (P ++ [((i : Int), b)]) f1 d1 o1 (by simp only [List.length_cons] at hi; omega) (fun x hx => hb x (List.mem_cons_of_mem _ hx))
      refine ⟨k + 1, f', d', o', y, by simpa using hk, ?_, ?_⟩
      · rw [he, List.take_succ_cons, wrL, List.append_assoc]; rfl
      · rcases hy with ⟨h1, h2⟩ | ⟨h1, h2, h3⟩
        · exact .inl ⟨h1, by simp [h2]⟩
        · exact .inr ⟨h1, by simpa using h2, h3⟩
    · have hw : wrF n P f d o (i : Int) b = (17, P, f1, d1, o1) := by
        unfold wrF; rw [if_neg hnot, hop]; simp
      have hd : d1 = true := by
        unfold opF at hop
        split at hop
        · simp only [Prod.mk.injEq] at hop; exact hop.2.2.1.symm
        · split at hop
          · simp only [Prod.mk.injEq] at hop; exact hop.2.2.1.symm
          · split at hop <;> simp at hop
      rw [hw]
      refine ⟨0, f1, d1, o1, 17, Nat.zero_le _, by simp [wrL], .inr ⟨rfl, by simp, hd⟩⟩
theorem wrsF_ok (n : Nat) : ∀ (B : List ByteArray) (i : Nat) (P : List (Int × ByteArray)) (o : Int), i + B.length ≤ n → (∀ b ∈ B, b.size = 512) → wrsF n B i (P, 0, false, o) = (0, P ++ wrL i B, 0, false, o + B.length)
  | [], i, P, o, _, _ => by simp [wrsF, wrL]
  | b :: r, i, P, o, hi, hb => by
    have hbs := hb b (List.mem_cons_self ..)
    have hnot : ¬ ((i : Int) < 0 ∨ (n : Int) ≤ (i : Int) ∨ b.size ≠ 512) := by simp only [List.length_cons] at hi; omega
    have hw : wrF n P 0 false o (i : Int) b = (0, P ++ [((i : Int), b)], 0, false, o + 1) := by
      unfold wrF; rw [if_neg hnot]; simp [opF]
    simp only [wrsF, hw, if_true]
    rw [wrsF_ok n r (i + 1) _ _ (by simp only [List.length_cons] at hi; omega) (fun x hx => hb x (List.mem_cons_of_mem _ hx))]
    simp only [wrL, List.append_assoc, List.length_cons, List.cons_append, List.nil_append]
    congr 4
    omega
theorem bytes_size {s : Sct} (h : s.ok) : s.bytes.size = 512 := by
  unfold Sct.bytes
  rw [sealB_size, h.1.2.2.2.2.2.2]
theorem z480_size : z480.size = 480 := rep_size 480 0
/-- Nothing stands in a blank sector. -/
theorem openT_blank : openT z512 = zeroS := openT_none fun s hs => by
  have h1 := hs.1.1.1
  have h2 := hs.1.1.2.1
  exact seal_not_blank s.k s.e s.n s.a s.m s.p (by omega) (by omega) hs.2.symm
theorem openT_bytes {X : List Sct} (h : ∀ s ∈ X, s.ok) {i : Nat} (hi : i < X.length) : openT X[i].bytes = X[i] := openT_seal (h _ (List.getElem_mem hi))
end Go.Proofs.Ytbhebkjadgajeaa
