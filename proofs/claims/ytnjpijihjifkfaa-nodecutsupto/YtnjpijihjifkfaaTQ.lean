/- Plain: what NodeBack asks of a leaf that an item was put to. -/
import Derived.Test.YtnjpijihjifkfaaTP
namespace Go.Proofs.Ytnjpijihjifkfaa
open Go.RowKit
set_option linter.unusedVariables false
theorem back_math {I P : List It} {p q : ByteArray} (hR : RightP I []) (hR1 : RightP [(p, q)] []) (hS : Short I) (hS1 : Short [(p, q)]) (hP : putL I (p, q) = P) :
    P.all (okIt true) = true ∧ RiseTo P P.length ∧ bytesN true P ≤ 608 ∧ I.length ≤ P.length ∧ P.length ≤ I.length + 1 ∧ 1 ≤ P.length ∧ hasN P p = true ∧ Short P ∧ sizeN true P ≤ sizeN true I + sizeN true [(p, q)] ∧ (P.length < 2 → P = [(p, q)]) := by
  subst hP
  obtain ⟨hI0, hok, hri, hby⟩ := leaf_parts hR
  obtain ⟨-, hok1, -, hby1⟩ := leaf_parts hR1
  have hx : okIt true (p, q) = true := by simpa using hok1
  have hb := put_bytes (b := true) (x := (p, q)) hri
  have hw := wt_le hx
  have hl := put_len (x := (p, q)) hri
  have h1 : bytesN true [(p, q)] = wt true (p, q) := by simp [bytesN]
  refine ⟨put_ok hok hx, rise_put hri, by simp at hw; omega, by omega, by split at hl <;> omega, by omega, put_has I (p, q), ?_, by unfold sizeN; rw [h1]; simp; omega, ?_⟩
  · obtain ⟨A, B, he, hA, hB⟩ := put_sub I (p, q)
    rw [he]
    intro y hy
    simp only [List.mem_append, List.mem_singleton] at hy
    rcases hy with (hy | hy) | hy
    · exact hS y (hA.subset hy)
    · exact hS1 y (by simpa using hy)
    · exact hS y (hB.subset hy)
  · intro h2
    obtain ⟨A, B, he, hA, hB⟩ := put_sub I (p, q)
    rw [he] at h2 ⊢
    simp only [List.length_append, List.length_singleton] at h2
    have ha : A = [] := List.length_eq_zero_iff.1 (by omega)
    have hb : B = [] := List.length_eq_zero_iff.1 (by omega)
    rw [ha, hb]; rfl
theorem right_size {P : List It} (h1 : P.all (okIt true) = true) (h2 : RiseTo P P.length) (h3 : 1 ≤ P.length) : RightP P [] ↔ sizeN true P ≤ 480 := by
  constructor
  · intro h; have := (leaf_parts h).2.2.2; unfold sizeN; simp; omega
  · intro h; unfold sizeN at h; simp at h; exact leaf_of h3 h1 h2 (by omega)
theorem cut_math {P : List It} {x : Nat} (h1 : P.all (okIt true) = true) (h2 : RiseTo P P.length) (h3 : bytesN true P ≤ 608) (h4 : 2 ≤ P.length) (hx : halfN true P = x) :
    1 ≤ x ∧ x < P.length ∧ RightP (P.take x) [] ∧ RightP (P.drop x) [] ∧ (480 < sizeN true P → 100 ≤ sizeN true (P.take x) ∧ 100 ≤ sizeN true (P.drop x)) ∧ ltB (kq (P.take x) (x - 1)) (kq P x) = true ∧ kq (P.drop x) 0 = kq P x := by
  have hc := halfN_at true P
  rw [hx] at hc
  obtain ⟨r1, r2, r3⟩ := leaf_cut h1 h2 h3 h4 hc
  have hp := hc.pos h4
  have hle := hc.1
  refine ⟨hp, by omega, r1, r2, ?_, ?_, ?_⟩
  · intro h; unfold sizeN at h ⊢; simp at h ⊢; have := r3 (by omega); omega
  · have : kq (P.take x) (x - 1) = kq P (x - 1) := by unfold kq; rw [List.getD_eq_getElem?_getD, List.getD_eq_getElem?_getD, List.getElem?_take_of_lt (by omega)]
    rw [this]
    exact h2.lt (by omega) (by omega)
  · unfold kq; rw [List.getD_eq_getElem?_getD, List.getD_eq_getElem?_getD, List.getElem?_drop]; simp
end Go.Proofs.Ytnjpijihjifkfaa
