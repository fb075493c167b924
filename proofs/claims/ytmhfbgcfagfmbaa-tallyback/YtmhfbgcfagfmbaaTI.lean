/- Plain facts for TallyBack: sums of reversed and of cut lists; adding, then subtracting. -/
import Derived.Test.YtmhfbgcfagfmbaaTG
namespace Go.Proofs.Ytmhfbgcfagfmbaa
open Go.RowKit

theorem sum_reverse (l : List Int) : l.reverse.sum = l.sum := by
  induction l with
  | nil => rfl
  | cons x r ih => rw [List.reverse_cons, List.sum_append, ih]; simp; omega
theorem all_reverse' (l : List Int) : l.reverse.all inRB = l.all inRB := by
  rw [Bool.eq_iff_iff]; simp [List.all_eq_true]
theorem sumF_reverse (l : List Int) : sumF l.reverse = sumF l := by unfold sumF; rw [sum_reverse, all_reverse']

theorem sumF_err (l : List Int) : (sumF l).2 = 0 ↔ l.all inRB = true ∧ l.sum ≤ 1125899906842624 := by
  unfold sumF
  by_cases h : l.all inRB = true
  · rw [if_pos h]
    by_cases h2 : l.sum ≤ 1125899906842624
    · simp [h, h2]
    · simp [h, h2]
  · simp [h]
theorem sumF_ok {l : List Int} (h : (sumF l).2 = 0) : sumF l = (l.sum, 0) := by
  obtain ⟨h1, h2⟩ := (sumF_err l).1 h
  unfold sumF; rw [if_pos h1, if_pos h2]
theorem sumF_parts {l : List Int} (k : Nat) (h : (sumF l).2 = 0) : (sumF (l.take k)).2 = 0 ∧ (sumF (l.drop k)).2 = 0 := by
  obtain ⟨h1, h2⟩ := (sumF_err l).1 h
  have e : l.sum = (l.take k).sum + (l.drop k).sum := by rw [← List.sum_append, List.take_append_drop]
  have n1 := sum_nonneg _ (all_take h1 k)
  have n2 := sum_nonneg _ (all_drop h1 k)
  exact ⟨(sumF_err _).2 ⟨all_take h1 k, by omega⟩, (sumF_err _).2 ⟨all_drop h1 k, by omega⟩⟩
theorem sumF_join {l : List Int} (k : Nat) (h1 : (sumF (l.take k)).2 = 0) (h2 : (sumF (l.drop k)).2 = 0) : addF (sumF (l.take k)).1 (sumF (l.drop k)).1 = sumF l := by
  obtain ⟨a1, a2⟩ := (sumF_err _).1 h1
  obtain ⟨b1, b2⟩ := (sumF_err _).1 h2
  rw [sumF_ok h1, sumF_ok h2]
  have e : l.sum = (l.take k).sum + (l.drop k).sum := by rw [← List.sum_append, List.take_append_drop]
  have n1 := sum_nonneg _ a1
  have n2 := sum_nonneg _ b1
  have hall : l.all inRB = true := by
    rw [← List.take_append_drop k l, List.all_append, a1, b1]; rfl
  have i1 : inRB (l.take k).sum = true := inRB_true.2 ⟨n1, a2⟩
  have i2 : inRB (l.drop k).sum = true := inRB_true.2 ⟨n2, b2⟩
  unfold sumF
  rw [if_pos hall]
  by_cases hs : l.sum ≤ 1125899906842624
  · rw [if_pos hs, e]; exact addF_le i1 i2 (by omega)
  · rw [if_neg hs]; exact addF_gt i1 i2 (by omega)

theorem plus_minus {a b c d p q : Int} (h : totF [(a, b), (c, d)] = ((p, q), 0)) : minusF p q c d = ((a, b), 0) := by
  by_cases h1 : okB a b = true
  · by_cases h2 : okB c d = true
    · rw [totF_two h1 h2] at h
      simp only [okB, Bool.and_eq_true, inRB_true] at h1 h2
      split at h
      · simp at h
      · rename_i hn
        simp only [Prod.mk.injEq, and_true] at h
        obtain ⟨rfl, rfl⟩ := h
        have k1 : okB (a + c) (b + d) = true := by simp only [okB, Bool.and_eq_true, inRB_true]; omega
        have k2 : okB c d = true := by simp only [okB, Bool.and_eq_true, inRB_true]; omega
        have k3 : okB a b = true := by simp only [okB, Bool.and_eq_true, inRB_true]; omega
        rw [minusF, if_pos (by simp [k1, k2]), show a + c - c = a by omega, show b + d - d = b by omega, resF, if_pos k3]
    · exfalso
      rw [Bool.not_eq_true] at h2
      have : [(a, b), (c, d)].all okC = false := by simp [okC, h2]
      simp [totF, this] at h
  · exfalso
    rw [Bool.not_eq_true] at h1
    have : [(a, b), (c, d)].all okC = false := by simp [okC, h1]
    simp [totF, this] at h
end Go.Proofs.Ytmhfbgcfagfmbaa
