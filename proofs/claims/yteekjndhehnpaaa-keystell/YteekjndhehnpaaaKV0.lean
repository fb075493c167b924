/- Keys: plain facts. -/
import Derived.Test.YteekjndhehnpaaaKO
import Derived.Test.YteekjndhehnpaaaOpen
namespace Go.Proofs.Yteekjndhehnpaaa
open Go.RowKit
set_option maxRecDepth 100000
set_option linter.unusedVariables false
theorem argE_zero {b : Bool} (h : argE b = 0) : b = true := by cases b; cases h; rfl
theorem enc_inj {a b : K} (ha : okK a = true) (hb : okK b = true) (hu : a.num < 18446744073709551616) (hv : b.num < 18446744073709551616) (h : encL a = encL b) : a = b := by
  rw [← parse_enc true a ha hu, h, parse_enc true b hb hv]
theorem good_enc (w : Bool) {k : K} (h : okK k = true) (hu : k.num < 18446744073709551616) : goodL w (encL k) = true := by
  unfold goodL; rw [parse_enc w k h hu, h]; simp
theorem makeS_ok {k : K} (h : okK k = true) : makeS k = bs (encL k) := by unfold makeS; rw [if_pos h]
theorem openE_zero {l : List UInt8} (h : openE l = 0) : goodL true l = true := by
  unfold openE at h
  cases hg : goodL true l with
  | true => rfl
  | false => rw [hg] at h; simp at h
theorem enc_size {k : K} (h : okK k = true) : (encL k).length ≤ 64 := by
  obtain ⟨kind, t, b, n, u, p⟩ := k
  unfold okK at h
  simp only [Bool.and_eq_true, decide_eq_true_eq] at h
  obtain ⟨⟨hk, ht⟩, h⟩ := h
  by_cases h1 : kind = 1
  · subst h1; simp [encL, begL]
  · rw [if_neg h1, Bool.and_eq_true] at h
    have hb := (bucketB_noZ h.1).2.2
    have hb' : b.data.toList.length ≤ 12 := by rw [← blen]; exact hb
    have hl8 : ∀ m, (numL 8 m).length = 8 := numL_length 8
    have hl1 : ∀ m, (numL 1 m).length = 1 := numL_length 1
    by_cases h3 : kind = 3
    · rw [if_pos h3, Bool.and_eq_true] at h
      have hn := (nameB_noZ h.2.1).2.2
      have hn' : n.data.toList.length ≤ 24 := by rw [← blen]; exact hn
      subst h3
      have e : encL ⟨3, t, b, n, u, p⟩ = chainL t b n ++ numL 8 (18446744073709551615 - u) := by simp [encL]
      rw [e]
      simp [chainL, allL, begL, hl8]
      omega
    · have : kind = 2 ∨ kind = 4 ∨ kind = 5 := by omega
      rcases this with rfl | rfl | rfl <;> simp [encL, piecesL, allL, begL, hl8, hl1] <;> simp at hb' <;> omega
end Go.Proofs.Yteekjndhehnpaaa
