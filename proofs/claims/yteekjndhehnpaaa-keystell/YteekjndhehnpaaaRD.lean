/- Contracts: the reference's Open. -/
import Derived.Deep.Cut
import Derived.Test.YteekjndhehnpaaaRB
import Derived.Test.YteekjndhehnpaaaRC
import Derived.Test.YteekjndhehnpaaaKY
namespace Go.Proofs.Yteekjndhehnpaaa
open Go.RowKit
set_option maxRecDepth 100000
set_option linter.unusedVariables false
set_option linter.unusedSimpArgs false
set_option maxHeartbeats 8000000
/-- What Right answers is okK. -/
theorem rright_any (k : K) (hb : k.buc.size ≤ 1000) (hn : k.nam.size ≤ 1000) (w : World) : Calls Try.prog 17 #[kV k] w fun e w' => e = .returned (.bool (okK k)) ∧ Below w.heap.size w w' := by
  obtain ⟨kind, t, b, n, u, p⟩ := k
  simp only at hb hn
  unfold kV
  simp only
  by_cases far : kind < 1 ∨ 5 < kind ∨ t < 0 ∨ 7 < t
  · have e : okK ⟨kind, t, b, n, u, p⟩ = false := by
      unfold okK tenB
      rcases far with h | h | h | h
      · rw [decide_eq_false (show ¬ (1 ≤ kind ∧ kind ≤ 5) by omega)]; rfl
      · rw [decide_eq_false (show ¬ (1 ≤ kind ∧ kind ≤ 5) by omega)]; rfl
      · simp only; rw [decide_eq_false (show ¬ (0 ≤ t ∧ t < 8) by omega)]; simp
      · simp only; rw [decide_eq_false (show ¬ (0 ≤ t ∧ t < 8) by omega)]; simp
    rw [e]
    exact rright_far kind t b n u p w far
  · have ht : tenB t = true := by unfold tenB; exact decide_eq_true (by omega)
    have hk : decide (1 ≤ kind ∧ kind ≤ 5) = true := decide_eq_true (by omega)
    have h1 : ¬ t < 0 := by omega
    have h2 : ¬ 7 < t := by omega
    have en : ∀ s : ByteArray, (s.toList == ([] : List UInt8)) = decide (s = ByteArray.empty) := fun s => by
      have := str_beq s ByteArray.empty
      rw [ByteArray.toList_eq ByteArray.empty] at this
      exact this
    have ep : (p == 0) = decide (p = 0) := by rw [Bool.eq_iff_iff]; simp
    have eu : ((u : Int) == 0) = decide (u = 0) := by rw [Bool.eq_iff_iff]; simp
    have hbs : b.size ≤ 9223372036854775806 := by omega
    have hns : n.size ≤ 9223372036854775806 := by omega
    by_cases k1 : kind = 1
    · subst k1
      refine (rright1 t b n u p w h1 h2 _ (fun w => eql24 ⟨1, t, b, n, u, p⟩ ⟨1, t, ⟨#[]⟩, ⟨#[]⟩, 0, 0⟩ w)).mono ?_
      rintro e w' ⟨rfl, h⟩
      refine ⟨?_, h⟩
      congr 2
      unfold okK
      simp only [ht, hk, Bool.true_and, if_true]
      rw [decide_eq_decide, K.mk.injEq]
      simp [empty_eq]
    · cases hbk : bucketB b with
      | false =>
        have e : okK ⟨kind, t, b, n, u, p⟩ = false := by unfold okK; simp only [ht, hk, Bool.true_and, if_neg k1, hbk, Bool.false_and]
        rw [e]
        exact rright_no kind t b n u p w (by omega) (by omega) (by simpa using k1) h1 h2 (Lib.hid (fun w => by have := rbucket_any b w hbs; rw [hbk] at this; exact this))
      | true =>
        have HB := Lib.hid (fun w => by have := rbucket_any b w hbs; rw [hbk] at this; exact this)
        by_cases k3 : kind = 3
        · subst k3
          refine (rright3 t b n u p w h1 h2 HB _ (Lib.hid (rkey_any n hns)) _ rfl).mono ?_
          rintro e w' ⟨rfl, h⟩
          refine ⟨?_, h⟩
          congr 2
          unfold okK nameB
          simp only [ht, hk, Bool.true_and, if_neg k1, hbk, if_true, ep]
        · by_cases k5 : kind = 5
          · subst k5
            refine (rright5 t b n u p w h1 h2 HB _ rfl).mono ?_
            rintro e w' ⟨rfl, h⟩
            refine ⟨?_, h⟩
            congr 2
            unfold okK
            simp only [ht, hk, Bool.true_and, if_neg k1, if_neg k3, hbk, if_true, en]
          · refine (rright24 kind t b n u p w (by omega) h1 h2 HB _ rfl _ rfl _ rfl).mono ?_
            rintro e w' ⟨rfl, h⟩
            refine ⟨?_, h⟩
            congr 2
            unfold okK
            simp only [ht, hk, Bool.true_and, if_neg k1, if_neg k3, if_neg k5, hbk, en, ep, eu]
            rw [← Bool.decide_or, ← Bool.decide_and, ← Bool.decide_and]
theorem rnum_le (k n : Nat) : (bs (numL k n)).size ≤ k := by rw [bs_size, numL_length]; omega
theorem rmake_any (k : K) (hb : k.buc.size ≤ 1000) (hn : k.nam.size ≤ 1000) (hu : k.num < 18446744073709551616) (w : World) : Calls Try.prog 13 #[kV k] w fun e w' => e = strErr (makeS k) (argE (okK k)) ∧ Below w.heap.size w w' := by
  have HR := Lib.hid (rright_any k hb hn)
  unfold makeS
  cases hok : okK k with
  | false =>
    rw [hok] at HR
    obtain ⟨kind, t, b, n, u, p⟩ := k
    exact rmake_bad kind t b n u p w HR
  | true =>
    rw [hok] at HR
    have hk := ok_kindB hok
    obtain ⟨R, e, ht, -, -, -, hkb⟩ := enc_head hok
    obtain ⟨kind, t, b, n, u, p⟩ := k
    simp only at hk ht hkb hu hb hn
    have ht2 : 0 ≤ t ∧ t < 8 := by unfold tenB at ht; exact of_decide_eq_true ht
    obtain ⟨m, rfl⟩ := Int.eq_ofNat_of_zero_le ht2.1
    have hm : m < 8 := by omega
    have H1 := Lib.hid (fun w => rnum_ok 1 m w (by omega) (by omega) (by omega))
    have H8 := Lib.hid (fun w => rnum_ok 8 u w (by omega) (by omega) hu)
    have hb12 : kind ≠ 1 → b.size ≤ 12 := fun h => (bucketB_noZ (hkb h)).2.2
    have hb0 : kind = 1 → b = ByteArray.empty := fun h => by unfold okK at hok; simp [h] at hok; exact hok.2.1
    have hb13 : b.size ≤ 12 := by
      by_cases h : kind = 1
      · rw [hb0 h]; exact Nat.zero_le _
      · exact hb12 h
    have en : m % 256 = m := Nat.mod_eq_of_lt (by omega)
    have : kind = 1 ∨ kind = 2 ∨ kind = 3 ∨ kind = 4 ∨ kind = 5 := by omega
    rcases this with rfl | rfl | rfl | rfl | rfl
    · refine (rmake1 m b n u p (bs (numL 1 m)) ⟨#[]⟩ ⟨#[]⟩ hm (rnum_le 1 m) hb13 H1 HR w).mono ?_
      rintro e w' ⟨rfl, h⟩
      refine ⟨?_, h⟩
      congr 1
      rw [hb0 rfl, if_pos rfl]
      exact ba_ext (by simp [toList_append, bs_toList, encL, begL, letter, num1, en])
    · refine (rmake2 m b n u p (bs (numL 1 m)) ⟨#[]⟩ ⟨#[]⟩ hm (rnum_le 1 m) hb13 H1 HR w).mono ?_
      rintro e w' ⟨rfl, h⟩
      refine ⟨?_, h⟩
      congr 1
      rw [if_pos rfl]
      exact ba_ext (by simp [toList_append, bs_toList, encL, begL, letter, num1, en])
    · have hnm := (nameB_noZ (ok_nameB hok rfl)).2.2
      refine (rmake3 m b n u p (bs (numL 1 m)) (bs (numL 8 (18446744073709551615 - u))) ⟨#[]⟩ hm (rnum_le 1 m) hb13 H1 (18446744073709551615 - u) (by rw [IntKind.wrap_u64]; omega) (Lib.hid (fun w => rnum_ok 8 (18446744073709551615 - u) w (by omega) (by omega) (by omega))) (rnum_le 8 _) hnm HR w).mono ?_
      rintro e w' ⟨rfl, h⟩
      refine ⟨?_, h⟩
      congr 1
      rw [if_pos rfl]
      exact ba_ext (by simp [toList_append, bs_toList, encL, chainL, allL, begL, letter, num1, en])
    · refine (rmake4 m b n u p (bs (numL 1 m)) (bs (numL 8 u)) ⟨#[]⟩ hm (rnum_le 1 m) hb13 H1 H8 (rnum_le 8 _) HR w).mono ?_
      rintro e w' ⟨rfl, h⟩
      refine ⟨?_, h⟩
      congr 1
      rw [if_pos rfl]
      exact ba_ext (by simp [toList_append, bs_toList, encL, allL, begL, letter, num1, en])
    · have hpp := ok_partB hok rfl
      simp only at hpp
      obtain ⟨q, rfl⟩ := Int.eq_ofNat_of_zero_le (show 0 ≤ p by omega)
      refine (rmake5 m b n u q (bs (numL 1 m)) (bs (numL 8 u)) (bs (numL 1 q)) hm (rnum_le 1 m) hb13 H1 H8 (rnum_le 8 _) (by omega) (Lib.hid (fun w => rnum_ok 1 q w (by omega) (by omega) (by omega))) (rnum_le 1 _) HR w).mono ?_
      rintro e w' ⟨rfl, h⟩
      refine ⟨?_, h⟩
      congr 1
      rw [if_pos rfl]
      exact ba_ext (by simp [toList_append, bs_toList, encL, piecesL, allL, begL, letter, num1, en, show q % 256 = q from Nat.mod_eq_of_lt (by omega)])
end Go.Proofs.Yteekjndhehnpaaa
