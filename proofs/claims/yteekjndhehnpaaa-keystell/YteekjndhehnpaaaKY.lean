/- KeysBegin: begins; the plain facts. -/
import Derived.Test.YteekjndhehnpaaaKV0
import Derived.Test.YteekjndhehnpaaaKS
namespace Go.Proofs.Yteekjndhehnpaaa
open Go.RowKit
set_option maxRecDepth 100000
set_option linter.unusedVariables false
set_option maxHeartbeats 4000000
theorem ok_kindB {k : K} (h : okK k = true) : 1 ≤ k.kind ∧ k.kind ≤ 5 := by
  unfold okK at h; simp only [Bool.and_eq_true, decide_eq_true_eq] at h; exact h.1.1
theorem ok_partB {k : K} (h : okK k = true) (h5 : k.kind = 5) : 1 ≤ k.part ∧ k.part ≤ 16 := by
  unfold okK at h; simp only [Bool.and_eq_true, decide_eq_true_eq, h5] at h; simp at h; exact h.2.2.1
theorem ok_nameB {k : K} (h : okK k = true) (h3 : k.kind = 3) : nameB k.nam = true := by
  unfold okK at h; simp only [Bool.and_eq_true, decide_eq_true_eq, h3] at h; simp at h; exact h.2.2.1
/-- Does a text begin so? -/
def begB (s f : ByteArray) : Bool := decide (0 < f.size) && decide (f.data.toList <+: s.data.toList)
theorem beg_any (s f : ByteArray) (hs : s.size ≤ maxLen) (hf : f.size ≤ maxLen) (w : World) : Calls Try.prog 26 #[.string s, .string f] w fun e w' => e = .returned (.bool (begB s f)) ∧ w = w' := by
  replace hs : s.size ≤ 9223372036854775807 := hs
  replace hf : f.size ≤ 9223372036854775807 := hf
  by_cases h0 : 0 < f.size
  · have hne := ne_empty h0
    by_cases h1 : f.size ≤ s.size
    · have he : ((s.extract 0 f.size).toList == f.toList) = begB s f := by
        rw [str_beq]
        unfold begB
        rw [decide_eq_true h0, Bool.true_and, decide_eq_decide, ext_front, blen f, List.prefix_iff_eq_take]
        constructor
        · intro h
          have := congrArg (fun x => x.data.toList) h
          simpa [bs_toList] using this.symm
        · intro h
          rw [← h, bs_of]
      obtain ⟨q, hq⟩ : ∃ q, begB s f = q := ⟨_, rfl⟩
      rw [hq] at he ⊢
      clear hq
      go_enter Try.func26, Try.ntmps26
      go_wp2_with fail
      go_ret
      exact ⟨ret_bool (by simp), rfl⟩
    · have hb : Hid (begB s f = false) := Lib.hid (by
        unfold begB
        rw [decide_eq_false (show ¬ f.data.toList <+: s.data.toList from fun h => by have := h.length_le; rw [← blen, ← blen] at this; omega), Bool.and_false])
      go_enter Try.func26, Try.ntmps26
      go_wp2_with fail
      go_ret
      exact ⟨ret_bool (by rw [hb.out]), rfl⟩
  · have hb : Hid (begB s f = false) := Lib.hid (by unfold begB; rw [decide_eq_false h0, Bool.false_and])
    obtain rfl : f = ⟨#[]⟩ := by
      apply ByteArray.ext; exact Array.eq_empty_of_size_eq_zero (by have : f.data.size = f.size := rfl; omega)
    clear h0
    go_enter Try.func26, Try.ntmps26
    go_wp2_with fail
    go_ret
    exact ⟨ret_bool (by simp [hb.out]), rfl⟩
theorem begB_none (s : ByteArray) : begB s (bs []) = false := by unfold begB; rw [decide_eq_false (by decide), Bool.false_and]
theorem begB_bs (l m : List UInt8) (h : 0 < m.length) : begB (bs l) (bs m) = decide (m <+: l) := by unfold begB; rw [bs_size, bs_toList, bs_toList, decide_eq_true h, Bool.true_and]
theorem pre_nul (b c X : List UInt8) (hb : noZ b) (hc : noZ c) (Y : List UInt8) : (b ++ 0 :: Y) <+: (c ++ 0 :: X) ↔ b = c ∧ Y <+: X := by
  constructor
  · rintro ⟨t, ht⟩
    rw [List.append_assoc, List.cons_append] at ht
    have h1 := cut_app b (Y ++ t) hb
    rw [ht, cut_app c X hc] at h1
    injection h1 with h1 h2
    exact ⟨h1.symm, ⟨t, h2.symm⟩⟩
  · rintro ⟨rfl, t, rfl⟩
    exact ⟨t, by simp⟩
theorem pre_two (a b c d : UInt8) (x y : List UInt8) : (a :: b :: x) <+: (c :: d :: y) ↔ a = c ∧ b = d ∧ x <+: y := by
  rw [List.cons_prefix_cons, List.cons_prefix_cons]
theorem letter_inj {a b : Int} (h1 : 1 ≤ a) (h2 : a ≤ 5) (h3 : 1 ≤ b) (h4 : b ≤ 5) : letter a = letter b ↔ a = b := by
  constructor
  · intro h; rw [← kd_letter h1 h2, h, kd_letter h3 h4]
  · intro h; rw [h]
theorem ten_inj {a b : Int} (h1 : tenB a = true) (h2 : tenB b = true) : UInt8.ofNat a.toNat = UInt8.ofNat b.toNat ↔ a = b := by
  constructor
  · intro h; rw [← ten_byte h1, h, ten_byte h2]
  · intro h; rw [h]
/-- A right key's bytes, by what stands behind its tenant. -/
theorem enc_head {k : K} (h : okK k = true) : ∃ R, encL k = letter k.kind :: UInt8.ofNat k.ten.toNat :: R ∧ tenB k.ten = true ∧
    (k.kind = 3 → R = k.buc.data.toList ++ 0 :: (k.nam.data.toList ++ 0 :: numL 8 (18446744073709551615 - k.num))) ∧ (k.kind = 4 → R = k.buc.data.toList ++ 0 :: numL 8 k.num) ∧ (k.kind = 5 → R = k.buc.data.toList ++ 0 :: (numL 8 k.num ++ numL 1 k.part.toNat)) ∧ (k.kind ≠ 1 → bucketB k.buc = true) := by
  have hk := ok_kindB h
  obtain ⟨kind, t, b, n, u, p⟩ := k
  unfold okK at h
  simp only [Bool.and_eq_true, decide_eq_true_eq] at h
  obtain ⟨⟨_, ht⟩, h⟩ := h
  simp only at hk ht h
  have hb : kind ≠ 1 → bucketB b = true := fun h1 => by rw [if_neg h1, Bool.and_eq_true] at h; exact h.1
  have : kind = 1 ∨ kind = 2 ∨ kind = 3 ∨ kind = 4 ∨ kind = 5 := by omega
  rcases this with rfl | rfl | rfl | rfl | rfl
  · exact ⟨[], by simp [encL, begL], ht, (by intro h; cases h), (by intro h; cases h), (by intro h; cases h), hb⟩
  · exact ⟨b.data.toList, by simp [encL, begL], ht, (by intro h; cases h), (by intro h; cases h), (by intro h; cases h), hb⟩
  · exact ⟨b.data.toList ++ 0 :: (n.data.toList ++ 0 :: numL 8 (18446744073709551615 - u)), by simp [encL, chainL, allL, begL], ht, fun _ => rfl, (by intro h; cases h), (by intro h; cases h), hb⟩
  · exact ⟨b.data.toList ++ 0 :: numL 8 u, by simp [encL, allL, begL], ht, (by intro h; cases h), fun _ => rfl, (by intro h; cases h), hb⟩
  · exact ⟨b.data.toList ++ 0 :: (numL 8 u ++ numL 1 p.toNat), by simp [encL, piecesL, allL, begL], ht, (by intro h; cases h), (by intro h; cases h), fun _ => rfl, hb⟩
theorem beg1 {k : K} (h : okK k = true) (t : Int) : begB (makeS k) (bucketsS t) = decide (k.kind = 2 ∧ k.ten = t) := by
  obtain ⟨R, e, ht, -⟩ := enc_head h
  have hk := ok_kindB h
  rw [makeS_ok h, e]
  unfold bucketsS
  cases h2 : tenB t with
  | false =>
    rw [if_neg (by simp), begB_none, eq_comm, decide_eq_false_iff_not]
    rintro ⟨-, rfl⟩; rw [ht] at h2; cases h2
  | true =>
    rw [if_pos rfl, begB_bs _ _ (by simp [begL]), decide_eq_decide]
    show [letter 2, UInt8.ofNat t.toNat] <+: _ ↔ _
    rw [pre_two, letter_inj (by omega) (by omega) hk.1 hk.2, ten_inj h2 ht]
    simp [eq_comm]
theorem beg2 {k : K} (h : okK k = true) (kind t : Int) (b : ByteArray) (hr : 3 ≤ kind ∧ kind ≤ 5) : begB (makeS k) (allS kind t b) = decide (k.kind = kind ∧ k.ten = t ∧ k.buc = b) := by
  obtain ⟨R, e, ht, r3, r4, r5, hkb⟩ := enc_head h
  have hk := ok_kindB h
  rw [makeS_ok h, e]
  unfold allS
  have hin : inB kind = true := by unfold inB; exact decide_eq_true (by omega)
  cases h2 : tenB t with
  | false =>
    rw [if_neg (by simp), begB_none, eq_comm, decide_eq_false_iff_not]
    rintro ⟨-, rfl, -⟩; rw [ht] at h2; cases h2
  | true =>
    cases h3 : bucketB b with
    | false =>
      rw [if_neg (by simp), begB_none, eq_comm, decide_eq_false_iff_not]
      rintro ⟨e1, -, rfl⟩; rw [hkb (by omega)] at h3; cases h3
    | true =>
      rw [hin, if_pos (by simp), begB_bs _ _ (by simp [allL, begL]), decide_eq_decide]
      have e2 : allL kind t b = letter kind :: UInt8.ofNat t.toNat :: (b.data.toList ++ 0 :: []) := by simp [allL, begL]
      rw [e2, pre_two, letter_inj (by omega) (by omega) hk.1 hk.2, ten_inj h2 ht]
      constructor
      · rintro ⟨rfl, rfl, hp⟩
        refine ⟨rfl, rfl, ?_⟩
        have hz := (bucketB_noZ (hkb (by omega))).1
        have : k.kind = 3 ∨ k.kind = 4 ∨ k.kind = 5 := by omega
        rcases this with q | q | q
        · rw [r3 q, pre_nul _ _ _ (bucketB_noZ h3).1 hz] at hp; exact ba_ext hp.1.symm
        · rw [r4 q, pre_nul _ _ _ (bucketB_noZ h3).1 hz] at hp; exact ba_ext hp.1.symm
        · rw [r5 q, pre_nul _ _ _ (bucketB_noZ h3).1 hz] at hp; exact ba_ext hp.1.symm
      · rintro ⟨rfl, rfl, rfl⟩
        refine ⟨rfl, rfl, ?_⟩
        have hz := (bucketB_noZ h3).1
        have : k.kind = 3 ∨ k.kind = 4 ∨ k.kind = 5 := by omega
        rcases this with q | q | q
        · rw [r3 q, pre_nul _ _ _ hz hz]; exact ⟨rfl, List.nil_prefix⟩
        · rw [r4 q, pre_nul _ _ _ hz hz]; exact ⟨rfl, List.nil_prefix⟩
        · rw [r5 q, pre_nul _ _ _ hz hz]; exact ⟨rfl, List.nil_prefix⟩
theorem beg3 {k : K} (h : okK k = true) (t : Int) (b n : ByteArray) : begB (makeS k) (chainS t b n) = decide (k.kind = 3 ∧ k.ten = t ∧ k.buc = b ∧ k.nam = n) := by
  obtain ⟨R, e, ht, r3, r4, r5, hkb⟩ := enc_head h
  have hk := ok_kindB h
  rw [makeS_ok h, e]
  unfold chainS
  cases h2 : (tenB t && (bucketB b && nameB n)) with
  | false =>
    rw [if_neg (by simp), begB_none, eq_comm, decide_eq_false_iff_not]
    rintro ⟨e1, rfl, rfl, rfl⟩
    rw [ht, hkb (by omega), ok_nameB h e1] at h2; cases h2
  | true =>
    rw [Bool.and_eq_true, Bool.and_eq_true] at h2
    obtain ⟨h2, h3, h4⟩ := h2
    rw [if_pos rfl, begB_bs _ _ (by simp [chainL, allL, begL]), decide_eq_decide]
    have e2 : chainL t b n = letter 3 :: UInt8.ofNat t.toNat :: (b.data.toList ++ 0 :: (n.data.toList ++ 0 :: [])) := by simp [chainL, allL, begL]
    rw [e2, pre_two, letter_inj (by omega) (by omega) hk.1 hk.2, ten_inj h2 ht]
    constructor
    · rintro ⟨q, rfl, hp⟩
      rw [r3 q.symm, pre_nul _ _ _ (bucketB_noZ h3).1 (bucketB_noZ (hkb (by omega))).1, pre_nul _ _ _ (nameB_noZ h4).1 (nameB_noZ (ok_nameB h q.symm)).1] at hp
      exact ⟨q.symm, rfl, ba_ext hp.1.symm, ba_ext hp.2.1.symm⟩
    · rintro ⟨q, rfl, rfl, rfl⟩
      refine ⟨q.symm, rfl, ?_⟩
      rw [r3 q, pre_nul _ _ _ (bucketB_noZ h3).1 (bucketB_noZ h3).1, pre_nul _ _ _ (nameB_noZ h4).1 (nameB_noZ h4).1]
      exact ⟨rfl, rfl, List.nil_prefix⟩
theorem num8_pre (u v : Nat) (X : List UInt8) (hu : u < 18446744073709551616) (hv : v < 18446744073709551616) : numL 8 u <+: numL 8 v ++ X ↔ u = v := by
  constructor
  · intro h
    have h1 := List.prefix_iff_eq_take.1 h
    rw [numL_length, List.take_append_of_le_length (by rw [numL_length]; omega), List.take_of_length_le (by rw [numL_length]; omega)] at h1
    have := congrArg ofL h1
    rwa [ofL_num8 u hu, ofL_num8 v hv] at this
  · rintro rfl; exact List.prefix_append _ _
theorem beg4 {k : K} (h : okK k = true) (hv : k.num < 18446744073709551616) (t : Int) (b : ByteArray) (u : Nat) (hu : u < 18446744073709551616) : begB (makeS k) (piecesS t b u) = decide (k.kind = 5 ∧ k.ten = t ∧ k.buc = b ∧ k.num = u) := by
  obtain ⟨R, e, ht, r3, r4, r5, hkb⟩ := enc_head h
  have hk := ok_kindB h
  rw [makeS_ok h, e]
  unfold piecesS
  cases h2 : (tenB t && bucketB b) with
  | false =>
    rw [if_neg (by simp), begB_none, eq_comm, decide_eq_false_iff_not]
    rintro ⟨e1, rfl, rfl, -⟩
    rw [ht, hkb (by omega)] at h2; cases h2
  | true =>
    rw [Bool.and_eq_true] at h2
    obtain ⟨h2, h3⟩ := h2
    rw [if_pos rfl, begB_bs _ _ (by simp [piecesL, allL, begL]), decide_eq_decide]
    have e2 : piecesL t b u = letter 5 :: UInt8.ofNat t.toNat :: (b.data.toList ++ 0 :: numL 8 u) := by simp [piecesL, allL, begL]
    rw [e2, pre_two, letter_inj (by omega) (by omega) hk.1 hk.2, ten_inj h2 ht]
    constructor
    · rintro ⟨q, rfl, hp⟩
      rw [r5 q.symm, pre_nul _ _ _ (bucketB_noZ h3).1 (bucketB_noZ (hkb (by omega))).1, num8_pre _ _ _ hu hv] at hp
      exact ⟨q.symm, rfl, ba_ext hp.1.symm, hp.2.symm⟩
    · rintro ⟨q, rfl, rfl, rfl⟩
      refine ⟨q.symm, rfl, ?_⟩
      rw [r5 q, pre_nul _ _ _ (bucketB_noZ h3).1 (bucketB_noZ h3).1, num8_pre _ _ _ hu hv]
      exact ⟨rfl, rfl⟩
end Go.Proofs.Yteekjndhehnpaaa
