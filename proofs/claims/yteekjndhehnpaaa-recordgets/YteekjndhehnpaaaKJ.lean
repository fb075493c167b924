/- Contracts: what keys begin with. -/
import Derived.Test.YteekjndhehnpaaaKI
namespace Go.Proofs.Yteekjndhehnpaaa
open Go.RowKit
set_option maxRecDepth 100000
set_option linter.unusedVariables false
set_option maxHeartbeats 4000000
theorem begL_size (k t : Int) : (bs (begL k t)).size = 2 := by rw [bs_size]; rfl
theorem bname_any (s : ByteArray) (hs : s.size ≤ maxLen) (w : World) : Calls Try.prog 57 #[.string s] w fun e w' => e = .returned (.int .i64 (argE (bucketB s))) ∧ Below w.heap.size w w' := bucket_any s hs w
theorem kname_any (s : ByteArray) (hs : s.size ≤ maxLen) (w : World) : Calls Try.prog 58 #[.string s] w fun e w' => e = .returned (.int .i64 (argE (nameB s))) ∧ Below w.heap.size w w' := key_any s hs w
def bucketsS (t : Int) : ByteArray := bs (if tenB t then begL 2 t else [])
theorem buckets_any (t : Int) (w : World) : Calls Try.prog 18 #[.int .i64 t] w fun e w' => e = .returned (.string (bucketsS t)) ∧ Below w.heap.size w w' := by
  have HT := Lib.hid (isTenant_any t)
  cases ht : tenB t with
  | false =>
    have HR : Hid (bucketsS t = ⟨#[]⟩) := Lib.hid (by unfold bucketsS; rw [ht]; rfl)
    rw [ht] at HT
    rw [HR.out]
    clear ht
    go_enter Try.func18, Try.ntmps18
    go_wp2_with (go_at_call 56; refine (HT.out _).mono ?_; rintro e w' ⟨rfl, rfl⟩)
    go_ret
    exact ⟨rfl, Below.refl _ _⟩
  | true =>
    have HR : Hid (bucketsS t = bs (begL 2 t)) := Lib.hid (by unfold bucketsS; rw [ht]; rfl)
    have HB := Lib.hid (fun w => beginning_any 2 t w (by omega) (by omega) ht)
    rw [ht] at HT
    rw [HR.out]
    clear ht
    go_enter Try.func18, Try.ntmps18
    go_wp2_with (first | (go_at_call 56; refine (HT.out _).mono ?_; rintro e w' ⟨rfl, rfl⟩) | (go_at_call 51; refine (HB.out _).mono ?_; rintro e w' ⟨rfl, hb⟩))
    go_ret
    exact ⟨rfl, hb⟩
def inB (k : Int) : Bool := decide (k = 3 ∨ k = 4 ∨ k = 5)
def allS (k t : Int) (b : ByteArray) : ByteArray := bs (if inB k && (tenB t && bucketB b) then allL k t b else [])
theorem allS_ok {k t : Int} {b : ByteArray} (hk : inB k = true) (ht : tenB t = true) (hb : bucketB b = true) : allS k t b = bs (begL k t) ++ b ++ ⟨#[0]⟩ := by
  unfold allS; rw [hk, ht, hb]
  exact ba_ext (by rw [toList_append, toList_append]; simp [bs_toList, allL])
theorem allS_no {k t : Int} {b : ByteArray} (h : inB k = false ∨ tenB t = false ∨ bucketB b = false) : allS k t b = ⟨#[]⟩ := by
  unfold allS
  rcases h with h | h | h <;> rw [h] <;> simp <;> rfl
theorem all_k (k t : Int) (b : ByteArray) (hk : k = 3 ∨ k = 4 ∨ k = 5) (hbs : b.size ≤ maxLen) (w : World) : Calls Try.prog 20 #[.int .i64 k, .int .i64 t, .string b] w fun e w' => e = .returned (.string (allS k t b)) ∧ Below w.heap.size w w' := by
  have HT := Lib.hid (isTenant_any t)
  have HN := Lib.hid (bname_any b hbs)
  have hik : inB k = true := by unfold inB; exact decide_eq_true hk
  cases ht : tenB t with
  | false =>
    have HR : Hid (allS k t b = ⟨#[]⟩) := Lib.hid (allS_no (.inr (.inl ht)))
    rw [ht] at HT
    rw [HR.out]
    clear ht hik
    rcases hk with rfl | rfl | rfl <;>
    · go_enter Try.func20, Try.ntmps20
      go_wp2_with (go_at_call 56; refine (HT.out _).mono ?_; rintro e w' ⟨rfl, rfl⟩)
      go_ret
      exact ⟨rfl, Below.refl _ _⟩
  | true =>
    cases hb : bucketB b with
    | false =>
      have HR : Hid (allS k t b = ⟨#[]⟩) := Lib.hid (allS_no (.inr (.inr hb)))
      rw [ht] at HT
      rw [hb] at HN
      simp only [argE] at HN
      rw [HR.out]
      clear ht hik hb
      rcases hk with rfl | rfl | rfl <;>
      · go_enter Try.func20, Try.ntmps20
        go_wp2_with (first | (go_at_call 56; refine (HT.out _).mono ?_; rintro e w' ⟨rfl, rfl⟩) | (go_at_call 57; refine (HN.out _).mono ?_; rintro e w' ⟨rfl, hb⟩))
        go_ret
        exact ⟨rfl, hb⟩
    | true =>
      have HR : Hid (allS k t b = bs (begL k t) ++ b ++ ⟨#[0]⟩) := Lib.hid (allS_ok hik ht hb)
      have HB := Lib.hid (fun w => beginning_any k t w (by omega) (by omega) ht)
      have hb12 := (bucketB_noZ hb).2.2
      have hs2 := begL_size k t
      rw [ht] at HT
      rw [hb] at HN
      simp only [argE] at HN
      rw [HR.out]
      clear ht hik hb hbs
      rcases hk with rfl | rfl | rfl <;>
      · go_enter Try.func20, Try.ntmps20
        go_wp2_with (first | (go_at_call 56; refine (HT.out _).mono ?_; rintro e w' ⟨rfl, rfl⟩) | (go_at_call 57; refine (HN.out _).mono ?_; rintro e w' ⟨rfl, hb⟩) | (go_at_call 51; refine (HB.out _).mono ?_; rintro e w2 ⟨rfl, hb2⟩))
        go_ret
        exact ⟨rfl, below_to hb hb2⟩
theorem all_any (k t : Int) (b : ByteArray) (hbs : b.size ≤ maxLen) (w : World) : Calls Try.prog 20 #[.int .i64 k, .int .i64 t, .string b] w fun e w' => e = .returned (.string (allS k t b)) ∧ Below w.heap.size w w' := by
  by_cases hk : k = 3 ∨ k = 4 ∨ k = 5
  · exact all_k k t b hk hbs w
  · have HR : Hid (allS k t b = ⟨#[]⟩) := Lib.hid (allS_no (.inl (by unfold inB; exact decide_eq_false hk)))
    rw [HR.out]
    have h3 : (k == 3) = false := by rw [beq_eq_false_iff_ne]; omega
    have h4 : (k == 4) = false := by rw [beq_eq_false_iff_ne]; omega
    have h5 : (k == 5) = false := by rw [beq_eq_false_iff_ne]; omega
    clear hk
    go_enter Try.func20, Try.ntmps20
    go_wp2_with fail
    go_ret
    exact ⟨rfl, Below.refl _ _⟩
/-- What all versions of a key, all parts of an upload begin with. -/
def chainS (t : Int) (b n : ByteArray) : ByteArray := bs (if tenB t && (bucketB b && nameB n) then chainL t b n else [])
def piecesS (t : Int) (b : ByteArray) (u : Nat) : ByteArray := bs (if tenB t && bucketB b then piecesL t b u else [])
theorem allS_size {k t : Int} {b : ByteArray} (hk : inB k = true) (ht : tenB t = true) (hb : bucketB b = true) : (allS k t b).size = b.size + 3 := by
  unfold allS; rw [hk, ht, hb]
  simp [bs_size, allL, begL]
theorem ne_empty {s : ByteArray} (h : 0 < s.size) : (s.toList == ([] : List UInt8)) = false := by
  cases h2 : (s.toList == ([] : List UInt8)) with
  | false => rfl
  | true =>
    have := eq_of_beq h2
    rw [ByteArray.toList_eq] at this
    rw [blen, this] at h
    cases h
theorem chain_any (t : Int) (b n : ByteArray) (hbs : b.size ≤ maxLen) (hns : n.size ≤ maxLen) (w : World) : Calls Try.prog 22 #[.int .i64 t, .string b, .string n] w fun e w' => e = .returned (.string (chainS t b n)) ∧ Below w.heap.size w w' := by
  have HA := Lib.hid (all_any 3 t b hbs)
  have HN := Lib.hid (kname_any n hns)
  cases hok : (tenB t && bucketB b) with
  | false =>
    have hno : tenB t = false ∨ bucketB b = false := by cases h1 : tenB t <;> cases h2 : bucketB b <;> simp_all
    have HR : Hid (chainS t b n = ⟨#[]⟩) := Lib.hid (by unfold chainS; rcases hno with h | h <;> rw [h] <;> simp <;> rfl)
    rw [allS_no (.inr hno)] at HA
    rw [HR.out]
    clear hok hno
    go_enter Try.func22, Try.ntmps22
    go_wp2_with (go_at_call 20; refine (HA.out _).mono ?_; rintro e w' ⟨rfl, hb⟩)
    go_ret
    exact ⟨rfl, hb⟩
  | true =>
    rw [Bool.and_eq_true] at hok
    obtain ⟨ht, hb⟩ := hok
    have hsz := allS_size (k := 3) (by decide) ht hb
    have hb12 := (bucketB_noZ hb).2.2
    obtain ⟨a, ha⟩ : ∃ a, allS 3 t b = a := ⟨_, rfl⟩
    rw [ha] at HA hsz
    have hne := ne_empty (s := a) (by omega)
    cases hn : nameB n with
    | false =>
      have HR : Hid (chainS t b n = ⟨#[]⟩) := Lib.hid (by unfold chainS; rw [hn]; simp; rfl)
      rw [hn] at HN
      simp only [argE] at HN
      rw [HR.out]
      clear ht hb hn ha
      go_enter Try.func22, Try.ntmps22
      go_wp2_with (first | (go_at_call 20; refine (HA.out _).mono ?_; rintro e w' ⟨rfl, hb⟩) | (go_at_call 58; refine (HN.out _).mono ?_; rintro e w2 ⟨rfl, hb2⟩))
      go_ret
      exact ⟨rfl, below_to hb hb2⟩
    | true =>
      have hn24 := (nameB_noZ hn).2.2
      have HR : Hid (chainS t b n = a ++ n ++ ⟨#[0]⟩) := Lib.hid (by
        rw [← ha]; unfold chainS allS; rw [ht, hb, hn]
        exact ba_ext (by rw [toList_append, toList_append]; simp [bs_toList, chainL, inB]))
      rw [hn] at HN
      simp only [argE] at HN
      rw [HR.out]
      clear ht hb hn ha
      go_enter Try.func22, Try.ntmps22
      go_wp2_with (first | (go_at_call 20; refine (HA.out _).mono ?_; rintro e w' ⟨rfl, hb⟩) | (go_at_call 58; refine (HN.out _).mono ?_; rintro e w2 ⟨rfl, hb2⟩))
      go_ret
      exact ⟨rfl, below_to hb hb2⟩
theorem pieces_any (t : Int) (b : ByteArray) (u : Nat) (hbs : b.size ≤ maxLen) (hu : u < 18446744073709551616) (w : World) : Calls Try.prog 24 #[.int .i64 t, .string b, .int .u64 (u : Int)] w fun e w' => e = .returned (.string (piecesS t b u)) ∧ Below w.heap.size w w' := by
  have HA := Lib.hid (all_any 5 t b hbs)
  have HN := Lib.hid (fun w => rise_any u w hu)
  cases hok : (tenB t && bucketB b) with
  | false =>
    have hno : tenB t = false ∨ bucketB b = false := by cases h1 : tenB t <;> cases h2 : bucketB b <;> simp_all
    have HR : Hid (piecesS t b u = ⟨#[]⟩) := Lib.hid (by unfold piecesS; rw [hok]; rfl)
    rw [allS_no (.inr hno)] at HA
    rw [HR.out]
    clear hok hno
    go_enter Try.func24, Try.ntmps24
    go_wp2_with (go_at_call 20; refine (HA.out _).mono ?_; rintro e w' ⟨rfl, hb⟩)
    go_ret
    exact ⟨rfl, hb⟩
  | true =>
    rw [Bool.and_eq_true] at hok
    obtain ⟨ht, hb⟩ := hok
    have hsz := allS_size (k := 5) (by decide) ht hb
    have hb12 := (bucketB_noZ hb).2.2
    obtain ⟨a, ha⟩ : ∃ a, allS 5 t b = a := ⟨_, rfl⟩
    rw [ha] at HA hsz
    have hne := ne_empty (s := a) (by omega)
    have h8 : (bs (numL 8 u)).size = 8 := by rw [bs_size, numL_length]
    have HR : Hid (piecesS t b u = a ++ bs (numL 8 u)) := Lib.hid (by
      rw [← ha]; unfold piecesS allS; rw [ht, hb]
      exact ba_ext (by rw [toList_append]; simp [bs_toList, piecesL, inB]))
    rw [HR.out]
    clear ht hb ha
    go_enter Try.func24, Try.ntmps24
    go_wp2_with (first | (go_at_call 20; refine (HA.out _).mono ?_; rintro e w' ⟨rfl, hb⟩) | (go_at_call 49; refine (HN.out _).mono ?_; rintro e w2 ⟨rfl, hb2⟩))
    go_ret
    exact ⟨rfl, below_to hb hb2⟩
end Go.Proofs.Yteekjndhehnpaaa
