/- Contracts: whole numbers; the reference's digits and numbers. -/
import Derived.Test.YtgbnmokajaehhaaDoorN2
namespace Go.Proofs.YtgbnmokajaehhaaDoor
open Go.RowKit Go.Sort
set_option linter.unusedVariables false
theorem whole_any (s : ByteArray) (hs : s.size ≤ 2048) (w : World) (hE : Env w) : Calls Tryd.prog 20 #[.string s] w fun e w' => e = intR (intN s.data.toList) ∧ Below w.heap.size w w' := by
  cases hp : Lib.parseIntB 64 s.data.toList with
  | ok u =>
    obtain ⟨b1, b2⟩ := parseI_bd _ u hp
    have HP := Lib.hid hp
    by_cases hd : Lib.itoa u = s.data.toList
    · have HR := Lib.hid (show intN s.data.toList = some u by unfold intN; rw [hp]; exact if_pos hd)
      have he : bs (Lib.itoa u) = s := by rw [hd]; exact bs_of s
      have HE := Lib.hid he
      clear hp hd he
      go_enter Tryd.func20, Tryd.ntmps20
      go_wp2_with fail
      refine (Tryd.strconv_ParseInt_10_at64_ok s (by omega) u HP.out _).mono ?_
      rintro e w1 ⟨rfl, hw1⟩
      have B1 : Below w.heap.size w w1 := by rcases hw1 with rfl | ⟨t, rfl⟩; exact below_self _; exact bytesWorld_below _ _ _
      clear hw1
      go_wp2_with fail
      refine (signed_any u b1 b2 _ (hE.below B1)).mono ?_
      rintro e w2 ⟨rfl, hb⟩
      rw [HE.out]
      go_wp2
      go_ret2
      exact ⟨by rw [HR.out]; rfl, below_to B1 hb⟩
    · have HR := Lib.hid (show intN s.data.toList = none by unfold intN; rw [hp]; exact if_neg hd)
      have hne := str_neq (a := bs (Lib.itoa u)) (b := s) (by rw [bs_toList]; exact hd)
      obtain ⟨t, ht⟩ : ∃ t, bs (Lib.itoa u) = t := ⟨_, rfl⟩
      rw [ht] at hne
      have HT := Lib.hid ht
      clear hp hd ht
      go_enter Tryd.func20, Tryd.ntmps20
      go_wp2_with fail
      refine (Tryd.strconv_ParseInt_10_at64_ok s (by omega) u HP.out _).mono ?_
      rintro e w1 ⟨rfl, hw1⟩
      have B1 : Below w.heap.size w w1 := by rcases hw1 with rfl | ⟨t, rfl⟩; exact below_self _; exact bytesWorld_below _ _ _
      clear hw1
      go_wp2_with fail
      refine (signed_any u b1 b2 _ (hE.below B1)).mono ?_
      rintro e w2 ⟨rfl, hb⟩
      rw [HT.out]
      go_wp2
      go_ret2
      exact ⟨by rw [HR.out]; rfl, below_to B1 hb⟩
  | «syntax» =>
    have HR := Lib.hid (show intN s.data.toList = none by unfold intN; rw [hp])
    have HP := Lib.hid hp
    obtain ⟨tp, p, hv⟩ := hE.syn
    have HV := Lib.hid hv
    clear hp hv
    go_enter Tryd.func20, Tryd.ntmps20
    go_wp2_with fail
    refine (Tryd.strconv_ParseInt_10_at64_syntax_var s (by omega) HP.out tp p _ HV.out).mono ?_
    rintro e w1 ⟨N, rfl, _, _, B1⟩
    go_wp2
    go_ret2
    exact ⟨by rw [HR.out]; rfl, B1⟩
  | range =>
    have HR := Lib.hid (show intN s.data.toList = none by unfold intN; rw [hp])
    have HP := Lib.hid hp
    obtain ⟨tp, p, hv⟩ := hE.rng
    have HV := Lib.hid hv
    clear hp hv
    go_enter Tryd.func20, Tryd.ntmps20
    go_wp2_with fail
    refine (Tryd.strconv_ParseInt_10_at64_range_var s (by omega) HP.out tp p _ HV.out).mono ?_
    rintro e w1 ⟨N, rfl, _, _, B1⟩
    go_wp2
    go_ret2
    exact ⟨by rw [HR.out]; rfl, B1⟩
/-- One digit of a string of ten. -/
theorem digit_piece (d : Nat) (h : d < 10) : (ByteArray.mk #[48, 49, 50, 51, 52, 53, 54, 55, 56, 57]).extract d (d + 1) = bs [UInt8.ofNat (48 + d)] := by
  have : d = 0 ∨ d = 1 ∨ d = 2 ∨ d = 3 ∨ d = 4 ∨ d = 5 ∨ d = 6 ∨ d = 7 ∨ d = 8 ∨ d = 9 := by omega
  rcases this with rfl | rfl | rfl | rfl | rfl | rfl | rfl | rfl | rfl | rfl <;> decide +kernel
theorem rdigits_any (u : Nat) : ∀ (hu64 : u < 18446744073709551616) (w : World), Calls Tryd.prog 23 #[.int .u64 (u : Int)] w fun e w' => e = .returned (.string (bs (Lib.decDigits u))) ∧ w = w' := by
  induction u using Nat.strongRecOn with
  | ind u ih =>
    intro hu64 w
    by_cases h : u < 10
    · have hd := Lib.hid (digit_piece u h)
      have h1 := Lib.hid (Lib.decDigits_one h)
      have hm : (u : Int) % 10 = (u : Int) := by omega
      go_enter Tryd.func23, Tryd.ntmps23
      go_wp2
      go_ret
      exact ⟨by rw [h1.out, ← hd.out]; rfl, rfl⟩
    · have hd := Lib.hid (digit_piece (u % 10) (by omega))
      have h1 := Lib.hid (decDigits_rec u h)
      have ihd := Lib.hid (ih (u / 10) (by omega) (by omega))
      have hsz := nDigits_le (u / 10) (by omega)
      have hsz2 : (bs (Lib.decDigits (u / 10))).size ≤ 20 := by rw [bs_size]; exact hsz
      obtain ⟨t, ht⟩ : ∃ t, bs (Lib.decDigits (u / 10)) = t := ⟨_, rfl⟩
      have HT := Lib.hid ht
      rw [ht] at hsz2
      have hm0 : ((u : Int) % 10).toNat = u % 10 := by omega
      have hm1 : ((u : Int) % 10 + 1).toNat = u % 10 + 1 := by omega
      have HE : Hid (t ++ bs [UInt8.ofNat (48 + u % 10)] = bs (Lib.decDigits u)) := Lib.hid (by
        apply str_eq
        rw [toList_append, ← ht, bs_toList, bs_toList, bs_toList, decDigits_rec u h])
      clear ht hsz ih
      go_enter Tryd.func23, Tryd.ntmps23
      go_wp2_with fail
      refine (ihd.out _).mono ?_
      rintro e w' ⟨rfl, rfl⟩
      rw [HT.out]
      go_wp2
      go_ret
      exact ⟨by rw [← HE.out, ← hd.out]; rfl, rfl⟩
theorem itoa_neg' (n : Int) (m : Nat) (h : n = -(m : Int)) (h1 : 1 ≤ m) : Lib.itoa n = 45 :: Lib.decDigits m := by subst h; exact Lib.itoa_neg m h1
theorem rsigned_any (n : Int) (h0 : -9223372036854775808 ≤ n) (h1 : n ≤ 9223372036854775807) (w : World) : Calls Tryd.prog 25 #[.int .i64 n] w fun e w' => e = .returned (.string (bs (Lib.itoa n))) ∧ w = w' := by
  by_cases hn : n < 0
  · obtain ⟨m, hm⟩ : ∃ m : Nat, n = -(m : Int) := ⟨n.natAbs, by omega⟩
    have hm1 : 1 ≤ m := by omega
    have hm2 : m ≤ 9223372036854775808 := by omega
    have HI := Lib.hid (itoa_neg' n m hm hm1)
    subst hm
    obtain ⟨t, ht⟩ : ∃ t, bs (Lib.decDigits m) = t := ⟨_, rfl⟩
    have hts : t.size ≤ 20 := by rw [← ht, bs_size]; exact nDigits_le m (by omega)
    have HE := Lib.hid (show (ByteArray.mk #[45]) ++ t = bs (45 :: Lib.decDigits m) by
      apply str_eq; rw [toList_append, ← ht, bs_toList, bs_toList]; rfl)
    have HD := fun w => rdigits_any m (by omega) w
    rw [ht] at HD
    have HD' := Lib.hid HD
    have hz : -(-(m : Int) + 1) + 1 = (m : Int) := by omega
    clear ht HD
    go_enter Tryd.func25, Tryd.ntmps25
    go_wp2_with fail
    refine (HD'.out _).mono ?_
    rintro e w' ⟨rfl, rfl⟩
    go_wp2
    go_ret
    exact ⟨by rw [HI.out, ← HE.out]; rfl, rfl⟩
  · obtain ⟨m, rfl⟩ := Int.eq_ofNat_of_zero_le (show 0 ≤ n by omega)
    have HI := Lib.hid (Lib.itoa_nonneg m)
    go_enter Tryd.func25, Tryd.ntmps25
    go_wp2_with fail
    refine (rdigits_any m (by omega) _).mono ?_
    rintro e w' ⟨rfl, rfl⟩
    go_wp2
    go_ret
    exact ⟨by rw [HI.out]; rfl, rfl⟩
/-- A prefix's number. -/
def foldT (l : List UInt8) : Nat := l.foldl (fun n c => (10 * n + (c.toNat + 208) % 256 % 10) % 18446744073709551616) 0
theorem foldT_lt (l : List UInt8) : foldT l < 18446744073709551616 := foldl_lt _ _ (by omega)
theorem foldT_snoc (l : List UInt8) (c : UInt8) : foldT (l ++ [c]) = (10 * foldT l + (c.toNat + 208) % 256 % 10) % 18446744073709551616 := by unfold foldT; rw [List.foldl_append]; rfl
theorem take_snoc8 (s : ByteArray) (k : Nat) (h : k < s.size) : s.data.toList.take (k + 1) = s.data.toList.take k ++ [s[k]] := by
  rw [List.take_succ_eq_append_getElem (by simpa using h)]; rfl
set_option maxHeartbeats 1000000 in
theorem rnumber_any (s : ByteArray) (hs : s.size ≤ 2048) (w : World) : Calls Tryd.prog 19 #[.string s] w fun e w' => e = numR (refN s.data.toList) ∧ w = w' := by
  go_enter Tryd.func19, Tryd.ntmps19
  go_wp2
  go_loop [4, 5] (fun t i => ∃ k v : Nat, k ≤ s.size ∧ k ≤ 20 ∧ Hid (v = foldT (s.data.toList.take k)) ∧ i = .int .i64 k ∧ t = .int .u64 (v : Int)) (fun _ i => 20 - (intOf i).toNat)
  case atStart => exact ⟨0, 0, by omega, by omega, Lib.hid rfl, rfl, rfl⟩
  case round =>
    obtain ⟨k, v, hk, hk2, HV, rfl, rfl⟩ := hrel
    have hv : v < 18446744073709551616 := by rw [HV.out]; exact foldT_lt _
    by_cases hlt : k < s.size ∧ k < 20
    · obtain ⟨hlt, hlt2⟩ := hlt
      have hts := Lib.hid (take_snoc8 s k hlt)
      have hcl : s[k].toNat < 256 := s[k].toNat_lt
      go_wp2_with fail
      go_round
      case rel =>
        refine ⟨k + 1, (10 * v + (s[k].toNat + 208) % 256 % 10) % 18446744073709551616, by omega, by omega, Lib.hid ?_, by simp, ?_⟩
        · rw [hts.out, foldT_snoc, ← HV.out]
        · congr 1; rw [IntKind.wrap_u64, IntKind.wrap_u64]; omega
      case measure => simp [intOf]; omega
    · have HF : v = foldV s.data.toList := by
        rw [HV.out]; unfold foldT foldV
        congr 1
        by_cases h20 : k = 20
        · rw [h20]
        · have : k = s.size := by omega
          rw [List.take_of_length_le (by rw [← blen]; omega), List.take_of_length_le (by rw [← blen]; omega)]
      have hlt' : s.size ≤ k ∨ 20 ≤ k := by omega
      clear hlt HV
      obtain ⟨t, ht⟩ : ∃ t, bs (Lib.decDigits v) = t := ⟨_, rfl⟩
      have HD := fun w => rdigits_any v hv w
      rw [ht] at HD
      have HD' := Lib.hid HD
      by_cases hd : Lib.decDigits v = s.data.toList
      · have HR := Lib.hid (show refN s.data.toList = some v by unfold refN; rw [← HF]; exact if_pos hd)
        obtain rfl : t = s := by rw [← ht, hd]; exact bs_of s
        clear ht HD hd HF
        by_cases hz : k < t.size
        · go_wp2_with fail
          refine (HD'.out _).mono ?_
          rintro e w' ⟨rfl, rfl⟩
          go_wp2
          go_ret2
          exact ⟨by rw [HR.out]; rfl, rfl⟩
        · go_wp2_with fail
          refine (HD'.out _).mono ?_
          rintro e w' ⟨rfl, rfl⟩
          go_wp2
          go_ret2
          exact ⟨by rw [HR.out]; rfl, rfl⟩
      · have HR := Lib.hid (show refN s.data.toList = none by unfold refN; rw [← HF]; exact if_neg hd)
        have hne := str_neq (a := t) (b := s) (by rw [← ht, bs_toList]; exact hd)
        clear ht HD hd HF
        by_cases hz : k < s.size
        · go_wp2_with fail
          refine (HD'.out _).mono ?_
          rintro e w' ⟨rfl, rfl⟩
          go_wp2
          go_ret2
          exact ⟨by rw [HR.out]; rfl, rfl⟩
        · go_wp2_with fail
          refine (HD'.out _).mono ?_
          rintro e w' ⟨rfl, rfl⟩
          go_wp2
          go_ret2
          exact ⟨by rw [HR.out]; rfl, rfl⟩
end Go.Proofs.YtgbnmokajaehhaaDoor
