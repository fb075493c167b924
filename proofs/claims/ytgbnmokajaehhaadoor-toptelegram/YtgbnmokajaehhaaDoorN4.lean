/- Contracts: the reference's whole numbers. -/
import Derived.Test.YtgbnmokajaehhaaDoorN3
namespace Go.Proofs.YtgbnmokajaehhaaDoor
open Go.RowKit Go.Sort
set_option linter.unusedVariables false
theorem take_snoc8' (s : ByteArray) (k : Nat) (h1 : 1 ≤ k) (h : k < s.size) : (s.data.toList.take (k + 1)).drop 1 = (s.data.toList.take k).drop 1 ++ [s[k]] := by
  rw [take_snoc8 s k h, List.drop_append_of_le_length (by simp; omega)]
theorem foldT_take (s : ByteArray) (k : Nat) (h : k = 20 ∨ (k = s.size ∧ k ≤ 20)) : s.data.toList.take k = s.data.toList.take 20 := by
  rcases h with rfl | ⟨rfl, h⟩
  · rfl
  · rw [List.take_of_length_le (by rw [← blen]; omega), List.take_of_length_le (by rw [← blen]; omega)]
theorem isNeg_at (s : ByteArray) (h0 : 0 < s.size) : isNeg s.data.toList = (s[0].toNat == 45) := by
  have h : s.data.toList = s[0] :: s.data.toList.drop 1 := by
    have h1 : 0 < s.data.toList.length := by rw [← blen]; exact h0
    have := List.drop_eq_getElem_cons h1
    rw [List.drop_zero] at this
    exact this
  rw [h]; rfl
set_option maxHeartbeats 1000000 in
theorem rwhole_neg (s : ByteArray) (hs : s.size ≤ 2048) (h0 : 0 < s.size) (h45 : s[0].toNat = 45) (w : World) : Calls Tryd.prog 21 #[.string s] w fun e w' => e = intR (refI s.data.toList) ∧ w = w' := by
  have hneg := Lib.hid (isNeg_at s h0)
  have h45' : (s[0].toNat : Int) = 45 := by omega
  go_enter Tryd.func21, Tryd.ntmps21
  go_wp2
  go_loop [4, 6] (fun t i => ∃ k v : Nat, 1 ≤ k ∧ k ≤ s.size ∧ k ≤ 20 ∧ Hid (v = foldT ((s.data.toList.take k).drop 1)) ∧ i = .int .i64 k ∧ t = .int .u64 (v : Int)) (fun _ i => 20 - (intOf i).toNat)
  case atStart => exact ⟨1, 0, by omega, by omega, by omega, Lib.hid (by cases s.data.toList <;> rfl), rfl, rfl⟩
  case round =>
    obtain ⟨k, v, hk1, hk, hk2, HV, rfl, rfl⟩ := hrel
    have hv : v < 18446744073709551616 := by rw [HV.out]; exact foldT_lt _
    by_cases hlt : k < s.size ∧ k < 20
    · obtain ⟨hlt, hlt2⟩ := hlt
      have hts := Lib.hid (take_snoc8' s k hk1 hlt)
      have hcl : s[k].toNat < 256 := s[k].toNat_lt
      clear h45'
      go_wp2_with fail
      go_round
      case rel =>
        refine ⟨k + 1, (10 * v + (s[k].toNat + 208) % 256 % 10) % 18446744073709551616, by omega, by omega, by omega, Lib.hid ?_, by simp, ?_⟩
        · rw [hts.out, foldT_snoc, ← HV.out]
        · congr 1; rw [IntKind.wrap_u64, IntKind.wrap_u64]; omega
      case measure => simp [intOf]; omega
    · have HF : v = foldW s.data.toList := by
        rw [HV.out]; unfold foldT foldW
        rw [foldT_take s k (by omega)]
      obtain ⟨x, HX⟩ : ∃ x, refX s.data.toList = x := ⟨_, rfl⟩
      have hx : wrap64 (IntKind.u64.wrap (-(v : Int))) = x := by
        rw [← HX]; unfold refX
        rw [if_pos (by rw [hneg.out]; simp [h45]), ← HF]
        unfold wrap64 w64
        rw [IntKind.wrap_u64]
        omega
      have hxb : -9223372036854775808 ≤ x ∧ x ≤ 9223372036854775807 := by rw [← HX]; exact refX_bd _
      obtain ⟨hxb1, hxb2⟩ := hxb
      obtain ⟨t, ht⟩ : ∃ t, bs (Lib.itoa x) = t := ⟨_, rfl⟩
      have HD := fun w => rsigned_any x hxb1 hxb2 w
      rw [ht] at HD
      have HD' := Lib.hid HD
      have hlt' : s.size ≤ k ∨ 20 ≤ k := by omega
      clear hlt HV HF
      clear h45'
      by_cases hd : Lib.itoa x = s.data.toList
      · have HR := Lib.hid (show refI s.data.toList = some x by unfold refI; rw [HX]; exact if_pos hd)
        obtain rfl : t = s := by rw [← ht, hd]; exact bs_of s
        clear ht HD hd HX
        by_cases hz : k < t.size
        all_goals
          go_wp2_with fail
          refine (HD'.out _).mono ?_
          rintro e w' ⟨rfl, rfl⟩
          go_wp2
          go_ret2
          exact ⟨by rw [HR.out]; rfl, rfl⟩
      · have HR := Lib.hid (show refI s.data.toList = none by unfold refI; rw [HX]; exact if_neg hd)
        have hne := str_neq (a := t) (b := s) (by rw [← ht, bs_toList]; exact hd)
        clear ht HD hd HX
        by_cases hz : k < s.size
        all_goals
          go_wp2_with fail
          refine (HD'.out _).mono ?_
          rintro e w' ⟨rfl, rfl⟩
          go_wp2
          go_ret2
          exact ⟨by rw [HR.out]; rfl, rfl⟩
set_option maxHeartbeats 1000000 in
theorem rwhole_pos (s : ByteArray) (hs : s.size ≤ 2048) (h45 : isNeg s.data.toList = false) (w : World) : Calls Tryd.prog 21 #[.string s] w fun e w' => e = intR (refI s.data.toList) ∧ w = w' := by
  have hneg := Lib.hid h45
  clear h45
  by_cases h0 : 0 < s.size
  · have h45' : ¬ ((s[0].toNat : Int) = 45) := by
      intro h; have := isNeg_at s h0; rw [hneg.out, show s[0].toNat = 45 by omega] at this; cases this
    go_enter Tryd.func21, Tryd.ntmps21
    go_wp2
    go_loop [4, 6] (fun t i => ∃ k v : Nat, k ≤ s.size ∧ k ≤ 20 ∧ Hid (v = foldT (s.data.toList.take k)) ∧ i = .int .i64 k ∧ t = .int .u64 (v : Int)) (fun _ i => 20 - (intOf i).toNat)
    case atStart => exact ⟨0, 0, by omega, by omega, Lib.hid rfl, rfl, rfl⟩
    case round =>
      obtain ⟨k, v, hk, hk2, HV, rfl, rfl⟩ := hrel
      have hv : v < 18446744073709551616 := by rw [HV.out]; exact foldT_lt _
      by_cases hlt : k < s.size ∧ k < 20
      · obtain ⟨hlt, hlt2⟩ := hlt
        have hts := Lib.hid (take_snoc8 s k hlt)
        have hcl : s[k].toNat < 256 := s[k].toNat_lt
        clear h45'
        go_wp2_with fail
        go_round
        case rel =>
          refine ⟨k + 1, (10 * v + (s[k].toNat + 208) % 256 % 10) % 18446744073709551616, by omega, by omega, Lib.hid ?_, by simp, ?_⟩
          · rw [hts.out, foldT_snoc, ← HV.out]
          · congr 1; rw [IntKind.wrap_u64, IntKind.wrap_u64]; omega
        case measure => simp [intOf]; omega
      · have HF : v = foldV s.data.toList := by
          rw [HV.out]; unfold foldT foldV
          rw [foldT_take s k (by omega)]
        obtain ⟨x, HX⟩ : ∃ x, refX s.data.toList = x := ⟨_, rfl⟩
        have hx : wrap64 (v : Int) = x := by
          rw [← HX]; unfold refX
          rw [if_neg (by rw [hneg.out]; simp), ← HF]
          unfold wrap64 w64
          skip
          omega
        have hxb : -9223372036854775808 ≤ x ∧ x ≤ 9223372036854775807 := by rw [← HX]; exact refX_bd _
        obtain ⟨hxb1, hxb2⟩ := hxb
        obtain ⟨t, ht⟩ : ∃ t, bs (Lib.itoa x) = t := ⟨_, rfl⟩
        have HD := fun w => rsigned_any x hxb1 hxb2 w
        rw [ht] at HD
        have HD' := Lib.hid HD
        have hlt' : s.size ≤ k ∨ 20 ≤ k := by omega
        clear hlt HV HF
        clear h45'
        by_cases hd : Lib.itoa x = s.data.toList
        · have HR := Lib.hid (show refI s.data.toList = some x by unfold refI; rw [HX]; exact if_pos hd)
          obtain rfl : t = s := by rw [← ht, hd]; exact bs_of s
          clear ht HD hd HX
          by_cases hz : k < t.size
          all_goals
            go_wp2_with fail
            refine (HD'.out _).mono ?_
            rintro e w' ⟨rfl, rfl⟩
            go_wp2
            go_ret2
            exact ⟨by rw [HR.out]; rfl, rfl⟩
        · have HR := Lib.hid (show refI s.data.toList = none by unfold refI; rw [HX]; exact if_neg hd)
          have hne := str_neq (a := t) (b := s) (by rw [← ht, bs_toList]; exact hd)
          clear ht HD hd HX
          by_cases hz : k < s.size
          all_goals
            go_wp2_with fail
            refine (HD'.out _).mono ?_
            rintro e w' ⟨rfl, rfl⟩
            go_wp2
            go_ret2
            exact ⟨by rw [HR.out]; rfl, rfl⟩
  · go_enter Tryd.func21, Tryd.ntmps21
    go_wp2
    go_loop [4, 6] (fun t i => ∃ k v : Nat, k ≤ s.size ∧ k ≤ 20 ∧ Hid (v = foldT (s.data.toList.take k)) ∧ i = .int .i64 k ∧ t = .int .u64 (v : Int)) (fun _ i => 20 - (intOf i).toNat)
    case atStart => exact ⟨0, 0, by omega, by omega, Lib.hid rfl, rfl, rfl⟩
    case round =>
      obtain ⟨k, v, hk, hk2, HV, rfl, rfl⟩ := hrel
      have hv : v < 18446744073709551616 := by rw [HV.out]; exact foldT_lt _
      by_cases hlt : k < s.size ∧ k < 20
      · obtain ⟨hlt, hlt2⟩ := hlt
        exact absurd (show 0 < s.size by omega) h0
      · have HF : v = foldV s.data.toList := by
          rw [HV.out]; unfold foldT foldV
          rw [foldT_take s k (by omega)]
        obtain ⟨x, HX⟩ : ∃ x, refX s.data.toList = x := ⟨_, rfl⟩
        have hx : wrap64 (v : Int) = x := by
          rw [← HX]; unfold refX
          rw [if_neg (by rw [hneg.out]; simp), ← HF]
          unfold wrap64 w64
          skip
          omega
        have hxb : -9223372036854775808 ≤ x ∧ x ≤ 9223372036854775807 := by rw [← HX]; exact refX_bd _
        obtain ⟨hxb1, hxb2⟩ := hxb
        obtain ⟨t, ht⟩ : ∃ t, bs (Lib.itoa x) = t := ⟨_, rfl⟩
        have HD := fun w => rsigned_any x hxb1 hxb2 w
        rw [ht] at HD
        have HD' := Lib.hid HD
        have hlt' : s.size ≤ k ∨ 20 ≤ k := by omega
        clear hlt HV HF
        by_cases hd : Lib.itoa x = s.data.toList
        · have HR := Lib.hid (show refI s.data.toList = some x by unfold refI; rw [HX]; exact if_pos hd)
          obtain rfl : t = s := by rw [← ht, hd]; exact bs_of s
          clear ht HD hd HX
          by_cases hz : k < t.size
          · exact absurd (show 0 < t.size by omega) h0
          ·
            go_wp2_with fail
            refine (HD'.out _).mono ?_
            rintro e w' ⟨rfl, rfl⟩
            go_wp2
            go_ret2
            exact ⟨by rw [HR.out]; rfl, rfl⟩
        · have HR := Lib.hid (show refI s.data.toList = none by unfold refI; rw [HX]; exact if_neg hd)
          have hne := str_neq (a := t) (b := s) (by rw [← ht, bs_toList]; exact hd)
          clear ht HD hd HX
          by_cases hz : k < s.size
          · exact absurd (show 0 < s.size by omega) h0
          ·
            go_wp2_with fail
            refine (HD'.out _).mono ?_
            rintro e w' ⟨rfl, rfl⟩
            go_wp2
            go_ret2
            exact ⟨by rw [HR.out]; rfl, rfl⟩
theorem rwhole_any (s : ByteArray) (hs : s.size ≤ 2048) (w : World) : Calls Tryd.prog 21 #[.string s] w fun e w' => e = intR (refI s.data.toList) ∧ w = w' := by
  cases h : isNeg s.data.toList with
  | true =>
    have h0 : 0 < s.size := by
      rw [blen]; cases hl : s.data.toList with
      | nil => rw [hl] at h; cases h
      | cons c l => simp
    have h2 := isNeg_at s h0
    rw [h] at h2
    exact rwhole_neg s hs h0 (by simpa using h2.symm) w
  | false => exact rwhole_pos s hs h w
end Go.Proofs.YtgbnmokajaehhaaDoor
