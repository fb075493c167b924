/- Contracts: Set, the reference's Set. -/
import Derived.Test.YtbgpkddobnldlaaB4
namespace Go.Proofs.Ytbgpkddobnldlaa
open Go.RowKit
/-- Two answers: a text and an error. -/
def strErr (s : ByteArray) (e : Int) : Ending := .returned (.tuple #[.string s, .int .i64 e])
theorem Ints.one (w : World) (i : Int) : Ints (w.alloc (.cells #[.int .i64 i] 3)) (some ⟨w.heap.size, 0, none⟩) 1 [i] := by
  refine ⟨rfl, .inr ⟨w.heap.size, 0, rfl, by simp, fun j hj => ?_⟩⟩
  obtain rfl : j = 0 := by omega
  simp [go_sem]
theorem bset_yes (s : ByteArray) (i : Nat) (on : Bool) (w : World) (hs : s.size = 480) (h : i < 3840) : Calls Try.prog 7 #[.string s, .int .i64 (i : Int), .bool on] w fun e w' => e = strErr (bs (setL s.data.toList i on)) 0 ∧ Below w.heap.size w w' := by
  have H := Lib.hid hs
  clear hs
  go_enter Try.func7, Try.ntmps7
  go_wp2_with (first | (go_at_call 22; refine (isBitmap_yes _ _ H.out).mono ?_; rintro e w' ⟨rfl, rfl⟩) | (go_at_call 23; refine (exists_yes _ _ (by omega) (by omega)).mono ?_; rintro e w' ⟨rfl, rfl⟩))
  refine (set_any s on _ 1 1 [(i : Int)] _ H.out (Ints.one w i) (by omega) (fun z hz => by simp at hz; omega)).mono ?_
  rintro e w1 ⟨rfl, hb⟩
  go_wp2
  go_ret2
  exact ⟨rfl, below_to ((Below.refl _ _).alloc (Nat.le_refl _) _) hb⟩
theorem bset_no (s : ByteArray) (i : Int) (on : Bool) (w : World) (h : ¬ (s.size = 480 ∧ 0 ≤ i ∧ i < 3840)) : Calls Try.prog 7 #[.string s, .int .i64 i, .bool on] w fun e w' => e = strErr ⟨#[]⟩ 18 ∧ w = w' := by
  by_cases hs : s.size = 480
  · have H := Lib.hid hs
    have H2 := Lib.hid (show ¬ (0 ≤ i ∧ i < 3840) from fun x => h ⟨hs, x⟩)
    clear hs h
    go_enter Try.func7, Try.ntmps7
    go_wp2_with (first | (go_at_call 22; refine (isBitmap_yes _ _ H.out).mono ?_; rintro e w' ⟨rfl, rfl⟩) | (go_at_call 23; refine (exists_no _ _ H2.out).mono ?_; rintro e w' ⟨rfl, rfl⟩))
    go_ret2
    exact ⟨rfl, rfl⟩
  · have H := Lib.hid hs
    clear hs h
    go_enter Try.func7, Try.ntmps7
    go_wp2_with (first | (go_at_call 22; refine (isBitmap_no _ _ H.out).mono ?_; rintro e w' ⟨rfl, rfl⟩))
    go_ret2
    exact ⟨rfl, rfl⟩
theorem rset_no (s : ByteArray) (i : Int) (on : Bool) (w : World) (h : ¬ (s.size = 480 ∧ 0 ≤ i ∧ i < 3840)) : Calls Try.prog 8 #[.string s, .int .i64 i, .bool on] w fun e w' => e = strErr ⟨#[]⟩ 18 ∧ w = w' := by
  by_cases hs : s.size = 480
  · have hd : ((s.size : Int) != 480) = false := by rw [bne_eq_false_iff_eq]; omega
    by_cases h1 : i < 0
    · clear h hs
      go_enter Try.func8, Try.ntmps8
      go_wp2
      go_ret2
      exact ⟨rfl, rfl⟩
    · have h2 : 3839 < i := by omega
      clear h hs
      go_enter Try.func8, Try.ntmps8
      go_wp2
      go_ret2
      exact ⟨rfl, rfl⟩
  · have hd : ((s.size : Int) != 480) = true := by rw [bne_iff_ne]; omega
    clear h hs
    go_enter Try.func8, Try.ntmps8
    go_wp2
    go_ret2
    exact ⟨rfl, rfl⟩
theorem setC_in : ∀ c : Fin 256, ∀ k : Fin 8, (bitC (UInt8.ofNat c.val) k.val = true → 2 ^ k.val ≤ c.val) ∧ (bitC (UInt8.ofNat c.val) k.val = false → c.val + 2 ^ k.val < 256) := by decide +kernel
theorem setC_val (c : UInt8) (k : Nat) (on : Bool) (hk : k < 8) : ((setC c k on).toNat : Int) = (c.toNat : Int) - (if bitC c k then ((2 ^ k : Nat) : Int) else 0) + (if on then ((2 ^ k : Nat) : Int) else 0) := by
  have h := setC_in ⟨c.toNat, c.toNat_lt⟩ ⟨k, hk⟩
  simp only [UInt8.ofNat_toNat] at h
  have h2 : 2 ^ k ≤ 128 := Nat.pow_le_pow_right (n := 2) (by omega) (show k ≤ 7 by omega)
  have hc := c.toNat_lt
  unfold setC
  generalize 2 ^ k = p at *
  rw [UInt8.toNat_ofNat']
  cases hb : bitC c k <;> cases on <;> simp [hb] at h ⊢ <;> omega
theorem BRow.one (w : World) (x : UInt8) : BRow (w.alloc (.cells #[.int .u8 (x.toNat : Int)] 5)) w.heap.size [x] := by
  intro j hj
  obtain rfl : j = 0 := by simpa using hj
  constructor <;> simp [go_sem]
theorem set_str (s : ByteArray) (q : Nat) (x : UInt8) (h : q < s.size) : s.extract 0 q ++ bs [x] ++ s.extract (q + 1) s.size = bs (s.data.toList.set q x) := by
  apply ByteArray.ext
  apply Array.toList_inj.1
  have h' : q < s.data.toList.length := by simpa using h
  have e1 : (s.extract 0 q).data.toList = s.data.toList.take q := by simp [ByteArray.data_extract]
  have e2 : (s.extract (q + 1) s.size).data.toList = s.data.toList.drop (q + 1) := by
    rw [ByteArray.data_extract, Array.toList_extract, List.extract, List.take_of_length_le]
    simp
  rw [ByteArray.data_append, ByteArray.data_append, Array.toList_append, Array.toList_append, e1, e2, bs_toList, bs_toList, List.set_eq_take_append_cons_drop, if_pos h']
  simp
theorem set_final (s : ByteArray) (i q : Nat) (x : UInt8) (on : Bool) (hq : i / 8 = q) (hi : i / 8 < s.size) (hx : setC s[i / 8] (i % 8) on = x) : s.extract 0 q ++ bs [x] ++ s.extract (q + 1) s.size = bs (setL s.data.toList i on) := by
  rw [set_str s q x (by omega), ← set_step s.data.toList q i s[i / 8] on hq (by rw [← blen]; omega) (by subst hq; simp [ByteArray.getElem_eq_getElem_data]), hx]
theorem strErr_of {a b : ByteArray} {e : Int} (h : a = b) : Ending.returned (.tuple #[.string a, .int .i64 e]) = strErr b e := by subst h; rfl
set_option maxRecDepth 100000 in
set_option maxHeartbeats 1000000 in
theorem rset_yes (s : ByteArray) (i : Nat) (on : Bool) (w : World) (hs : s.size = 480) (h : i < 3840) : Calls Try.prog 8 #[.string s, .int .i64 (i : Int), .bool on] w fun e w' => e = strErr (bs (setL s.data.toList i on)) 0 ∧ Below w.heap.size w w' := by
  have hd : ((s.size : Int) != 480) = false := by rw [bne_eq_false_iff_eq]; omega
  have hx : i / 8 < s.size := by omega
  have h0 : ¬ (3839 : Int) < (i : Int) := by omega
  have hc : s[i / 8].toNat < 256 := s[i / 8].toNat_lt
  have HS := Lib.hid hs
  have HC := Lib.hid (setC_val s[i / 8] (i % 8) on (by omega))
  have HB := Lib.hid (at_bit s i hx)
  clear hs
  go_enter Try.func8, Try.ntmps8
  go_wp2
  go_loop [8, 9] (fun b j => ∃ k v : Nat, k ≤ i % 8 ∧ v ≤ 128 ∧ Hid (v = 2 ^ k) ∧ b = .int .i64 (v : Int) ∧ j = .int .i64 (k : Int)) (fun _ j => i % 8 - (intOf j).toNat)
  case atStart => exact ⟨0, 1, by omega, by omega, Lib.hid (by simp), rfl, rfl⟩
  case round =>
    obtain ⟨k, v, hk, hv, HV, rfl, rfl⟩ := hrel
    by_cases hlt : k < i % 8
    · have hlt' : (k : Int) < (i : Int) % 8 := by omega
      have hv2 : v ≤ 64 := by rw [HV.out]; exact Nat.pow_le_pow_right (n := 2) (by omega) (show k ≤ 6 by omega)
      go_wp2
      go_round
      case rel => exact ⟨k + 1, 2 * v, by omega, by omega, Lib.hid (by rw [HV.out, Nat.pow_succ]; omega), by go_num, by go_num⟩
      case measure => simp [intOf]; omega
    · have hlt' : ¬ (k : Int) < (i : Int) % 8 := by omega
      obtain rfl : k = i % 8 := by omega
      have hU := fun w => rused_yes s i w HS.out h
      cases hb : bitL s.data.toList i with
      | true =>
        rw [hb] at hU
        have HU := Lib.hid hU
        have hbc : bitC s[i / 8] (i % 8) = true := by rw [← HB.out]; exact hb
        have hC := HC.out
        rw [hbc, ← HV.out] at hC
        have HCC := Lib.hid hC
        clear hU hb hbc hC
        cases on with
        | true =>
          go_wp2_with (go_at_call 10; refine (HU.out _).mono ?_; rintro e w1 ⟨rfl, rfl⟩)
          obtain ⟨x, hx2⟩ : ∃ x, setC s[i / 8] (i % 8) true = x := ⟨_, rfl⟩
          obtain ⟨q, hq⟩ : ∃ q, i / 8 = q := ⟨_, rfl⟩
          have hX : (s[i / 8].toNat : Int) = (x.toNat : Int) := by have h := HCC.out; rw [hx2] at h; rw [h]; simp
          rw [hX]
          have hqs : q < s.size := by omega
          have hxl : x.toNat < 256 := x.toNat_lt
          have hw : IntKind.i64.wrap ((i : Int) / 8) = (q : Int) := by rw [IntWalk.i64_in _ (by omega)]; omega
          have hw2 : IntKind.i64.wrap ((q : Int) + 1) = (q : Int) + 1 := IntWalk.i64_in _ (by omega)
          have hw3 : IntKind.u8.wrap (x.toNat : Int) = (x.toNat : Int) := by rw [IntKind.wrap_u8]; omega
          have kb := toStr' (w.alloc (.cells #[.int .u8 (x.toNat : Int)] 5)).drew w.heap.size 1 1 [x] (BRow.one w x).drew rfl
          have hq1 : q ≤ s.size := by omega
          have hq2 : q + 1 ≤ s.size := by omega
          have hb1 : ¬ 9223372036854775807 < q + (bs [x]).size := by rw [bs_size, List.length_singleton]; have := HS.out; omega
          have hb2 : ¬ 9223372036854775807 < q + (bs [x]).size + (s.size - (q + 1)) := by rw [bs_size, List.length_singleton]; have := HS.out; omega
          have HF := Lib.hid (set_final s i q x true hq hx hx2)
          clear hX hx2 hq hlt'
          go_region
          go_wp2
          go_ret2
          exact ⟨strErr_of HF.out, ((Below.refl _ _).alloc (Nat.le_refl _) _).drew⟩
        | false =>
          go_wp2_with (go_at_call 10; refine (HU.out _).mono ?_; rintro e w1 ⟨rfl, rfl⟩)
          obtain ⟨x, hx2⟩ : ∃ x, setC s[i / 8] (i % 8) false = x := ⟨_, rfl⟩
          obtain ⟨q, hq⟩ : ∃ q, i / 8 = q := ⟨_, rfl⟩
          have hX : (s[i / 8].toNat : Int) - (v : Int) = (x.toNat : Int) := by have h := HCC.out; rw [hx2] at h; rw [h]; simp
          rw [hX]
          have hqs : q < s.size := by omega
          have hxl : x.toNat < 256 := x.toNat_lt
          have hw : IntKind.i64.wrap ((i : Int) / 8) = (q : Int) := by rw [IntWalk.i64_in _ (by omega)]; omega
          have hw2 : IntKind.i64.wrap ((q : Int) + 1) = (q : Int) + 1 := IntWalk.i64_in _ (by omega)
          have hw3 : IntKind.u8.wrap (x.toNat : Int) = (x.toNat : Int) := by rw [IntKind.wrap_u8]; omega
          have kb := toStr' (w.alloc (.cells #[.int .u8 (x.toNat : Int)] 5)).drew w.heap.size 1 1 [x] (BRow.one w x).drew rfl
          have hq1 : q ≤ s.size := by omega
          have hq2 : q + 1 ≤ s.size := by omega
          have hb1 : ¬ 9223372036854775807 < q + (bs [x]).size := by rw [bs_size, List.length_singleton]; have := HS.out; omega
          have hb2 : ¬ 9223372036854775807 < q + (bs [x]).size + (s.size - (q + 1)) := by rw [bs_size, List.length_singleton]; have := HS.out; omega
          have HF := Lib.hid (set_final s i q x false hq hx hx2)
          clear hX hx2 hq hlt'
          go_region
          go_wp2
          go_ret2
          exact ⟨strErr_of HF.out, ((Below.refl _ _).alloc (Nat.le_refl _) _).drew⟩
      | false =>
        rw [hb] at hU
        have HU := Lib.hid hU
        have hbc : bitC s[i / 8] (i % 8) = false := by rw [← HB.out]; exact hb
        have hC := HC.out
        rw [hbc, ← HV.out] at hC
        have HCC := Lib.hid hC
        clear hU hb hbc hC
        cases on with
        | true =>
          go_wp2_with (go_at_call 10; refine (HU.out _).mono ?_; rintro e w1 ⟨rfl, rfl⟩)
          obtain ⟨x, hx2⟩ : ∃ x, setC s[i / 8] (i % 8) true = x := ⟨_, rfl⟩
          obtain ⟨q, hq⟩ : ∃ q, i / 8 = q := ⟨_, rfl⟩
          have hX : (s[i / 8].toNat : Int) + (v : Int) = (x.toNat : Int) := by have h := HCC.out; rw [hx2] at h; rw [h]; simp
          rw [hX]
          have hqs : q < s.size := by omega
          have hxl : x.toNat < 256 := x.toNat_lt
          have hw : IntKind.i64.wrap ((i : Int) / 8) = (q : Int) := by rw [IntWalk.i64_in _ (by omega)]; omega
          have hw2 : IntKind.i64.wrap ((q : Int) + 1) = (q : Int) + 1 := IntWalk.i64_in _ (by omega)
          have hw3 : IntKind.u8.wrap (x.toNat : Int) = (x.toNat : Int) := by rw [IntKind.wrap_u8]; omega
          have kb := toStr' (w.alloc (.cells #[.int .u8 (x.toNat : Int)] 5)).drew w.heap.size 1 1 [x] (BRow.one w x).drew rfl
          have hq1 : q ≤ s.size := by omega
          have hq2 : q + 1 ≤ s.size := by omega
          have hb1 : ¬ 9223372036854775807 < q + (bs [x]).size := by rw [bs_size, List.length_singleton]; have := HS.out; omega
          have hb2 : ¬ 9223372036854775807 < q + (bs [x]).size + (s.size - (q + 1)) := by rw [bs_size, List.length_singleton]; have := HS.out; omega
          have HF := Lib.hid (set_final s i q x true hq hx hx2)
          clear hX hx2 hq hlt'
          go_region
          go_wp2
          go_ret2
          exact ⟨strErr_of HF.out, ((Below.refl _ _).alloc (Nat.le_refl _) _).drew⟩
        | false =>
          go_wp2_with (go_at_call 10; refine (HU.out _).mono ?_; rintro e w1 ⟨rfl, rfl⟩)
          obtain ⟨x, hx2⟩ : ∃ x, setC s[i / 8] (i % 8) false = x := ⟨_, rfl⟩
          obtain ⟨q, hq⟩ : ∃ q, i / 8 = q := ⟨_, rfl⟩
          have hX : (s[i / 8].toNat : Int) = (x.toNat : Int) := by have h := HCC.out; rw [hx2] at h; rw [h]; simp
          rw [hX]
          have hqs : q < s.size := by omega
          have hxl : x.toNat < 256 := x.toNat_lt
          have hw : IntKind.i64.wrap ((i : Int) / 8) = (q : Int) := by rw [IntWalk.i64_in _ (by omega)]; omega
          have hw2 : IntKind.i64.wrap ((q : Int) + 1) = (q : Int) + 1 := IntWalk.i64_in _ (by omega)
          have hw3 : IntKind.u8.wrap (x.toNat : Int) = (x.toNat : Int) := by rw [IntKind.wrap_u8]; omega
          have kb := toStr' (w.alloc (.cells #[.int .u8 (x.toNat : Int)] 5)).drew w.heap.size 1 1 [x] (BRow.one w x).drew rfl
          have hq1 : q ≤ s.size := by omega
          have hq2 : q + 1 ≤ s.size := by omega
          have hb1 : ¬ 9223372036854775807 < q + (bs [x]).size := by rw [bs_size, List.length_singleton]; have := HS.out; omega
          have hb2 : ¬ 9223372036854775807 < q + (bs [x]).size + (s.size - (q + 1)) := by rw [bs_size, List.length_singleton]; have := HS.out; omega
          have HF := Lib.hid (set_final s i q x false hq hx hx2)
          clear hX hx2 hq hlt'
          go_region
          go_wp2
          go_ret2
          exact ⟨strErr_of HF.out, ((Below.refl _ _).alloc (Nat.le_refl _) _).drew⟩
end Go.Proofs.Ytbgpkddobnldlaa
