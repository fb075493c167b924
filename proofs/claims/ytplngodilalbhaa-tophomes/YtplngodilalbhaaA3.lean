/- Contract: the reference's Seal. -/
import Derived.Test.YtplngodilalbhaaA2
namespace Go.Proofs.Ytplngodilalbhaa
open Go.RowKit
theorem rnum_lit (m n : Nat) (t : ByteArray) (M : Int) (hM : M = m) (h : bs (numL m n) = t) (w : World) (h1 : 1 ≤ m) (h2 : m ≤ 8) (hn : n < 18446744073709551616) :
    Calls Try.prog 47 #[.int .i64 M, .int .u64 (n : Int)] w fun e w' => e = .returned (.string t) ∧ Below w.heap.size w w' := by
  subst hM h; exact rnum_ok m n w h1 h2 hn
set_option maxHeartbeats 400000 in
theorem rseal_ok (k e n a m : Nat) (p : ByteArray) (w : World) (h : okS k a m p.size) (he : e < 18446744073709551616) (hn : n < 18446744073709551616) :
    Calls Try.prog 13 #[.agg #[.int .i64 (k : Int), .int .u64 (e : Int), .int .u64 (n : Int), .int .i64 (a : Int), .int .i64 (m : Int), .string p]] w fun x w' => x = strErr (sealB k e n a m p) 0 ∧ Below w.heap.size w w' := by
  have hp : p.size = 480 := h.2.2.2.2.2.2
  have hk : k ≤ 255 := by have := h.2.1; omega
  have ha : a ≤ 65535 := by have := h.2.2.2.1; omega
  have hm : m ≤ 65535 := by have := h.2.2.2.2.2.1; omega
  have H := Lib.hid h
  clear h
  obtain ⟨t1, ht1, s1⟩ : ∃ t, bs (numL 1 k) = t ∧ t.size = 1 := ⟨_, rfl, by rw [bs_size, numL_length]⟩
  obtain ⟨t3, ht3, s3⟩ : ∃ t, bs (numL 2 a) = t ∧ t.size = 2 := ⟨_, rfl, by rw [bs_size, numL_length]⟩
  obtain ⟨t4, ht4, s4⟩ : ∃ t, bs (numL 2 m) = t ∧ t.size = 2 := ⟨_, rfl, by rw [bs_size, numL_length]⟩
  obtain ⟨t6, ht6, s6⟩ : ∃ t, bs (numL 8 e) = t ∧ t.size = 8 := ⟨_, rfl, by rw [bs_size, numL_length]⟩
  obtain ⟨t7, ht7, s7⟩ : ∃ t, bs (numL 8 n) = t ∧ t.size = 8 := ⟨_, rfl, by rw [bs_size, numL_length]⟩
  have z1 : (ByteArray.mk #[0]).size = 1 := by decide
  have z2 : (ByteArray.mk #[0, 0]).size = 2 := by decide
  have z4 : (ByteArray.mk #[0, 0, 0, 0]).size = 4 := by decide
  have hF : frontB k e n a m = t1 ++ ⟨#[0]⟩ ++ t3 ++ t4 ++ ⟨#[0, 0]⟩ ++ t6 ++ t7 ++ ⟨#[0, 0, 0, 0]⟩ := by subst ht1 ht3 ht4 ht6 ht7; rfl
  obtain ⟨u, hu⟩ : ∃ u, sumN (frontB k e n a m ++ p).data.toList = u := ⟨_, rfl⟩
  have hul : u < 4294967296 := by rw [← hu]; exact sumN_lt _
  obtain ⟨t, ht⟩ : ∃ t, bs (numL 4 u) = t := ⟨_, rfl⟩
  have hts : t.size = 4 := by rw [← ht, bs_size, numL_length]
  have HS := Lib.hid (show sealB k e n a m p = frontB k e n a m ++ t ++ p by unfold sealB; rw [hu, ht])
  have n1 := Lib.hid (fun w => rnum_lit 1 k t1 1 rfl ht1 w (by omega) (by omega) (by omega))
  have n3 := Lib.hid (fun w => rnum_lit 2 a t3 2 rfl ht3 w (by omega) (by omega) (by omega))
  have n4 := Lib.hid (fun w => rnum_lit 2 m t4 2 rfl ht4 w (by omega) (by omega) (by omega))
  have n6 := Lib.hid (fun w => rnum_lit 8 e t6 8 rfl ht6 w (by omega) (by omega) he)
  have n7 := Lib.hid (fun w => rnum_lit 8 n t7 8 rfl ht7 w (by omega) (by omega) hn)
  have nS := Lib.hid (fun w => rsum_lit (frontB k e n a m ++ p) u hu (by rw [ByteArray.size_append, frontB_size, hp]; decide) w)
  have nt := Lib.hid (fun w => rnum_lit 4 u t 4 rfl ht w (by omega) (by omega) (by omega))
  have hfs : (frontB k e n a m).size = 28 := frontB_size _ _ _ _ _
  have HF := Lib.hid hF
  clear hu ht ht1 ht3 ht4 ht6 ht7 hF
  generalize frontB k e n a m = f at HS nS hfs HF
  go_enter Try.func13, Try.ntmps13
  go_wp2_with fail
  refine (right_ok k e n a m p _ H.out).mono ?_
  rintro x w1 ⟨rfl, hb⟩
  have G := (Sec.new w k e n a m p 24).1.below hb
  have B := below_to (Sec.new w k e n a m p 24).2 hb
  clear hb
  go_wp2_with fail
  have c0 := G.q0
  have c1 := G.q1
  have c2 := G.q2
  have c3 := G.q3
  have c4 := G.q4
  have hne : Nonempty (Bw w1) := ⟨⟨w1, Below.refl _ _⟩⟩
  refine wp_region_below (by kernel_rfl) (by kernel_rfl) ?_
  repeat (go_big_quiet_step (fail))
  go_big_quiet_step (exact Calls.bw_of (n1.out _))
  repeat (go_big_quiet_step (fail))
  go_big_quiet_step (exact Calls.bw_of (n3.out _))
  repeat (go_big_quiet_step (fail))
  go_big_quiet_step (exact Calls.bw_of (n4.out _))
  repeat (go_big_quiet_step (fail))
  go_big_quiet_step (exact Calls.bw_of (n6.out _))
  repeat (go_big_quiet_step (fail))
  go_big_quiet_step (exact Calls.bw_of (n7.out _))
  repeat (go_big_quiet_step (fail))
  refine wpQuiet_nil ?_
  rintro _ ⟨q, rfl⟩
  obtain ⟨w2, hb⟩ := q
  clear hne c0 c1 c2 c3 c4
  show Exit.then _ _ Exit.normal _ w2
  replace G := G.below hb
  replace B := below_to B hb
  clear hb
  rw [← HF.out]
  go_wp2_with fail
  have c5 := G.q5
  have hne : Nonempty (Bw w2) := ⟨⟨w2, Below.refl _ _⟩⟩
  refine wp_region_below (by kernel_rfl) (by kernel_rfl) ?_
  repeat (go_big_quiet_step (fail))
  go_big_quiet_step (exact Calls.bw_of_same (nS.out _))
  repeat (go_big_quiet_step (fail))
  go_big_quiet_step (exact Calls.bw_of (nt.out _))
  repeat (go_big_quiet_step (fail))
  refine wpQuiet_nil ?_
  rintro _ ⟨q, rfl⟩
  go_wp2_with fail
  go_ret2
  exact ⟨by unfold strErr; rw [HS.out]; rfl, below_to B q.h⟩
theorem rseal_no (k : Int) (e n : Nat) (a m : Int) (p : ByteArray) (w : World) (h : ¬ okS k a m p.size) :
    Calls Try.prog 13 #[.agg #[.int .i64 k, .int .u64 (e : Int), .int .u64 (n : Int), .int .i64 a, .int .i64 m, .string p]] w fun x w' => x = strErr ByteArray.empty 18 ∧ Below w.heap.size w w' := by
  have H := Lib.hid h
  clear h
  go_enter Try.func13, Try.ntmps13
  go_wp2_with fail
  refine (right_no k e n a m p _ H.out).mono ?_
  rintro x w1 ⟨rfl, hb⟩
  have B := below_to (Sec.new w k e n a m p 24).2 hb
  clear hb
  go_wp2_with fail
  go_ret2
  exact ⟨rfl, B⟩
end Go.Proofs.Ytplngodilalbhaa
