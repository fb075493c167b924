/- SectorTells, walked. -/
import Derived.Test.YtplngodilalbhaaAD
namespace Go.Proofs.Ytplngodilalbhaa
open Go.RowKit
set_option maxHeartbeats 2000000 in
theorem tells_ok (k : Int) (e n : Nat) (a m : Int) (p b : ByteArray) (w : World) (h1 : p.size ≤ 4096) (h2 : b.size ≤ 4096) (h : okS k a m p.size) (x : ByteArray) (y : Int) (HS : SealPair k e n a m p x y)
    (k2 : Int) (e2 n2 : Nat) (a2 m2 : Int) (p2 : ByteArray) (y2 : Int) (HO : OpenPair b k2 e2 n2 a2 m2 p2 y2) :
    Calls Try.prog 3 #[.agg #[.int .i64 k, .int .u64 (e : Int), .int .u64 (n : Int), .int .i64 a, .int .i64 m, .string p], .string b] w fun r w' => r = .returned (.bool true) ∧ Below w.heap.size w w' := by
  have nC := Lib.hid (fun w => check_ok k e n a m p w h)
  have nR := Lib.hid (fun w => right_ok k e n a m p w h)
  have HS' := Lib.hid HS
  have HO' := Lib.hid HO
  clear h HS HO
  go_enter Try.func3, Try.ntmps3
  have S := (Sec.new w k e n a m p 24).1
  have B := (Sec.new w k e n a m p 24).2
  go_wp2_with fail
  refine (sealed_any _ _ _ _ _ _ _).mono ?_
  rintro r w1 ⟨rfl, hb⟩
  replace S := S.below hb
  replace B := below_to B hb
  clear hb
  go_wp2_with fail
  refine (HS'.out.h1 _).mono ?_
  rintro r w2 ⟨rfl, hb⟩
  replace S := S.below hb
  replace B := below_to B hb
  clear hb
  unfold strErr
  have G := S
  obtain ⟨c0, c1, c2, c3, c4, c5⟩ := S
  go_wp2_with fail
  refine (HS'.out.h2 _).mono ?_
  rintro r w3 ⟨rfl, hb⟩
  clear c0 c1 c2 c3 c4 c5
  replace G := G.below hb
  replace B := below_to B hb
  clear hb
  unfold strErr
  go_wp2_with fail
  refine (HO'.out.h1 _).mono ?_
  rintro r w4 ⟨rfl, hb⟩
  replace G := G.below hb
  replace B := below_to B hb
  clear hb
  unfold secErr
  go_wp2_with fail
  have T := (Sec.new w4 k2 e2 n2 a2 m2 p2 29).1
  replace G := G.below (Sec.new w4 k2 e2 n2 a2 m2 p2 29).2
  replace B := below_to B (Sec.new w4 k2 e2 n2 a2 m2 p2 29).2
  refine (HO'.out.h2 _).mono ?_
  rintro r w5 ⟨rfl, hb⟩
  replace G := G.below hb
  replace T := T.below hb
  replace B := below_to B hb
  clear hb
  unfold secErr
  go_wp2_with fail
  have U := (Sec.new w5 k2 e2 n2 a2 m2 p2 24).1
  replace G := G.below (Sec.new w5 k2 e2 n2 a2 m2 p2 24).2
  replace T := T.below (Sec.new w5 k2 e2 n2 a2 m2 p2 24).2
  replace B := below_to B (Sec.new w5 k2 e2 n2 a2 m2 p2 24).2
  generalize w5.alloc (.cells #[.int .i64 k2, .int .u64 (e2 : Int), .int .u64 (n2 : Int), .int .i64 a2, .int .i64 m2, .string p2] 24) = W at G T U B ⊢
  have c0 := G.q0
  have c1 := G.q1
  have c2 := G.q2
  have c3 := G.q3
  have c4 := G.q4
  have c5 := G.q5
  have d0 := T.q0
  have d1 := T.q1
  have d2 := T.q2
  have d3 := T.q3
  have d4 := T.q4
  have d5 := T.q5
  have e0 := U.q0
  have e1 := U.q1
  have e2 := U.q2
  have e3 := U.q3
  have e4 := U.q4
  have e5 := U.q5
  have hne : Nonempty (Bw W) := ⟨⟨W, Below.refl _ _⟩⟩
  refine wp_region_below (by kernel_rfl) (by kernel_rfl) ?_
  go_big_quiet_step (exact Calls.bw_of (lives6 _))
  repeat (go_big_quiet_step (fail))
  go_big_quiet_step (exact Calls.bw_of (sealed_any _ _ _ _ _ _ _))
  repeat (go_big_quiet_step (fail))
  go_big_quiet_step (exact Calls.bw_of (sealed_any _ _ _ _ _ _ _))
  go_big_quiet_step (exact Calls.bw_of (nC.out _))
  repeat (go_big_quiet_step (fail))
  go_big_quiet_step (exact Calls.bw_of (nR.out _))
  repeat (go_big_quiet_step (fail))
  go_big_quiet_step (exact Calls.bw_of (sealed_any _ _ _ _ _ _ _))
  go_big_quiet_step (exact Calls.bw_of (nC.out _))
  repeat (go_big_quiet_step (fail))
  refine wpQuiet_nil ?_
  rintro _ ⟨q, rfl⟩
  go_wp2_with fail
  go_ret
  exact ⟨rfl, below_to B q.h⟩
set_option maxHeartbeats 2000000 in
theorem tells_no (k : Int) (e n : Nat) (a m : Int) (p b : ByteArray) (w : World) (h1 : p.size ≤ 4096) (h2 : b.size ≤ 4096) (h : ¬ okS k a m p.size) (x : ByteArray) (y : Int) (HS : SealPair k e n a m p x y)
    (k2 : Int) (e2 n2 : Nat) (a2 m2 : Int) (p2 : ByteArray) (y2 : Int) (HO : OpenPair b k2 e2 n2 a2 m2 p2 y2) :
    Calls Try.prog 3 #[.agg #[.int .i64 k, .int .u64 (e : Int), .int .u64 (n : Int), .int .i64 a, .int .i64 m, .string p], .string b] w fun r w' => r = .returned (.bool true) ∧ Below w.heap.size w w' := by
  have nC := Lib.hid (fun w => check_no k e n a m p w h)
  have nR := Lib.hid (fun w => right_no k e n a m p w h)
  have HS' := Lib.hid HS
  have HO' := Lib.hid HO
  clear h HS HO
  go_enter Try.func3, Try.ntmps3
  have S := (Sec.new w k e n a m p 24).1
  have B := (Sec.new w k e n a m p 24).2
  go_wp2_with fail
  refine (sealed_any _ _ _ _ _ _ _).mono ?_
  rintro r w1 ⟨rfl, hb⟩
  replace S := S.below hb
  replace B := below_to B hb
  clear hb
  go_wp2_with fail
  refine (HS'.out.h1 _).mono ?_
  rintro r w2 ⟨rfl, hb⟩
  replace S := S.below hb
  replace B := below_to B hb
  clear hb
  unfold strErr
  have G := S
  obtain ⟨c0, c1, c2, c3, c4, c5⟩ := S
  go_wp2_with fail
  refine (HS'.out.h2 _).mono ?_
  rintro r w3 ⟨rfl, hb⟩
  clear c0 c1 c2 c3 c4 c5
  replace G := G.below hb
  replace B := below_to B hb
  clear hb
  unfold strErr
  go_wp2_with fail
  refine (HO'.out.h1 _).mono ?_
  rintro r w4 ⟨rfl, hb⟩
  replace G := G.below hb
  replace B := below_to B hb
  clear hb
  unfold secErr
  go_wp2_with fail
  have T := (Sec.new w4 k2 e2 n2 a2 m2 p2 29).1
  replace G := G.below (Sec.new w4 k2 e2 n2 a2 m2 p2 29).2
  replace B := below_to B (Sec.new w4 k2 e2 n2 a2 m2 p2 29).2
  refine (HO'.out.h2 _).mono ?_
  rintro r w5 ⟨rfl, hb⟩
  replace G := G.below hb
  replace T := T.below hb
  replace B := below_to B hb
  clear hb
  unfold secErr
  go_wp2_with fail
  have U := (Sec.new w5 k2 e2 n2 a2 m2 p2 24).1
  replace G := G.below (Sec.new w5 k2 e2 n2 a2 m2 p2 24).2
  replace T := T.below (Sec.new w5 k2 e2 n2 a2 m2 p2 24).2
  replace B := below_to B (Sec.new w5 k2 e2 n2 a2 m2 p2 24).2
  generalize w5.alloc (.cells #[.int .i64 k2, .int .u64 (e2 : Int), .int .u64 (n2 : Int), .int .i64 a2, .int .i64 m2, .string p2] 24) = W at G T U B ⊢
  have c0 := G.q0
  have c1 := G.q1
  have c2 := G.q2
  have c3 := G.q3
  have c4 := G.q4
  have c5 := G.q5
  have d0 := T.q0
  have d1 := T.q1
  have d2 := T.q2
  have d3 := T.q3
  have d4 := T.q4
  have d5 := T.q5
  have e0 := U.q0
  have e1 := U.q1
  have e2 := U.q2
  have e3 := U.q3
  have e4 := U.q4
  have e5 := U.q5
  have hne : Nonempty (Bw W) := ⟨⟨W, Below.refl _ _⟩⟩
  refine wp_region_below (by kernel_rfl) (by kernel_rfl) ?_
  go_big_quiet_step (exact Calls.bw_of (lives6 _))
  repeat (go_big_quiet_step (fail))
  go_big_quiet_step (exact Calls.bw_of (sealed_any _ _ _ _ _ _ _))
  repeat (go_big_quiet_step (fail))
  go_big_quiet_step (exact Calls.bw_of (sealed_any _ _ _ _ _ _ _))
  go_big_quiet_step (exact Calls.bw_of (nC.out _))
  repeat (go_big_quiet_step (fail))
  go_big_quiet_step (exact Calls.bw_of (nR.out _))
  repeat (go_big_quiet_step (fail))
  go_big_quiet_step (exact Calls.bw_of (sealed_any _ _ _ _ _ _ _))
  go_big_quiet_step (exact Calls.bw_of (nC.out _))
  repeat (go_big_quiet_step (fail))
  go_big_quiet_step (exact Calls.bw_of (sealed_any _ _ _ _ _ _ _))
  go_big_quiet_step (exact Calls.bw_of (nC.out _))
  repeat (go_big_quiet_step (fail))
  refine wpQuiet_nil ?_
  rintro _ ⟨q, rfl⟩
  go_wp2_with fail
  go_ret
  exact ⟨rfl, below_to B q.h⟩
theorem tells_far (k : Int) (e n : Nat) (a m : Int) (p b : ByteArray) (w : World) (h : 4096 < p.size ∨ 4096 < b.size) (hp : p.size ≤ maxLen) (hb : b.size ≤ maxLen) :
    Calls Try.prog 3 #[.agg #[.int .i64 k, .int .u64 (e : Int), .int .u64 (n : Int), .int .i64 a, .int .i64 m, .string p], .string b] w fun r w' => r = .returned (.bool true) ∧ Below w.heap.size w w' := by
  have B := (Sec.new w k e n a m p 24).2
  replace hp : p.size ≤ 9223372036854775807 := hp
  replace hb : b.size ≤ 9223372036854775807 := hb
  by_cases h1 : 4096 < p.size
  · clear h
    go_enter Try.func3, Try.ntmps3
    go_wp2_with fail
    refine (lives6 _).mono ?_
    rintro r w1 ⟨rfl, hb⟩
    go_wp2_with fail
    go_ret
    exact ⟨rfl, below_to B hb⟩
  · have h2 : 4096 < b.size := by omega
    clear h
    go_enter Try.func3, Try.ntmps3
    go_wp2_with fail
    refine (lives6 _).mono ?_
    rintro r w1 ⟨rfl, hb⟩
    go_wp2_with fail
    go_ret
    exact ⟨rfl, below_to B hb⟩
theorem sectorTells_walk (k : Int) (e n : Nat) (a m : Int) (p b : ByteArray) (w : World) (he : e < 18446744073709551616) (hn : n < 18446744073709551616) (hp : p.size ≤ maxLen) (hb : b.size ≤ maxLen) :
    Calls Try.prog 3 #[.agg #[.int .i64 k, .int .u64 (e : Int), .int .u64 (n : Int), .int .i64 a, .int .i64 m, .string p], .string b] w fun r w' => r = .returned (.bool true) ∧ Below w.heap.size w w' := by
  by_cases h : 4096 < p.size ∨ 4096 < b.size
  · exact tells_far k e n a m p b w h hp hb
  · obtain ⟨x, y, HS⟩ := seal_pair k e n a m p he hn
    obtain ⟨k2, e2, n2, a2, m2, p2, y2, HO⟩ := open_pair b hb
    by_cases hok : okS k a m p.size
    · exact tells_ok k e n a m p b w (by omega) (by omega) hok x y HS k2 e2 n2 a2 m2 p2 y2 HO
    · exact tells_no k e n a m p b w (by omega) (by omega) hok x y HS k2 e2 n2 a2 m2 p2 y2 HO
end Go.Proofs.Ytplngodilalbhaa
