/- SectorHomes, walked. -/
import Derived.Test.YtplngodilalbhaaAD
namespace Go.Proofs.Ytplngodilalbhaa
open Go.RowKit
set_option maxHeartbeats 1000000 in
theorem homes_no (a : Int) (p b : ByteArray) (o : Int) (w : World) (h1 : p.size ≤ 4096) (h2 : b.size ≤ 4096) (HP : HomePair a p ByteArray.empty 18) (q : ByteArray) (z : Int) (OP : OfPair b o q z) :
    Calls Try.prog 4 #[.int .i64 a, .string p, .string b, .int .i64 o] w fun r w' => r = .returned (.bool true) ∧ Below w.heap.size w w' := by
  have HP' := Lib.hid HP
  have OP' := Lib.hid OP
  clear HP OP
  go_enter Try.func4, Try.ntmps4
  go_wp2_with fail
  refine (HP'.out.h1 _).mono ?_
  rintro r w1 ⟨rfl, B⟩
  unfold strErr
  go_wp2_with fail
  refine (HP'.out.h2 _).mono ?_
  rintro r w2 ⟨rfl, hb⟩
  replace B := below_to B hb
  clear hb
  unfold strErr
  go_wp2_with fail
  refine (OP'.out.h1 _).mono ?_
  rintro r w3 ⟨rfl, hb⟩
  replace B := below_to B hb
  clear hb
  unfold strErr
  go_wp2_with fail
  refine (OP'.out.h2 _).mono ?_
  rintro r w4 ⟨rfl, hb⟩
  replace B := below_to B hb
  clear hb
  unfold strErr
  go_wp2_with fail
  refine (lives6 _).mono ?_
  rintro r w5 ⟨rfl, hb⟩
  replace B := below_to B hb
  clear hb
  go_wp2_with fail
  go_ret
  exact ⟨rfl, B⟩
set_option maxHeartbeats 1000000 in
theorem homes_ok (a : Int) (p b : ByteArray) (o : Int) (w : World) (h1 : p.size ≤ 4096) (h2 : b.size ≤ 4096) (x : ByteArray) (HP : HomePair a p x 0) (XP : OfPair x a p 0) (q : ByteArray) (z : Int) (OP : OfPair b o q z) :
    Calls Try.prog 4 #[.int .i64 a, .string p, .string b, .int .i64 o] w fun r w' => r = .returned (.bool true) ∧ Below w.heap.size w w' := by
  have HP' := Lib.hid HP
  have OP' := Lib.hid OP
  have XP' := Lib.hid XP
  clear HP OP XP
  go_enter Try.func4, Try.ntmps4
  go_wp2_with fail
  refine (HP'.out.h1 _).mono ?_
  rintro r w1 ⟨rfl, B⟩
  unfold strErr
  go_wp2_with fail
  refine (HP'.out.h2 _).mono ?_
  rintro r w2 ⟨rfl, hb⟩
  replace B := below_to B hb
  clear hb
  unfold strErr
  go_wp2_with fail
  refine (OP'.out.h1 _).mono ?_
  rintro r w3 ⟨rfl, hb⟩
  replace B := below_to B hb
  clear hb
  unfold strErr
  go_wp2_with fail
  refine (OP'.out.h2 _).mono ?_
  rintro r w4 ⟨rfl, hb⟩
  replace B := below_to B hb
  clear hb
  unfold strErr
  go_wp2_with fail
  refine (XP'.out.h1 _).mono ?_
  rintro r w5 ⟨rfl, hb⟩
  replace B := below_to B hb
  clear hb
  unfold strErr
  go_wp2_with fail
  refine (lives6 _).mono ?_
  rintro r w6 ⟨rfl, hb⟩
  replace B := below_to B hb
  clear hb
  go_wp2_with fail
  go_ret
  exact ⟨rfl, B⟩
theorem homes_far (a : Int) (p b : ByteArray) (o : Int) (w : World) (h : 4096 < p.size ∨ 4096 < b.size) (hp : p.size ≤ maxLen) (hb : b.size ≤ maxLen) :
    Calls Try.prog 4 #[.int .i64 a, .string p, .string b, .int .i64 o] w fun r w' => r = .returned (.bool true) ∧ Below w.heap.size w w' := by
  replace hp : p.size ≤ 9223372036854775807 := hp
  replace hb : b.size ≤ 9223372036854775807 := hb
  by_cases h1 : 4096 < p.size
  · clear h
    go_enter Try.func4, Try.ntmps4
    go_wp2_with fail
    refine (lives6 _).mono ?_
    rintro r w1 ⟨rfl, hb⟩
    go_wp2_with fail
    go_ret
    exact ⟨rfl, hb⟩
  · have h2 : 4096 < b.size := by omega
    clear h
    go_enter Try.func4, Try.ntmps4
    go_wp2_with fail
    refine (lives6 _).mono ?_
    rintro r w1 ⟨rfl, hb⟩
    go_wp2_with fail
    go_ret
    exact ⟨rfl, hb⟩
theorem sectorHomes_walk (a : Int) (p b : ByteArray) (o : Int) (w : World) (hp : p.size ≤ maxLen) (hb : b.size ≤ maxLen) :
    Calls Try.prog 4 #[.int .i64 a, .string p, .string b, .int .i64 o] w fun r w' => r = .returned (.bool true) ∧ Below w.heap.size w w' := by
  by_cases h : 4096 < p.size ∨ 4096 < b.size
  · exact homes_far a p b o w h hp hb
  · obtain ⟨x, y, HP, hy⟩ := home_pair a p
    obtain ⟨q, z, OP⟩ := of_pair b o hb
    rcases hy with ⟨rfl, XP⟩ | ⟨rfl, rfl⟩
    · exact homes_ok a p b o w (by omega) (by omega) x HP XP q z OP
    · exact homes_no a p b o w (by omega) (by omega) HP q z OP
end Go.Proofs.Ytplngodilalbhaa
