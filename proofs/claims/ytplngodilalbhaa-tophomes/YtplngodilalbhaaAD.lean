/- The examples of the sectors hold. -/
import Derived.Test.YtplngodilalbhaaAC
namespace Go.Proofs.Ytplngodilalbhaa
open Go.RowKit
set_option maxHeartbeats 2000000 in
theorem lives6 (w : World) : Calls Try.prog 10 #[] w fun e w' => e = .returned (.bool true) ∧ Below w.heap.size w w' := by
  obtain ⟨P, b, h, z, Z, X⟩ := exHold
  have bs1 : 512 ≤ b.size := by have := X.eb.sz; omega
  have hd : ((b.size : Int) == 512) = true := by rw [X.eb.sz]; rfl
  have hz : ((Z.size : Int) == 512) = true := by rw [X.zs]; rfl
  have b0 := X.eb.b0 (by omega)
  have b3 := X.eb.b3 (by omega)
  have b5 := X.eb.b5 (by omega)
  have b15 := X.eb.b15 (by omega)
  have b22 := X.eb.b22 (by omega)
  have b23 := X.eb.b23 (by omega)
  have b32 := X.eb.b32 (by omega)
  have H := Lib.hid X
  clear X
  go_enter Try.func10, Try.ntmps10
  go_wp2_with fail
  refine (H.out.n1 _).mono ?_
  rintro x w1 ⟨rfl, B⟩
  go_wp2_with fail
  have S1 := (Sec.new w1 2 3 258 7 1 P 29).1
  replace B := below_to B (Sec.new w1 2 3 258 7 1 P 29).2
  refine (H.out.n2 _).mono ?_
  rintro x w2 ⟨rfl, hb⟩
  replace S1 := S1.below hb
  replace B := below_to B hb
  clear hb
  unfold strErr
  go_wp2_with fail
  refine (H.out.n3 _).mono ?_
  rintro x w3 ⟨rfl, hb⟩
  replace S1 := S1.below hb
  replace B := below_to B hb
  clear hb
  unfold secErr
  go_wp2_with fail
  have S4 := (Sec.new w3 2 3 258 7 1 P 29).1
  replace S1 := S1.below (Sec.new w3 2 3 258 7 1 P 29).2
  replace B := below_to B (Sec.new w3 2 3 258 7 1 P 29).2
  refine (H.out.n1 _).mono ?_
  rintro x w4 ⟨rfl, hb⟩
  replace S1 := S1.below hb
  replace S4 := S4.below hb
  replace B := below_to B hb
  clear hb
  go_wp2_with fail
  refine (H.out.n4 _).mono ?_
  rintro x w5 ⟨rfl, hb⟩
  replace S1 := S1.below hb
  replace S4 := S4.below hb
  replace B := below_to B hb
  clear hb
  unfold strErr
  go_wp2_with fail
  refine (H.out.n1 _).mono ?_
  rintro x w6 ⟨rfl, hb⟩
  replace S1 := S1.below hb
  replace S4 := S4.below hb
  replace B := below_to B hb
  clear hb
  go_wp2_with fail
  refine (H.out.n5 _).mono ?_
  rintro x w7 ⟨rfl, hb⟩
  replace S1 := S1.below hb
  replace S4 := S4.below hb
  replace B := below_to B hb
  clear hb
  unfold strErr
  go_wp2_with fail
  refine (H.out.n6 _).mono ?_
  rintro x w8 ⟨rfl, hb⟩
  replace S1 := S1.below hb
  replace S4 := S4.below hb
  replace B := below_to B hb
  clear hb
  unfold strErr
  go_wp2_with fail
  refine (H.out.n7 _).mono ?_
  rintro x w9 ⟨rfl, hb⟩
  replace S1 := S1.below hb
  replace S4 := S4.below hb
  replace B := below_to B hb
  clear hb
  unfold strErr
  go_wp2_with fail
  refine (H.out.n8 _).mono ?_
  rintro x w10 ⟨rfl, hb⟩
  replace S1 := S1.below hb
  replace S4 := S4.below hb
  replace B := below_to B hb
  clear hb
  go_wp2_with fail
  refine (H.out.n9 _).mono ?_
  rintro x w11 ⟨rfl, hb⟩
  replace S1 := S1.below hb
  replace S4 := S4.below hb
  replace B := below_to B hb
  clear hb
  unfold strErr
  obtain ⟨c0, c1, c2, c3, c4, c5⟩ := S1
  obtain ⟨d0, d1, d2, d3, d4, d5⟩ := S4
  go_wp2_with fail
  refine (H.out.n1 _).mono ?_
  rintro x w12 ⟨rfl, hb⟩
  replace B := below_to B hb
  clear hb
  go_wp2_with fail
  refine (blank_any Z H.out.zz _).mono ?_
  rintro x w13 ⟨rfl, hb⟩
  replace B := below_to B hb
  clear hb
  go_wp2_with fail
  go_ret
  exact ⟨rfl, B⟩
end Go.Proofs.Ytplngodilalbhaa
