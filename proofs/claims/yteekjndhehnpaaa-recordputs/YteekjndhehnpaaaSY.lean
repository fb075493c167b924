/- The walk of RecordPuts. -/
import Derived.Test.YteekjndhehnpaaaSX
import Derived.Test.YteekjndhehnpaaaSQ
import Derived.Deep.Cut
namespace Go.Proofs.Yteekjndhehnpaaa
open Go.RowKit
set_option maxRecDepth 100000
set_option linter.unusedVariables false
set_option linter.unusedSimpArgs false
set_option maxHeartbeats 20000000
theorem recordPuts_main (a b c d m a1 b1 c1 d1 : Int) (n1 : Nat) (i : Nat) (q : Bool) (n : Nat) (f z : Int) (s : ByteArray) (hs2 : ¬ (1000 : Int) < (s.size : Int)) (n2 : Nat) (f2 z2 : Int) (X1 X2 X3 X4 X5 : ByteArray) (E1 E2 E3 E4 E5 : Int)
    (P1 : Hid (∀ w, Calls Try.prog 28 #[.agg #[.int .i64 a, .int .i64 b, .int .i64 c, .int .i64 d]] w fun e w' => e = .returned (.tuple #[.string X1, .int .i64 E1]) ∧ Below w.heap.size w w'))
    (R1 : Hid (∀ w, Calls Try.prog 29 #[.agg #[.int .i64 a, .int .i64 b, .int .i64 c, .int .i64 d]] w fun e w' => e = .returned (.tuple #[.string X1, .int .i64 E1]) ∧ Below w.heap.size w w'))
    (P2 : Hid (∀ w, Calls Try.prog 30 #[.agg #[.int .i64 m, .int .i64 a1, .int .i64 b1, .int .i64 c1, .int .i64 d1, .int .u64 (n1 : Int)]] w fun e w' => e = .returned (.tuple #[.string X2, .int .i64 E2]) ∧ Below w.heap.size w w'))
    (R2 : Hid (∀ w, Calls Try.prog 31 #[.agg #[.int .i64 m, .int .i64 a1, .int .i64 b1, .int .i64 c1, .int .i64 d1, .int .u64 (n1 : Int)]] w fun e w' => e = .returned (.tuple #[.string X2, .int .i64 E2]) ∧ Below w.heap.size w w'))
    (P3 : Hid (∀ w, Calls Try.prog 32 #[.agg #[.int .u64 (i : Int), .bool q, .int .u32 (n : Int), .int .i64 f, .int .i64 z]] w fun e w' => e = .returned (.tuple #[.string X3, .int .i64 E3]) ∧ Below w.heap.size w w'))
    (R3 : Hid (∀ w, Calls Try.prog 33 #[.agg #[.int .u64 (i : Int), .bool q, .int .u32 (n : Int), .int .i64 f, .int .i64 z]] w fun e w' => e = .returned (.tuple #[.string X3, .int .i64 E3]) ∧ Below w.heap.size w w'))
    (P4 : Hid (∀ w, Calls Try.prog 34 #[.agg #[.string s]] w fun e w' => e = .returned (.tuple #[.string X4, .int .i64 E4]) ∧ Below w.heap.size w w'))
    (R4 : Hid (∀ w, Calls Try.prog 35 #[.string s] w fun e w' => e = .returned (.tuple #[.string X4, .int .i64 E4]) ∧ Below w.heap.size w w'))
    (P5 : Hid (∀ w, Calls Try.prog 36 #[.agg #[.int .u32 (n2 : Int), .int .i64 f2, .int .i64 z2]] w fun e w' => e = .returned (.tuple #[.string X5, .int .i64 E5]) ∧ Below w.heap.size w w'))
    (R5 : Hid (∀ w, Calls Try.prog 37 #[.agg #[.int .u32 (n2 : Int), .int .i64 f2, .int .i64 z2]] w fun e w' => e = .returned (.tuple #[.string X5, .int .i64 E5]) ∧ Below w.heap.size w w'))
    (w : World) : Calls Try.prog 7 #[.agg #[.int .i64 a, .int .i64 b, .int .i64 c, .int .i64 d], .agg #[.int .i64 m, .int .i64 a1, .int .i64 b1, .int .i64 c1, .int .i64 d1, .int .u64 (n1 : Int)], .agg #[.int .u64 (i : Int), .bool q, .int .u32 (n : Int), .int .i64 f, .int .i64 z], .string s, .agg #[.int .u32 (n2 : Int), .int .i64 f2, .int .i64 z2]] w fun e w' => e = .returned (.bool true) ∧ Below w.heap.size w w' := by
  have HL := Lib.hid (fun w => rlives_any w)
  have K5 := (((Blk.new w [.int .i64 a, .int .i64 b, .int .i64 c, .int .i64 d] 49).below (below_box _ (.cells #[.int .i64 m, .int .i64 a1, .int .i64 b1, .int .i64 c1, .int .i64 d1, .int .u64 (n1 : Int)] 51))).below (below_box _ (.cells #[.int .u64 (i : Int), .bool q, .int .u32 (n : Int), .int .i64 f, .int .i64 z] 56))).below (below_box _ (.cells #[.int .u32 (n2 : Int), .int .i64 f2, .int .i64 z2] 58))
  have K6 := ((Blk.new (w.alloc (.cells #[.int .i64 a, .int .i64 b, .int .i64 c, .int .i64 d] 49)) [.int .i64 m, .int .i64 a1, .int .i64 b1, .int .i64 c1, .int .i64 d1, .int .u64 (n1 : Int)] 51).below (below_box _ (.cells #[.int .u64 (i : Int), .bool q, .int .u32 (n : Int), .int .i64 f, .int .i64 z] 56))).below (below_box _ (.cells #[.int .u32 (n2 : Int), .int .i64 f2, .int .i64 z2] 58))
  have K7 := (Blk.new ((w.alloc (.cells #[.int .i64 a, .int .i64 b, .int .i64 c, .int .i64 d] 49)).alloc (.cells #[.int .i64 m, .int .i64 a1, .int .i64 b1, .int .i64 c1, .int .i64 d1, .int .u64 (n1 : Int)] 51)) [.int .u64 (i : Int), .bool q, .int .u32 (n : Int), .int .i64 f, .int .i64 z] 56).below (below_box _ (.cells #[.int .u32 (n2 : Int), .int .i64 f2, .int .i64 z2] 58))
  have K9 := Blk.new (((w.alloc (.cells #[.int .i64 a, .int .i64 b, .int .i64 c, .int .i64 d] 49)).alloc (.cells #[.int .i64 m, .int .i64 a1, .int .i64 b1, .int .i64 c1, .int .i64 d1, .int .u64 (n1 : Int)] 51)).alloc (.cells #[.int .u64 (i : Int), .bool q, .int .u32 (n : Int), .int .i64 f, .int .i64 z] 56)) [.int .u32 (n2 : Int), .int .i64 f2, .int .i64 z2] 58
  have BB := below_to (below_to (below_to (below_box w (.cells #[.int .i64 a, .int .i64 b, .int .i64 c, .int .i64 d] 49)) (below_box _ (.cells #[.int .i64 m, .int .i64 a1, .int .i64 b1, .int .i64 c1, .int .i64 d1, .int .u64 (n1 : Int)] 51))) (below_box _ (.cells #[.int .u64 (i : Int), .bool q, .int .u32 (n : Int), .int .i64 f, .int .i64 z] 56))) (below_box _ (.cells #[.int .u32 (n2 : Int), .int .i64 f2, .int .i64 z2] 58))
  have y4 : (w.alloc (.cells #[.int .i64 a, .int .i64 b, .int .i64 c, .int .i64 d] 49)).heap.size = w.heap.size + 1 := by simp
  have y5 : ((w.alloc (.cells #[.int .i64 a, .int .i64 b, .int .i64 c, .int .i64 d] 49)).alloc (.cells #[.int .i64 m, .int .i64 a1, .int .i64 b1, .int .i64 c1, .int .i64 d1, .int .u64 (n1 : Int)] 51)).heap.size = w.heap.size + 1 + 1 := by simp
  have y6 : (((w.alloc (.cells #[.int .i64 a, .int .i64 b, .int .i64 c, .int .i64 d] 49)).alloc (.cells #[.int .i64 m, .int .i64 a1, .int .i64 b1, .int .i64 c1, .int .i64 d1, .int .u64 (n1 : Int)] 51)).alloc (.cells #[.int .u64 (i : Int), .bool q, .int .u32 (n : Int), .int .i64 f, .int .i64 z] 56)).heap.size = w.heap.size + 1 + 1 + 1 := by simp
  rw [y4] at K6
  rw [y5] at K7
  rw [y6] at K9
  clear y4 y5 y6
  go_enter Try.func7, Try.ntmps7
  go_upto_region 1 with (fail)
  generalize (((w.alloc (.cells #[.int .i64 a, .int .i64 b, .int .i64 c, .int .i64 d] 49)).alloc (.cells #[.int .i64 m, .int .i64 a1, .int .i64 b1, .int .i64 c1, .int .i64 d1, .int .u64 (n1 : Int)] 51)).alloc (.cells #[.int .u64 (i : Int), .bool q, .int .u32 (n : Int), .int .i64 f, .int .i64 z] 56)).alloc (.cells #[.int .u32 (n2 : Int), .int .i64 f2, .int .i64 z2] 58) = w0 at K5 K6 K7 K9 BB ⊢
  have k0 := K5.cell 0 _ rfl
  have k1 := K5.cell 1 _ rfl
  have k2 := K5.cell 2 _ rfl
  have k3 := K5.cell 3 _ rfl
  go_wp2_with fail
  refine (P1.out _).mono ?_
  rintro e w1 ⟨rfl, hb⟩
  replace K5 := K5.below hb
  replace K6 := K6.below hb
  replace K7 := K7.below hb
  replace K9 := K9.below hb
  replace BB := below_to BB hb
  clear hb
  clear k0 k1 k2 k3
  have k0 := K5.cell 0 _ rfl
  have k1 := K5.cell 1 _ rfl
  have k2 := K5.cell 2 _ rfl
  have k3 := K5.cell 3 _ rfl
  go_wp2_with fail
  refine (R1.out _).mono ?_
  rintro e w2 ⟨rfl, hb⟩
  replace K5 := K5.below hb
  replace K6 := K6.below hb
  replace K7 := K7.below hb
  replace K9 := K9.below hb
  replace BB := below_to BB hb
  clear hb
  clear k0 k1 k2 k3
  have k0 := K6.cell 0 _ rfl
  have k1 := K6.cell 1 _ rfl
  have k2 := K6.cell 2 _ rfl
  have k3 := K6.cell 3 _ rfl
  have k4 := K6.cell 4 _ rfl
  have k5 := K6.cell 5 _ rfl
  go_wp2_with fail
  refine (P2.out _).mono ?_
  rintro e w3 ⟨rfl, hb⟩
  replace K5 := K5.below hb
  replace K6 := K6.below hb
  replace K7 := K7.below hb
  replace K9 := K9.below hb
  replace BB := below_to BB hb
  clear hb
  clear k0 k1 k2 k3 k4 k5
  have k0 := K6.cell 0 _ rfl
  have k1 := K6.cell 1 _ rfl
  have k2 := K6.cell 2 _ rfl
  have k3 := K6.cell 3 _ rfl
  have k4 := K6.cell 4 _ rfl
  have k5 := K6.cell 5 _ rfl
  go_wp2_with fail
  refine (R2.out _).mono ?_
  rintro e w4 ⟨rfl, hb⟩
  replace K5 := K5.below hb
  replace K6 := K6.below hb
  replace K7 := K7.below hb
  replace K9 := K9.below hb
  replace BB := below_to BB hb
  clear hb
  clear k0 k1 k2 k3 k4 k5
  have k0 := K7.cell 0 _ rfl
  have k1 := K7.cell 1 _ rfl
  have k2 := K7.cell 2 _ rfl
  have k3 := K7.cell 3 _ rfl
  have k4 := K7.cell 4 _ rfl
  go_wp2_with fail
  refine (P3.out _).mono ?_
  rintro e w5 ⟨rfl, hb⟩
  replace K5 := K5.below hb
  replace K6 := K6.below hb
  replace K7 := K7.below hb
  replace K9 := K9.below hb
  replace BB := below_to BB hb
  clear hb
  clear k0 k1 k2 k3 k4
  have k0 := K7.cell 0 _ rfl
  have k1 := K7.cell 1 _ rfl
  have k2 := K7.cell 2 _ rfl
  have k3 := K7.cell 3 _ rfl
  have k4 := K7.cell 4 _ rfl
  go_wp2_with fail
  refine (R3.out _).mono ?_
  rintro e w6 ⟨rfl, hb⟩
  replace K5 := K5.below hb
  replace K6 := K6.below hb
  replace K7 := K7.below hb
  replace K9 := K9.below hb
  replace BB := below_to BB hb
  clear hb
  clear k0 k1 k2 k3 k4
  go_wp2_with fail
  refine (P4.out _).mono ?_
  rintro e w7 ⟨rfl, hb⟩
  replace K5 := K5.below hb
  replace K6 := K6.below hb
  replace K7 := K7.below hb
  replace K9 := K9.below hb
  replace BB := below_to BB hb
  clear hb
  go_wp2_with fail
  refine (R4.out _).mono ?_
  rintro e w8 ⟨rfl, hb⟩
  replace K5 := K5.below hb
  replace K6 := K6.below hb
  replace K7 := K7.below hb
  replace K9 := K9.below hb
  replace BB := below_to BB hb
  clear hb
  have k0 := K9.cell 0 _ rfl
  have k1 := K9.cell 1 _ rfl
  have k2 := K9.cell 2 _ rfl
  go_wp2_with fail
  refine (P5.out _).mono ?_
  rintro e w9 ⟨rfl, hb⟩
  replace K5 := K5.below hb
  replace K6 := K6.below hb
  replace K7 := K7.below hb
  replace K9 := K9.below hb
  replace BB := below_to BB hb
  clear hb
  clear k0 k1 k2
  have k0 := K9.cell 0 _ rfl
  have k1 := K9.cell 1 _ rfl
  have k2 := K9.cell 2 _ rfl
  go_wp2_with fail
  refine (R5.out _).mono ?_
  rintro e w10 ⟨rfl, hb⟩
  replace K5 := K5.below hb
  replace K6 := K6.below hb
  replace K7 := K7.below hb
  replace K9 := K9.below hb
  replace BB := below_to BB hb
  clear hb
  clear k0 k1 k2
  go_wp2_with fail
  refine (HL.out _).mono ?_
  rintro e w20 ⟨rfl, hb⟩
  replace BB := below_to BB hb
  clear hb K5 K6 K7 K9 P1 P2 P3 P4 P5 R1 R2 R3 R4 R5 HL
  try simp only [List.append]
  go_wp2_with fail
  go_ret
  exact ⟨rfl, BB⟩
theorem recordPuts_walk (a b c d m a1 b1 c1 d1 : Int) (n1 : Nat) (hn1 : n1 < 18446744073709551616) (i : Nat) (hi : i < 18446744073709551616) (q : Bool) (n : Nat) (hn : n < 4294967296) (f z : Int) (s : ByteArray) (n2 : Nat) (hn2 : n2 < 4294967296) (f2 z2 : Int) (w : World) :
    Calls Try.prog 7 #[.agg #[.int .i64 a, .int .i64 b, .int .i64 c, .int .i64 d], .agg #[.int .i64 m, .int .i64 a1, .int .i64 b1, .int .i64 c1, .int .i64 d1, .int .u64 (n1 : Int)], .agg #[.int .u64 (i : Int), .bool q, .int .u32 (n : Int), .int .i64 f, .int .i64 z], .string s, .agg #[.int .u32 (n2 : Int), .int .i64 f2, .int .i64 z2]] w fun e w' => e = .returned (.bool true) ∧ Below w.heap.size w w' := by
  by_cases hs : s.size ≤ 1000
  · exact recordPuts_main a b c d m a1 b1 c1 d1 n1 i q n f z s (by omega) n2 f2 z2 _ _ _ _ _ _ _ _ _ _ (Lib.hid (fun w => putTenant_any a b c d w)) (Lib.hid (fun w => rputTenant_any a b c d w)) (Lib.hid (fun w => putBucket_any m a1 b1 c1 d1 n1 hn1 w)) (Lib.hid (fun w => rputBucket_any m a1 b1 c1 d1 n1 hn1 w)) (Lib.hid (fun w => putVersion_any i hi q n hn f z w)) (Lib.hid (fun w => rputVersion_any i hi q n hn f z w)) (Lib.hid (fun w => putUpload_any s hs w)) (Lib.hid (fun w => rputUpload_any s hs w)) (Lib.hid (fun w => putPart_any n2 hn2 f2 z2 w)) (Lib.hid (fun w => rputPart_any n2 hn2 f2 z2 w)) w
  · have hs2 : (1000 : Int) < (s.size : Int) := by omega
    have HL := Lib.hid (fun w => rlives_any w)
    have BB := below_to (below_to (below_to (below_box w (.cells #[.int .i64 a, .int .i64 b, .int .i64 c, .int .i64 d] 49)) (below_box _ (.cells #[.int .i64 m, .int .i64 a1, .int .i64 b1, .int .i64 c1, .int .i64 d1, .int .u64 (n1 : Int)] 51))) (below_box _ (.cells #[.int .u64 (i : Int), .bool q, .int .u32 (n : Int), .int .i64 f, .int .i64 z] 56))) (below_box _ (.cells #[.int .u32 (n2 : Int), .int .i64 f2, .int .i64 z2] 58))
    go_enter Try.func7, Try.ntmps7
    go_wp2_with fail
    refine (HL.out _).mono ?_
    rintro e w1 ⟨rfl, hb⟩
    go_wp2_with fail
    go_ret
    exact ⟨rfl, below_to BB hb⟩
end Go.Proofs.Yteekjndhehnpaaa
