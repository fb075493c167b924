/- The walk of RecordGets. -/
import Derived.Test.YteekjndhehnpaaaVA
import Derived.Test.YteekjndhehnpaaaSQ
import Derived.Deep.Cut
namespace Go.Proofs.Yteekjndhehnpaaa
open Go.RowKit
set_option maxRecDepth 100000
set_option linter.unusedVariables false
set_option linter.unusedSimpArgs false
set_option maxHeartbeats 20000000
theorem eql47s (a b : Int) (w : World) : (binOp .eql 47 (.agg #[.int .i64 a, .int .i64 b]) (.agg #[.int .i64 a, .int .i64 b])).run Try.prog w = .ok (.bool true) w := by simp [go_sem]
theorem eql54s (a b : Int) (w : World) : (binOp .eql 54 (.agg #[.int .i64 a, .int .i64 b]) (.agg #[.int .i64 a, .int .i64 b])).run Try.prog w = .ok (.bool true) w := by simp [go_sem]
theorem eql51s (m a b c d : Int) (n : Nat) (w : World) : (binOp .eql 51 (.agg #[.int .i64 m, .int .i64 a, .int .i64 b, .int .i64 c, .int .i64 d, .int .u64 (n : Int)]) (.agg #[.int .i64 m, .int .i64 a, .int .i64 b, .int .i64 c, .int .i64 d, .int .u64 (n : Int)])).run Try.prog w = .ok (.bool true) w := by simp [go_sem]
theorem eql56s (i : Nat) (q : Bool) (n : Nat) (f z : Int) (w : World) : (binOp .eql 56 (.agg #[.int .u64 (i : Int), .bool q, .int .u32 (n : Int), .int .i64 f, .int .i64 z]) (.agg #[.int .u64 (i : Int), .bool q, .int .u32 (n : Int), .int .i64 f, .int .i64 z])).run Try.prog w = .ok (.bool true) w := by cases q <;> simp [go_sem]
theorem recordGets_main (s : ByteArray) (hs2 : ¬ (1000 : Int) < (s.size : Int)) (a b c d m a1 b1 c1 d1 : Int) (n1 : Nat) (i : Nat) (q : Bool) (n : Nat) (f z : Int) (k : ByteArray) (n2 : Nat) (f2 z2 : Int) (E1 E2 E3 E4 E5 : Int)
    (H1 : Hid (∀ w, Calls Try.prog 38 #[.string s] w fun e w' => e = .returned (.tuple #[.agg #[.int .i64 a, .int .i64 b, .int .i64 c, .int .i64 d], .int .i64 E1]) ∧ Below w.heap.size w w'))
    (R1 : Hid (∀ w, Calls Try.prog 39 #[.string s] w fun e w' => e = .returned (.tuple #[.agg #[.int .i64 a, .int .i64 b, .int .i64 c, .int .i64 d], .int .i64 E1]) ∧ Below w.heap.size w w'))
    (H2 : Hid (∀ w, Calls Try.prog 40 #[.string s] w fun e w' => e = .returned (.tuple #[.agg #[.int .i64 m, .int .i64 a1, .int .i64 b1, .int .i64 c1, .int .i64 d1, .int .u64 (n1 : Int)], .int .i64 E2]) ∧ Below w.heap.size w w'))
    (R2 : Hid (∀ w, Calls Try.prog 41 #[.string s] w fun e w' => e = .returned (.tuple #[.agg #[.int .i64 m, .int .i64 a1, .int .i64 b1, .int .i64 c1, .int .i64 d1, .int .u64 (n1 : Int)], .int .i64 E2]) ∧ Below w.heap.size w w'))
    (H3 : Hid (∀ w, Calls Try.prog 42 #[.string s] w fun e w' => e = .returned (.tuple #[.agg #[.int .u64 (i : Int), .bool q, .int .u32 (n : Int), .int .i64 f, .int .i64 z], .int .i64 E3]) ∧ Below w.heap.size w w'))
    (R3 : Hid (∀ w, Calls Try.prog 43 #[.string s] w fun e w' => e = .returned (.tuple #[.agg #[.int .u64 (i : Int), .bool q, .int .u32 (n : Int), .int .i64 f, .int .i64 z], .int .i64 E3]) ∧ Below w.heap.size w w'))
    (H4 : Hid (∀ w, Calls Try.prog 44 #[.string s] w fun e w' => e = .returned (.tuple #[.agg #[.string k], .int .i64 E4]) ∧ Below w.heap.size w w'))
    (R4 : Hid (∀ w, Calls Try.prog 45 #[.string s] w fun e w' => e = .returned (.tuple #[.string k, .int .i64 E4]) ∧ Below w.heap.size w w'))
    (H5 : Hid (∀ w, Calls Try.prog 46 #[.string s] w fun e w' => e = .returned (.tuple #[.agg #[.int .u32 (n2 : Int), .int .i64 f2, .int .i64 z2], .int .i64 E5]) ∧ Below w.heap.size w w'))
    (R5 : Hid (∀ w, Calls Try.prog 47 #[.string s] w fun e w' => e = .returned (.tuple #[.agg #[.int .u32 (n2 : Int), .int .i64 f2, .int .i64 z2], .int .i64 E5]) ∧ Below w.heap.size w w'))
    (w : World) : Calls Try.prog 8 #[.string s] w fun e w' => e = .returned (.bool true) ∧ Below w.heap.size w w' := by
  have HL := Lib.hid (fun w => rlives_any w)
  have BB := Below.refl w.heap.size w
  go_enter Try.func8, Try.ntmps8
  go_wp2_with fail
  refine (H1.out _).mono ?_
  rintro e w0 ⟨rfl, hb⟩
  replace BB := below_to BB hb
  clear hb
  go_upto_region 4 with (fail)
  have Kt3 := Blk.new w0 [.int .i64 a, .int .i64 b, .int .i64 c, .int .i64 d] 60
  replace BB := below_to BB (below_box w0 (.cells #[.int .i64 a, .int .i64 b, .int .i64 c, .int .i64 d] 60))
  generalize w0.alloc (.cells #[.int .i64 a, .int .i64 b, .int .i64 c, .int .i64 d] 60) = w0a at Kt3  BB ⊢
  generalize w0.heap.size = gt3 at Kt3 ⊢
  go_wp2_with fail
  refine (R1.out _).mono ?_
  rintro e w1 ⟨rfl, hb⟩
  replace Kt3 := Kt3.below hb
  replace BB := below_to BB hb
  clear hb
  go_upto_region 5 with (fail)
  have Kt5 := Blk.new w1 [.int .i64 a, .int .i64 b, .int .i64 c, .int .i64 d] 49
  replace Kt3 := Kt3.below (below_box w1 (.cells #[.int .i64 a, .int .i64 b, .int .i64 c, .int .i64 d] 49))
  replace BB := below_to BB (below_box w1 (.cells #[.int .i64 a, .int .i64 b, .int .i64 c, .int .i64 d] 49))
  generalize w1.alloc (.cells #[.int .i64 a, .int .i64 b, .int .i64 c, .int .i64 d] 49) = w1a at Kt5 Kt3 BB ⊢
  generalize w1.heap.size = gt5 at Kt5 ⊢
  go_wp2_with fail
  refine (H2.out _).mono ?_
  rintro e w2 ⟨rfl, hb⟩
  replace Kt3 := Kt3.below hb
  replace Kt5 := Kt5.below hb
  replace BB := below_to BB hb
  clear hb
  go_upto_region 6 with (fail)
  have Kt7 := Blk.new w2 [.int .i64 m, .int .i64 a1, .int .i64 b1, .int .i64 c1, .int .i64 d1, .int .u64 (n1 : Int)] 51
  replace Kt3 := Kt3.below (below_box w2 (.cells #[.int .i64 m, .int .i64 a1, .int .i64 b1, .int .i64 c1, .int .i64 d1, .int .u64 (n1 : Int)] 51))
  replace Kt5 := Kt5.below (below_box w2 (.cells #[.int .i64 m, .int .i64 a1, .int .i64 b1, .int .i64 c1, .int .i64 d1, .int .u64 (n1 : Int)] 51))
  replace BB := below_to BB (below_box w2 (.cells #[.int .i64 m, .int .i64 a1, .int .i64 b1, .int .i64 c1, .int .i64 d1, .int .u64 (n1 : Int)] 51))
  generalize w2.alloc (.cells #[.int .i64 m, .int .i64 a1, .int .i64 b1, .int .i64 c1, .int .i64 d1, .int .u64 (n1 : Int)] 51) = w2a at Kt7 Kt3 Kt5 BB ⊢
  generalize w2.heap.size = gt7 at Kt7 ⊢
  go_wp2_with fail
  refine (R2.out _).mono ?_
  rintro e w3 ⟨rfl, hb⟩
  replace Kt3 := Kt3.below hb
  replace Kt5 := Kt5.below hb
  replace Kt7 := Kt7.below hb
  replace BB := below_to BB hb
  clear hb
  go_upto_region 7 with (fail)
  have Kt9 := Blk.new w3 [.int .i64 m, .int .i64 a1, .int .i64 b1, .int .i64 c1, .int .i64 d1, .int .u64 (n1 : Int)] 51
  replace Kt3 := Kt3.below (below_box w3 (.cells #[.int .i64 m, .int .i64 a1, .int .i64 b1, .int .i64 c1, .int .i64 d1, .int .u64 (n1 : Int)] 51))
  replace Kt5 := Kt5.below (below_box w3 (.cells #[.int .i64 m, .int .i64 a1, .int .i64 b1, .int .i64 c1, .int .i64 d1, .int .u64 (n1 : Int)] 51))
  replace Kt7 := Kt7.below (below_box w3 (.cells #[.int .i64 m, .int .i64 a1, .int .i64 b1, .int .i64 c1, .int .i64 d1, .int .u64 (n1 : Int)] 51))
  replace BB := below_to BB (below_box w3 (.cells #[.int .i64 m, .int .i64 a1, .int .i64 b1, .int .i64 c1, .int .i64 d1, .int .u64 (n1 : Int)] 51))
  generalize w3.alloc (.cells #[.int .i64 m, .int .i64 a1, .int .i64 b1, .int .i64 c1, .int .i64 d1, .int .u64 (n1 : Int)] 51) = w3a at Kt9 Kt3 Kt5 Kt7 BB ⊢
  generalize w3.heap.size = gt9 at Kt9 ⊢
  go_wp2_with fail
  refine (H3.out _).mono ?_
  rintro e w4 ⟨rfl, hb⟩
  replace Kt3 := Kt3.below hb
  replace Kt5 := Kt5.below hb
  replace Kt7 := Kt7.below hb
  replace Kt9 := Kt9.below hb
  replace BB := below_to BB hb
  clear hb
  go_upto_region 8 with (fail)
  have Kt11 := Blk.new w4 [.int .u64 (i : Int), .bool q, .int .u32 (n : Int), .int .i64 f, .int .i64 z] 56
  replace Kt3 := Kt3.below (below_box w4 (.cells #[.int .u64 (i : Int), .bool q, .int .u32 (n : Int), .int .i64 f, .int .i64 z] 56))
  replace Kt5 := Kt5.below (below_box w4 (.cells #[.int .u64 (i : Int), .bool q, .int .u32 (n : Int), .int .i64 f, .int .i64 z] 56))
  replace Kt7 := Kt7.below (below_box w4 (.cells #[.int .u64 (i : Int), .bool q, .int .u32 (n : Int), .int .i64 f, .int .i64 z] 56))
  replace Kt9 := Kt9.below (below_box w4 (.cells #[.int .u64 (i : Int), .bool q, .int .u32 (n : Int), .int .i64 f, .int .i64 z] 56))
  replace BB := below_to BB (below_box w4 (.cells #[.int .u64 (i : Int), .bool q, .int .u32 (n : Int), .int .i64 f, .int .i64 z] 56))
  generalize w4.alloc (.cells #[.int .u64 (i : Int), .bool q, .int .u32 (n : Int), .int .i64 f, .int .i64 z] 56) = w4a at Kt11 Kt3 Kt5 Kt7 Kt9 BB ⊢
  generalize w4.heap.size = gt11 at Kt11 ⊢
  go_wp2_with fail
  refine (R3.out _).mono ?_
  rintro e w5 ⟨rfl, hb⟩
  replace Kt3 := Kt3.below hb
  replace Kt5 := Kt5.below hb
  replace Kt7 := Kt7.below hb
  replace Kt9 := Kt9.below hb
  replace Kt11 := Kt11.below hb
  replace BB := below_to BB hb
  clear hb
  go_upto_region 9 with (fail)
  have Kt13 := Blk.new w5 [.int .u64 (i : Int), .bool q, .int .u32 (n : Int), .int .i64 f, .int .i64 z] 56
  replace Kt3 := Kt3.below (below_box w5 (.cells #[.int .u64 (i : Int), .bool q, .int .u32 (n : Int), .int .i64 f, .int .i64 z] 56))
  replace Kt5 := Kt5.below (below_box w5 (.cells #[.int .u64 (i : Int), .bool q, .int .u32 (n : Int), .int .i64 f, .int .i64 z] 56))
  replace Kt7 := Kt7.below (below_box w5 (.cells #[.int .u64 (i : Int), .bool q, .int .u32 (n : Int), .int .i64 f, .int .i64 z] 56))
  replace Kt9 := Kt9.below (below_box w5 (.cells #[.int .u64 (i : Int), .bool q, .int .u32 (n : Int), .int .i64 f, .int .i64 z] 56))
  replace Kt11 := Kt11.below (below_box w5 (.cells #[.int .u64 (i : Int), .bool q, .int .u32 (n : Int), .int .i64 f, .int .i64 z] 56))
  replace BB := below_to BB (below_box w5 (.cells #[.int .u64 (i : Int), .bool q, .int .u32 (n : Int), .int .i64 f, .int .i64 z] 56))
  generalize w5.alloc (.cells #[.int .u64 (i : Int), .bool q, .int .u32 (n : Int), .int .i64 f, .int .i64 z] 56) = w5a at Kt13 Kt3 Kt5 Kt7 Kt9 Kt11 BB ⊢
  generalize w5.heap.size = gt13 at Kt13 ⊢
  go_wp2_with fail
  refine (H4.out _).mono ?_
  rintro e w6 ⟨rfl, hb⟩
  replace Kt3 := Kt3.below hb
  replace Kt5 := Kt5.below hb
  replace Kt7 := Kt7.below hb
  replace Kt9 := Kt9.below hb
  replace Kt11 := Kt11.below hb
  replace Kt13 := Kt13.below hb
  replace BB := below_to BB hb
  clear hb
  go_upto_region 10 with (fail)
  have Kt15 := Blk.new w6 [.string k] 66
  replace Kt3 := Kt3.below (below_box w6 (.cells #[.string k] 66))
  replace Kt5 := Kt5.below (below_box w6 (.cells #[.string k] 66))
  replace Kt7 := Kt7.below (below_box w6 (.cells #[.string k] 66))
  replace Kt9 := Kt9.below (below_box w6 (.cells #[.string k] 66))
  replace Kt11 := Kt11.below (below_box w6 (.cells #[.string k] 66))
  replace Kt13 := Kt13.below (below_box w6 (.cells #[.string k] 66))
  replace BB := below_to BB (below_box w6 (.cells #[.string k] 66))
  generalize w6.alloc (.cells #[.string k] 66) = w6a at Kt15 Kt3 Kt5 Kt7 Kt9 Kt11 Kt13 BB ⊢
  generalize w6.heap.size = gt15 at Kt15 ⊢
  go_wp2_with fail
  refine (R4.out _).mono ?_
  rintro e w7 ⟨rfl, hb⟩
  replace Kt3 := Kt3.below hb
  replace Kt5 := Kt5.below hb
  replace Kt7 := Kt7.below hb
  replace Kt9 := Kt9.below hb
  replace Kt11 := Kt11.below hb
  replace Kt13 := Kt13.below hb
  replace Kt15 := Kt15.below hb
  replace BB := below_to BB hb
  clear hb
  go_wp2_with fail
  refine (H5.out _).mono ?_
  rintro e w8 ⟨rfl, hb⟩
  replace Kt3 := Kt3.below hb
  replace Kt5 := Kt5.below hb
  replace Kt7 := Kt7.below hb
  replace Kt9 := Kt9.below hb
  replace Kt11 := Kt11.below hb
  replace Kt13 := Kt13.below hb
  replace Kt15 := Kt15.below hb
  replace BB := below_to BB hb
  clear hb
  go_upto_region 12 with (fail)
  have Kt19 := Blk.new w8 [.int .u32 (n2 : Int), .int .i64 f2, .int .i64 z2] 69
  replace Kt3 := Kt3.below (below_box w8 (.cells #[.int .u32 (n2 : Int), .int .i64 f2, .int .i64 z2] 69))
  replace Kt5 := Kt5.below (below_box w8 (.cells #[.int .u32 (n2 : Int), .int .i64 f2, .int .i64 z2] 69))
  replace Kt7 := Kt7.below (below_box w8 (.cells #[.int .u32 (n2 : Int), .int .i64 f2, .int .i64 z2] 69))
  replace Kt9 := Kt9.below (below_box w8 (.cells #[.int .u32 (n2 : Int), .int .i64 f2, .int .i64 z2] 69))
  replace Kt11 := Kt11.below (below_box w8 (.cells #[.int .u32 (n2 : Int), .int .i64 f2, .int .i64 z2] 69))
  replace Kt13 := Kt13.below (below_box w8 (.cells #[.int .u32 (n2 : Int), .int .i64 f2, .int .i64 z2] 69))
  replace Kt15 := Kt15.below (below_box w8 (.cells #[.int .u32 (n2 : Int), .int .i64 f2, .int .i64 z2] 69))
  replace BB := below_to BB (below_box w8 (.cells #[.int .u32 (n2 : Int), .int .i64 f2, .int .i64 z2] 69))
  generalize w8.alloc (.cells #[.int .u32 (n2 : Int), .int .i64 f2, .int .i64 z2] 69) = w8a at Kt19 Kt3 Kt5 Kt7 Kt9 Kt11 Kt13 Kt15 BB ⊢
  generalize w8.heap.size = gt19 at Kt19 ⊢
  go_wp2_with fail
  refine (R5.out _).mono ?_
  rintro e w9 ⟨rfl, hb⟩
  replace Kt3 := Kt3.below hb
  replace Kt5 := Kt5.below hb
  replace Kt7 := Kt7.below hb
  replace Kt9 := Kt9.below hb
  replace Kt11 := Kt11.below hb
  replace Kt13 := Kt13.below hb
  replace Kt15 := Kt15.below hb
  replace Kt19 := Kt19.below hb
  replace BB := below_to BB hb
  clear hb
  go_upto_region 13 with (fail)
  have Kt21 := Blk.new w9 [.int .u32 (n2 : Int), .int .i64 f2, .int .i64 z2] 58
  replace Kt3 := Kt3.below (below_box w9 (.cells #[.int .u32 (n2 : Int), .int .i64 f2, .int .i64 z2] 58))
  replace Kt5 := Kt5.below (below_box w9 (.cells #[.int .u32 (n2 : Int), .int .i64 f2, .int .i64 z2] 58))
  replace Kt7 := Kt7.below (below_box w9 (.cells #[.int .u32 (n2 : Int), .int .i64 f2, .int .i64 z2] 58))
  replace Kt9 := Kt9.below (below_box w9 (.cells #[.int .u32 (n2 : Int), .int .i64 f2, .int .i64 z2] 58))
  replace Kt11 := Kt11.below (below_box w9 (.cells #[.int .u32 (n2 : Int), .int .i64 f2, .int .i64 z2] 58))
  replace Kt13 := Kt13.below (below_box w9 (.cells #[.int .u32 (n2 : Int), .int .i64 f2, .int .i64 z2] 58))
  replace Kt15 := Kt15.below (below_box w9 (.cells #[.int .u32 (n2 : Int), .int .i64 f2, .int .i64 z2] 58))
  replace Kt19 := Kt19.below (below_box w9 (.cells #[.int .u32 (n2 : Int), .int .i64 f2, .int .i64 z2] 58))
  replace BB := below_to BB (below_box w9 (.cells #[.int .u32 (n2 : Int), .int .i64 f2, .int .i64 z2] 58))
  generalize w9.alloc (.cells #[.int .u32 (n2 : Int), .int .i64 f2, .int .i64 z2] 58) = w9a at Kt21 Kt3 Kt5 Kt7 Kt9 Kt11 Kt13 Kt15 Kt19 BB ⊢
  generalize w9.heap.size = gt21 at Kt21 ⊢
  clear H1 H2 H3 H4 H5 R1 R2 R3 R4 R5
  go_wp2_with fail
  refine (HL.out _).mono ?_
  rintro e wz ⟨rfl, hb⟩
  replace Kt3 := Kt3.below hb
  replace Kt5 := Kt5.below hb
  replace Kt7 := Kt7.below hb
  replace Kt9 := Kt9.below hb
  replace Kt11 := Kt11.below hb
  replace Kt13 := Kt13.below hb
  replace Kt15 := Kt15.below hb
  replace Kt19 := Kt19.below hb
  replace Kt21 := Kt21.below hb
  replace BB := below_to BB hb
  clear hb HL
  have t3_0 := Kt3.cell 0 _ rfl
  have t3_1 := Kt3.cell 1 _ rfl
  have t3_2 := Kt3.cell 2 _ rfl
  have t3_3 := Kt3.cell 3 _ rfl
  have t5_0 := Kt5.cell 0 _ rfl
  have t5_1 := Kt5.cell 1 _ rfl
  have t5_2 := Kt5.cell 2 _ rfl
  have t5_3 := Kt5.cell 3 _ rfl
  have t7_0 := Kt7.cell 0 _ rfl
  have t7_1 := Kt7.cell 1 _ rfl
  have t7_2 := Kt7.cell 2 _ rfl
  have t7_3 := Kt7.cell 3 _ rfl
  have t7_4 := Kt7.cell 4 _ rfl
  have t7_5 := Kt7.cell 5 _ rfl
  have t9_0 := Kt9.cell 0 _ rfl
  have t9_1 := Kt9.cell 1 _ rfl
  have t9_2 := Kt9.cell 2 _ rfl
  have t9_3 := Kt9.cell 3 _ rfl
  have t9_4 := Kt9.cell 4 _ rfl
  have t9_5 := Kt9.cell 5 _ rfl
  have t11_0 := Kt11.cell 0 _ rfl
  have t11_1 := Kt11.cell 1 _ rfl
  have t11_2 := Kt11.cell 2 _ rfl
  have t11_3 := Kt11.cell 3 _ rfl
  have t11_4 := Kt11.cell 4 _ rfl
  have t13_0 := Kt13.cell 0 _ rfl
  have t13_1 := Kt13.cell 1 _ rfl
  have t13_2 := Kt13.cell 2 _ rfl
  have t13_3 := Kt13.cell 3 _ rfl
  have t13_4 := Kt13.cell 4 _ rfl
  have t15_0 := Kt15.cell 0 _ rfl
  have t19_0 := Kt19.cell 0 _ rfl
  have t19_1 := Kt19.cell 1 _ rfl
  have t19_2 := Kt19.cell 2 _ rfl
  have t21_0 := Kt21.cell 0 _ rfl
  have t21_1 := Kt21.cell 1 _ rfl
  have t21_2 := Kt21.cell 2 _ rfl
  have q1 := fun w => eql47s a b w
  have q2 := fun w => eql47s c d w
  have q3 := fun w => eql51s m a1 b1 c1 d1 n1 w
  have q4 := fun w => eql56s i q n f z w
  have q5 := fun w => eql54s f2 z2 w
  clear Kt3 Kt5 Kt7 Kt9 Kt11 Kt13 Kt15 Kt19 Kt21
  try simp only [List.append]
  go_wp2_with fail
  go_ret
  exact ⟨rfl, BB⟩
theorem tenant_letters (s : ByteArray) : ∃ a b c d : Int, pickV (okGTenant s) (vTenant s) zTenant = .agg #[.int .i64 a, .int .i64 b, .int .i64 c, .int .i64 d] := by
  cases okGTenant s
  · exact ⟨0, 0, 0, 0, rfl⟩
  · exact ⟨_, _, _, _, rfl⟩
theorem bucket_letters (s : ByteArray) : ∃ (m a b c d : Int) (n : Nat), pickV (okGBucket s) (vBucket s) zBucket = .agg #[.int .i64 m, .int .i64 a, .int .i64 b, .int .i64 c, .int .i64 d, .int .u64 (n : Int)] := by
  cases okGBucket s
  · exact ⟨0, 0, 0, 0, 0, 0, rfl⟩
  · exact ⟨_, _, _, _, _, _, rfl⟩
theorem version_letters (s : ByteArray) : ∃ (i : Nat) (q : Bool) (n : Nat) (f z : Int), pickV (okGVersion s) (vVersion s) zVersion = .agg #[.int .u64 (i : Int), .bool q, .int .u32 (n : Int), .int .i64 f, .int .i64 z] := by
  cases okGVersion s
  · exact ⟨0, false, 0, 0, 0, rfl⟩
  · exact ⟨_, _, _, _, _, rfl⟩
theorem part_letters (s : ByteArray) : ∃ (n : Nat) (f z : Int), pickV (okGPart s) (vPart s) zPart = .agg #[.int .u32 (n : Int), .int .i64 f, .int .i64 z] := by
  cases okGPart s
  · exact ⟨0, 0, 0, rfl⟩
  · exact ⟨_, _, _, rfl⟩
theorem upload_letters (s : ByteArray) : ∃ k : ByteArray, pickV (okGUpload s) (vUpload s) zUpload = .agg #[.string k] ∧ pickV (okGUpload s) (.string s) (.string ⟨#[]⟩) = .string k := by
  cases okGUpload s
  · exact ⟨⟨#[]⟩, rfl, rfl⟩
  · exact ⟨s, rfl, rfl⟩
theorem recordGets_walk (s : ByteArray) (w : World) : Calls Try.prog 8 #[.string s] w fun e w' => e = .returned (.bool true) ∧ Below w.heap.size w w' := by
  by_cases hs : s.size ≤ 1000
  · obtain ⟨a, b, c, d, e1⟩ := tenant_letters s
    obtain ⟨m, a1, b1, c1, d1, n1, e2⟩ := bucket_letters s
    obtain ⟨i, q, n, f, z, e3⟩ := version_letters s
    obtain ⟨k, e4, e4'⟩ := upload_letters s
    obtain ⟨n2, f2, z2, e5⟩ := part_letters s
    have h1 := getTenant_any s hs
    have r1 := rgetTenant_any s hs
    have h2 := getBucket_any s hs
    have r2 := rgetBucket_any s hs
    have h3 := getVersion_any s hs
    have r3 := rgetVersion_any s hs
    have h4 := getUpload_any s hs
    have r4 := rgetUpload_any s hs
    have h5 := getPart_any s hs
    have r5 := rgetPart_any s hs
    rw [e1] at h1 r1
    rw [e2] at h2 r2
    rw [e3] at h3 r3
    rw [e4] at h4
    rw [e4'] at r4
    rw [e5] at h5 r5
    exact recordGets_main s (by omega) a b c d m a1 b1 c1 d1 n1 i q n f z k n2 f2 z2 _ _ _ _ _ (Lib.hid h1) (Lib.hid r1) (Lib.hid h2) (Lib.hid r2) (Lib.hid h3) (Lib.hid r3) (Lib.hid h4) (Lib.hid r4) (Lib.hid h5) (Lib.hid r5) w
  · have hs2 : (1000 : Int) < (s.size : Int) := by omega
    have HL := Lib.hid (fun w => rlives_any w)
    go_enter Try.func8, Try.ntmps8
    go_wp2_with fail
    refine (HL.out _).mono ?_
    rintro e w1 ⟨rfl, hb⟩
    go_wp2_with fail
    go_ret
    exact ⟨rfl, hb⟩
end Go.Proofs.Yteekjndhehnpaaa
