/- The walk of record's lives. -/
import Derived.Test.YteekjndhehnpaaaSN
namespace Go.Proofs.Yteekjndhehnpaaa
open Go.RowKit
set_option maxRecDepth 100000
set_option linter.unusedVariables false
set_option linter.unusedSimpArgs false
set_option maxHeartbeats 8000000
theorem lx1 : tenantS (-1) 4 258 0 = ⟨#[0, 0, 0, 0, 0, 0, 0, 0, 0, 0, 0, 0, 0, 0, 0, 5, 0, 0, 0, 0, 0, 0, 1, 2, 0, 0, 0, 0, 0, 0, 0, 0]⟩ ∧ (limB (-1) 4 && okB 258 0) = true := by decide +kernel
theorem lx2 : bucketS 1 (-1) (-1) 0 0 7 = ⟨#[1, 0, 0, 0, 0, 0, 0, 0, 0, 0, 0, 0, 0, 0, 0, 0, 0, 0, 0, 0, 0, 0, 0, 0, 0, 0, 0, 0, 0, 0, 0, 0, 0, 0, 0, 0, 0, 0, 0, 0, 7]⟩ ∧ okBu 1 (-1) (-1) 0 0 = true := by decide +kernel
theorem lx3 : verS 3 false 5 2 258 = ⟨#[0, 0, 0, 0, 0, 0, 0, 3, 0, 0, 0, 0, 5, 0, 2, 1, 2]⟩ ∧ okVer false 5 2 258 = true := by decide +kernel
theorem lx4 : partS 1 0 0 = ⟨#[0, 0, 0, 1, 0, 0, 0, 0]⟩ ∧ okBl 0 0 = true := by decide +kernel
theorem lx5 : okGUpload ⟨#[107]⟩ = true := by decide +kernel
theorem lx6 : verS 0 true 1 0 0 = ⟨#[]⟩ ∧ okVer true 1 0 0 = false := by decide +kernel
theorem lx7 : okGPart ⟨#[0, 0, 0, 1, 0, 0, 0, 0, 120]⟩ = false := by decide +kernel
theorem lx8 : okGVersion ⟨#[0, 0, 0, 0, 0, 0, 0, 3, 0, 0, 0, 0, 5, 0, 2, 1, 2]⟩ = true ∧ numAt ⟨#[0, 0, 0, 0, 0, 0, 0, 3, 0, 0, 0, 0, 5, 0, 2, 1, 2]⟩ 0 8 = 3 ∧ numAt ⟨#[0, 0, 0, 0, 0, 0, 0, 3, 0, 0, 0, 0, 5, 0, 2, 1, 2]⟩ 8 1 = 0 ∧ numAt ⟨#[0, 0, 0, 0, 0, 0, 0, 3, 0, 0, 0, 0, 5, 0, 2, 1, 2]⟩ 9 4 = 5 ∧ mAt ⟨#[0, 0, 0, 0, 0, 0, 0, 3, 0, 0, 0, 0, 5, 0, 2, 1, 2]⟩ 13 2 = 2 ∧ mAt ⟨#[0, 0, 0, 0, 0, 0, 0, 3, 0, 0, 0, 0, 5, 0, 2, 1, 2]⟩ 15 2 = 258 := by decide +kernel
theorem rlives_any (w : World) : Calls Try.prog 27 #[] w fun e w' => e = .returned (.bool true) ∧ Below w.heap.size w w' := by
  have H1 : Hid (∀ w, Calls Try.prog 28 #[.agg #[.int .i64 (-1), .int .i64 4, .int .i64 258, .int .i64 0]] w fun e w' => e = .returned (.tuple #[.string ⟨#[0, 0, 0, 0, 0, 0, 0, 0, 0, 0, 0, 0, 0, 0, 0, 5, 0, 0, 0, 0, 0, 0, 1, 2, 0, 0, 0, 0, 0, 0, 0, 0]⟩, .int .i64 0]) ∧ Below w.heap.size w w') := Lib.hid (fun w => by
    have := putTenant_any (-1) 4 258 0 w
    rw [lx1.1, lx1.2] at this; exact this)
  have H2 : Hid (∀ w, Calls Try.prog 30 #[.agg #[.int .i64 1, .int .i64 (-1), .int .i64 (-1), .int .i64 0, .int .i64 0, .int .u64 7]] w fun e w' => e = .returned (.tuple #[.string ⟨#[1, 0, 0, 0, 0, 0, 0, 0, 0, 0, 0, 0, 0, 0, 0, 0, 0, 0, 0, 0, 0, 0, 0, 0, 0, 0, 0, 0, 0, 0, 0, 0, 0, 0, 0, 0, 0, 0, 0, 0, 7]⟩, .int .i64 0]) ∧ Below w.heap.size w w') := Lib.hid (fun w => by
    have := putBucket_any 1 (-1) (-1) 0 0 7 (by decide) w
    rw [lx2.1, lx2.2] at this; exact this)
  have H3 : Hid (∀ w, Calls Try.prog 32 #[.agg #[.int .u64 3, .bool false, .int .u32 5, .int .i64 2, .int .i64 258]] w fun e w' => e = .returned (.tuple #[.string ⟨#[0, 0, 0, 0, 0, 0, 0, 3, 0, 0, 0, 0, 5, 0, 2, 1, 2]⟩, .int .i64 0]) ∧ Below w.heap.size w w') := Lib.hid (fun w => by
    have := putVersion_any 3 (by decide) false 5 (by decide) 2 258 w
    rw [lx3.1, lx3.2] at this; exact this)
  have H4 : Hid (∀ w, Calls Try.prog 36 #[.agg #[.int .u32 1, .int .i64 0, .int .i64 0]] w fun e w' => e = .returned (.tuple #[.string ⟨#[0, 0, 0, 1, 0, 0, 0, 0]⟩, .int .i64 0]) ∧ Below w.heap.size w w') := Lib.hid (fun w => by
    have := putPart_any 1 (by decide) 0 0 w
    rw [lx4.1, lx4.2] at this; exact this)
  have H5 : Hid (∀ w, Calls Try.prog 44 #[.string ⟨#[107]⟩] w fun e w' => e = .returned (.tuple #[.agg #[.string ⟨#[107]⟩], .int .i64 0]) ∧ Below w.heap.size w w') := Lib.hid (fun w => by
    have := getUpload_any ⟨#[107]⟩ (by decide) w
    rw [lx5] at this; exact this)
  have H6 : Hid (∀ w, Calls Try.prog 32 #[.agg #[.int .u64 0, .bool true, .int .u32 1, .int .i64 0, .int .i64 0]] w fun e w' => e = .returned (.tuple #[.string ⟨#[]⟩, .int .i64 18]) ∧ Below w.heap.size w w') := Lib.hid (fun w => by
    have := putVersion_any 0 (by decide) true 1 (by decide) 0 0 w
    rw [lx6.1, lx6.2] at this; exact this)
  have H7 : Hid (∀ w, Calls Try.prog 46 #[.string ⟨#[0, 0, 0, 1, 0, 0, 0, 0, 120]⟩] w fun e w' => e = .returned (.tuple #[.agg #[.int .u32 0, .int .i64 0, .int .i64 0], .int .i64 19]) ∧ Below w.heap.size w w') := Lib.hid (fun w => by
    have := getPart_any ⟨#[0, 0, 0, 1, 0, 0, 0, 0, 120]⟩ (by decide) w
    rw [lx7] at this; exact this)
  have H8 : Hid (∀ w, Calls Try.prog 42 #[.string ⟨#[0, 0, 0, 0, 0, 0, 0, 3, 0, 0, 0, 0, 5, 0, 2, 1, 2]⟩] w fun e w' => e = .returned (.tuple #[.agg #[.int .u64 3, .bool false, .int .u32 5, .int .i64 2, .int .i64 258], .int .i64 0]) ∧ Below w.heap.size w w') := Lib.hid (fun w => by
    have := getVersion_any ⟨#[0, 0, 0, 0, 0, 0, 0, 3, 0, 0, 0, 0, 5, 0, 2, 1, 2]⟩ (by decide) w
    unfold vVersion at this
    rw [lx8.1, lx8.2.1, lx8.2.2.1, lx8.2.2.2.1, lx8.2.2.2.2.1, lx8.2.2.2.2.2] at this; exact this)
  go_enter Try.func27, Try.ntmps27
  go_wp2_with fail
  refine (H1.out _).mono ?_
  rintro e w1 ⟨rfl, hb⟩
  have BB := hb
  clear hb
  go_wp2_with fail
  refine (H2.out _).mono ?_
  rintro e w2 ⟨rfl, hb⟩
  replace BB := below_to BB hb
  clear hb
  go_wp2_with fail
  refine (H3.out _).mono ?_
  rintro e w3 ⟨rfl, hb⟩
  replace BB := below_to BB hb
  clear hb
  go_wp2_with fail
  refine (H4.out _).mono ?_
  rintro e w4 ⟨rfl, hb⟩
  replace BB := below_to BB hb
  clear hb
  go_wp2_with fail
  refine (H5.out _).mono ?_
  rintro e w5 ⟨rfl, hb⟩
  replace BB := below_to BB hb
  clear hb
  go_upto_region 6 with (fail)
  have K5 := Blk.new w5 [.string ⟨#[107]⟩] 66
  replace BB := below_to BB (below_box w5 (.cells #[.string ⟨#[107]⟩] 66))
  generalize w5.alloc (.cells #[.string ⟨#[107]⟩] 66) = v5 at K5 BB  ⊢
  generalize w5.heap.size = g5 at K5 ⊢
  go_wp2_with fail
  refine (H6.out _).mono ?_
  rintro e w6 ⟨rfl, hb⟩
  replace K5 := K5.below hb
  replace BB := below_to BB hb
  clear hb
  go_wp2_with fail
  refine (H7.out _).mono ?_
  rintro e w7 ⟨rfl, hb⟩
  replace K5 := K5.below hb
  replace BB := below_to BB hb
  clear hb
  go_upto_region 8 with (fail)
  have K7 := Blk.new w7 [.int .u32 0, .int .i64 0, .int .i64 0] 69
  replace K5 := K5.below (below_box w7 (.cells #[.int .u32 0, .int .i64 0, .int .i64 0] 69))
  replace BB := below_to BB (below_box w7 (.cells #[.int .u32 0, .int .i64 0, .int .i64 0] 69))
  generalize w7.alloc (.cells #[.int .u32 0, .int .i64 0, .int .i64 0] 69) = v7 at K7 BB K5 ⊢
  generalize w7.heap.size = g7 at K7 ⊢
  go_wp2_with fail
  refine (H8.out _).mono ?_
  rintro e w8 ⟨rfl, hb⟩
  replace K5 := K5.below hb
  replace K7 := K7.below hb
  replace BB := below_to BB hb
  clear hb
  go_upto_region 9 with (fail)
  have K8 := Blk.new w8 [.int .u64 3, .bool false, .int .u32 5, .int .i64 2, .int .i64 258] 56
  replace K5 := K5.below (below_box w8 (.cells #[.int .u64 3, .bool false, .int .u32 5, .int .i64 2, .int .i64 258] 56))
  replace K7 := K7.below (below_box w8 (.cells #[.int .u64 3, .bool false, .int .u32 5, .int .i64 2, .int .i64 258] 56))
  replace BB := below_to BB (below_box w8 (.cells #[.int .u64 3, .bool false, .int .u32 5, .int .i64 2, .int .i64 258] 56))
  generalize w8.alloc (.cells #[.int .u64 3, .bool false, .int .u32 5, .int .i64 2, .int .i64 258] 56) = v8 at K8 BB K5 K7 ⊢
  generalize w8.heap.size = g8 at K8 ⊢
  have c5 := K5.cell 0 _ rfl
  have c8 := K8.cell 4 _ rfl
  have e1 : (ByteArray.extract ⟨#[0, 0, 0, 0, 0, 0, 0, 0, 0, 0, 0, 0, 0, 0, 0, 5, 0, 0, 0, 0, 0, 0, 1, 2, 0, 0, 0, 0, 0, 0, 0, 0]⟩ 0 8).toList = [0, 0, 0, 0, 0, 0, 0, 0] := by rw [ByteArray.toList_eq]; decide +kernel
  have e2 : (ByteArray.extract ⟨#[0, 0, 0, 0, 0, 0, 0, 0, 0, 0, 0, 0, 0, 0, 0, 5, 0, 0, 0, 0, 0, 0, 1, 2, 0, 0, 0, 0, 0, 0, 0, 0]⟩ 22 24).toList = [1, 2] := by rw [ByteArray.toList_eq]; decide +kernel
  simp only [List.append]
  go_wp2_with fail
  go_ret
  exact ⟨rfl, BB⟩
end Go.Proofs.Yteekjndhehnpaaa
