/- The walk of lives. -/
import Derived.Test.YteekjndhehnpaaaKS
import Derived.Deep.RegionHeld3
namespace Go.Proofs.Yteekjndhehnpaaa
open Go.RowKit
set_option maxRecDepth 100000
set_option linter.unusedVariables false
set_option linter.unusedSimpArgs false
set_option maxHeartbeats 20000000
/-- Two keys' cells. -/
def Two (w : World) (g1 g4 : Nat) : Prop := Six w g1 (.int .i64 3) (.int .i64 3) (.string ⟨#[98]⟩) (.string ⟨#[107]⟩) (.int .u64 1) (.int .i64 0) ∧ Six w g4 (.int .i64 3) (.int .i64 3) (.string ⟨#[98]⟩) (.string ⟨#[107]⟩) (.int .u64 1) (.int .i64 0)
theorem twelve {w : World} {g1 g4 : Nat} (h : Two w g1 g4) : w.cell? ⟨g1, 0, none⟩ = some (.int .i64 3) ∧ w.cell? ⟨g1, 1, none⟩ = some (.int .i64 3) ∧ w.cell? ⟨g1, 2, none⟩ = some (.string ⟨#[98]⟩) ∧ w.cell? ⟨g1, 3, none⟩ = some (.string ⟨#[107]⟩) ∧ w.cell? ⟨g1, 4, none⟩ = some (.int .u64 1) ∧ w.cell? ⟨g1, 5, none⟩ = some (.int .i64 0) ∧ w.cell? ⟨g4, 0, none⟩ = some (.int .i64 3) ∧ w.cell? ⟨g4, 1, none⟩ = some (.int .i64 3) ∧ w.cell? ⟨g4, 2, none⟩ = some (.string ⟨#[98]⟩) ∧ w.cell? ⟨g4, 3, none⟩ = some (.string ⟨#[107]⟩) ∧ w.cell? ⟨g4, 4, none⟩ = some (.int .u64 1) ∧ w.cell? ⟨g4, 5, none⟩ = some (.int .i64 0) := ⟨h.1.c0, h.1.c1, h.1.c2, h.1.c3, h.1.c4, h.1.c5, h.2.c0, h.2.c1, h.2.c2, h.2.c3, h.2.c4, h.2.c5⟩
theorem twelve_below {w w1 : World} {g1 g4 : Nat} (hb : Below w.heap.size w w1) (h : w.cell? ⟨g1, 0, none⟩ = some (.int .i64 3) ∧ w.cell? ⟨g1, 1, none⟩ = some (.int .i64 3) ∧ w.cell? ⟨g1, 2, none⟩ = some (.string ⟨#[98]⟩) ∧ w.cell? ⟨g1, 3, none⟩ = some (.string ⟨#[107]⟩) ∧ w.cell? ⟨g1, 4, none⟩ = some (.int .u64 1) ∧ w.cell? ⟨g1, 5, none⟩ = some (.int .i64 0) ∧ w.cell? ⟨g4, 0, none⟩ = some (.int .i64 3) ∧ w.cell? ⟨g4, 1, none⟩ = some (.int .i64 3) ∧ w.cell? ⟨g4, 2, none⟩ = some (.string ⟨#[98]⟩) ∧ w.cell? ⟨g4, 3, none⟩ = some (.string ⟨#[107]⟩) ∧ w.cell? ⟨g4, 4, none⟩ = some (.int .u64 1) ∧ w.cell? ⟨g4, 5, none⟩ = some (.int .i64 0)) : w1.cell? ⟨g1, 0, none⟩ = some (.int .i64 3) ∧ w1.cell? ⟨g1, 1, none⟩ = some (.int .i64 3) ∧ w1.cell? ⟨g1, 2, none⟩ = some (.string ⟨#[98]⟩) ∧ w1.cell? ⟨g1, 3, none⟩ = some (.string ⟨#[107]⟩) ∧ w1.cell? ⟨g1, 4, none⟩ = some (.int .u64 1) ∧ w1.cell? ⟨g1, 5, none⟩ = some (.int .i64 0) ∧ w1.cell? ⟨g4, 0, none⟩ = some (.int .i64 3) ∧ w1.cell? ⟨g4, 1, none⟩ = some (.int .i64 3) ∧ w1.cell? ⟨g4, 2, none⟩ = some (.string ⟨#[98]⟩) ∧ w1.cell? ⟨g4, 3, none⟩ = some (.string ⟨#[107]⟩) ∧ w1.cell? ⟨g4, 4, none⟩ = some (.int .u64 1) ∧ w1.cell? ⟨g4, 5, none⟩ = some (.int .i64 0) := by
  obtain ⟨a0, a1, a2, a3, a4, a5, b0, b1, b2, b3, b4, b5⟩ := h
  have l1 := World.block_lt_of_cell? w _ a0
  have l2 := World.block_lt_of_cell? w _ b0
  exact ⟨(hb.cell (p := ⟨g1, 0, none⟩) l1).trans a0, (hb.cell (p := ⟨g1, 1, none⟩) l1).trans a1, (hb.cell (p := ⟨g1, 2, none⟩) l1).trans a2, (hb.cell (p := ⟨g1, 3, none⟩) l1).trans a3, (hb.cell (p := ⟨g1, 4, none⟩) l1).trans a4, (hb.cell (p := ⟨g1, 5, none⟩) l1).trans a5, (hb.cell (p := ⟨g4, 0, none⟩) l2).trans b0, (hb.cell (p := ⟨g4, 1, none⟩) l2).trans b1, (hb.cell (p := ⟨g4, 2, none⟩) l2).trans b2, (hb.cell (p := ⟨g4, 3, none⟩) l2).trans b3, (hb.cell (p := ⟨g4, 4, none⟩) l2).trans b4, (hb.cell (p := ⟨g4, 5, none⟩) l2).trans b5⟩
theorem lives_any (w : World) : Calls Try.prog 10 #[] w fun e w' => e = .returned (.bool true) ∧ Below w.heap.size w w' := by
  have HM1 : Hid (∀ w, Calls Try.prog 11 #[.agg #[.int .i64 3, .int .i64 3, .string ⟨#[98]⟩, .string ⟨#[107]⟩, .int .u64 1, .int .i64 0]] w fun x w' => x = strErr ⟨#[86, 3, 98, 0, 107, 0, 255, 255, 255, 255, 255, 255, 255, 254]⟩ 0 ∧ Below w.heap.size w w') := Lib.hid (fun w => by
    have := make_any vK (by decide) (by decide) (by decide) w
    rw [ex1.1, ex1.2] at this; exact this)
  have HM2 : Hid (∀ w, Calls Try.prog 11 #[.agg #[.int .i64 5, .int .i64 0, .string ⟨#[98]⟩, .string ⟨#[]⟩, .int .u64 258, .int .i64 2]] w fun x w' => x = strErr ⟨#[80, 0, 98, 0, 0, 0, 0, 0, 0, 0, 1, 2, 2]⟩ 0 ∧ Below w.heap.size w w') := Lib.hid (fun w => by
    have := make_any pK (by decide) (by decide) (by decide) w
    rw [ex2.1, ex2.2] at this; exact this)
  have HM3 : Hid (∀ w, Calls Try.prog 11 #[.agg #[.int .i64 1, .int .i64 8, .string ⟨#[]⟩, .string ⟨#[]⟩, .int .u64 0, .int .i64 0]] w fun x w' => x = strErr ⟨#[]⟩ 18 ∧ Below w.heap.size w w') := Lib.hid (fun w => make_bad ⟨1, 8, ⟨#[]⟩, ⟨#[]⟩, 0, 0⟩ (by decide) (by decide) ex3 w)
  have HO1 : Hid (∀ w, Calls Try.prog 14 #[.string ⟨#[86, 3, 98, 0, 107, 0, 255, 255, 255, 255, 255, 255, 255, 254]⟩] w fun x w' => x = .returned (.tuple #[.agg #[.int .i64 3, .int .i64 3, .string ⟨#[98]⟩, .string ⟨#[107]⟩, .int .u64 1, .int .i64 0], .int .i64 0]) ∧ Below w.heap.size w w') := Lib.hid (fun w => by
    have := kopen_any vB (by decide) w
    unfold openK openE at this
    rw [ex4.1, ex4.2] at this; exact this)
  have HO2 : Hid (∀ w, Calls Try.prog 14 #[.string ⟨#[88]⟩] w fun x w' => x = .returned (.tuple #[.agg #[.int .i64 0, .int .i64 0, .string ⟨#[]⟩, .string ⟨#[]⟩, .int .u64 0, .int .i64 0], .int .i64 19]) ∧ Below w.heap.size w w') := Lib.hid (fun w => by
    have := kopen_any ⟨#[88]⟩ (by decide) w
    unfold openK openE at this
    rw [show goodL true (⟨#[88]⟩ : ByteArray).data.toList = false from ex5] at this; exact this)
  have HB : Hid (∀ w, Calls Try.prog 18 #[.int .i64 1] w fun e w' => e = .returned (.string ⟨#[66, 1]⟩) ∧ Below w.heap.size w w') := Lib.hid (fun w => by have := buckets_any 1 w; rw [ex6.1] at this; exact this)
  have HA : Hid (∀ w, Calls Try.prog 20 #[.int .i64 4, .int .i64 1, .string ⟨#[98]⟩] w fun e w' => e = .returned (.string ⟨#[85, 1, 98, 0]⟩) ∧ Below w.heap.size w w') := Lib.hid (fun w => by have := all_any 4 1 ⟨#[98]⟩ (by decide) w; rw [ex6.2.1] at this; exact this)
  have HC : Hid (∀ w, Calls Try.prog 22 #[.int .i64 3, .string ⟨#[98]⟩, .string ⟨#[107]⟩] w fun e w' => e = .returned (.string (ByteArray.extract ⟨#[86, 3, 98, 0, 107, 0, 255, 255, 255, 255, 255, 255, 255, 254]⟩ 0 6)) ∧ Below w.heap.size w w') := Lib.hid (fun w => by have := chain_any 3 ⟨#[98]⟩ ⟨#[107]⟩ (by decide) (by decide) w; rw [ex6.2.2.1] at this; exact this)
  have HP : Hid (∀ w, Calls Try.prog 24 #[.int .i64 0, .string ⟨#[98]⟩, .int .u64 258] w fun e w' => e = .returned (.string (ByteArray.extract ⟨#[80, 0, 98, 0, 0, 0, 0, 0, 0, 0, 1, 2, 2]⟩ 0 12)) ∧ Below w.heap.size w w') := Lib.hid (fun w => by have := pieces_any 0 ⟨#[98]⟩ 258 (by decide) (by decide) w; rw [ex6.2.2.2] at this; exact this)
  have HK : Hid (∀ w, Calls Try.prog 16 #[.agg #[.int .i64 3, .int .i64 3, .string ⟨#[98]⟩, .string ⟨#[107]⟩, .int .u64 1, .int .i64 0]] w fun e w' => e = .returned (.int .i64 0) ∧ Below w.heap.size w w') := Lib.hid (fun w => by have := check_any vK (by decide) (by decide) w; rw [ex1.2] at this; exact this)
  unfold strErr at HM1 HM2 HM3
  go_enter Try.func10, Try.ntmps10
  go_wp2_with fail
  have S1 := Six.new w (.int .i64 3) (.int .i64 3) (.string ⟨#[98]⟩) (.string ⟨#[107]⟩) (.int .u64 1) (.int .i64 0) 29
  refine (HM1.out _).mono ?_
  rintro e w1 ⟨rfl, hb⟩
  replace S1 := S1.below hb
  have BB := below_alloc_to hb
  obtain ⟨g1, hg1⟩ : ∃ g, w.heap.size = g := ⟨_, rfl⟩
  rw [hg1] at S1
  clear hb
  go_wp2_with fail
  refine (HO1.out _).mono ?_
  rintro e w2 ⟨rfl, hb⟩
  replace S1 := S1.below hb
  replace BB := below_to BB hb
  clear hb
  go_wp2_with fail
  replace S1 := S1.below (below_box w2 (.cells #[.int .i64 3, .int .i64 3, .string ⟨#[98]⟩, .string ⟨#[107]⟩, .int .u64 1, .int .i64 0] 29))
  have S4 := Six.new w2 (.int .i64 3) (.int .i64 3) (.string ⟨#[98]⟩) (.string ⟨#[107]⟩) (.int .u64 1) (.int .i64 0) 29
  replace BB := below_to BB (below_box w2 (.cells #[.int .i64 3, .int .i64 3, .string ⟨#[98]⟩, .string ⟨#[107]⟩, .int .u64 1, .int .i64 0] 29))
  obtain ⟨g4, hg4⟩ : ∃ g, w2.heap.size = g := ⟨_, rfl⟩
  rw [hg4] at S4
  refine (HM2.out _).mono ?_
  rintro e w3 ⟨rfl, hb⟩
  replace S1 := S1.below hb
  replace S4 := S4.below hb
  replace BB := below_to BB hb
  clear hb
  go_wp2_with fail
  refine (HM3.out _).mono ?_
  rintro e w4 ⟨rfl, hb⟩
  replace S1 := S1.below hb
  replace S4 := S4.below hb
  replace BB := below_to BB hb
  clear hb
  go_wp2_with fail
  refine (HO2.out _).mono ?_
  rintro e w5 ⟨rfl, hb⟩
  replace S1 := S1.below hb
  replace S4 := S4.below hb
  replace BB := below_to BB hb
  clear hb
  go_wp2_with fail
  replace S1 := Lib.hid (S1.below (below_box w5 (.cells #[.int .i64 0, .int .i64 0, .string ⟨#[]⟩, .string ⟨#[]⟩, .int .u64 0, .int .i64 0] 29)))
  replace S4 := Lib.hid (S4.below (below_box w5 (.cells #[.int .i64 0, .int .i64 0, .string ⟨#[]⟩, .string ⟨#[]⟩, .int .u64 0, .int .i64 0] 29)))
  replace BB := below_to BB (below_box w5 (.cells #[.int .i64 0, .int .i64 0, .string ⟨#[]⟩, .string ⟨#[]⟩, .int .u64 0, .int .i64 0] 29))
  generalize w5.alloc (.cells #[.int .i64 0, .int .i64 0, .string ⟨#[]⟩, .string ⟨#[]⟩, .int .u64 0, .int .i64 0] 29) = w6 at S1 S4 BB ⊢
  clear HM1 HM2 HM3 HO1 HO2
  have H12 := twelve_below (Below.refl _ _).drew (twelve ⟨S1.out, S4.out⟩)
  have H12h := Lib.hid H12
  obtain ⟨c0, c1, c2, c3, c4, c5, d0, d1, d2, d3, d4, d5⟩ := H12
  go_region_held3 (fun w' => w'.cell? ⟨g1, 0, none⟩ = some (.int .i64 3) ∧ w'.cell? ⟨g1, 1, none⟩ = some (.int .i64 3) ∧ w'.cell? ⟨g1, 2, none⟩ = some (.string ⟨#[98]⟩) ∧ w'.cell? ⟨g1, 3, none⟩ = some (.string ⟨#[107]⟩) ∧ w'.cell? ⟨g1, 4, none⟩ = some (.int .u64 1) ∧ w'.cell? ⟨g1, 5, none⟩ = some (.int .i64 0) ∧ w'.cell? ⟨g4, 0, none⟩ = some (.int .i64 3) ∧ w'.cell? ⟨g4, 1, none⟩ = some (.int .i64 3) ∧ w'.cell? ⟨g4, 2, none⟩ = some (.string ⟨#[98]⟩) ∧ w'.cell? ⟨g4, 3, none⟩ = some (.string ⟨#[107]⟩) ∧ w'.cell? ⟨g4, 4, none⟩ = some (.int .u64 1) ∧ w'.cell? ⟨g4, 5, none⟩ = some (.int .i64 0))
    (first | with_reducible exact ⟨c0, c1, c2, c3, c4, c5, d0, d1, d2, d3, d4, d5⟩ | with_reducible assumption | with_reducible exact twelve_below hb1 (by assumption) | with_reducible exact twelve_below hb2 (by assumption) | with_reducible exact twelve_below hb3 (by assumption) | with_reducible exact twelve_below hb4 (by assumption) | with_reducible exact twelve_below hb5 (by assumption))
    (first | (go_at_call 18; refine (HB.out _).mono ?_; rintro e wq1 ⟨rfl, hb1⟩) | (go_at_call 20; refine (HA.out _).mono ?_; rintro e wq2 ⟨rfl, hb2⟩) | (go_at_call 22; refine (HC.out _).mono ?_; rintro e wq3 ⟨rfl, hb3⟩) | (go_at_call 24; refine (HP.out _).mono ?_; rintro e wq4 ⟨rfl, hb4⟩) | (go_at_call 16; refine (HK.out _).mono ?_; rintro e wq5 ⟨rfl, hb5⟩))
  go_wp2_with fail
  go_ret
  exact ⟨rfl, below_to (below_to (below_to (below_to (below_to BB.drew hb1) hb2) hb3) hb4) hb5⟩
end Go.Proofs.Yteekjndhehnpaaa
