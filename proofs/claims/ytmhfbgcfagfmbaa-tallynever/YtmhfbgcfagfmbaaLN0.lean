/- The walk of TallyNever. -/
import Derived.Test.YtmhfbgcfagfmbaaTB
import Derived.Test.YtmhfbgcfagfmbaaT8
namespace Go.Proofs.Ytmhfbgcfagfmbaa.tallyNever
open Go.RowKit

theorem below4 {w w1 : World} {a b c d : Obj} (h : Below ((((w.alloc a).alloc b).alloc c).alloc d).heap.size ((((w.alloc a).alloc b).alloc c).alloc d) w1) : Below w.heap.size w w1 :=
  (((((Below.refl _ _).alloc (Nat.le_refl _) _).alloc (by simp) _).alloc (by simp; omega) _).alloc (by simp; omega) _).trans (h.mono (by simp; omega))
theorem outB_mono {a b c d : Int} (h : outB a b c = false) (h0 : 0 ≤ c) (h1 : c ≤ d) : outB a b d = false := by simp [outB] at h ⊢; omega

set_option maxHeartbeats 1000000 in
theorem bad_o (o0 o1 n0 n1 l0 l1 m0 m1 : Int) (w : World) (h : okB o0 o1 = false) :
    Calls Try.prog 7 #[.agg #[.int .i64 o0, .int .i64 o1], .agg #[.int .i64 n0, .int .i64 n1], .agg #[.int .i64 l0, .int .i64 l1], .agg #[.int .i64 m0, .int .i64 m1]] w fun e w' => e = .returned (.bool true) ∧ Below w.heap.size w w' := by
  have HG := Lib.hid (growsF_o h : growsF o0 o1 n0 n1 l0 l1 = 18)
  go_enter Try.func7, Try.ntmps7
  go_wp2_with fail
  refine (lives1_any _).mono ?_
  rintro e w1 ⟨rfl, B1⟩
  obtain ⟨hc, hf⟩ := bcell B1
  go_wp2_with fail
  refine (check_any o0 o1 _).mono ?_
  rintro e w2 ⟨rfl, b2⟩
  have B2 := B1.trans (b2.mono B1.size)
  clear hc hf b2 B1
  rw [errOf_false h]
  obtain ⟨hc, hf⟩ := bcell B2
  go_wp2_with fail
  refine (grows_any o0 o1 n0 n1 l0 l1 _).mono ?_
  rintro e w3 ⟨rfl, b2⟩
  have B3 := B2.trans (b2.mono B2.size)
  clear hc hf b2 B2
  rw [HG.out]
  obtain ⟨hc, hf⟩ := bcell B3
  go_wp2
  go_ret
  exact ⟨rfl, below4 B3⟩
set_option maxHeartbeats 1000000 in
theorem bad_n (o0 o1 n0 n1 l0 l1 m0 m1 : Int) (w : World) (ho : okB o0 o1 = true) (h : okB n0 n1 = false) :
    Calls Try.prog 7 #[.agg #[.int .i64 o0, .int .i64 o1], .agg #[.int .i64 n0, .int .i64 n1], .agg #[.int .i64 l0, .int .i64 l1], .agg #[.int .i64 m0, .int .i64 m1]] w fun e w' => e = .returned (.bool true) ∧ Below w.heap.size w w' := by
  have HG := Lib.hid (growsF_n h : growsF o0 o1 n0 n1 l0 l1 = 18)
  go_enter Try.func7, Try.ntmps7
  go_wp2_with fail
  refine (lives1_any _).mono ?_
  rintro e w1 ⟨rfl, B1⟩
  obtain ⟨hc, hf⟩ := bcell B1
  go_wp2_with fail
  refine (check_any o0 o1 _).mono ?_
  rintro e w2 ⟨rfl, b2⟩
  have B2 := B1.trans (b2.mono B1.size)
  clear hc hf b2 B1
  rw [errOf_true ho]
  obtain ⟨hc, hf⟩ := bcell B2
  go_wp2_with fail
  refine (check_any n0 n1 _).mono ?_
  rintro e w3 ⟨rfl, b2⟩
  have B3 := B2.trans (b2.mono B2.size)
  clear hc hf b2 B2
  rw [errOf_false h]
  obtain ⟨hc, hf⟩ := bcell B3
  go_wp2_with fail
  refine (grows_any o0 o1 n0 n1 l0 l1 _).mono ?_
  rintro e w4 ⟨rfl, b2⟩
  have B4 := B3.trans (b2.mono B3.size)
  clear hc hf b2 B3
  rw [HG.out]
  obtain ⟨hc, hf⟩ := bcell B4
  go_wp2
  go_ret
  exact ⟨rfl, below4 B4⟩
set_option maxHeartbeats 1000000 in
theorem bad_l (o0 o1 n0 n1 l0 l1 m0 m1 : Int) (w : World) (ho : okB o0 o1 = true) (hn : okB n0 n1 = true) (h : limB l0 l1 = false) :
    Calls Try.prog 7 #[.agg #[.int .i64 o0, .int .i64 o1], .agg #[.int .i64 n0, .int .i64 n1], .agg #[.int .i64 l0, .int .i64 l1], .agg #[.int .i64 m0, .int .i64 m1]] w fun e w' => e = .returned (.bool true) ∧ Below w.heap.size w w' := by
  have HG := Lib.hid (growsF_l h : growsF o0 o1 n0 n1 l0 l1 = 18)
  go_enter Try.func7, Try.ntmps7
  go_wp2_with fail
  refine (lives1_any _).mono ?_
  rintro e w1 ⟨rfl, B1⟩
  obtain ⟨hc, hf⟩ := bcell B1
  go_wp2_with fail
  refine (check_any o0 o1 _).mono ?_
  rintro e w2 ⟨rfl, b2⟩
  have B2 := B1.trans (b2.mono B1.size)
  clear hc hf b2 B1
  rw [errOf_true ho]
  obtain ⟨hc, hf⟩ := bcell B2
  go_wp2_with fail
  refine (check_any n0 n1 _).mono ?_
  rintro e w3 ⟨rfl, b2⟩
  have B3 := B2.trans (b2.mono B2.size)
  clear hc hf b2 B2
  rw [errOf_true hn]
  obtain ⟨hc, hf⟩ := bcell B3
  go_wp2_with fail
  refine (checkLimit_any l0 l1 _).mono ?_
  rintro e w4 ⟨rfl, b2⟩
  have B4 := B3.trans (b2.mono B3.size)
  clear hc hf b2 B3
  rw [errOf_false h]
  obtain ⟨hc, hf⟩ := bcell B4
  go_wp2_with fail
  refine (grows_any o0 o1 n0 n1 l0 l1 _).mono ?_
  rintro e w5 ⟨rfl, b2⟩
  have B5 := B4.trans (b2.mono B4.size)
  clear hc hf b2 B4
  rw [HG.out]
  obtain ⟨hc, hf⟩ := bcell B5
  go_wp2
  go_ret
  exact ⟨rfl, below4 B5⟩
end Go.Proofs.Ytmhfbgcfagfmbaa.tallyNever
