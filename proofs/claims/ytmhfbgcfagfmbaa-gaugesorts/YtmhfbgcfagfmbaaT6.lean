/- Contracts of tally.Grows, and of the references of Check, CheckLimit, Grows. -/
import Derived.Test.YtmhfbgcfagfmbaaT5
namespace Go.Proofs.Ytmhfbgcfagfmbaa
open Go.RowKit

def growsF (o0 o1 n0 n1 l0 l1 : Int) : Int := if okB o0 o1 && okB n0 n1 && limB l0 l1 then (if outB o0 n0 l0 || outB o1 n1 l1 then 12 else 0) else 18

theorem growsF_o {o0 o1 n0 n1 l0 l1 : Int} (h : okB o0 o1 = false) : growsF o0 o1 n0 n1 l0 l1 = 18 := by simp [growsF, h]
theorem growsF_n {o0 o1 n0 n1 l0 l1 : Int} (h : okB n0 n1 = false) : growsF o0 o1 n0 n1 l0 l1 = 18 := by simp [growsF, h]
theorem growsF_l {o0 o1 n0 n1 l0 l1 : Int} (h : limB l0 l1 = false) : growsF o0 o1 n0 n1 l0 l1 = 18 := by simp [growsF, h]
theorem growsF_1 {o0 o1 n0 n1 l0 l1 : Int} (h : okB o0 o1 = true) (h2 : okB n0 n1 = true) (h3 : limB l0 l1 = true) (h4 : outB o0 n0 l0 = true) : growsF o0 o1 n0 n1 l0 l1 = 12 := by simp [growsF, h, h2, h3, h4]
theorem growsF_2 {o0 o1 n0 n1 l0 l1 : Int} (h : okB o0 o1 = true) (h2 : okB n0 n1 = true) (h3 : limB l0 l1 = true) (h4 : outB o1 n1 l1 = true) : growsF o0 o1 n0 n1 l0 l1 = 12 := by simp [growsF, h, h2, h3, h4]
theorem growsF_0 {o0 o1 n0 n1 l0 l1 : Int} (h : okB o0 o1 = true) (h2 : okB n0 n1 = true) (h3 : limB l0 l1 = true) (h4 : outB o0 n0 l0 = false) (h5 : outB o1 n1 l1 = false) : growsF o0 o1 n0 n1 l0 l1 = 0 := by simp [growsF, h, h2, h3, h4, h5]

theorem below3 {w w1 : World} {a b c : Obj} (h : Below (((w.alloc a).alloc b).alloc c).heap.size (((w.alloc a).alloc b).alloc c) w1) : Below w.heap.size w w1 :=
  ((((Below.refl _ _).alloc (Nat.le_refl _) _).alloc (by simp) _).alloc (by simp; omega) _).trans (h.mono (by simp; omega))

set_option maxHeartbeats 1000000 in
theorem grows_any (o0 o1 n0 n1 l0 l1 : Int) (w : World) :
    Calls Try.prog 29 #[.agg #[.int .i64 o0, .int .i64 o1], .agg #[.int .i64 n0, .int .i64 n1], .agg #[.int .i64 l0, .int .i64 l1]] w fun e w' => e = .returned (.int .i64 (growsF o0 o1 n0 n1 l0 l1)) ∧ Below w.heap.size w w' := by
  by_cases ho : okB o0 o1 = true
  · have eo := errOf_true ho
    by_cases hn : okB n0 n1 = true
    · have en := errOf_true hn
      by_cases hl : limB l0 l1 = true
      · have el := errOf_true hl
        by_cases h1 : outB o0 n0 l0 = true
        · go_enter Try.func29, Try.ntmps29
          go_wp2_with fail
          refine (check_any o0 o1 _).mono ?_
          rintro e w1 ⟨rfl, B1⟩
          rw [eo]
          obtain ⟨hc, hf⟩ := bcell B1
          go_wp2_with fail
          refine (check_any n0 n1 _).mono ?_
          rintro e w2 ⟨rfl, b2⟩
          have B2 := B1.trans (b2.mono B1.size)
          clear hc hf b2
          rw [en]
          obtain ⟨hc, hf⟩ := bcell B2
          go_wp2_with fail
          refine (checkLimit_any l0 l1 _).mono ?_
          rintro e w3 ⟨rfl, b3⟩
          have B3 := B2.trans (b3.mono B2.size)
          clear hc hf b3
          rw [el]
          obtain ⟨hc, hf⟩ := bcell B3
          go_wp2_with fail
          refine (outgrows_any o0 n0 l0 _).mono ?_
          rintro e w4 ⟨rfl, rfl⟩
          rw [h1]
          go_wp2
          go_ret
          exact ⟨ret_int (growsF_1 ho hn hl h1).symm, below3 B3⟩
        · rw [Bool.not_eq_true] at h1
          by_cases h2 : outB o1 n1 l1 = true
          · go_enter Try.func29, Try.ntmps29
            go_wp2_with fail
            refine (check_any o0 o1 _).mono ?_
            rintro e w1 ⟨rfl, B1⟩
            rw [eo]
            obtain ⟨hc, hf⟩ := bcell B1
            go_wp2_with fail
            refine (check_any n0 n1 _).mono ?_
            rintro e w2 ⟨rfl, b2⟩
            have B2 := B1.trans (b2.mono B1.size)
            clear hc hf b2
            rw [en]
            obtain ⟨hc, hf⟩ := bcell B2
            go_wp2_with fail
            refine (checkLimit_any l0 l1 _).mono ?_
            rintro e w3 ⟨rfl, b3⟩
            have B3 := B2.trans (b3.mono B2.size)
            clear hc hf b3
            rw [el]
            obtain ⟨hc, hf⟩ := bcell B3
            go_wp2_with fail
            refine (outgrows_any o0 n0 l0 _).mono ?_
            rintro e w4 ⟨rfl, rfl⟩
            rw [h1]
            go_wp2_with fail
            refine (outgrows_any o1 n1 l1 _).mono ?_
            rintro e w4 ⟨rfl, rfl⟩
            rw [h2]
            go_wp2
            go_ret
            exact ⟨ret_int (growsF_2 ho hn hl h2).symm, below3 B3⟩
          · rw [Bool.not_eq_true] at h2
            go_enter Try.func29, Try.ntmps29
            go_wp2_with fail
            refine (check_any o0 o1 _).mono ?_
            rintro e w1 ⟨rfl, B1⟩
            rw [eo]
            obtain ⟨hc, hf⟩ := bcell B1
            go_wp2_with fail
            refine (check_any n0 n1 _).mono ?_
            rintro e w2 ⟨rfl, b2⟩
            have B2 := B1.trans (b2.mono B1.size)
            clear hc hf b2
            rw [en]
            obtain ⟨hc, hf⟩ := bcell B2
            go_wp2_with fail
            refine (checkLimit_any l0 l1 _).mono ?_
            rintro e w3 ⟨rfl, b3⟩
            have B3 := B2.trans (b3.mono B2.size)
            clear hc hf b3
            rw [el]
            obtain ⟨hc, hf⟩ := bcell B3
            go_wp2_with fail
            refine (outgrows_any o0 n0 l0 _).mono ?_
            rintro e w4 ⟨rfl, rfl⟩
            rw [h1]
            go_wp2_with fail
            refine (outgrows_any o1 n1 l1 _).mono ?_
            rintro e w4 ⟨rfl, rfl⟩
            rw [h2]
            go_wp2
            go_ret
            exact ⟨ret_int (growsF_0 ho hn hl h1 h2).symm, below3 B3⟩
      · rw [Bool.not_eq_true] at hl
        have el := errOf_false hl
        go_enter Try.func29, Try.ntmps29
        go_wp2_with fail
        refine (check_any o0 o1 _).mono ?_
        rintro e w1 ⟨rfl, B1⟩
        rw [eo]
        obtain ⟨hc, hf⟩ := bcell B1
        go_wp2_with fail
        refine (check_any n0 n1 _).mono ?_
        rintro e w2 ⟨rfl, b2⟩
        have B2 := B1.trans (b2.mono B1.size)
        clear hc hf b2
        rw [en]
        obtain ⟨hc, hf⟩ := bcell B2
        go_wp2_with fail
        refine (checkLimit_any l0 l1 _).mono ?_
        rintro e w3 ⟨rfl, b3⟩
        have B3 := B2.trans (b3.mono B2.size)
        clear hc hf b3
        rw [el]
        go_wp2
        go_ret
        exact ⟨ret_int (growsF_l hl).symm, below3 B3⟩
    · rw [Bool.not_eq_true] at hn
      have en := errOf_false hn
      go_enter Try.func29, Try.ntmps29
      go_wp2_with fail
      refine (check_any o0 o1 _).mono ?_
      rintro e w1 ⟨rfl, B1⟩
      rw [eo]
      obtain ⟨hc, hf⟩ := bcell B1
      go_wp2_with fail
      refine (check_any n0 n1 _).mono ?_
      rintro e w2 ⟨rfl, b2⟩
      have B2 := B1.trans (b2.mono B1.size)
      clear hc hf b2
      rw [en]
      go_wp2
      go_ret
      exact ⟨ret_int (growsF_n hn).symm, below3 B2⟩
  · rw [Bool.not_eq_true] at ho
    have eo := errOf_false ho
    go_enter Try.func29, Try.ntmps29
    go_wp2_with fail
    refine (check_any o0 o1 _).mono ?_
    rintro e w1 ⟨rfl, B1⟩
    rw [eo]
    go_wp2
    go_ret
    exact ⟨ret_int (growsF_o ho).symm, below3 B1⟩
end Go.Proofs.Ytmhfbgcfagfmbaa
