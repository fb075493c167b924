/- The contract of the reference of Grows. -/
import Derived.Test.YtmhfbgcfagfmbaaT7
namespace Go.Proofs.Ytmhfbgcfagfmbaa
open Go.RowKit

theorem limB_bd {x y : Int} (h : limB x y = true) : -1 ≤ x ∧ -1 ≤ y := by simp [limB] at h; omega
theorem outB_true {a b c : Int} (h : outB a b c = true) (hc : -1 ≤ c) : a < b ∧ 0 ≤ c ∧ c < b := by simp [outB] at h; omega
theorem outB_false {a b c : Int} (h : outB a b c = false) (hc : -1 ≤ c) : b ≤ a ∨ (a < b ∧ c < 0) ∨ (a < b ∧ 0 ≤ c ∧ b ≤ c) := by simp [outB] at h; omega

set_option maxHeartbeats 2000000 in
theorem rgrows_any (o0 o1 n0 n1 l0 l1 : Int) (w : World) :
    Calls Try.prog 30 #[.agg #[.int .i64 o0, .int .i64 o1], .agg #[.int .i64 n0, .int .i64 n1], .agg #[.int .i64 l0, .int .i64 l1]] w fun e w' => e = .returned (.int .i64 (growsF o0 o1 n0 n1 l0 l1)) ∧ Below w.heap.size w w' := by
  by_cases ho : okB o0 o1 = true
  · by_cases hn : okB n0 n1 = true
    · by_cases hl : limB l0 l1 = true
      · obtain ⟨g0, g1⟩ := limB_bd hl
        by_cases h1 : outB o0 n0 l0 = true
        · have HG := Lib.hid (growsF_1 ho hn hl h1)
          obtain ⟨p1, p2, p3⟩ := outB_true h1 g0
          clear h1
          go_enter Try.func30, Try.ntmps30
          go_wp2_with fail
          refine (rright_any o0 o1 _).mono ?_
          rintro e w1 ⟨rfl, B1⟩
          rw [ho]
          obtain ⟨hc, hf⟩ := bcell B1
          go_wp2_with fail
          refine (rright_any n0 n1 _).mono ?_
          rintro e w2 ⟨rfl, b2⟩
          have B2 := B1.trans (b2.mono B1.size)
          clear hc hf b2
          rw [hn]
          obtain ⟨hc, hf⟩ := bcell B2
          go_wp2_with fail
          refine (rbound_any l0 l1 _).mono ?_
          rintro e w3 ⟨rfl, b3⟩
          have B3 := B2.trans (b3.mono B2.size)
          clear hc hf b3
          rw [hl]
          obtain ⟨hc, hf⟩ := bcell B3
          go_wp2
          go_ret
          exact ⟨ret_int HG.out.symm, below3 B3⟩
        · rw [Bool.not_eq_true] at h1
          have q := outB_false h1 g0
          by_cases h2 : outB o1 n1 l1 = true
          · have HG := Lib.hid (growsF_2 ho hn hl h2)
            obtain ⟨p1, p2, p3⟩ := outB_true h2 g1
            clear h1 h2
            rcases q with q | ⟨q, q2⟩ | ⟨q, q2, q3⟩
            all_goals
              go_enter Try.func30, Try.ntmps30
              go_wp2_with fail
              refine (rright_any o0 o1 _).mono ?_
              rintro e w1 ⟨rfl, B1⟩
              rw [ho]
              obtain ⟨hc, hf⟩ := bcell B1
              go_wp2_with fail
              refine (rright_any n0 n1 _).mono ?_
              rintro e w2 ⟨rfl, b2⟩
              have B2 := B1.trans (b2.mono B1.size)
              clear hc hf b2
              rw [hn]
              obtain ⟨hc, hf⟩ := bcell B2
              go_wp2_with fail
              refine (rbound_any l0 l1 _).mono ?_
              rintro e w3 ⟨rfl, b3⟩
              have B3 := B2.trans (b3.mono B2.size)
              clear hc hf b3
              rw [hl]
              obtain ⟨hc, hf⟩ := bcell B3
              go_wp2
              go_ret
              exact ⟨ret_int HG.out.symm, below3 B3⟩
          · rw [Bool.not_eq_true] at h2
            have r := outB_false h2 g1
            have HG := Lib.hid (growsF_0 ho hn hl h1 h2)
            clear h1 h2
            rcases q with q | ⟨q, q2⟩ | ⟨q, q2, q3⟩
            all_goals
              rcases r with r | ⟨r, r2⟩ | ⟨r, r2, r3⟩
              all_goals
                go_enter Try.func30, Try.ntmps30
                go_wp2_with fail
                refine (rright_any o0 o1 _).mono ?_
                rintro e w1 ⟨rfl, B1⟩
                rw [ho]
                obtain ⟨hc, hf⟩ := bcell B1
                go_wp2_with fail
                refine (rright_any n0 n1 _).mono ?_
                rintro e w2 ⟨rfl, b2⟩
                have B2 := B1.trans (b2.mono B1.size)
                clear hc hf b2
                rw [hn]
                obtain ⟨hc, hf⟩ := bcell B2
                go_wp2_with fail
                refine (rbound_any l0 l1 _).mono ?_
                rintro e w3 ⟨rfl, b3⟩
                have B3 := B2.trans (b3.mono B2.size)
                clear hc hf b3
                rw [hl]
                obtain ⟨hc, hf⟩ := bcell B3
                go_wp2
                go_ret
                exact ⟨ret_int HG.out.symm, below3 B3⟩
      · rw [Bool.not_eq_true] at hl
        go_enter Try.func30, Try.ntmps30
        go_wp2_with fail
        refine (rright_any o0 o1 _).mono ?_
        rintro e w1 ⟨rfl, B1⟩
        rw [ho]
        obtain ⟨hc, hf⟩ := bcell B1
        go_wp2_with fail
        refine (rright_any n0 n1 _).mono ?_
        rintro e w2 ⟨rfl, b2⟩
        have B2 := B1.trans (b2.mono B1.size)
        clear hc hf b2
        rw [hn]
        obtain ⟨hc, hf⟩ := bcell B2
        go_wp2_with fail
        refine (rbound_any l0 l1 _).mono ?_
        rintro e w3 ⟨rfl, b3⟩
        have B3 := B2.trans (b3.mono B2.size)
        clear hc hf b3
        rw [hl]
        go_wp2
        go_ret
        exact ⟨ret_int (growsF_l hl).symm, below3 B3⟩
    · rw [Bool.not_eq_true] at hn
      go_enter Try.func30, Try.ntmps30
      go_wp2_with fail
      refine (rright_any o0 o1 _).mono ?_
      rintro e w1 ⟨rfl, B1⟩
      rw [ho]
      obtain ⟨hc, hf⟩ := bcell B1
      go_wp2_with fail
      refine (rright_any n0 n1 _).mono ?_
      rintro e w2 ⟨rfl, b2⟩
      have B2 := B1.trans (b2.mono B1.size)
      clear hc hf b2
      rw [hn]
      go_wp2
      go_ret
      exact ⟨ret_int (growsF_n hn).symm, below3 B2⟩
  · rw [Bool.not_eq_true] at ho
    go_enter Try.func30, Try.ntmps30
    go_wp2_with fail
    refine (rright_any o0 o1 _).mono ?_
    rintro e w1 ⟨rfl, B1⟩
    rw [ho]
    go_wp2
    go_ret
    exact ⟨ret_int (growsF_o ho).symm, below3 B1⟩
end Go.Proofs.Ytmhfbgcfagfmbaa
