/- The walk of TallyNever, part 4. -/
import Derived.Test.YtmhfbgcfagfmbaaLN0
namespace Go.Proofs.Ytmhfbgcfagfmbaa.tallyNever
open Go.RowKit

set_option maxHeartbeats 4000000 in
theorem fits_20 (o0 o1 n0 n1 l0 l1 m0 m1 : Int) (w : World) (ho : okB o0 o1 = true) (hn : okB n0 n1 = true) (hl : limB l0 l1 = true) (h1 : outB o0 n0 l0 = false) (h2 : outB o1 n1 l1 = false) (q : o0 < n0) (q2 : 0 ≤ l0) (q3 : n0 ≤ l0) (r : n1 ≤ o1) :
    Calls Try.prog 7 #[.agg #[.int .i64 o0, .int .i64 o1], .agg #[.int .i64 n0, .int .i64 n1], .agg #[.int .i64 l0, .int .i64 l1], .agg #[.int .i64 m0, .int .i64 m1]] w fun e w' => e = .returned (.bool true) ∧ Below w.heap.size w w' := by
  have HG := Lib.hid (growsF_0 ho hn hl h1 h2)
  have H1 := Lib.hid h1
  have H2 := Lib.hid h2
  clear h1 h2
  go_enter Try.func7, Try.ntmps7
  go_wp2_with fail
  refine (lives1_any _).mono ?_
  rintro e w1 ⟨rfl, B1⟩
  obtain ⟨hc, hf⟩ := bcell B1
  go_wp2_with fail
  refine (check_any o0 o1 _).mono ?_
  rintro e w2 ⟨rfl, b2⟩
  have B2 := B1.trans (b2.mono B1.size)
  clear hc hf b2 B1
  rw [errOf_true ho]
  obtain ⟨hc, hf⟩ := bcell B2
  go_wp2_with fail
  refine (check_any n0 n1 _).mono ?_
  rintro e w3 ⟨rfl, b2⟩
  have B3 := B2.trans (b2.mono B2.size)
  clear hc hf b2 B2
  rw [errOf_true hn]
  obtain ⟨hc, hf⟩ := bcell B3
  go_wp2_with fail
  refine (checkLimit_any l0 l1 _).mono ?_
  rintro e w4 ⟨rfl, b2⟩
  have B4 := B3.trans (b2.mono B3.size)
  clear hc hf b2 B3
  rw [errOf_true hl]
  obtain ⟨hc, hf⟩ := bcell B4
  go_wp2_with fail
  refine (grows_any o0 o1 n0 n1 l0 l1 _).mono ?_
  rintro e w5 ⟨rfl, b2⟩
  have B5 := B4.trans (b2.mono B4.size)
  clear hc hf b2 B4
  rw [HG.out]
  obtain ⟨hc, hf⟩ := bcell B5
  go_wp2_with fail
  refine (checkLimit_any m0 m1 _).mono ?_
  rintro e w6 ⟨rfl, b2⟩
  have B6 := B5.trans (b2.mono B5.size)
  clear hc hf b2 B5
  obtain ⟨hc, hf⟩ := bcell B6
  rcases hm : limB m0 m1
  · rw [errOf_false rfl]
    go_wp2
    go_ret
    exact ⟨rfl, below4 B6⟩
  · rw [errOf_true rfl]
    have t0 : ¬ l0 < 0 := by omega
    by_cases t1 : l1 < 0
    · skip
      go_wp2
      go_ret
      exact ⟨rfl, below4 B6⟩
    by_cases t2 : m0 < l0
    · skip
      go_wp2
      go_ret
      exact ⟨rfl, below4 B6⟩
    by_cases t3 : m1 < l1
    · skip
      go_wp2
      go_ret
      exact ⟨rfl, below4 B6⟩
    have HM := Lib.hid (growsF_0 ho hn hm (outB_mono H1.out (by omega) (by omega)) (outB_mono H2.out (by omega) (by omega)))
    go_wp2_with fail
    refine (grows_any o0 o1 n0 n1 m0 m1 _).mono ?_
    rintro e w7 ⟨rfl, b2⟩
    have B7 := B6.trans (b2.mono B6.size)
    clear hc hf b2 B6
    rw [HM.out]
    obtain ⟨hc, hf⟩ := bcell B7
    go_wp2
    go_ret
    exact ⟨rfl, below4 B7⟩
set_option maxHeartbeats 4000000 in
theorem fits_21 (o0 o1 n0 n1 l0 l1 m0 m1 : Int) (w : World) (ho : okB o0 o1 = true) (hn : okB n0 n1 = true) (hl : limB l0 l1 = true) (h1 : outB o0 n0 l0 = false) (h2 : outB o1 n1 l1 = false) (q : o0 < n0) (q2 : 0 ≤ l0) (q3 : n0 ≤ l0) (r : o1 < n1) (r2 : l1 < 0) :
    Calls Try.prog 7 #[.agg #[.int .i64 o0, .int .i64 o1], .agg #[.int .i64 n0, .int .i64 n1], .agg #[.int .i64 l0, .int .i64 l1], .agg #[.int .i64 m0, .int .i64 m1]] w fun e w' => e = .returned (.bool true) ∧ Below w.heap.size w w' := by
  have HG := Lib.hid (growsF_0 ho hn hl h1 h2)
  have H1 := Lib.hid h1
  have H2 := Lib.hid h2
  clear h1 h2
  go_enter Try.func7, Try.ntmps7
  go_wp2_with fail
  refine (lives1_any _).mono ?_
  rintro e w1 ⟨rfl, B1⟩
  obtain ⟨hc, hf⟩ := bcell B1
  go_wp2_with fail
  refine (check_any o0 o1 _).mono ?_
  rintro e w2 ⟨rfl, b2⟩
  have B2 := B1.trans (b2.mono B1.size)
  clear hc hf b2 B1
  rw [errOf_true ho]
  obtain ⟨hc, hf⟩ := bcell B2
  go_wp2_with fail
  refine (check_any n0 n1 _).mono ?_
  rintro e w3 ⟨rfl, b2⟩
  have B3 := B2.trans (b2.mono B2.size)
  clear hc hf b2 B2
  rw [errOf_true hn]
  obtain ⟨hc, hf⟩ := bcell B3
  go_wp2_with fail
  refine (checkLimit_any l0 l1 _).mono ?_
  rintro e w4 ⟨rfl, b2⟩
  have B4 := B3.trans (b2.mono B3.size)
  clear hc hf b2 B3
  rw [errOf_true hl]
  obtain ⟨hc, hf⟩ := bcell B4
  go_wp2_with fail
  refine (grows_any o0 o1 n0 n1 l0 l1 _).mono ?_
  rintro e w5 ⟨rfl, b2⟩
  have B5 := B4.trans (b2.mono B4.size)
  clear hc hf b2 B4
  rw [HG.out]
  obtain ⟨hc, hf⟩ := bcell B5
  go_wp2_with fail
  refine (checkLimit_any m0 m1 _).mono ?_
  rintro e w6 ⟨rfl, b2⟩
  have B6 := B5.trans (b2.mono B5.size)
  clear hc hf b2 B5
  obtain ⟨hc, hf⟩ := bcell B6
  rcases hm : limB m0 m1
  · rw [errOf_false rfl]
    go_wp2
    go_ret
    exact ⟨rfl, below4 B6⟩
  · rw [errOf_true rfl]
    have t0 : ¬ l0 < 0 := by omega
    go_wp2
    go_ret
    exact ⟨rfl, below4 B6⟩
set_option maxHeartbeats 4000000 in
theorem fits_22 (o0 o1 n0 n1 l0 l1 m0 m1 : Int) (w : World) (ho : okB o0 o1 = true) (hn : okB n0 n1 = true) (hl : limB l0 l1 = true) (h1 : outB o0 n0 l0 = false) (h2 : outB o1 n1 l1 = false) (q : o0 < n0) (q2 : 0 ≤ l0) (q3 : n0 ≤ l0) (r : o1 < n1) (r2 : 0 ≤ l1) (r3 : n1 ≤ l1) :
    Calls Try.prog 7 #[.agg #[.int .i64 o0, .int .i64 o1], .agg #[.int .i64 n0, .int .i64 n1], .agg #[.int .i64 l0, .int .i64 l1], .agg #[.int .i64 m0, .int .i64 m1]] w fun e w' => e = .returned (.bool true) ∧ Below w.heap.size w w' := by
  have HG := Lib.hid (growsF_0 ho hn hl h1 h2)
  have H1 := Lib.hid h1
  have H2 := Lib.hid h2
  clear h1 h2
  go_enter Try.func7, Try.ntmps7
  go_wp2_with fail
  refine (lives1_any _).mono ?_
  rintro e w1 ⟨rfl, B1⟩
  obtain ⟨hc, hf⟩ := bcell B1
  go_wp2_with fail
  refine (check_any o0 o1 _).mono ?_
  rintro e w2 ⟨rfl, b2⟩
  have B2 := B1.trans (b2.mono B1.size)
  clear hc hf b2 B1
  rw [errOf_true ho]
  obtain ⟨hc, hf⟩ := bcell B2
  go_wp2_with fail
  refine (check_any n0 n1 _).mono ?_
  rintro e w3 ⟨rfl, b2⟩
  have B3 := B2.trans (b2.mono B2.size)
  clear hc hf b2 B2
  rw [errOf_true hn]
  obtain ⟨hc, hf⟩ := bcell B3
  go_wp2_with fail
  refine (checkLimit_any l0 l1 _).mono ?_
  rintro e w4 ⟨rfl, b2⟩
  have B4 := B3.trans (b2.mono B3.size)
  clear hc hf b2 B3
  rw [errOf_true hl]
  obtain ⟨hc, hf⟩ := bcell B4
  go_wp2_with fail
  refine (grows_any o0 o1 n0 n1 l0 l1 _).mono ?_
  rintro e w5 ⟨rfl, b2⟩
  have B5 := B4.trans (b2.mono B4.size)
  clear hc hf b2 B4
  rw [HG.out]
  obtain ⟨hc, hf⟩ := bcell B5
  go_wp2_with fail
  refine (checkLimit_any m0 m1 _).mono ?_
  rintro e w6 ⟨rfl, b2⟩
  have B6 := B5.trans (b2.mono B5.size)
  clear hc hf b2 B5
  obtain ⟨hc, hf⟩ := bcell B6
  rcases hm : limB m0 m1
  · rw [errOf_false rfl]
    go_wp2
    go_ret
    exact ⟨rfl, below4 B6⟩
  · rw [errOf_true rfl]
    have t0 : ¬ l0 < 0 := by omega
    have t1 : ¬ l1 < 0 := by omega
    by_cases t2 : m0 < l0
    · skip
      go_wp2
      go_ret
      exact ⟨rfl, below4 B6⟩
    by_cases t3 : m1 < l1
    · skip
      go_wp2
      go_ret
      exact ⟨rfl, below4 B6⟩
    have HM := Lib.hid (growsF_0 ho hn hm (outB_mono H1.out (by omega) (by omega)) (outB_mono H2.out (by omega) (by omega)))
    go_wp2_with fail
    refine (grows_any o0 o1 n0 n1 m0 m1 _).mono ?_
    rintro e w7 ⟨rfl, b2⟩
    have B7 := B6.trans (b2.mono B6.size)
    clear hc hf b2 B6
    rw [HM.out]
    obtain ⟨hc, hf⟩ := bcell B7
    go_wp2
    go_ret
    exact ⟨rfl, below4 B7⟩
end Go.Proofs.Ytmhfbgcfagfmbaa.tallyNever
