/- Contracts of the references of Plus and Minus. -/
import Derived.Test.YtmhfbgcfagfmbaaTA
namespace Go.Proofs.Ytmhfbgcfagfmbaa
open Go.RowKit

def pairF (a b c d x y u v : Int) : (Int × Int) × Int := if okB a b && okB c d then (if u = 0 ∧ v = 0 then ((x, y), 0) else ((0, 0), 15)) else ((0, 0), 18)

set_option maxHeartbeats 1000000 in
theorem pair_any (a b c d x y u v : Int) (w : World) :
    Calls Try.prog 59 #[.agg #[.int .i64 a, .int .i64 b], .agg #[.int .i64 c, .int .i64 d], .int .i64 x, .int .i64 y, .int .i64 u, .int .i64 v] w fun e w' => e = three (pairF a b c d x y u v) ∧ Below w.heap.size w w' := by
  by_cases h1 : okB a b = true
  · by_cases h2 : okB c d = true
    · by_cases h3 : u = 0
      · subst h3
        by_cases h4 : v = 0
        · subst h4
          have HE : Hid (pairF a b c d x y 0 0 = ((x, y), 0)) := Lib.hid (by simp [pairF, h1, h2])
          go_enter Try.func59, Try.ntmps59
          go_wp2_with fail
          refine (rright_any a b _).mono ?_
          rintro e w1 ⟨rfl, B1⟩
          rw [h1]
          obtain ⟨hc, hf⟩ := bcell B1
          go_wp2_with fail
          refine (rright_any c d _).mono ?_
          rintro e w2 ⟨rfl, b2⟩
          have B2 := B1.trans (b2.mono B1.size)
          clear hc hf b2
          rw [h2]
          obtain ⟨hc, hf⟩ := bcell B2
          go_wp2
          exact bodyPost_ret (v := .tuple #[.agg #[.int .i64 x, .int .i64 y], .int .i64 0]) (by simp [results, Try.results59, go_sem, hc]) rfl ⟨three_of HE.out,
            ((below3 B2).setCell (by simp; omega) _).setCell (by simp; omega) _⟩
        · have h5 : (v != 0) = true := by simpa using h4
          have HE : Hid (pairF a b c d x y 0 v = ((0, 0), 15)) := Lib.hid (by simp [pairF, h1, h2, h4])
          go_enter Try.func59, Try.ntmps59
          go_wp2_with fail
          refine (rright_any a b _).mono ?_
          rintro e w1 ⟨rfl, B1⟩
          rw [h1]
          obtain ⟨hc, hf⟩ := bcell B1
          go_wp2_with fail
          refine (rright_any c d _).mono ?_
          rintro e w2 ⟨rfl, b2⟩
          have B2 := B1.trans (b2.mono B1.size)
          clear hc hf b2
          rw [h2]
          obtain ⟨hc, hf⟩ := bcell B2
          go_wp2
          exact bodyPost_ret (v := .tuple #[.agg #[.int .i64 0, .int .i64 0], .int .i64 15]) (by simp [results, Try.results59, go_sem, hc]) rfl ⟨three_of HE.out,
            ((below3 B2).setCell (by simp; omega) _).setCell (by simp; omega) _⟩
      · have h5 : (u != 0) = true := by simpa using h3
        have HE : Hid (pairF a b c d x y u v = ((0, 0), 15)) := Lib.hid (by simp [pairF, h1, h2, h3])
        go_enter Try.func59, Try.ntmps59
        go_wp2_with fail
        refine (rright_any a b _).mono ?_
        rintro e w1 ⟨rfl, B1⟩
        rw [h1]
        obtain ⟨hc, hf⟩ := bcell B1
        go_wp2_with fail
        refine (rright_any c d _).mono ?_
        rintro e w2 ⟨rfl, b2⟩
        have B2 := B1.trans (b2.mono B1.size)
        clear hc hf b2
        rw [h2]
        obtain ⟨hc, hf⟩ := bcell B2
        go_wp2
        exact bodyPost_ret (v := .tuple #[.agg #[.int .i64 0, .int .i64 0], .int .i64 15]) (by simp [results, Try.results59, go_sem, hc]) rfl ⟨three_of HE.out,
          ((below3 B2).setCell (by simp; omega) _).setCell (by simp; omega) _⟩
    · rw [Bool.not_eq_true] at h2
      have HE : Hid (pairF a b c d x y u v = ((0, 0), 18)) := Lib.hid (by simp [pairF, h2])
      go_enter Try.func59, Try.ntmps59
      go_wp2_with fail
      refine (rright_any a b _).mono ?_
      rintro e w1 ⟨rfl, B1⟩
      rw [h1]
      obtain ⟨hc, hf⟩ := bcell B1
      go_wp2_with fail
      refine (rright_any c d _).mono ?_
      rintro e w2 ⟨rfl, b2⟩
      have B2 := B1.trans (b2.mono B1.size)
      clear hc hf b2
      rw [h2]
      obtain ⟨hc, hf⟩ := bcell B2
      go_wp2
      exact bodyPost_ret (v := .tuple #[.agg #[.int .i64 0, .int .i64 0], .int .i64 18]) (by simp [results, Try.results59, go_sem, hc]) rfl ⟨three_of HE.out,
        ((below3 B2).setCell (by simp; omega) _).setCell (by simp; omega) _⟩
  · rw [Bool.not_eq_true] at h1
    have HE : Hid (pairF a b c d x y u v = ((0, 0), 18)) := Lib.hid (by simp [pairF, h1])
    go_enter Try.func59, Try.ntmps59
    go_wp2_with fail
    refine (rright_any a b _).mono ?_
    rintro e w1 ⟨rfl, B1⟩
    rw [h1]
    obtain ⟨hc, hf⟩ := bcell B1
    go_wp2
    exact bodyPost_ret (v := .tuple #[.agg #[.int .i64 0, .int .i64 0], .int .i64 18]) (by simp [results, Try.results59, go_sem, hc]) rfl ⟨three_of HE.out,
      ((below3 B1).setCell (by simp; omega) _).setCell (by simp; omega) _⟩

theorem pairF_plus (a b c d : Int) : pairF a b c d (addF a c).1 (addF b d).1 (addF a c).2 (addF b d).2 = totF [(a, b), (c, d)] := by
  unfold pairF totF
  simp only [List.all_cons, List.all_nil, Bool.and_true, okC, List.map_cons, List.map_nil, List.sum_cons, List.sum_nil, Int.add_zero]
  by_cases h : (okB a b && okB c d) = true
  · rw [if_pos h, if_pos h]
    simp only [okB, Bool.and_eq_true] at h
    obtain ⟨⟨ha, hb⟩, hc, hd⟩ := h
    have ia := inRB_true.1 ha
    have ib := inRB_true.1 hb
    have ic := inRB_true.1 hc
    have id := inRB_true.1 hd
    by_cases s1 : 1125899906842624 < a + c
    · rw [addF_gt ha hc s1]
      have n1 : inRB (min (a + c) 1125899906842625) = false := by rw [inRB_false]; omega
      simp [resF, okB, n1]
    · rw [addF_le ha hc s1]
      by_cases s2 : 1125899906842624 < b + d
      · rw [addF_gt hb hd s2]
        have n1 : inRB (min (b + d) 1125899906842625) = false := by rw [inRB_false]; omega
        simp [resF, okB, n1]
      · rw [addF_le hb hd s2]
        have e1 : min (a + c) 1125899906842625 = a + c := by omega
        have e2 : min (b + d) 1125899906842625 = b + d := by omega
        have n1 : inRB (a + c) = true := by rw [inRB_true]; omega
        have n2 : inRB (b + d) = true := by rw [inRB_true]; omega
        rw [e1, e2]
        simp [resF, okB, n1, n2]
  · rw [if_neg h, if_neg h]

theorem pairF_minus (a b c d : Int) : pairF a b c d (subF a c).1 (subF b d).1 (subF a c).2 (subF b d).2 = minusF a b c d := by
  unfold pairF minusF
  by_cases h : (okB a b && okB c d) = true
  · rw [if_pos h, if_pos h]
    simp only [okB, Bool.and_eq_true] at h
    obtain ⟨⟨ha, hb⟩, hc, hd⟩ := h
    have ia := inRB_true.1 ha
    have ib := inRB_true.1 hb
    have ic := inRB_true.1 hc
    have id := inRB_true.1 hd
    by_cases s1 : a < c
    · rw [subF_lt ha hc s1]
      have n1 : inRB (a - c) = false := by rw [inRB_false]; omega
      simp [resF, okB, n1]
    · rw [subF_ge ha hc s1]
      by_cases s2 : b < d
      · rw [subF_lt hb hd s2]
        have n1 : inRB (b - d) = false := by rw [inRB_false]; omega
        simp [resF, okB, n1]
      · rw [subF_ge hb hd s2]
        have n1 : inRB (a - c) = true := by rw [inRB_true]; omega
        have n2 : inRB (b - d) = true := by rw [inRB_true]; omega
        simp [resF, okB, n1, n2]
  · rw [if_neg h, if_neg h]

set_option maxHeartbeats 1000000 in
theorem rplus_any (a b c d : Int) (w : World) :
    Calls Try.prog 26 #[.agg #[.int .i64 a, .int .i64 b], .agg #[.int .i64 c, .int .i64 d]] w fun e w' => e = three (totF [(a, b), (c, d)]) ∧ Below w.heap.size w w' := by
  rw [← pairF_plus]
  obtain ⟨⟨x, u⟩, h1⟩ : ∃ R, R = addF a c := ⟨_, rfl⟩
  obtain ⟨⟨y, v⟩, h2⟩ : ∃ R, R = addF b d := ⟨_, rfl⟩
  rw [← h1, ← h2]
  have H1 := Lib.hid h1.symm
  have H2 := Lib.hid h2.symm
  clear h1 h2
  dsimp only
  obtain ⟨⟨⟨p, q⟩, r⟩, hR⟩ : ∃ R, R = pairF a b c d x y u v := ⟨_, rfl⟩
  have HE := Lib.hid hR.symm
  clear hR
  go_enter Try.func26, Try.ntmps26
  go_wp2_with fail
  refine (radd_any a c _).mono ?_
  rintro e w2 ⟨rfl, rfl⟩
  rw [H1.out]; unfold two; dsimp only
  go_wp2_with fail
  refine (radd_any b d _).mono ?_
  rintro e w2 ⟨rfl, rfl⟩
  rw [H2.out]; unfold two; dsimp only
  go_wp2_with fail
  refine (pair_any a b c d x y u v _).mono ?_
  rintro e w2 ⟨rfl, B⟩
  rw [HE.out]; unfold three; dsimp only
  obtain ⟨hc, hf⟩ := bcell B
  go_wp2
  exact bodyPost_ret (v := .tuple #[.agg #[.int .i64 p, .int .i64 q], .int .i64 r]) (by simp [results, Try.results26, go_sem, hc]) rfl ⟨three_of HE.out,
    ((below3 B).setCell (by simp; omega) _).setCell (by simp; omega) _⟩

set_option maxHeartbeats 1000000 in
theorem rminus_any (a b c d : Int) (w : World) :
    Calls Try.prog 28 #[.agg #[.int .i64 a, .int .i64 b], .agg #[.int .i64 c, .int .i64 d]] w fun e w' => e = three (minusF a b c d) ∧ Below w.heap.size w w' := by
  rw [← pairF_minus]
  obtain ⟨⟨x, u⟩, h1⟩ : ∃ R, R = subF a c := ⟨_, rfl⟩
  obtain ⟨⟨y, v⟩, h2⟩ : ∃ R, R = subF b d := ⟨_, rfl⟩
  rw [← h1, ← h2]
  have H1 := Lib.hid h1.symm
  have H2 := Lib.hid h2.symm
  clear h1 h2
  dsimp only
  obtain ⟨⟨⟨p, q⟩, r⟩, hR⟩ : ∃ R, R = pairF a b c d x y u v := ⟨_, rfl⟩
  have HE := Lib.hid hR.symm
  clear hR
  go_enter Try.func28, Try.ntmps28
  go_wp2_with fail
  refine (rsub_any a c _).mono ?_
  rintro e w2 ⟨rfl, rfl⟩
  rw [H1.out]; unfold two; dsimp only
  go_wp2_with fail
  refine (rsub_any b d _).mono ?_
  rintro e w2 ⟨rfl, rfl⟩
  rw [H2.out]; unfold two; dsimp only
  go_wp2_with fail
  refine (pair_any a b c d x y u v _).mono ?_
  rintro e w2 ⟨rfl, B⟩
  rw [HE.out]; unfold three; dsimp only
  obtain ⟨hc, hf⟩ := bcell B
  go_wp2
  exact bodyPost_ret (v := .tuple #[.agg #[.int .i64 p, .int .i64 q], .int .i64 r]) (by simp [results, Try.results28, go_sem, hc]) rfl ⟨three_of HE.out,
    ((below3 B).setCell (by simp; omega) _).setCell (by simp; omega) _⟩
end Go.Proofs.Ytmhfbgcfagfmbaa
