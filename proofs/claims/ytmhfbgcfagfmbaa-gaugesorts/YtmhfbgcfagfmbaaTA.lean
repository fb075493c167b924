/- Contracts of tally.Plus and tally.Minus. -/
import Derived.Test.YtmhfbgcfagfmbaaT9
namespace Go.Proofs.Ytmhfbgcfagfmbaa
open Go.RowKit

theorem cnts2_new (w : World) (n : Nat) (a b c d : Int) (hn : n = w.heap.size) : Cnts (w.alloc (.cells #[.int .i64 a, .int .i64 b, .int .i64 c, .int .i64 d] 33)) (some ⟨n, 0, none⟩) 2 [(a, b), (c, d)] := by
  subst hn
  refine ⟨rfl, .inr ⟨_, _, rfl, fun j hj => ?_⟩⟩
  match j, hj with
  | 0, _ => constructor <;> simp [go_sem]
  | 1, _ => constructor <;> simp [go_sem]

theorem plus_any (a b c d : Int) (w : World) :
    Calls Try.prog 25 #[.agg #[.int .i64 a, .int .i64 b], .agg #[.int .i64 c, .int .i64 d]] w fun e w' => e = three (totF [(a, b), (c, d)]) ∧ Below w.heap.size w w' := by
  go_enter Try.func25, Try.ntmps25
  go_wp2_with fail
  refine (total_any (some ⟨w.heap.size + 1 + 1 + 1, 0, none⟩) 2 2 [(a, b), (c, d)] _ (by omega) (cnts2_new _ _ a b c d (by simp))).mono ?_
  rintro e w2 ⟨rfl, B⟩
  obtain ⟨⟨⟨p, q⟩, r⟩, hR⟩ : ∃ R, R = totF [(a, b), (c, d)] := ⟨_, rfl⟩
  have HE := Lib.hid hR.symm
  rw [← hR]
  clear hR
  unfold three
  dsimp only
  obtain ⟨hc, hf⟩ := bcell B
  go_wp2
  exact bodyPost_ret (v := .tuple #[.agg #[.int .i64 p, .int .i64 q], .int .i64 r]) (by simp [results, Try.results25, go_sem, hc]) rfl ⟨three_of HE.out,
    ((((((Below.refl _ _).alloc (Nat.le_refl _) _).alloc (by simp) _).alloc (by simp; omega) _).alloc (by simp; omega) _).trans (B.mono (by simp; omega))).setCell (by simp; omega) _ |>.setCell (by simp; omega) _⟩

def minusF (a b c d : Int) : (Int × Int) × Int := if okB a b && okB c d then resF (a - c) (b - d) else ((0, 0), 18)

set_option maxHeartbeats 1000000 in
theorem minus_any (a b c d : Int) (w : World) :
    Calls Try.prog 27 #[.agg #[.int .i64 a, .int .i64 b], .agg #[.int .i64 c, .int .i64 d]] w fun e w' => e = three (minusF a b c d) ∧ Below w.heap.size w w' := by
  by_cases h1 : okB a b = true
  · have e1 := errOf_true h1
    by_cases h2 : okB c d = true
    · have e2 := errOf_true h2
      obtain ⟨⟨⟨p, q⟩, r⟩, hR⟩ : ∃ R, R = resF (a - c) (b - d) := ⟨_, rfl⟩
      have HE : Hid (minusF a b c d = ((p, q), r)) := Lib.hid (by rw [minusF, if_pos (by simp [h1, h2]), hR])
      have HR := Lib.hid hR.symm
      clear hR
      have i1 : inRB a = true ∧ inRB b = true := by simpa [okB] using h1
      have i2 : inRB c = true ∧ inRB d = true := by simpa [okB] using h2
      have a1 := inRB_true.1 i1.1
      have a2 := inRB_true.1 i1.2
      have a3 := inRB_true.1 i2.1
      have a4 := inRB_true.1 i2.2
      clear i1 i2
      go_enter Try.func27, Try.ntmps27
      go_wp2_with fail
      refine (check_any a b _).mono ?_
      rintro e w1 ⟨rfl, B1⟩
      rw [e1]
      obtain ⟨hc, hf⟩ := bcell B1
      go_wp2_with fail
      refine (check_any c d _).mono ?_
      rintro e w2 ⟨rfl, b2⟩
      have B2 := B1.trans (b2.mono B1.size)
      clear hc hf b2
      rw [e2]
      obtain ⟨hc, hf⟩ := bcell B2
      go_wp2_with fail
      refine (result_any _ _ _).mono ?_
      rintro e w3 ⟨rfl, b3⟩
      have B3 := B2.trans (b3.mono B2.size)
      clear hc hf b3
      rw [HR.out]
      unfold three
      dsimp only
      obtain ⟨hc, hf⟩ := bcell B3
      go_wp2
      exact bodyPost_ret (v := .tuple #[.agg #[.int .i64 p, .int .i64 q], .int .i64 r]) (by simp [results, Try.results27, go_sem, hc]) rfl ⟨three_of HE.out,
        ((below3 B3).setCell (by simp; omega) _).setCell (by simp; omega) _⟩
    · rw [Bool.not_eq_true] at h2
      have e2 := errOf_false h2
      go_enter Try.func27, Try.ntmps27
      go_wp2_with fail
      refine (check_any a b _).mono ?_
      rintro e w1 ⟨rfl, B1⟩
      rw [e1]
      obtain ⟨hc, hf⟩ := bcell B1
      go_wp2_with fail
      refine (check_any c d _).mono ?_
      rintro e w2 ⟨rfl, b2⟩
      have B2 := B1.trans (b2.mono B1.size)
      clear hc hf b2
      rw [e2]
      obtain ⟨hc, hf⟩ := bcell B2
      go_wp2
      exact bodyPost_ret (v := .tuple #[.agg #[.int .i64 0, .int .i64 0], .int .i64 18]) (by simp [results, Try.results27, go_sem, hc]) rfl ⟨three_of (by simp [minusF, h2]),
        ((below3 B2).setCell (by simp; omega) _).setCell (by simp; omega) _⟩
  · rw [Bool.not_eq_true] at h1
    have e1 := errOf_false h1
    go_enter Try.func27, Try.ntmps27
    go_wp2_with fail
    refine (check_any a b _).mono ?_
    rintro e w1 ⟨rfl, B1⟩
    rw [e1]
    obtain ⟨hc, hf⟩ := bcell B1
    go_wp2
    exact bodyPost_ret (v := .tuple #[.agg #[.int .i64 0, .int .i64 0], .int .i64 18]) (by simp [results, Try.results27, go_sem, hc]) rfl ⟨three_of (by simp [minusF, h1]),
      ((below3 B1).setCell (by simp; omega) _).setCell (by simp; omega) _⟩
end Go.Proofs.Ytmhfbgcfagfmbaa
