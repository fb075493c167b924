/- Contracts of tally.result, outgrows, Grows, Minus. -/
import Derived.Test.YtmhfbgcfagfmbaaT4
namespace Go.Proofs.Ytmhfbgcfagfmbaa
open Go.RowKit

theorem errOf_true {b : Bool} (h : b = true) : errOf b = 0 := by simp [errOf, h]
theorem errOf_false {b : Bool} (h : b = false) : errOf b = 18 := by simp [errOf, h]

def three (c : (Int × Int) × Int) : Ending := .returned (.tuple #[.agg #[.int .i64 c.1.1, .int .i64 c.1.2], .int .i64 c.2])
theorem three_of {p : (Int × Int) × Int} {a b c : Int} (h : p = ((a, b), c)) : Ending.returned (.tuple #[.agg #[.int .i64 a, .int .i64 b], .int .i64 c]) = three p := by subst h; rfl
/-- A computed count, or ErrOver. -/
def resF (x y : Int) : (Int × Int) × Int := if okB x y then ((x, y), 0) else ((0, 0), 15)
theorem result_any (x y : Int) (w : World) :
    Calls Try.prog 58 #[.agg #[.int .i64 x, .int .i64 y]] w fun e w' => e = three (resF x y) ∧ Below w.heap.size w w' := by
  by_cases h : okB x y = true
  · have he := errOf_true h
    go_enter Try.func58, Try.ntmps58
    go_wp2_with fail
    refine (check_any x y _).mono ?_
    rintro e w' ⟨rfl, hb⟩
    rw [he]
    obtain ⟨hc, hf⟩ := bcell hb
    have hz : w.heap.size + 1 < w'.heap.size := by have := hb.size; simp at this; omega
    go_wp2
    exact bodyPost_ret (v := .tuple #[.agg #[.int .i64 x, .int .i64 y], .int .i64 0]) (by simp [results, Try.results58, go_sem, hc]) rfl ⟨three_of (by simp [resF, h]),
      (((((Below.refl _ _).alloc (Nat.le_refl _) _).alloc (by simp) _).trans (hb.mono (by simp; omega))).setCell (by simp) _).setCell (by simp) _⟩
  · rw [Bool.not_eq_true] at h
    have he := errOf_false h
    go_enter Try.func58, Try.ntmps58
    go_wp2_with fail
    refine (check_any x y _).mono ?_
    rintro e w' ⟨rfl, hb⟩
    rw [he]
    obtain ⟨hc, hf⟩ := bcell hb
    have hz : w.heap.size + 1 < w'.heap.size := by have := hb.size; simp at this; omega
    go_wp2
    exact bodyPost_ret (v := .tuple #[.agg #[.int .i64 0, .int .i64 0], .int .i64 15]) (by simp [results, Try.results58, go_sem, hc]) rfl ⟨three_of (by simp [resF, h]),
      (((((Below.refl _ _).alloc (Nat.le_refl _) _).alloc (by simp) _).trans (hb.mono (by simp; omega))).setCell (by simp) _).setCell (by simp) _⟩

/-- now is greater than old and than the limit, which is not -1. -/
def outB (old now limit : Int) : Bool := decide (old < now) && decide (limit < now) && decide (limit ≠ -1)
theorem outgrows_any (a b c : Int) (w : World) :
    Calls Try.prog 60 #[.int .i64 a, .int .i64 b, .int .i64 c] w fun e w' => e = .returned (.bool (outB a b c)) ∧ w = w' := by
  by_cases h1 : a < b
  · by_cases h2 : c < b
    · by_cases h3 : c = -1
      · subst h3
        go_enter Try.func60, Try.ntmps60
        go_wp2
        go_ret
        exact ⟨ret_bool (by simp [outB]), rfl⟩
      · have h4 : (c != -1) = true := by simpa using h3
        go_enter Try.func60, Try.ntmps60
        go_wp2
        go_ret
        exact ⟨ret_bool (by simp [outB, h1, h2, h3]), rfl⟩
    · go_enter Try.func60, Try.ntmps60
      go_wp2
      go_ret
      exact ⟨ret_bool (by simp [outB]; omega), rfl⟩
  · go_enter Try.func60, Try.ntmps60
    go_wp2
    go_ret
    exact ⟨ret_bool (by simp [outB]; omega), rfl⟩
end Go.Proofs.Ytmhfbgcfagfmbaa
