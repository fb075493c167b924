/- Contracts: tally's Check and CheckLimit, their references. -/
import Derived.Test.YteekjndhehnpaaaRI
namespace Go.Proofs.Yteekjndhehnpaaa
open Go.RowKit
set_option maxRecDepth 100000
set_option maxHeartbeats 4000000
set_option linter.unusedVariables false
def inRB (n : Int) : Bool := decide (0 ≤ n) && decide (n ≤ 1125899906842624)
theorem inRB_true {n : Int} : inRB n = true ↔ 0 ≤ n ∧ n ≤ 1125899906842624 := by simp [inRB]
theorem inRB_false {n : Int} : inRB n = false ↔ n < 0 ∨ 1125899906842624 < n := by
  rw [← Bool.not_eq_true, inRB_true]; omega

theorem counts_any (n : Int) (w : World) :
    Calls Try.prog 111 #[.int .i64 n] w fun e w' => e = .returned (.bool (inRB n)) ∧ w = w' := by
  by_cases h0 : 0 ≤ n
  · by_cases h1 : n ≤ 1125899906842624
    all_goals
      go_enter Try.func111, Try.ntmps111
      go_wp2
      go_ret
      exact ⟨ret_bool (by simp [inRB]; omega), rfl⟩
  · go_enter Try.func111, Try.ntmps111
    go_wp2
    go_ret
    exact ⟨ret_bool (by simp [inRB]; omega), rfl⟩

def movedF (n lo : Int) : Int := min (max n lo) 1125899906842624
theorem moved_any (n lo : Int) (w : World) :
    Calls Try.prog 127 #[.int .i64 n, .int .i64 lo] w fun e w' => e = .returned (.int .i64 (movedF n lo)) ∧ w = w' := by
  unfold movedF
  by_cases h1 : n < lo
  · by_cases h : lo ≤ 1125899906842624
    all_goals
      go_enter Try.func127, Try.ntmps127
      go_wp2
      all_goals
        go_ret
        exact ⟨ret_int (by omega), rfl⟩
  · by_cases h : n ≤ 1125899906842624
    all_goals
      go_enter Try.func127, Try.ntmps127
      go_wp2
      all_goals
        go_ret
        exact ⟨ret_int (by omega), rfl⟩
def fromB (lo n : Int) : Bool := movedF n lo == n
/-- 0, or ErrArg. -/
def errOf (ok : Bool) : Int := if ok then 0 else 18
theorem checkFrom_any (x y lo : Int) (w : World) :
    Calls Try.prog 120 #[.agg #[.int .i64 x, .int .i64 y], .int .i64 lo] w fun e w' => e = .returned (.int .i64 (errOf (fromB lo x && fromB lo y))) ∧ Below w.heap.size w w' := by
  unfold errOf
  generalize hR : (if fromB lo x && fromB lo y then (0 : Int) else 18) = R
  have HR := Lib.hid hR
  clear hR
  unfold fromB at HR
  go_enter Try.func120, Try.ntmps120
  go_wp2
  go_region_held3 (fun w' => w'.cell? ⟨w.heap.size, 0, none⟩ = some (.int .i64 x) ∧ w'.cell? ⟨w.heap.size, 1, none⟩ = some (.int .i64 y))
    (go_keep) ((go_at_call 127; refine (moved_any _ _ _).mono ?_; rintro e w' ⟨rfl, rfl⟩))
  all_goals
    go_wp2
    all_goals
      go_ret
      refine ⟨ret_int ?_, (((Below.refl _ _).alloc (Nat.le_refl _) _).alloc (by simp) _).drew⟩
      rw [← HR.out]
      first
        | (rw [if_pos (by rw [‹movedF x lo = x›, ‹movedF y lo = y›]; simp)])
        | (rw [if_neg (by simp only [beq_iff_eq, Bool.and_eq_true]; exact fun h => ‹¬ movedF y lo = y› h.2)])
        | (rw [if_neg (by simp only [beq_iff_eq, Bool.and_eq_true]; exact fun h => ‹¬ movedF x lo = x› h.1)])

theorem fromB_true {lo n : Int} (h : lo ≤ 1125899906842624) : fromB lo n = true ↔ lo ≤ n ∧ n ≤ 1125899906842624 := by
  simp only [fromB, movedF, beq_iff_eq]; omega
/-- Both numbers are in range. -/
def okB (x y : Int) : Bool := inRB x && inRB y
/-- Both numbers are in range or -1. -/
def limB (x y : Int) : Bool := decide (-1 ≤ x) && decide (x ≤ 1125899906842624) && (decide (-1 ≤ y) && decide (y ≤ 1125899906842624))
theorem okB_from (x y : Int) : (fromB 0 x && fromB 0 y) = okB x y := by
  rw [Bool.eq_iff_iff]; simp [okB, inRB_true, fromB_true]
theorem limB_from (x y : Int) : (fromB (-1) x && fromB (-1) y) = limB x y := by
  rw [Bool.eq_iff_iff]; simp [limB, fromB_true]
theorem check_any_t (x y : Int) (w : World) :
    Calls Try.prog 110 #[.agg #[.int .i64 x, .int .i64 y]] w fun e w' => e = .returned (.int .i64 (errOf (okB x y))) ∧ Below w.heap.size w w' := by
  go_enter Try.func110, Try.ntmps110
  go_wp2_with fail
  refine (checkFrom_any x y 0 _).mono ?_
  rintro e w' ⟨rfl, hb⟩
  rw [okB_from]
  go_wp2
  go_ret
  exact ⟨rfl, ((Below.refl _ _).alloc (Nat.le_refl _) _).trans (hb.mono (by simp))⟩
theorem checkLimit_any (x y : Int) (w : World) :
    Calls Try.prog 109 #[.agg #[.int .i64 x, .int .i64 y]] w fun e w' => e = .returned (.int .i64 (errOf (limB x y))) ∧ Below w.heap.size w w' := by
  go_enter Try.func109, Try.ntmps109
  go_wp2_with fail
  refine (checkFrom_any x y (-1) _).mono ?_
  rintro e w' ⟨rfl, hb⟩
  rw [limB_from]
  go_wp2
  go_ret
  exact ⟨rfl, ((Below.refl _ _).alloc (Nat.le_refl _) _).trans (hb.mono (by simp))⟩

theorem below1 {w : World} {a : Obj} : Below w.heap.size w (w.alloc a) := (Below.refl _ _).alloc (Nat.le_refl _) _

theorem cright_any (x y : Int) (w : World) :
    Calls Try.prog 67 #[.agg #[.int .i64 x, .int .i64 y]] w fun e w' => e = .returned (.bool (okB x y)) ∧ Below w.heap.size w w' := by
  by_cases h1 : inRB x = true
  · by_cases h2 : inRB y = true
    · go_enter Try.func67, Try.ntmps67
      go_wp2_with (go_at_call 111; refine (counts_any _ _).mono ?_; rintro e w' ⟨rfl, rfl⟩)
      go_ret
      exact ⟨ret_bool (by simp [okB, h1, h2]), below1⟩
    · rw [Bool.not_eq_true] at h2
      go_enter Try.func67, Try.ntmps67
      go_wp2_with (go_at_call 111; refine (counts_any _ _).mono ?_; rintro e w' ⟨rfl, rfl⟩)
      go_ret
      exact ⟨ret_bool (by simp [okB, h2]), below1⟩
  · rw [Bool.not_eq_true] at h1
    go_enter Try.func67, Try.ntmps67
    go_wp2_with (go_at_call 111; refine (counts_any _ _).mono ?_; rintro e w' ⟨rfl, rfl⟩)
    go_ret
    exact ⟨ret_bool (by simp [okB, h1]), below1⟩

theorem limB_ref (x y : Int) : limB x y = (((x == -1) || inRB x) && ((y == -1) || inRB y)) := by
  rw [Bool.eq_iff_iff]; simp [limB, inRB_true]; omega

theorem rbound_any (x y : Int) (w : World) :
    Calls Try.prog 66 #[.agg #[.int .i64 x, .int .i64 y]] w fun e w' => e = .returned (.bool (limB x y)) ∧ Below w.heap.size w w' := by
  rw [limB_ref]
  generalize hR : (((x == -1) || inRB x) && ((y == -1) || inRB y)) = R
  have HR := Lib.hid hR
  clear hR
  rcases hx1 : (x == -1) <;> rcases hx2 : inRB x <;> rcases hy1 : (y == -1) <;> rcases hy2 : inRB y
  all_goals
    simp only [hx1, hx2, hy1, hy2, Bool.or_false, Bool.or_true, Bool.and_true, Bool.and_false] at HR
    go_enter Try.func66, Try.ntmps66
    go_wp2_with (go_at_call 111; refine (counts_any _ _).mono ?_; rintro e w' ⟨rfl, rfl⟩)
    go_ret
    exact ⟨ret_bool HR.out, below1⟩
end Go.Proofs.Yteekjndhehnpaaa
