/- Contracts of tally.Check, tally.CheckLimit and of what they call. -/
import Derived.Test.YtmhfbgcfagfmbaaT3
import Derived.Deep.RegionHeld3
namespace Go.Proofs.Ytmhfbgcfagfmbaa
open Go.RowKit
theorem bcell {W w1 : World} (hb : Below W.heap.size W w1) : (∀ b o, b < W.heap.size → w1.cell? ⟨b, o, none⟩ = W.cell? ⟨b, o, none⟩) ∧ (∀ b o, b < W.heap.size → w1.frozen? ⟨b, o, none⟩ = W.frozen? ⟨b, o, none⟩) :=
  ⟨fun b o h => hb.cell (p := ⟨b, o, none⟩) h, fun b o h => hb.frozen (p := ⟨b, o, none⟩) h⟩

def movedF (n lo : Int) : Int := min (max n lo) 1125899906842624
theorem moved_any (n lo : Int) (w : World) :
    Calls Try.prog 73 #[.int .i64 n, .int .i64 lo] w fun e w' => e = .returned (.int .i64 (movedF n lo)) ∧ w = w' := by
  unfold movedF
  by_cases h1 : n < lo
  · by_cases h : lo ≤ 1125899906842624
    all_goals
      go_enter Try.func73, Try.ntmps73
      go_wp2
      all_goals
        go_ret
        exact ⟨ret_int (by omega), rfl⟩
  · by_cases h : n ≤ 1125899906842624
    all_goals
      go_enter Try.func73, Try.ntmps73
      go_wp2
      all_goals
        go_ret
        exact ⟨ret_int (by omega), rfl⟩
def fromB (lo n : Int) : Bool := movedF n lo == n
/-- 0, or ErrArg. -/
def errOf (ok : Bool) : Int := if ok then 0 else 18
theorem checkFrom_any (x y lo : Int) (w : World) :
    Calls Try.prog 61 #[.agg #[.int .i64 x, .int .i64 y], .int .i64 lo] w fun e w' => e = .returned (.int .i64 (errOf (fromB lo x && fromB lo y))) ∧ Below w.heap.size w w' := by
  unfold errOf
  generalize hR : (if fromB lo x && fromB lo y then (0 : Int) else 18) = R
  have HR := Lib.hid hR
  clear hR
  unfold fromB at HR
  go_enter Try.func61, Try.ntmps61
  go_wp2
  go_region_held3 (fun w' => w'.cell? ⟨w.heap.size, 0, none⟩ = some (.int .i64 x) ∧ w'.cell? ⟨w.heap.size, 1, none⟩ = some (.int .i64 y))
    (go_keep) ((go_at_call 73; refine (moved_any _ _ _).mono ?_; rintro e w' ⟨rfl, rfl⟩))
  all_goals
    go_wp2
    all_goals
      go_ret
      refine ⟨ret_int ?_, (((Below.refl _ _).alloc (Nat.le_refl _) _).alloc (by simp) _).drew⟩
      rw [← HR.out]
      first
        | (rw [if_pos (by rw [‹movedF x lo = x›, ‹movedF y lo = y›]; simp)])
        | (rw [if_neg (by simp only [beq_iff_eq, Bool.and_eq_true]; exact fun h => ‹¬ movedF y lo = y› h.2)])
        | (rw [if_neg (by simp only [beq_iff_eq, Bool.and_eq_true]; exact fun h => ‹¬ movedF x lo = x› h.1)])

theorem fromB_true {lo n : Int} (h : lo ≤ 1125899906842624) : fromB lo n = true ↔ lo ≤ n ∧ n ≤ 1125899906842624 := by
  simp only [fromB, movedF, beq_iff_eq]; omega
/-- Both numbers are in range. -/
def okB (x y : Int) : Bool := inRB x && inRB y
/-- Both numbers are in range or -1. -/
def limB (x y : Int) : Bool := decide (-1 ≤ x) && decide (x ≤ 1125899906842624) && (decide (-1 ≤ y) && decide (y ≤ 1125899906842624))
theorem okB_from (x y : Int) : (fromB 0 x && fromB 0 y) = okB x y := by
  rw [Bool.eq_iff_iff]; simp [okB, inRB_true, fromB_true]
theorem limB_from (x y : Int) : (fromB (-1) x && fromB (-1) y) = limB x y := by
  rw [Bool.eq_iff_iff]; simp [limB, fromB_true]
theorem check_any (x y : Int) (w : World) :
    Calls Try.prog 31 #[.agg #[.int .i64 x, .int .i64 y]] w fun e w' => e = .returned (.int .i64 (errOf (okB x y))) ∧ Below w.heap.size w w' := by
  go_enter Try.func31, Try.ntmps31
  go_wp2_with fail
  refine (checkFrom_any x y 0 _).mono ?_
  rintro e w' ⟨rfl, hb⟩
  rw [okB_from]
  go_wp2
  go_ret
  exact ⟨rfl, ((Below.refl _ _).alloc (Nat.le_refl _) _).trans (hb.mono (by simp))⟩
theorem checkLimit_any (x y : Int) (w : World) :
    Calls Try.prog 33 #[.agg #[.int .i64 x, .int .i64 y]] w fun e w' => e = .returned (.int .i64 (errOf (limB x y))) ∧ Below w.heap.size w w' := by
  go_enter Try.func33, Try.ntmps33
  go_wp2_with fail
  refine (checkFrom_any x y (-1) _).mono ?_
  rintro e w' ⟨rfl, hb⟩
  rw [limB_from]
  go_wp2
  go_ret
  exact ⟨rfl, ((Below.refl _ _).alloc (Nat.le_refl _) _).trans (hb.mono (by simp))⟩

end Go.Proofs.Ytmhfbgcfagfmbaa
