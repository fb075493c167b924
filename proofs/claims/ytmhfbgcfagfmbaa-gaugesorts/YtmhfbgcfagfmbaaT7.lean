/- Contracts of the references of Check, CheckLimit and Grows. -/
import Derived.Test.YtmhfbgcfagfmbaaT6
namespace Go.Proofs.Ytmhfbgcfagfmbaa
open Go.RowKit

theorem below1 {w : World} {a : Obj} : Below w.heap.size w (w.alloc a) := (Below.refl _ _).alloc (Nat.le_refl _) _

theorem rright_any (x y : Int) (w : World) :
    Calls Try.prog 32 #[.agg #[.int .i64 x, .int .i64 y]] w fun e w' => e = .returned (.bool (okB x y)) ∧ Below w.heap.size w w' := by
  by_cases h1 : inRB x = true
  · by_cases h2 : inRB y = true
    · go_enter Try.func32, Try.ntmps32
      go_wp2_with (go_at_call 55; refine (counts_any _ _).mono ?_; rintro e w' ⟨rfl, rfl⟩)
      go_ret
      exact ⟨ret_bool (by simp [okB, h1, h2]), below1⟩
    · rw [Bool.not_eq_true] at h2
      go_enter Try.func32, Try.ntmps32
      go_wp2_with (go_at_call 55; refine (counts_any _ _).mono ?_; rintro e w' ⟨rfl, rfl⟩)
      go_ret
      exact ⟨ret_bool (by simp [okB, h2]), below1⟩
  · rw [Bool.not_eq_true] at h1
    go_enter Try.func32, Try.ntmps32
    go_wp2_with (go_at_call 55; refine (counts_any _ _).mono ?_; rintro e w' ⟨rfl, rfl⟩)
    go_ret
    exact ⟨ret_bool (by simp [okB, h1]), below1⟩

theorem limB_ref (x y : Int) : limB x y = (((x == -1) || inRB x) && ((y == -1) || inRB y)) := by
  rw [Bool.eq_iff_iff]; simp [limB, inRB_true]; omega

theorem rbound_any (x y : Int) (w : World) :
    Calls Try.prog 34 #[.agg #[.int .i64 x, .int .i64 y]] w fun e w' => e = .returned (.bool (limB x y)) ∧ Below w.heap.size w w' := by
  rw [limB_ref]
  generalize hR : (((x == -1) || inRB x) && ((y == -1) || inRB y)) = R
  have HR := Lib.hid hR
  clear hR
  rcases hx1 : (x == -1) <;> rcases hx2 : inRB x <;> rcases hy1 : (y == -1) <;> rcases hy2 : inRB y
  all_goals
    simp only [hx1, hx2, hy1, hy2, Bool.or_false, Bool.or_true, Bool.and_true, Bool.and_false] at HR
    go_enter Try.func34, Try.ntmps34
    go_wp2_with (go_at_call 55; refine (counts_any _ _).mono ?_; rintro e w' ⟨rfl, rfl⟩)
    go_ret
    exact ⟨ret_bool HR.out, below1⟩
end Go.Proofs.Ytmhfbgcfagfmbaa
