/- Contracts of package tally's small functions and of their references. -/
import Derived.Test.YtmhfbgcfagfmbaaRows
import Derived.WalkKit
import Derived.WalkLawsBesides
import Derived.WalkSpells
namespace Go.Proofs.Ytmhfbgcfagfmbaa
open Go.RowKit

/-- A number is in range. -/
def inRB (n : Int) : Bool := decide (0 ≤ n) && decide (n ≤ 1125899906842624)
theorem inRB_true {n : Int} : inRB n = true ↔ 0 ≤ n ∧ n ≤ 1125899906842624 := by simp [inRB]
theorem inRB_false {n : Int} : inRB n = false ↔ n < 0 ∨ 1125899906842624 < n := by
  rw [← Bool.not_eq_true, inRB_true]; omega

theorem ret_bool {a b : Bool} (h : a = b) : Ending.returned (.bool a) = .returned (.bool b) := by rw [h]
theorem ret_int {k : IntKind} {a b : Int} (h : a = b) : Ending.returned (.int k a) = .returned (.int k b) := by rw [h]

theorem inRange_any (n : Int) (w : World) :
    Calls Try.prog 56 #[.int .i64 n] w fun e w' => e = .returned (.bool (inRB n)) ∧ w = w' := by
  by_cases h0 : 0 ≤ n
  · by_cases h1 : n ≤ 1125899906842624
    all_goals
      go_enter Try.func56, Try.ntmps56
      go_wp2
      go_ret
      exact ⟨ret_bool (by simp [inRB]; omega), rfl⟩
  · go_enter Try.func56, Try.ntmps56
    go_wp2
    go_ret
    exact ⟨ret_bool (by simp [inRB]; omega), rfl⟩
theorem counts_any (n : Int) (w : World) :
    Calls Try.prog 55 #[.int .i64 n] w fun e w' => e = .returned (.bool (inRB n)) ∧ w = w' := by
  by_cases h0 : 0 ≤ n
  · by_cases h1 : n ≤ 1125899906842624
    all_goals
      go_enter Try.func55, Try.ntmps55
      go_wp2
      go_ret
      exact ⟨ret_bool (by simp [inRB]; omega), rfl⟩
  · go_enter Try.func55, Try.ntmps55
    go_wp2
    go_ret
    exact ⟨ret_bool (by simp [inRB]; omega), rfl⟩

theorem joined_any (a b : Int) (w : World) (h0 : 0 ≤ a) (h1 : a ≤ 1125899906842625) (h2 : 0 ≤ b) (h3 : b ≤ 1125899906842624) :
    Calls Try.prog 57 #[.int .i64 a, .int .i64 b] w fun e w' => e = .returned (.int .i64 (min (a + b) 1125899906842625)) ∧ w = w' := by
  by_cases h : a + b ≤ 1125899906842625
  all_goals
    go_enter Try.func57, Try.ntmps57
    go_wp2
    go_ret
    exact ⟨ret_int (by omega), rfl⟩

/-- a - b, as the document has it. -/
def subF (a b : Int) : Int × Int := if inRB a && inRB b then (if a < b then (0, 15) else (a - b, 0)) else (0, 18)
def addF (a b : Int) : Int × Int := if inRB a && inRB b then (if 1125899906842624 < a + b then (0, 15) else (a + b, 0)) else (0, 18)
def leftF (a b : Int) : Int := if inRB a then (if b = -1 then 1125899906842624 - a else if inRB b then (if b < a then 0 else b - a) else 0) else 0
def two (p : Int × Int) : Ending := .returned (.tuple #[.int .i64 p.1, .int .i64 p.2])
theorem two_of {p : Int × Int} {a b : Int} (h : p = (a, b)) : Ending.returned (.tuple #[.int .i64 a, .int .i64 b]) = two p := by subst h; rfl

theorem subF_lt {a b : Int} (ha : inRB a = true) (hb : inRB b = true) (h : a < b) : subF a b = (0, 15) := by simp [subF, ha, hb, h]
theorem subF_ge {a b : Int} (ha : inRB a = true) (hb : inRB b = true) (h : ¬ a < b) : subF a b = (a - b, 0) := by simp [subF, ha, hb, h]
theorem subF_no {a b : Int} (h : inRB a = false ∨ inRB b = false) : subF a b = (0, 18) := by rcases h with h | h <;> simp [subF, h]
theorem addF_gt {a b : Int} (ha : inRB a = true) (hb : inRB b = true) (h : 1125899906842624 < a + b) : addF a b = (0, 15) := by simp [addF, ha, hb, h]
theorem addF_le {a b : Int} (ha : inRB a = true) (hb : inRB b = true) (h : ¬ 1125899906842624 < a + b) : addF a b = (a + b, 0) := by simp [addF, ha, hb, h]
theorem addF_no {a b : Int} (h : inRB a = false ∨ inRB b = false) : addF a b = (0, 18) := by rcases h with h | h <;> simp [addF, h]

theorem sub_any (a b : Int) (w : World) :
    Calls Try.prog 16 #[.int .i64 a, .int .i64 b] w fun e w' => e = two (subF a b) ∧ w = w' := by
  by_cases ha : inRB a = true
  · by_cases hb : inRB b = true
    · have h1 := inRB_true.1 ha
      have h2 := inRB_true.1 hb
      by_cases hlt : a < b
      · go_enter Try.func16, Try.ntmps16
        go_wp2_with (go_at_call 56; refine (inRange_any _ _).mono ?_; rintro e w' ⟨rfl, rfl⟩)
        go_ret2
        exact ⟨two_of (subF_lt ha hb hlt), rfl⟩
      · go_enter Try.func16, Try.ntmps16
        go_wp2_with (go_at_call 56; refine (inRange_any _ _).mono ?_; rintro e w' ⟨rfl, rfl⟩)
        go_ret2
        exact ⟨two_of (subF_ge ha hb (by omega)), rfl⟩
    · rw [Bool.not_eq_true] at hb
      go_enter Try.func16, Try.ntmps16
      go_wp2_with (go_at_call 56; refine (inRange_any _ _).mono ?_; rintro e w' ⟨rfl, rfl⟩)
      go_ret2
      exact ⟨two_of (subF_no (.inr hb)), rfl⟩
  · rw [Bool.not_eq_true] at ha
    go_enter Try.func16, Try.ntmps16
    go_wp2_with (go_at_call 56; refine (inRange_any _ _).mono ?_; rintro e w' ⟨rfl, rfl⟩)
    go_ret2
    exact ⟨two_of (subF_no (.inl ha)), rfl⟩

theorem rsub_any (a b : Int) (w : World) :
    Calls Try.prog 17 #[.int .i64 a, .int .i64 b] w fun e w' => e = two (subF a b) ∧ w = w' := by
  by_cases ha : inRB a = true
  · by_cases hb : inRB b = true
    · have h1 := inRB_true.1 ha
      have h2 := inRB_true.1 hb
      by_cases hlt : a < b
      · go_enter Try.func17, Try.ntmps17
        go_wp2_with (go_at_call 55; refine (counts_any _ _).mono ?_; rintro e w' ⟨rfl, rfl⟩)
        go_ret2
        exact ⟨two_of (subF_lt ha hb hlt), rfl⟩
      · go_enter Try.func17, Try.ntmps17
        go_wp2_with (go_at_call 55; refine (counts_any _ _).mono ?_; rintro e w' ⟨rfl, rfl⟩)
        go_ret2
        exact ⟨two_of (subF_ge ha hb (by omega)), rfl⟩
    · rw [Bool.not_eq_true] at hb
      go_enter Try.func17, Try.ntmps17
      go_wp2_with (go_at_call 55; refine (counts_any _ _).mono ?_; rintro e w' ⟨rfl, rfl⟩)
      go_ret2
      exact ⟨two_of (subF_no (.inr hb)), rfl⟩
  · rw [Bool.not_eq_true] at ha
    go_enter Try.func17, Try.ntmps17
    go_wp2_with (go_at_call 55; refine (counts_any _ _).mono ?_; rintro e w' ⟨rfl, rfl⟩)
    go_ret2
    exact ⟨two_of (subF_no (.inl ha)), rfl⟩

theorem radd_any (a b : Int) (w : World) :
    Calls Try.prog 15 #[.int .i64 a, .int .i64 b] w fun e w' => e = two (addF a b) ∧ w = w' := by
  by_cases ha : inRB a = true
  · by_cases hb : inRB b = true
    · have h1 := inRB_true.1 ha
      have h2 := inRB_true.1 hb
      by_cases hlt : 1125899906842624 < a + b
      · go_enter Try.func15, Try.ntmps15
        go_wp2_with (go_at_call 55; refine (counts_any _ _).mono ?_; rintro e w' ⟨rfl, rfl⟩)
        go_ret2
        exact ⟨two_of (addF_gt ha hb hlt), rfl⟩
      · go_enter Try.func15, Try.ntmps15
        go_wp2_with (go_at_call 55; refine (counts_any _ _).mono ?_; rintro e w' ⟨rfl, rfl⟩)
        go_ret2
        exact ⟨two_of (addF_le ha hb (by omega)), rfl⟩
    · rw [Bool.not_eq_true] at hb
      go_enter Try.func15, Try.ntmps15
      go_wp2_with (go_at_call 55; refine (counts_any _ _).mono ?_; rintro e w' ⟨rfl, rfl⟩)
      go_ret2
      exact ⟨two_of (addF_no (.inr hb)), rfl⟩
  · rw [Bool.not_eq_true] at ha
    go_enter Try.func15, Try.ntmps15
    go_wp2_with (go_at_call 55; refine (counts_any _ _).mono ?_; rintro e w' ⟨rfl, rfl⟩)
    go_ret2
    exact ⟨two_of (addF_no (.inl ha)), rfl⟩
end Go.Proofs.Ytmhfbgcfagfmbaa
