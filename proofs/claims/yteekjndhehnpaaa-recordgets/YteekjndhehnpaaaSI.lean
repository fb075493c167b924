/- Contracts: record's isBlob. -/
import Derived.Test.YteekjndhehnpaaaSD
namespace Go.Proofs.Yteekjndhehnpaaa
open Go.RowKit
set_option maxRecDepth 100000
set_option linter.unusedVariables false
set_option linter.unusedSimpArgs false
set_option maxHeartbeats 4000000
theorem eql54 (a b c d : Int) (w : World) : (binOp .eql 54 (.agg #[.int .i64 a, .int .i64 b]) (.agg #[.int .i64 c, .int .i64 d])).run Try.prog w = .ok (.bool (decide (a = c ∧ b = d))) w := by
  by_cases h1 : a = c
  · by_cases h2 : b = d <;> simp [go_sem, h1, h2]
  · simp [go_sem, h1]
theorem isBlob_main (f s : Int) (q : Bool) (hq : ∀ w, (binOp .eql 54 (.agg #[.int .i64 f, .int .i64 s]) (.agg #[.int .i64 0, .int .i64 0])).run Try.prog w = .ok (.bool q) w) (p1 p2 p3 p4 : Bool) (h1 : decide (2 ≤ f) = p1) (h2 : decide (f < 3840) = p2) (h3 : decide (1 ≤ s) = p3) (h4 : decide (s ≤ 4096) = p4) (w : World) :
    Calls Try.prog 69 #[.agg #[.int .i64 f, .int .i64 s]] w fun e w' => e = .returned (.bool (q || ((p1 && p2) && (p3 && p4)))) ∧ Below w.heap.size w w' := by
  cases p1 <;> cases p2 <;> cases p3 <;> cases p4 <;> cases q <;>
  · go_enter Try.func69, Try.ntmps69
    go_wp2_with fail
    go_ret
    exact ⟨rfl, below_box _ _⟩
theorem isBlob_any (f s : Int) (w : World) : Calls Try.prog 69 #[.agg #[.int .i64 f, .int .i64 s]] w fun e w' => e = .returned (.bool (okBl f s)) ∧ Below w.heap.size w w' := by
  have e : (decide (f = 0 ∧ s = 0) || ((decide (2 ≤ f) && decide (f < 3840)) && (decide (1 ≤ s) && decide (s ≤ 4096)))) = okBl f s := by
    unfold okBl
    rw [Bool.eq_iff_iff]
    simp
    omega
  rw [← e]
  exact isBlob_main f s _ (fun w => eql54 f s 0 0 w) _ _ _ _ rfl rfl rfl rfl w
end Go.Proofs.Yteekjndhehnpaaa
