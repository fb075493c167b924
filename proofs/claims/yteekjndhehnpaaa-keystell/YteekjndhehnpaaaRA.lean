/- Contracts: the reference's Right. -/
import Derived.Test.YteekjndhehnpaaaKV0
namespace Go.Proofs.Yteekjndhehnpaaa
open Go.RowKit
set_option maxRecDepth 100000
set_option linter.unusedVariables false
set_option linter.unusedSimpArgs false
set_option maxHeartbeats 4000000
theorem rright_far (kind t : Int) (b n : ByteArray) (u : Nat) (p : Int) (w : World) (h : kind < 1 ∨ 5 < kind ∨ t < 0 ∨ 7 < t) :
    Calls Try.prog 17 #[.agg #[.int .i64 kind, .int .i64 t, .string b, .string n, .int .u64 (u : Int), .int .i64 p]] w fun e w' => e = .returned (.bool false) ∧ Below w.heap.size w w' := by
  have H := Lib.hid h
  by_cases h1 : kind < 1
  · clear h
    go_enter Try.func17, Try.ntmps17
    go_wp2_with fail
    go_ret
    exact ⟨rfl, below_box _ _⟩
  · by_cases h2 : 5 < kind
    · clear h
      go_enter Try.func17, Try.ntmps17
      go_wp2_with fail
      go_ret
      exact ⟨rfl, below_box _ _⟩
    · by_cases h3 : t < 0
      · clear h
        go_enter Try.func17, Try.ntmps17
        go_wp2_with fail
        go_ret
        exact ⟨rfl, below_box _ _⟩
      · have h4 : 7 < t := by omega
        clear h
        go_enter Try.func17, Try.ntmps17
        go_wp2_with fail
        go_ret
        exact ⟨rfl, below_box _ _⟩
theorem rright1 (t : Int) (b n : ByteArray) (u : Nat) (p : Int) (w : World) (h1 : ¬ t < 0) (h2 : ¬ 7 < t) (q : Bool) (hq : ∀ w, (binOp .eql 24 (.agg #[.int .i64 1, .int .i64 t, .string b, .string n, .int .u64 (u : Int), .int .i64 p]) (.agg #[.int .i64 1, .int .i64 t, .string ⟨#[]⟩, .string ⟨#[]⟩, .int .u64 0, .int .i64 0])).run Try.prog w = .ok (.bool q) w) :
    Calls Try.prog 17 #[.agg #[.int .i64 1, .int .i64 t, .string b, .string n, .int .u64 (u : Int), .int .i64 p]] w fun e w' => e = .returned (.bool q) ∧ Below w.heap.size w w' := by
  go_enter Try.func17, Try.ntmps17
  go_wp2_with fail
  go_ret
  exact ⟨rfl, below_box _ _⟩
theorem rright_no (kind t : Int) (b n : ByteArray) (u : Nat) (p : Int) (w : World) (hk1 : ¬ kind < 1) (hk5 : ¬ 5 < kind) (hk : (kind == 1) = false) (h1 : ¬ t < 0) (h2 : ¬ 7 < t) (HB : Hid (∀ w, Calls Try.prog 59 #[.string b] w fun e w' => e = .returned (.bool false) ∧ w = w')) :
    Calls Try.prog 17 #[.agg #[.int .i64 kind, .int .i64 t, .string b, .string n, .int .u64 (u : Int), .int .i64 p]] w fun e w' => e = .returned (.bool false) ∧ Below w.heap.size w w' := by
  go_enter Try.func17, Try.ntmps17
  go_wp2_with (go_at_call 59; refine (HB.out _).mono ?_; rintro e w' ⟨rfl, rfl⟩)
  go_ret
  exact ⟨rfl, below_box _ _⟩
theorem rright3 (t : Int) (b n : ByteArray) (u : Nat) (p : Int) (w : World) (h1 : ¬ t < 0) (h2 : ¬ 7 < t) (HB : Hid (∀ w, Calls Try.prog 59 #[.string b] w fun e w' => e = .returned (.bool true) ∧ w = w')) (nb : Bool) (HN : Hid (∀ w, Calls Try.prog 60 #[.string n] w fun e w' => e = .returned (.bool nb) ∧ w = w')) (pb : Bool) (hp : (p == 0) = pb) :
    Calls Try.prog 17 #[.agg #[.int .i64 3, .int .i64 t, .string b, .string n, .int .u64 (u : Int), .int .i64 p]] w fun e w' => e = .returned (.bool (nb && pb)) ∧ Below w.heap.size w w' := by
  cases nb <;> cases pb <;>
  · go_enter Try.func17, Try.ntmps17
    go_wp2_with (first | (go_at_call 59; refine (HB.out _).mono ?_; rintro e w' ⟨rfl, rfl⟩) | (go_at_call 60; refine (HN.out _).mono ?_; rintro e w' ⟨rfl, rfl⟩))
    go_ret
    exact ⟨ret_bool (by simp [hp]), below_box _ _⟩
theorem rright5 (t : Int) (b n : ByteArray) (u : Nat) (p : Int) (w : World) (h1 : ¬ t < 0) (h2 : ¬ 7 < t) (HB : Hid (∀ w, Calls Try.prog 59 #[.string b] w fun e w' => e = .returned (.bool true) ∧ w = w')) (nb : Bool) (hn : (n.toList == ([] : List UInt8)) = nb) :
    Calls Try.prog 17 #[.agg #[.int .i64 5, .int .i64 t, .string b, .string n, .int .u64 (u : Int), .int .i64 p]] w fun e w' => e = .returned (.bool (decide (1 ≤ p ∧ p ≤ 16) && nb)) ∧ Below w.heap.size w w' := by
  by_cases q1 : 1 ≤ p
  · by_cases q2 : p ≤ 16
    · have hd := Lib.hid (show decide (1 ≤ p ∧ p ≤ 16) = true from decide_eq_true ⟨q1, q2⟩)
      rw [hd.out]
      cases nb <;>
      · go_enter Try.func17, Try.ntmps17
        go_wp2_with (first | (go_at_call 59; refine (HB.out _).mono ?_; rintro e w' ⟨rfl, rfl⟩))
        go_ret
        exact ⟨ret_bool (by simp [hn]), below_box _ _⟩
    · have hd := Lib.hid (show decide (1 ≤ p ∧ p ≤ 16) = false from decide_eq_false (fun h => q2 h.2))
      rw [hd.out]
      go_enter Try.func17, Try.ntmps17
      go_wp2_with (first | (go_at_call 59; refine (HB.out _).mono ?_; rintro e w' ⟨rfl, rfl⟩))
      go_ret
      exact ⟨rfl, below_box _ _⟩
  · have hd := Lib.hid (show decide (1 ≤ p ∧ p ≤ 16) = false from decide_eq_false (fun h => q1 h.1))
    rw [hd.out]
    go_enter Try.func17, Try.ntmps17
    go_wp2_with (first | (go_at_call 59; refine (HB.out _).mono ?_; rintro e w' ⟨rfl, rfl⟩))
    go_ret
    exact ⟨rfl, below_box _ _⟩
theorem rright24 (kind t : Int) (b n : ByteArray) (u : Nat) (p : Int) (w : World) (hk : kind = 2 ∨ kind = 4) (h1 : ¬ t < 0) (h2 : ¬ 7 < t) (HB : Hid (∀ w, Calls Try.prog 59 #[.string b] w fun e w' => e = .returned (.bool true) ∧ w = w')) (nb : Bool) (hn : (n.toList == ([] : List UInt8)) = nb) (pb : Bool) (hp : (p == 0) = pb) (ub : Bool) (hu : ((u : Int) == 0) = ub) :
    Calls Try.prog 17 #[.agg #[.int .i64 kind, .int .i64 t, .string b, .string n, .int .u64 (u : Int), .int .i64 p]] w fun e w' => e = .returned (.bool (nb && (pb && (decide (kind = 4) || ub)))) ∧ Below w.heap.size w w' := by
  rcases hk with rfl | rfl <;> cases nb <;> cases pb <;> cases ub <;>
  · go_enter Try.func17, Try.ntmps17
    go_wp2_with (first | (go_at_call 59; refine (HB.out _).mono ?_; rintro e w' ⟨rfl, rfl⟩))
    go_ret
    exact ⟨ret_bool (by simp [hn, hp, hu]), below_box _ _⟩
end Go.Proofs.Yteekjndhehnpaaa
