/- RecordBack: what its parts answer. -/
import Derived.Test.YteekjndhehnpaaaSQ
namespace Go.Proofs.Yteekjndhehnpaaa
open Go.RowKit
set_option maxRecDepth 100000
set_option linter.unusedVariables false
set_option linter.unusedSimpArgs false
set_option maxHeartbeats 4000000
theorem neq47s (a b : Int) (w : World) : (binOp .neq 47 (.agg #[.int .i64 a, .int .i64 b]) (.agg #[.int .i64 a, .int .i64 b])).run Try.prog w = .ok (.bool false) w := by simp [go_sem]
theorem neq51s (m a b c d : Int) (n : Nat) (w : World) : (binOp .neq 51 (.agg #[.int .i64 m, .int .i64 a, .int .i64 b, .int .i64 c, .int .i64 d, .int .u64 (n : Int)]) (.agg #[.int .i64 m, .int .i64 a, .int .i64 b, .int .i64 c, .int .i64 d, .int .u64 (n : Int)])).run Try.prog w = .ok (.bool false) w := by simp [go_sem]
theorem neq56s (i : Nat) (q : Bool) (n : Nat) (f z : Int) (w : World) : (binOp .neq 56 (.agg #[.int .u64 (i : Int), .bool q, .int .u32 (n : Int), .int .i64 f, .int .i64 z]) (.agg #[.int .u64 (i : Int), .bool q, .int .u32 (n : Int), .int .i64 f, .int .i64 z])).run Try.prog w = .ok (.bool false) w := by cases q <;> simp [go_sem]
theorem argE_cases (b : Bool) : argE b = 0 ∧ b = true ∨ argE b = 18 := by cases b <;> simp [argE]
/-- A tenant put, and had of its bytes. -/
theorem tenant_there (a b c d : Int) : ∃ X E ta tb tc td Y, X.size ≤ 64 ∧ (∀ w, Calls Try.prog 28 #[.agg #[.int .i64 a, .int .i64 b, .int .i64 c, .int .i64 d]] w fun e w' => e = .returned (.tuple #[.string X, .int .i64 E]) ∧ Below w.heap.size w w') ∧
    (∀ w, Calls Try.prog 38 #[.string X] w fun e w' => e = .returned (.tuple #[.agg #[.int .i64 ta, .int .i64 tb, .int .i64 tc, .int .i64 td], .int .i64 Y]) ∧ Below w.heap.size w w') ∧ (E = 0 ∧ Y = 0 ∧ ta = a ∧ tb = b ∧ tc = c ∧ td = d ∨ E = 18) := by
  have hs := tenant_size a b c d
  have hG := fun w => getTenant_any (tenantS a b c d) (Nat.le_trans hs (by decide)) w
  rcases argE_cases (limB a b && okB c d) with ⟨h0, hk⟩ | h0
  · obtain ⟨e1, e2, e3, e4⟩ := tenant_back a b c d hk
    have hok : okGTenant (tenantS a b c d) = true := by
      unfold okGTenant
      rw [e1, e2, e3, e4, hk]
      simp
    refine ⟨_, _, a, b, c, d, 0, hs, fun w => putTenant_any a b c d w, fun w => ?_, .inl ⟨h0, rfl, rfl, rfl, rfl, rfl⟩⟩
    have := hG w
    unfold vTenant at this
    rw [hok, e1, e2, e3, e4] at this
    exact this
  · cases hok : okGTenant (tenantS a b c d) with
    | true => exact ⟨_, _, _, _, _, _, 0, hs, fun w => putTenant_any a b c d w, fun w => (by have := hG w; rw [hok] at this; exact this), .inr h0⟩
    | false => exact ⟨_, _, 0, 0, 0, 0, 19, hs, fun w => putTenant_any a b c d w, fun w => (by have := hG w; rw [hok] at this; exact this), .inr h0⟩
theorem bucket_there (m a b c d : Int) (n : Nat) (hn : n < 18446744073709551616) : ∃ X E tm ta tb tc td tn Y, X.size ≤ 64 ∧ (∀ w, Calls Try.prog 30 #[.agg #[.int .i64 m, .int .i64 a, .int .i64 b, .int .i64 c, .int .i64 d, .int .u64 (n : Int)]] w fun e w' => e = .returned (.tuple #[.string X, .int .i64 E]) ∧ Below w.heap.size w w') ∧
    (∀ w, Calls Try.prog 40 #[.string X] w fun e w' => e = .returned (.tuple #[.agg #[.int .i64 tm, .int .i64 ta, .int .i64 tb, .int .i64 tc, .int .i64 td, .int .u64 ((tn : Nat) : Int)], .int .i64 Y]) ∧ Below w.heap.size w w') ∧ (E = 0 ∧ Y = 0 ∧ tm = m ∧ ta = a ∧ tb = b ∧ tc = c ∧ td = d ∧ tn = n ∨ E = 18) := by
  have hs := bucket_size m a b c d n
  have hG := fun w => getBucket_any (bucketS m a b c d n) (Nat.le_trans hs (by decide)) w
  rcases argE_cases (okBu m a b c d) with ⟨h0, hk⟩ | h0
  · obtain ⟨e0, e1, e2, e3, e4, e5⟩ := bucket_back m a b c d n hn hk
    have hok : okGBucket (bucketS m a b c d n) = true := by
      unfold okGBucket
      rw [e0, e1, e2, e3, e4, e5, hk]
      simp
    refine ⟨_, _, m, a, b, c, d, n, 0, hs, fun w => putBucket_any m a b c d n hn w, fun w => ?_, .inl ⟨h0, rfl, rfl, rfl, rfl, rfl, rfl, rfl⟩⟩
    have := hG w
    unfold vBucket at this
    rw [hok, e0, e1, e2, e3, e4, e5] at this
    exact this
  · cases hok : okGBucket (bucketS m a b c d n) with
    | true => exact ⟨_, _, _, _, _, _, _, _, 0, hs, fun w => putBucket_any m a b c d n hn w, fun w => (by have := hG w; rw [hok] at this; exact this), .inr h0⟩
    | false => exact ⟨_, _, 0, 0, 0, 0, 0, 0, 19, hs, fun w => putBucket_any m a b c d n hn w, fun w => (by have := hG w; rw [hok] at this; exact this), .inr h0⟩
theorem version_there (i : Nat) (hi : i < 18446744073709551616) (q : Bool) (n : Nat) (hn : n < 4294967296) (f z : Int) : ∃ X E ti tq tn tf tz Y, X.size ≤ 64 ∧ (∀ w, Calls Try.prog 32 #[.agg #[.int .u64 (i : Int), .bool q, .int .u32 (n : Int), .int .i64 f, .int .i64 z]] w fun e w' => e = .returned (.tuple #[.string X, .int .i64 E]) ∧ Below w.heap.size w w') ∧
    (∀ w, Calls Try.prog 42 #[.string X] w fun e w' => e = .returned (.tuple #[.agg #[.int .u64 ((ti : Nat) : Int), .bool tq, .int .u32 ((tn : Nat) : Int), .int .i64 tf, .int .i64 tz], .int .i64 Y]) ∧ Below w.heap.size w w') ∧ (E = 0 ∧ Y = 0 ∧ ti = i ∧ tq = q ∧ tn = n ∧ tf = f ∧ tz = z ∨ E = 18) := by
  have hs := version_size i q n f z
  have hG := fun w => getVersion_any (verS i q n f z) (Nat.le_trans hs (by decide)) w
  rcases argE_cases (okVer q n f z) with ⟨h0, hk⟩ | h0
  · obtain ⟨e0, e1, e2, e3, e4⟩ := version_back i hi q n hn f z hk
    have eq : (((cond q 1 0 : Nat) : Int) == 1) = q := by cases q <;> rfl
    have hok : okGVersion (verS i q n f z) = true := by
      unfold okGVersion
      rw [e0, e1, e2, e3, e4, eq, hk]
      simp
    refine ⟨_, _, i, q, n, f, z, 0, hs, fun w => putVersion_any i hi q n hn f z w, fun w => ?_, .inl ⟨h0, rfl, rfl, rfl, rfl, rfl, rfl⟩⟩
    have := hG w
    unfold vVersion at this
    rw [hok, e0, e1, e2, e3, e4, eq] at this
    exact this
  · cases hok : okGVersion (verS i q n f z) with
    | true => exact ⟨_, _, _, _, _, _, _, 0, hs, fun w => putVersion_any i hi q n hn f z w, fun w => (by have := hG w; rw [hok] at this; exact this), .inr h0⟩
    | false => exact ⟨_, _, 0, false, 0, 0, 0, 19, hs, fun w => putVersion_any i hi q n hn f z w, fun w => (by have := hG w; rw [hok] at this; exact this), .inr h0⟩
/-- What is had of bytes has these. -/
theorem part_here (s : ByteArray) (hs : s.size ≤ 1000) : ∃ (n : Nat) (f z Y : Int), (∀ w, Calls Try.prog 46 #[.string s] w fun e w' => e = .returned (.tuple #[.agg #[.int .u32 (n : Int), .int .i64 f, .int .i64 z], .int .i64 Y]) ∧ Below w.heap.size w w') ∧
    (Y = 19 ∨ Y = 0 ∧ ∀ w, Calls Try.prog 36 #[.agg #[.int .u32 (n : Int), .int .i64 f, .int .i64 z]] w fun e w' => e = .returned (.tuple #[.string s, .int .i64 0]) ∧ Below w.heap.size w w') := by
  have hG := fun w => getPart_any s hs w
  cases hok : okGPart s with
  | false => exact ⟨0, 0, 0, 19, fun w => (by have := hG w; rw [hok] at this; exact this), .inl rfl⟩
  | true =>
    refine ⟨numAt s 0 4, mAt s 4 2, mAt s 6 2, 0, fun w => (by have := hG w; rw [hok] at this; exact this), .inr ⟨rfl, fun w => ?_⟩⟩
    unfold okGPart at hok
    rw [Bool.and_eq_true, decide_eq_true_eq] at hok
    have := putPart_any (numAt s 0 4) (Nat.lt_of_lt_of_eq (numAt_lt s 0 4) (by decide)) (mAt s 4 2) (mAt s 6 2) w
    rw [hok.1, hok.2] at this
    exact this
theorem version_here (s : ByteArray) (hs : s.size ≤ 1000) : ∃ (i : Nat) (q : Bool) (n : Nat) (f z Y : Int), (∀ w, Calls Try.prog 42 #[.string s] w fun e w' => e = .returned (.tuple #[.agg #[.int .u64 (i : Int), .bool q, .int .u32 (n : Int), .int .i64 f, .int .i64 z], .int .i64 Y]) ∧ Below w.heap.size w w') ∧
    (Y = 19 ∨ Y = 0 ∧ ∀ w, Calls Try.prog 32 #[.agg #[.int .u64 (i : Int), .bool q, .int .u32 (n : Int), .int .i64 f, .int .i64 z]] w fun e w' => e = .returned (.tuple #[.string s, .int .i64 0]) ∧ Below w.heap.size w w') := by
  have hG := fun w => getVersion_any s hs w
  cases hok : okGVersion s with
  | false => exact ⟨0, false, 0, 0, 0, 19, fun w => (by have := hG w; rw [hok] at this; exact this), .inl rfl⟩
  | true =>
    refine ⟨numAt s 0 8, (numAt s 8 1 : Int) == 1, numAt s 9 4, mAt s 13 2, mAt s 15 2, 0, fun w => (by have := hG w; rw [hok] at this; exact this), .inr ⟨rfl, fun w => ?_⟩⟩
    unfold okGVersion at hok
    rw [Bool.and_eq_true, decide_eq_true_eq] at hok
    have := putVersion_any (numAt s 0 8) (Nat.lt_of_lt_of_eq (numAt_lt s 0 8) (by decide)) ((numAt s 8 1 : Int) == 1) (numAt s 9 4) (Nat.lt_of_lt_of_eq (numAt_lt s 9 4) (by decide)) (mAt s 13 2) (mAt s 15 2) w
    rw [hok.1, hok.2] at this
    exact this
theorem bucket_here (s : ByteArray) (hs : s.size ≤ 1000) : ∃ (m a b c d : Int) (n : Nat) (Y : Int), (∀ w, Calls Try.prog 40 #[.string s] w fun e w' => e = .returned (.tuple #[.agg #[.int .i64 m, .int .i64 a, .int .i64 b, .int .i64 c, .int .i64 d, .int .u64 (n : Int)], .int .i64 Y]) ∧ Below w.heap.size w w') ∧
    (Y = 19 ∨ Y = 0 ∧ ∀ w, Calls Try.prog 30 #[.agg #[.int .i64 m, .int .i64 a, .int .i64 b, .int .i64 c, .int .i64 d, .int .u64 (n : Int)]] w fun e w' => e = .returned (.tuple #[.string s, .int .i64 0]) ∧ Below w.heap.size w w') := by
  have hG := fun w => getBucket_any s hs w
  cases hok : okGBucket s with
  | false => exact ⟨0, 0, 0, 0, 0, 0, 19, fun w => (by have := hG w; rw [hok] at this; exact this), .inl rfl⟩
  | true =>
    refine ⟨mAt s 0 1, lAt s 1, lAt s 9, cAt s 17, cAt s 25, numAt s 33 8, 0, fun w => (by have := hG w; rw [hok] at this; exact this), .inr ⟨rfl, fun w => ?_⟩⟩
    unfold okGBucket at hok
    rw [Bool.and_eq_true, decide_eq_true_eq] at hok
    have := putBucket_any (mAt s 0 1) (lAt s 1) (lAt s 9) (cAt s 17) (cAt s 25) (numAt s 33 8) (Nat.lt_of_lt_of_eq (numAt_lt s 33 8) (by decide)) w
    rw [hok.1, hok.2] at this
    exact this
end Go.Proofs.Yteekjndhehnpaaa
