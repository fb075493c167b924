/- Arguments of record's statements, opened: counts, tenants, buckets, blobs, versions, parts. -/
import Derived.Test.YteekjndhehnpaaaOpen
namespace Go.Proofs.Yteekjndhehnpaaa
open Go.ChangeShapes Go.WideShapes Go.ChangeAt Go.RowKit Go.Joins
set_option linter.unusedVariables false
set_option linter.unusedSimpArgs false
set_option maxRecDepth 100000
section
variable {H : Type} {enc : TypeId × Value → H} {w : World} {base : Nat} {spare : Nat → Bool} {held : Bool} {r : Reach} {b0 : Nat}
theorem cells2 : Try.prog.cellsOf 2 = 1 := by kernel_rfl
theorem cells4 : Try.prog.cellsOf 4 = 1 := by kernel_rfl
theorem cells52 : Try.prog.cellsOf 52 = 1 := by kernel_rfl
theorem cells47 : Try.prog.cellsOf 47 = 2 := by kernel_rfl
theorem cells54 : Try.prog.cellsOf 54 = 2 := by kernel_rfl
theorem cells49 : Try.prog.cellsOf 49 = 4 := by kernel_rfl
theorem cells51 : Try.prog.cellsOf 51 = 6 := by kernel_rfl
theorem cells56 : Try.prog.cellsOf 56 = 5 := by kernel_rfl
theorem cells58 : Try.prog.cellsOf 58 = 3 := by kernel_rfl
/-- A number of 64 bits. -/
def I64 (a : Int) : Prop := -9223372036854775808 ≤ a ∧ a ≤ 9223372036854775807
theorem trod47 {fuel : Nat} {c0 c1 : Value} {y : DataW H × List MemPlace} (h : DataW.trod enc Try.prog w base spare held fuel 47 [c0, c1] = some y) : ∃ a b : Int, I64 a ∧ I64 b ∧ c0 = .int .i64 a ∧ c1 = .int .i64 b := by
  obtain ⟨xs, n, _, _, _, hlen, hx⟩ := DataW.trod_struct Try.underlying47 h
  match xs, hlen with
  | [y0, y1], _ =>
    have g0 := hx 0 _ rfl
    have g1 := hx 1 _ rfl
    obtain ⟨a0, q0, -, w0⟩ := DataW.trod_int Try.underlying2 g0
    obtain ⟨a1, q1, -, w1⟩ := DataW.trod_int Try.underlying2 g1
    simp [cells2, Value.cells] at q0
    simp [cells2, Value.cells] at q1
    exact ⟨a0, a1, bounds_i64 w0, bounds_i64 w1, q0, q1⟩
theorem trod54 {fuel : Nat} {c0 c1 : Value} {y : DataW H × List MemPlace} (h : DataW.trod enc Try.prog w base spare held fuel 54 [c0, c1] = some y) : ∃ a b : Int, I64 a ∧ I64 b ∧ c0 = .int .i64 a ∧ c1 = .int .i64 b := by
  obtain ⟨xs, n, _, _, _, hlen, hx⟩ := DataW.trod_struct Try.underlying54 h
  match xs, hlen with
  | [y0, y1], _ =>
    have g0 := hx 0 _ rfl
    have g1 := hx 1 _ rfl
    obtain ⟨a0, q0, -, w0⟩ := DataW.trod_int Try.underlying3 g0
    obtain ⟨a1, q1, -, w1⟩ := DataW.trod_int Try.underlying3 g1
    simp [cells3, Value.cells] at q0
    simp [cells3, Value.cells] at q1
    exact ⟨a0, a1, bounds_i64 w0, bounds_i64 w1, q0, q1⟩
theorem openTenant {v : Value} {d : DataW H} {p : List MemPlace} (hv : Value.okWide Try.prog w r b0 49 v) (h : DataW.Trod enc Try.prog w base spare held 49 v d p) :
    ∃ a b c e : Int, I64 a ∧ I64 b ∧ I64 c ∧ I64 e ∧ v = .agg #[.int .i64 a, .int .i64 b, .int .i64 c, .int .i64 e] := by
  obtain ⟨cs, rfl, hsz⟩ := okWide_struct (show Try.prog.underlying 49 = _ from Try.underlying49) hv
  rw [cells49] at hsz
  obtain ⟨l⟩ := cs
  match l, hsz with
  | [c0, c1, c2, c3], _ =>
    obtain ⟨fuel, hf⟩ := h
    obtain ⟨xs, n, _, _, _, hlen, hx⟩ := DataW.trod_struct Try.underlying49 hf
    match xs, hlen with
    | [y0, y1], _ =>
      have g0 := hx 0 _ rfl
      have g1 := hx 1 _ rfl
      simp [cells47, Value.cells] at g0 g1
      obtain ⟨a, b, wa, wb, rfl, rfl⟩ := trod47 g0
      obtain ⟨c, e, wc, we, rfl, rfl⟩ := trod47 g1
      exact ⟨a, b, c, e, wa, wb, wc, we, rfl⟩
theorem openBucket {v : Value} {d : DataW H} {p : List MemPlace} (hv : Value.okWide Try.prog w r b0 51 v) (h : DataW.Trod enc Try.prog w base spare held 51 v d p) :
    ∃ (m a b c e : Int) (n : Nat), I64 m ∧ I64 a ∧ I64 b ∧ I64 c ∧ I64 e ∧ n < 18446744073709551616 ∧ v = .agg #[.int .i64 m, .int .i64 a, .int .i64 b, .int .i64 c, .int .i64 e, .int .u64 (n : Int)] := by
  obtain ⟨cs, rfl, hsz⟩ := okWide_struct (show Try.prog.underlying 51 = _ from Try.underlying51) hv
  rw [cells51] at hsz
  obtain ⟨l⟩ := cs
  match l, hsz with
  | [c0, c1, c2, c3, c4, c5], _ =>
    obtain ⟨fuel, hf⟩ := h
    obtain ⟨xs, n, _, _, _, hlen, hx⟩ := DataW.trod_struct Try.underlying51 hf
    match xs, hlen with
    | [y0, y1, y2, y3], _ =>
      have g0 := hx 0 _ rfl
      have g1 := hx 1 _ rfl
      have g2 := hx 2 _ rfl
      have g3 := hx 3 _ rfl
      obtain ⟨m, q0, -, w0⟩ := DataW.trod_int Try.underlying3 g0
      obtain ⟨u, q3, -, w3⟩ := DataW.trod_int Try.underlying22 g3
      simp [cells3, Value.cells] at q0
      simp [cells22, Value.cells] at q3
      simp [cells47, Value.cells] at g1 g2
      obtain ⟨a, b, wa, wb, rfl, rfl⟩ := trod47 g1
      obtain ⟨c, e, wc, we, rfl, rfl⟩ := trod47 g2
      subst q0 q3
      have hu := bounds_u64 w3
      exact ⟨m, a, b, c, e, u.toNat, bounds_i64 w0, wa, wb, wc, we, by omega, by rw [Int.toNat_of_nonneg (by omega)]⟩
theorem openVersion {v : Value} {d : DataW H} {p : List MemPlace} (hv : Value.okWide Try.prog w r b0 56 v) (h : DataW.Trod enc Try.prog w base spare held 56 v d p) :
    ∃ (i : Nat) (q : Bool) (n : Nat) (f z : Int), i < 18446744073709551616 ∧ n < 4294967296 ∧ I64 f ∧ I64 z ∧ v = .agg #[.int .u64 (i : Int), .bool q, .int .u32 (n : Int), .int .i64 f, .int .i64 z] := by
  obtain ⟨cs, rfl, hsz⟩ := okWide_struct (show Try.prog.underlying 56 = _ from Try.underlying56) hv
  rw [cells56] at hsz
  obtain ⟨l⟩ := cs
  match l, hsz with
  | [c0, c1, c2, c3, c4], _ =>
    obtain ⟨fuel, hf⟩ := h
    obtain ⟨xs, n, _, _, _, hlen, hx⟩ := DataW.trod_struct Try.underlying56 hf
    match xs, hlen with
    | [y0, y1, y2, y3], _ =>
      have g0 := hx 0 _ rfl
      have g1 := hx 1 _ rfl
      have g2 := hx 2 _ rfl
      have g3 := hx 3 _ rfl
      obtain ⟨i, q0, -, w0⟩ := DataW.trod_int Try.underlying22 g0
      obtain ⟨b, q1, -⟩ := DataW.trod_bool Try.underlying4 g1
      obtain ⟨u, q2, -, w2⟩ := DataW.trod_int Try.underlying52 g2
      simp [cells22, Value.cells] at q0
      simp [cells4, Value.cells] at q1
      simp [cells52, Value.cells] at q2
      simp [cells54, Value.cells] at g3
      obtain ⟨f, z, wf, wz, rfl, rfl⟩ := trod54 g3
      subst q0 q1 q2
      have hi := bounds_u64 w0
      have hu := bounds_u32 w2
      exact ⟨i.toNat, b, u.toNat, f, z, by omega, by omega, wf, wz, by rw [Int.toNat_of_nonneg (by omega), Int.toNat_of_nonneg (by omega)]⟩
theorem openPart {v : Value} {d : DataW H} {p : List MemPlace} (hv : Value.okWide Try.prog w r b0 58 v) (h : DataW.Trod enc Try.prog w base spare held 58 v d p) :
    ∃ (n : Nat) (f z : Int), n < 4294967296 ∧ I64 f ∧ I64 z ∧ v = .agg #[.int .u32 (n : Int), .int .i64 f, .int .i64 z] := by
  obtain ⟨cs, rfl, hsz⟩ := okWide_struct (show Try.prog.underlying 58 = _ from Try.underlying58) hv
  rw [cells58] at hsz
  obtain ⟨l⟩ := cs
  match l, hsz with
  | [c0, c1, c2], _ =>
    obtain ⟨fuel, hf⟩ := h
    obtain ⟨xs, n, _, _, _, hlen, hx⟩ := DataW.trod_struct Try.underlying58 hf
    match xs, hlen with
    | [y0, y1], _ =>
      have g0 := hx 0 _ rfl
      have g1 := hx 1 _ rfl
      obtain ⟨u, q2, -, w2⟩ := DataW.trod_int Try.underlying52 g0
      simp [cells52, Value.cells] at q2
      simp [cells54, Value.cells] at g1
      obtain ⟨f, z, wf, wz, rfl, rfl⟩ := trod54 g1
      subst q2
      have hu := bounds_u32 w2
      exact ⟨u.toNat, f, z, by omega, wf, wz, by rw [Int.toNat_of_nonneg (by omega)]⟩
end
end Go.Proofs.Yteekjndhehnpaaa
