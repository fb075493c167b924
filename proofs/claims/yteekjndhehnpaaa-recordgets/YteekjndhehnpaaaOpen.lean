/- Arguments, opened. -/
import Derived.Test.YteekjndhehnpaaaRows
import Derived.Test.YteekjndhehnpaaaKE
import Derived.WalkKit
import Derived.ProofKit
import Derived.OpenShut
import Derived.Lib.SmallJoins
import Derived.Laws.Cover2
namespace Go.Proofs.Yteekjndhehnpaaa
open Go.ChangeShapes Go.WideShapes Go.ChangeAt Go.RowKit Go.Joins
open Go.ChangeMaps (open_string)
set_option linter.unusedVariables false
set_option maxRecDepth 100000
section
variable {H : Type} {enc : TypeId × Value → H} {w : World} {base : Nat} {spare : Nat → Bool} {held : Bool} {r : Reach} {b0 : Nat}
theorem openI64 {t : TypeId} {v : Value} {d : DataW H} {p : List MemPlace} (ht : Try.prog.underlying t = some (.int .i64)) (hv : Value.okWide Try.prog w r b0 t v) (h : DataW.Trod enc Try.prog w base spare held t v d p) :
    ∃ a : Int, (-9223372036854775808 ≤ a ∧ a ≤ 9223372036854775807) ∧ v = .int .i64 a := by
  obtain ⟨a, rfl, rfl, rfl, wf⟩ := open_int ht hv h
  exact ⟨a, bounds_i64 wf, rfl⟩
theorem openU64 {t : TypeId} {v : Value} {d : DataW H} {p : List MemPlace} (ht : Try.prog.underlying t = some (.int .u64)) (hv : Value.okWide Try.prog w r b0 t v) (h : DataW.Trod enc Try.prog w base spare held t v d p) :
    ∃ a : Nat, a < 18446744073709551616 ∧ v = .int .u64 (a : Int) := by
  obtain ⟨a, rfl, rfl, rfl, wf⟩ := open_int ht hv h
  have := bounds_u64 wf
  exact ⟨a.toNat, by omega, by rw [Int.toNat_of_nonneg (by omega)]⟩
theorem openStr {t : TypeId} {v : Value} {d : DataW H} {p : List MemPlace} (ht : Try.prog.underlying t = some .string) (hv : Value.okWide Try.prog w r b0 t v) (h : DataW.Trod enc Try.prog w base spare held t v d p) :
    ∃ s : ByteArray, s.size ≤ maxLen ∧ v = .string s := by
  obtain ⟨s, rfl, rfl, rfl, hs⟩ := open_string ht hv h
  exact ⟨s, hs, rfl⟩
theorem cells3 : Try.prog.cellsOf 3 = 1 := by kernel_rfl
theorem cells9 : Try.prog.cellsOf 9 = 1 := by kernel_rfl
theorem cells22 : Try.prog.cellsOf 22 = 1 := by kernel_rfl
theorem cells24 : Try.prog.cellsOf 24 = 6 := by kernel_rfl
/-- A key that came in. -/
structure KeyIn (k : K) : Prop where
  b : k.buc.size ≤ maxLen
  n : k.nam.size ≤ maxLen
  u : k.num < 18446744073709551616
theorem openKey {v : Value} {d : DataW H} {p : List MemPlace} (hv : Value.okWide Try.prog w r b0 24 v) (h : DataW.Trod enc Try.prog w base spare held 24 v d p) :
    ∃ k : K, KeyIn k ∧ v = kV k := by
  obtain ⟨cs, rfl, hsz⟩ := okWide_struct (show Try.prog.underlying 24 = _ from by first | exact Try.underlying24 | kernel_rfl) hv
  rw [cells24] at hsz
  obtain ⟨l⟩ := cs
  match l, hsz with
  | [c0, c1, c2, c3, c4, c5], _ =>
    obtain ⟨fuel, hf⟩ := h
    obtain ⟨xs, n, _, _, _, hlen, hx⟩ := DataW.trod_struct Try.underlying24 hf
    match xs, hlen with
    | [y0, y1, y2, y3, y4, y5], _ =>
      have g0 := hx 0 _ rfl
      have g1 := hx 1 _ rfl
      have g2 := hx 2 _ rfl
      have g3 := hx 3 _ rfl
      have g4 := hx 4 _ rfl
      have g5 := hx 5 _ rfl
      obtain ⟨a0, q0, -, w0⟩ := DataW.trod_int Try.underlying3 g0
      obtain ⟨a1, q1, -, w1⟩ := DataW.trod_int Try.underlying3 g1
      obtain ⟨a2, q2, -, w2⟩ := DataW.trod_string Try.underlying9 g2
      obtain ⟨a3, q3, -, w3⟩ := DataW.trod_string Try.underlying9 g3
      obtain ⟨a4, q4, -, w4⟩ := DataW.trod_int Try.underlying22 g4
      obtain ⟨a5, q5, -, w5⟩ := DataW.trod_int Try.underlying3 g5
      simp [cells3, Value.cells] at q0
      simp [cells3, Value.cells] at q1
      simp [cells9, Value.cells] at q2
      simp [cells9, Value.cells] at q3
      simp [cells22, Value.cells] at q4
      simp [cells3, Value.cells] at q5
      subst q0 q1 q2 q3 q4 q5
      have hu := bounds_u64 w4
      exact ⟨⟨a0, a1, a2, a3, a4.toNat, a5⟩, ⟨w2, w3, by show a4.toNat < _; omega⟩, by unfold kV; simp only; rw [Int.toNat_of_nonneg (by omega)]⟩
end
end Go.Proofs.Yteekjndhehnpaaa
