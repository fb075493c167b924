/- Arguments, opened: an int, a uint32, a uint64, a string, a sector. -/
import Derived.Test.YtplngodilalbhaaRows
import Derived.WalkKit
import Derived.ProofKit
import Derived.OpenShut
import Derived.Lib.SmallJoins
import Derived.Laws.Cover2
namespace Go.Proofs.Ytplngodilalbhaa
open Go.ChangeShapes Go.WideShapes Go.ChangeAt Go.RowKit Go.Joins
open Go.ChangeMaps (open_string)
set_option maxRecDepth 100000
section
variable {H : Type} {enc : TypeId × Value → H} {w : World} {base : Nat} {spare : Nat → Bool} {held : Bool} {r : Reach} {b0 : Nat}

theorem openI64 {t : TypeId} {v : Value} {d : DataW H} {p : List MemPlace} (ht : Try.prog.underlying t = some (.int .i64)) (hv : Value.okWide Try.prog w r b0 t v) (h : DataW.Trod enc Try.prog w base spare held t v d p) :
    ∃ a : Int, (Lit.int .i64 a).wf = true ∧ v = .int .i64 a := by
  obtain ⟨a, rfl, rfl, rfl, wf⟩ := open_int ht hv h
  exact ⟨a, wf, rfl⟩
theorem openU32 {t : TypeId} {v : Value} {d : DataW H} {p : List MemPlace} (ht : Try.prog.underlying t = some (.int .u32)) (hv : Value.okWide Try.prog w r b0 t v) (h : DataW.Trod enc Try.prog w base spare held t v d p) :
    ∃ a : Nat, a < 4294967296 ∧ v = .int .u32 (a : Int) := by
  obtain ⟨a, rfl, rfl, rfl, wf⟩ := open_int ht hv h
  have := bounds_u32 wf
  exact ⟨a.toNat, by omega, by rw [Int.toNat_of_nonneg (by omega)]⟩
theorem openU64 {t : TypeId} {v : Value} {d : DataW H} {p : List MemPlace} (ht : Try.prog.underlying t = some (.int .u64)) (hv : Value.okWide Try.prog w r b0 t v) (h : DataW.Trod enc Try.prog w base spare held t v d p) :
    ∃ a : Nat, a < 18446744073709551616 ∧ v = .int .u64 (a : Int) := by
  obtain ⟨a, rfl, rfl, rfl, wf⟩ := open_int ht hv h
  have := bounds_u64 wf
  exact ⟨a.toNat, by omega, by rw [Int.toNat_of_nonneg (by omega)]⟩
theorem openStr {t : TypeId} {v : Value} {d : DataW H} {p : List MemPlace} (ht : Try.prog.underlying t = some .string) (hv : Value.okWide Try.prog w r b0 t v) (h : DataW.Trod enc Try.prog w base spare held t v d p) :
    ∃ s : ByteArray, s.size ≤ maxLen ∧ v = .string s := by
  obtain ⟨s, rfl, rfl, rfl, hs⟩ := open_string ht hv h
  exact ⟨s, hs, rfl⟩
theorem openU8 {t : TypeId} {v : Value} {d : DataW H} {p : List MemPlace} (ht : Try.prog.underlying t = some (.int .u8)) (hv : Value.okWide Try.prog w r b0 t v) (h : DataW.Trod enc Try.prog w base spare held t v d p) :
    ∃ a : Nat, a < 256 ∧ v = .int .u8 (a : Int) := by
  obtain ⟨a, rfl, rfl, rfl, wf⟩ := open_int ht hv h
  have := bounds_u8 wf
  exact ⟨a.toNat, by omega, by rw [Int.toNat_of_nonneg (by omega)]⟩
theorem cells24 : Try.prog.cellsOf 24 = 6 := by kernel_rfl
theorem cells3 : Try.prog.cellsOf 3 = 1 := by kernel_rfl
theorem cells22 : Try.prog.cellsOf 22 = 1 := by kernel_rfl
theorem cells9 : Try.prog.cellsOf 9 = 1 := by kernel_rfl
theorem openSec {v : Value} {d : DataW H} {p : List MemPlace} (hv : Value.okWide Try.prog w r b0 24 v) (h : DataW.Trod enc Try.prog w base spare held 24 v d p) :
    ∃ (k : Int) (e n : Nat) (a m : Int) (s : ByteArray), e < 18446744073709551616 ∧ n < 18446744073709551616 ∧ s.size ≤ maxLen ∧ (Lit.int .i64 a).wf = true ∧ v = .agg #[.int .i64 k, .int .u64 (e : Int), .int .u64 (n : Int), .int .i64 a, .int .i64 m, .string s] := by
  obtain ⟨cs, rfl, hsz⟩ := okWide_struct (show Try.prog.underlying 24 = _ from by first | exact Try.underlying24 | kernel_rfl) hv
  rw [cells24] at hsz
  obtain ⟨l⟩ := cs
  match l, hsz with
  | [c0, c1, c2, c3, c4, c5], _ =>
    obtain ⟨fuel, hf⟩ := h
    obtain ⟨xs, n, _, _, _, hlen, hx⟩ := DataW.trod_struct Try.underlying24 hf
    match xs, hlen with
    | [y0, y1, y2, y3, y4, y5], _ =>
      have g0 := hx 0 _ rfl
      have g1 := hx 1 _ rfl
      have g2 := hx 2 _ rfl
      have g3 := hx 3 _ rfl
      have g4 := hx 4 _ rfl
      have g5 := hx 5 _ rfl
      obtain ⟨a0, q0, -, w0⟩ := DataW.trod_int Try.underlying3 g0
      obtain ⟨a1, q1, -, w1⟩ := DataW.trod_int Try.underlying22 g1
      obtain ⟨a2, q2, -, w2⟩ := DataW.trod_int Try.underlying22 g2
      obtain ⟨a3, q3, -, w3⟩ := DataW.trod_int Try.underlying3 g3
      obtain ⟨a4, q4, -, w4⟩ := DataW.trod_int Try.underlying3 g4
      obtain ⟨s, q5, -, w5⟩ := DataW.trod_string Try.underlying9 g5
      simp [cells3, Value.cells] at q0 q3 q4
      simp [cells22, Value.cells] at q1 q2
      simp [cells9, Value.cells] at q5
      subst q0 q1 q2 q3 q4 q5
      have b1 := bounds_u64 w1
      have b2 := bounds_u64 w2
      exact ⟨a0, a1.toNat, a2.toNat, a3, a4, s, by omega, by omega, w5, w3, by rw [Int.toNat_of_nonneg (by omega), Int.toNat_of_nonneg (by omega)]⟩
end
end Go.Proofs.Ytplngodilalbhaa
