/- Arguments, opened: an int, a uint64, a put, slices of bool, of puts, of slices of puts. -/
import Derived.Test.YtbhebkjadgajeaaRows
import Derived.Test.YtbhebkjadgajeaaJ9
import Derived.WalkKit
import Derived.ProofKit
import Derived.OpenShut
import Derived.Lib.SmallJoins
import Derived.Laws.Cover2
import Derived.Deep.Slices
namespace Go.Proofs.Ytbhebkjadgajeaa
open Go.ChangeShapes Go.WideShapes Go.ChangeAt Go.RowKit Go.Joins Go.Deep
set_option maxRecDepth 100000
/-- Lists of puts in memory. -/
def Putss (w : World) (a : Option Addr) (n : Nat) (l : List (List PutR)) : Prop :=
  l.length = n ∧ (n = 0 ∨ ∃ b off, a = some ⟨b, off, none⟩ ∧ b < w.heap.size ∧ ∀ j (hj : j < l.length), ∃ pa pn pc, w.cell? ⟨b, off + j, none⟩ = some (.slice pa pn pc) ∧ Puts w pa pn l[j] ∧ ∀ x ∈ l[j], (Lit.int .i64 x.page).wf = true)
section
variable {H : Type} {enc : TypeId × Value → H} {w : World} {base : Nat} {spare : Nat → Bool} {held : Bool} {r : Reach} {b0 : Nat}
theorem openI64 {t : TypeId} {v : Value} {d : DataW H} {p : List MemPlace} (ht : Try.prog.underlying t = some (.int .i64)) (hv : Value.okWide Try.prog w r b0 t v) (h : DataW.Trod enc Try.prog w base spare held t v d p) :
    ∃ a : Int, (Lit.int .i64 a).wf = true ∧ v = .int .i64 a := by
  obtain ⟨a, rfl, rfl, rfl, wf⟩ := open_int ht hv h
  exact ⟨a, wf, rfl⟩
theorem openU64 {t : TypeId} {v : Value} {d : DataW H} {p : List MemPlace} (ht : Try.prog.underlying t = some (.int .u64)) (hv : Value.okWide Try.prog w r b0 t v) (h : DataW.Trod enc Try.prog w base spare held t v d p) :
    ∃ a : Nat, a < 18446744073709551616 ∧ v = .int .u64 (a : Int) := by
  obtain ⟨a, rfl, rfl, rfl, wf⟩ := open_int ht hv h
  have := bounds_u64 wf
  exact ⟨a.toNat, by omega, by rw [Int.toNat_of_nonneg (by omega)]⟩
theorem cells3 : Try.prog.cellsOf 3 = 1 := by kernel_rfl
theorem cells4 : Try.prog.cellsOf 4 = 1 := by kernel_rfl
theorem cells5 : Try.prog.cellsOf 5 = 1 := by kernel_rfl
theorem cells33 : Try.prog.cellsOf 33 = 1 := by kernel_rfl
theorem cells51 : Try.prog.cellsOf 51 = 3 := by kernel_rfl
theorem add_none (b off n : Nat) : Addr.add ⟨b, off, none⟩ n = ⟨b, off + n, none⟩ := by
  unfold Addr.add
  by_cases h : n = 0
  · subst h; simp
  · simp [h]
theorem openPut {v : Value} {d : DataW H} {p : List MemPlace} (hv : Value.okWide Try.prog w r b0 51 v) (h : DataW.Trod enc Try.prog w base spare held 51 v d p) :
    ∃ q : PutR, (Lit.int .i64 q.page).wf = true ∧ v = .agg #[.int .i64 q.page, .int .u8 (q.byte.toNat : Int), .bool q.short] := by
  obtain ⟨cs, rfl, hsz⟩ := okWide_struct (show Try.prog.underlying 51 = _ from by first | exact Try.underlying51 | kernel_rfl) hv
  rw [cells51] at hsz
  obtain ⟨l⟩ := cs
  match l, hsz with
  | [c0, c1, c2], _ =>
    obtain ⟨fuel, hf⟩ := h
    obtain ⟨xs, n, _, _, _, hlen, hx⟩ := DataW.trod_struct Try.underlying51 hf
    match xs, hlen with
    | [y0, y1, y2], _ =>
      have g0 := hx 0 _ rfl
      have g1 := hx 1 _ rfl
      have g2 := hx 2 _ rfl
      obtain ⟨a0, q0, -, w0⟩ := DataW.trod_int Try.underlying3 g0
      obtain ⟨a1, q1, -, w1⟩ := DataW.trod_int Try.underlying5 g1
      obtain ⟨a2, q2, -⟩ := DataW.trod_bool Try.underlying4 g2
      simp [cells3, Value.cells] at q0
      simp [cells5, Value.cells] at q1
      simp [cells4, Value.cells] at q2
      subst q0 q1 q2
      have b1 := bounds_u8 w1
      refine ⟨⟨a0, UInt8.ofNat a1.toNat, a2⟩, w0, ?_⟩
      have : ((UInt8.ofNat a1.toNat).toNat : Int) = a1 := by simp; omega
      rw [this]
end
end Go.Proofs.Ytbhebkjadgajeaa
