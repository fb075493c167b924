/- The examples of lives; ours. -/
import Derived.Test.YteekjndhehnpaaaKO
import Derived.Deep.RegionHeld3
namespace Go.Proofs.Yteekjndhehnpaaa
open Go.RowKit
set_option maxRecDepth 100000
set_option linter.unusedVariables false
set_option linter.unusedSimpArgs false
set_option maxHeartbeats 8000000
def vB : ByteArray := ⟨#[86, 3, 98, 0, 107, 0, 255, 255, 255, 255, 255, 255, 255, 254]⟩
def pB : ByteArray := ⟨#[80, 0, 98, 0, 0, 0, 0, 0, 0, 0, 1, 2, 2]⟩
def vK : K := ⟨3, 3, ⟨#[98]⟩, ⟨#[107]⟩, 1, 0⟩
def pK : K := ⟨5, 0, ⟨#[98]⟩, ⟨#[]⟩, 258, 2⟩
theorem ex1 : makeS vK = vB ∧ okK vK = true := by decide +kernel
theorem ex2 : makeS pK = pB ∧ okK pK = true := by decide +kernel
theorem ex3 : okK ⟨1, 8, ⟨#[]⟩, ⟨#[]⟩, 0, 0⟩ = false := by decide +kernel
theorem ex4 : goodL true vB.data.toList = true ∧ parseK true vB.data.toList = vK := by decide +kernel
theorem ex5 : goodL true [88] = false := by decide +kernel
theorem ex6 : bucketsS 1 = ⟨#[66, 1]⟩ ∧ allS 4 1 ⟨#[98]⟩ = ⟨#[85, 1, 98, 0]⟩ ∧ chainS 3 ⟨#[98]⟩ ⟨#[107]⟩ = vB.extract 0 6 ∧ piecesS 0 ⟨#[98]⟩ 258 = pB.extract 0 12 := by decide +kernel
theorem ours_any (kind t : Int) (b n : ByteArray) (u p : Int) (w : World) : Calls Try.prog 12 #[.agg #[.int .i64 kind, .int .i64 t, .string b, .string n, .int .u64 u, .int .i64 p]] w fun e w' => e = .returned (.agg #[.int .i64 kind, .int .i64 t, .string b, .string n, .int .u64 u, .int .i64 p]) ∧ Below w.heap.size w w' := by
  go_enter Try.func12, Try.ntmps12
  go_wp2_with fail
  have S := Six.two w (.cells #[.int .i64 kind, .int .i64 t, .string b, .string n, .int .u64 u, .int .i64 p] 24) (.int .i64 kind) (.int .i64 t) (.string b) (.string n) (.int .u64 u) (.int .i64 p) 29
  refine bodyPost_ret (v := .agg #[.int .i64 kind, .int .i64 t, .string b, .string n, .int .u64 u, .int .i64 p]) ?_ rfl ⟨rfl, below_two _ _ _⟩
  have hl := load29 S 29 (.inl rfl)
  rw [res_cell Try.results12]
  show ((asAddr (.pointer (some ⟨w.heap.size + 1, 0, none⟩))).run Try.prog _).andThen _ = _
  simp [asAddr, hl]
end Go.Proofs.Yteekjndhehnpaaa
