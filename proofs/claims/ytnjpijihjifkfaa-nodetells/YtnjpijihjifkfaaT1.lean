/- Contracts: a node in memory; its small functions. -/
import Derived.Test.YtnjpijihjifkfaaP4
namespace Go.Proofs.Ytnjpijihjifkfaa
open Go.RowKit
set_option linter.unusedVariables false
/-- A slice that reads as these items; as these kids. -/
def Its (w : World) (a : Option Addr) (n : Nat) (I : List It) : Prop :=
  I.length = n ∧ (n = 0 ∨ ∃ b off, a = some ⟨b, off, none⟩ ∧ b < w.heap.size ∧ ∀ j, j < n → w.cell? ⟨b, off + j * 2, none⟩ = some (.string (kq I j)) ∧ w.cell? ⟨b, off + j * 2 + 1, none⟩ = some (.string (vq I j)))
def Kds (w : World) (a : Option Addr) (n : Nat) (K : List Int) : Prop :=
  K.length = n ∧ (n = 0 ∨ ∃ b off, a = some ⟨b, off, none⟩ ∧ b < w.heap.size ∧ ∀ j, j < n → w.cell? ⟨b, off + j, none⟩ = some (.int .i64 (K.getD j 0)))
theorem Its.below {w w1 : World} {a : Option Addr} {n : Nat} {I : List It} (h : Its w a n I) (B : Below w.heap.size w w1) : Its w1 a n I := by
  refine ⟨h.1, ?_⟩
  rcases h.2 with h0 | ⟨b, off, ha, hb, hc⟩
  · exact .inl h0
  · exact .inr ⟨b, off, ha, Nat.lt_of_lt_of_le hb B.size, fun j hj => ⟨(B.cell (p := ⟨b, off + j * 2, none⟩) hb).trans (hc j hj).1, (B.cell (p := ⟨b, off + j * 2 + 1, none⟩) hb).trans (hc j hj).2⟩⟩
theorem Kds.below {w w1 : World} {a : Option Addr} {n : Nat} {K : List Int} (h : Kds w a n K) (B : Below w.heap.size w w1) : Kds w1 a n K := by
  refine ⟨h.1, ?_⟩
  rcases h.2 with h0 | ⟨b, off, ha, hb, hc⟩
  · exact .inl h0
  · exact .inr ⟨b, off, ha, Nat.lt_of_lt_of_le hb B.size, fun j hj => (B.cell (p := ⟨b, off + j, none⟩) hb).trans (hc j hj)⟩
theorem Its.at {w : World} {a : Option Addr} {n : Nat} {I : List It} (h : Its w a n I) {k : Nat} (hk : k < n) : ∃ b off, a = some ⟨b, off, none⟩ ∧ b < w.heap.size ∧ w.cell? ⟨b, off + k * 2, none⟩ = some (.string (kq I k)) ∧ w.cell? ⟨b, off + k * 2 + 1, none⟩ = some (.string (vq I k)) := by
  rcases h.2 with h0 | ⟨b, off, ha, hb, hc⟩
  · omega
  · exact ⟨b, off, ha, hb, hc k hk⟩
theorem Kds.at {w : World} {a : Option Addr} {n : Nat} {K : List Int} (h : Kds w a n K) {k : Nat} (hk : k < n) : ∃ b off, a = some ⟨b, off, none⟩ ∧ b < w.heap.size ∧ w.cell? ⟨b, off + k, none⟩ = some (.int .i64 (K.getD k 0)) := by
  rcases h.2 with h0 | ⟨b, off, ha, hb, hc⟩
  · omega
  · exact ⟨b, off, ha, hb, hc k hk⟩
/-- A node's two cells. -/
structure Nd (w : World) (b : Nat) (a : Option Addr) (n c : Nat) (ka : Option Addr) (kn kc : Nat) : Prop where
  lt : b < w.heap.size
  c0 : w.cell? ⟨b, 0, none⟩ = some (.slice a n c)
  c1 : w.cell? ⟨b, 1, none⟩ = some (.slice ka kn kc)
section
variable {w w1 : World} {b : Nat} {a : Option Addr} {n c : Nat} {ka : Option Addr} {kn kc : Nat}
theorem Nd.below (h : Nd w b a n c ka kn kc) (B : Below w.heap.size w w1) : Nd w1 b a n c ka kn kc :=
  ⟨Nat.lt_of_lt_of_le h.lt B.size, (B.cell (p := ⟨b, 0, none⟩) h.lt).trans h.c0, (B.cell (p := ⟨b, 1, none⟩) h.lt).trans h.c1⟩
theorem Nd.new (w : World) (a : Option Addr) (n c : Nat) (ka : Option Addr) (kn kc : Nat) (t : TypeId) : Nd (w.alloc (.cells #[.slice a n c, .slice ka kn kc] t)) w.heap.size a n c ka kn kc :=
  ⟨by simp, by simp [go_sem], by simp [go_sem]⟩
end
theorem below_to {w w1 w2 : World} (h : Below w.heap.size w w1) (h2 : Below w1.heap.size w1 w2) : Below w.heap.size w w2 := h.trans (h2.mono h.size)
theorem new_below (w : World) (o : Obj) : Below w.heap.size w (w.alloc o) := (Below.refl _ _).alloc (Nat.le_refl _) _
theorem below_new {w w1 : World} {o : Obj} (h : Below (w.alloc o).heap.size (w.alloc o) w1) : Below w.heap.size w w1 := (new_below w o).trans (h.mono (by simp))
theorem isLeaf_yes (a : Option Addr) (n c : Nat) (ka : Option Addr) (kc : Nat) (w : World) : Calls Try.prog 28 #[.agg #[.slice a n c, .slice ka 0 kc]] w fun e w' => e = .returned (.bool true) ∧ Below w.heap.size w w' := by
  go_enter Try.func28, Try.ntmps28
  go_wp2
  go_ret
  exact ⟨rfl, new_below _ _⟩
theorem isLeaf_no (a : Option Addr) (n c : Nat) (ka : Option Addr) (kn kc : Nat) (h : 0 < kn) (w : World) : Calls Try.prog 28 #[.agg #[.slice a n c, .slice ka kn kc]] w fun e w' => e = .returned (.bool false) ∧ Below w.heap.size w w' := by
  go_enter Try.func28, Try.ntmps28
  go_wp2
  go_ret
  exact ⟨ret_bool (by first | (simp; done) | (simp; omega)), new_below _ _⟩
theorem isLeaf_any (a : Option Addr) (n c : Nat) (ka : Option Addr) (kn kc : Nat) (b : Bool) (h : (kn == 0) = b) (w : World) : Calls Try.prog 28 #[.agg #[.slice a n c, .slice ka kn kc]] w fun e w' => e = .returned (.bool b) ∧ Below w.heap.size w w' := by
  subst h
  by_cases h0 : kn = 0
  · subst h0; exact isLeaf_yes a n c ka kc w
  · rw [show (kn == 0) = false by rw [beq_eq_false_iff_ne]; exact h0]; exact isLeaf_no a n c ka kn kc (by omega) w
theorem isKey_any (s : ByteArray) (w : World) (b : Bool) (h : decide (1 ≤ s.size ∧ s.size ≤ 64) = b) : Calls Try.prog 64 #[.string s] w fun e w' => e = .returned (.bool b) ∧ w = w' := by
  subst h
  by_cases h1 : 1 ≤ s.size
  · go_enter Try.func64, Try.ntmps64
    go_wp2
    go_ret
    exact ⟨ret_bool (by first | (rw [Bool.eq_iff_iff]; done) | (rw [Bool.eq_iff_iff]; simp; done) | (rw [Bool.eq_iff_iff]; simp; omega)), rfl⟩
  · go_enter Try.func64, Try.ntmps64
    go_wp2
    go_ret
    exact ⟨ret_bool (by first | (rw [Bool.eq_iff_iff]; done) | (rw [Bool.eq_iff_iff]; simp; done) | (rw [Bool.eq_iff_iff]; simp; omega)), rfl⟩
/-- The bound on strings. -/
def Short (I : List It) : Prop := ∀ x ∈ I, x.1.size ≤ 140737488355328 ∧ x.2.size ≤ 140737488355328
theorem bytesOf_any (k v : ByteArray) (a : Option Addr) (n c : Nat) (ka : Option Addr) (kn kc : Nat) (b : Bool) (h : (kn == 0) = b) (u : Nat) (hu : wt b (k, v) = u) (hk : k.size ≤ 140737488355328) (hv : v.size ≤ 140737488355328) (w : World) :
    Calls Try.prog 66 #[.agg #[.string k, .string v], .agg #[.slice a n c, .slice ka kn kc]] w fun e w' => e = .returned (.int .i64 (u : Int)) ∧ Below w.heap.size w w' := by
  have HL := Lib.hid (fun w => isLeaf_any a n c ka kn kc b h w)
  have HU := Lib.hid hu
  have hc0 : ((w.alloc (.cells #[.string k, .string v] 44)).alloc (.cells #[.slice a n c, .slice ka kn kc] 31)).cell? ⟨w.heap.size, 0, none⟩ = some (.string k) := by simp [go_sem]
  have hc1 : ((w.alloc (.cells #[.string k, .string v] 44)).alloc (.cells #[.slice a n c, .slice ka kn kc] 31)).cell? ⟨w.heap.size, 1, none⟩ = some (.string v) := by simp [go_sem]
  have HC0 := Lib.hid hc0
  have HC1 := Lib.hid hc1
  clear h hu hc0 hc1
  go_enter Try.func66, Try.ntmps66
  go_wp2_with fail
  refine (HL.out _).mono ?_
  rintro e w1 ⟨rfl, hb⟩
  have e0 := (hb.cell (p := ⟨w.heap.size, 0, none⟩) (by simp; omega)).trans HC0.out
  have e1 := (hb.cell (p := ⟨w.heap.size, 1, none⟩) (by simp; omega)).trans HC1.out
  have B := below_new (below_new hb)
  clear hb
  cases b with
  | true =>
    go_wp2_with fail
    go_ret
    exact ⟨ret_int (by rw [← HU.out]; unfold wt; simp), B⟩
  | false =>
    go_wp2_with fail
    go_ret
    exact ⟨ret_int (by rw [← HU.out]; unfold wt; simp), B⟩
end Go.Proofs.Ytnjpijihjifkfaa
