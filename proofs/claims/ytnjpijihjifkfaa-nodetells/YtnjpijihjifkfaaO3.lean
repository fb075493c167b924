/- Contracts: a reader, its error, what is left, its end. -/
import Derived.Test.YtnjpijihjifkfaaO2
import Derived.Laws.EntriesVeiled
namespace Go.Proofs.Ytnjpijihjifkfaa
open Go.RowKit
/-- Block b is a reader: what is left, and its error. -/
structure Rd (w : World) (b : Nat) (s : ByteArray) (e : Int) : Prop where
  c0 : w.cell? ⟨b, 0, none⟩ = some (.string s)
  c1 : w.cell? ⟨b, 1, none⟩ = some (.int .i64 e)
  f0 : w.frozen? ⟨b, 0, none⟩ = false
  f1 : w.frozen? ⟨b, 1, none⟩ = false
/-- Of what was there, only block b may have turned. -/
structure Only (b : Nat) (w w' : World) : Prop where
  os : w'.os = w.os
  tape : w'.tape = w.tape
  output : w'.output = w.output
  size : w.heap.size ≤ w'.heap.size
  block : ∀ k, k < w.heap.size → k ≠ b → w'.heap[k]? = w.heap[k]?
theorem Only.refl (b : Nat) (w : World) : Only b w w := ⟨rfl, rfl, rfl, Nat.le_refl _, fun _ _ _ => rfl⟩
theorem Only.trans {b : Nat} {w w1 w2 : World} (h : Only b w w1) (k : Only b w1 w2) : Only b w w2 :=
  ⟨k.os.trans h.os, k.tape.trans h.tape, k.output.trans h.output, Nat.le_trans h.size k.size, fun i hi hb => (k.block i (Nat.lt_of_lt_of_le hi h.size) hb).trans (h.block i hi hb)⟩
theorem Only.of_below {b : Nat} {w w1 : World} (h : Below w.heap.size w w1) : Only b w w1 := ⟨h.os, h.tape, h.output, h.size, fun i hi _ => h.block i hi⟩
theorem Only.below {b n : Nat} {W w w1 : World} (h : Only b w w1) (B : Below n W w) (hn : n ≤ b) (hs : n ≤ w.heap.size) : Below n W w1 :=
  ⟨h.os.trans B.os, h.tape.trans B.tape, h.output.trans B.output, Nat.le_trans B.size h.size, fun k hk => (h.block k (by omega) (by omega)).trans (B.block k hk)⟩
theorem Only.alloc {b : Nat} {w w1 : World} (h : Only b w w1) (o : Obj) : Only b w (w1.alloc o) :=
  ⟨h.os, h.tape, h.output, by have := h.size; simp; omega, fun k hk hb => (Below.heap_alloc w1 o k (by have := h.size; omega)).trans (h.block k hk hb)⟩
theorem Only.setCell {b o : Nat} {w w1 : World} (h : Only b w w1) (v : Value) : Only b w (w1.setCell ⟨b, o, none⟩ v) :=
  ⟨h.os, h.tape, h.output, by have := h.size; simpa using this, fun k hk hb => (Below.heap_setCell w1 ⟨b, o, none⟩ v k hb).trans (h.block k hk hb)⟩
theorem Only.cell {b k o : Nat} {w w1 : World} (h : Only b w w1) (hk : k < w.heap.size) (hb : k ≠ b) : w1.cell? ⟨k, o, none⟩ = w.cell? ⟨k, o, none⟩ := World.cell?_of_block (w := w) (h.block k hk hb)
theorem Only.frozen {b k o : Nat} {w w1 : World} (h : Only b w w1) (hk : k < w.heap.size) (hb : k ≠ b) : w1.frozen? ⟨k, o, none⟩ = w.frozen? ⟨k, o, none⟩ := World.frozen?_of_block (w := w) (h.block k hk hb)
theorem Rd.lt {w : World} {b : Nat} {s : ByteArray} {e : Int} (h : Rd w b s e) : b < w.heap.size := World.block_lt_of_cell? w _ h.c0
theorem Rd.below {w w1 : World} {b : Nat} {s : ByteArray} {e : Int} (h : Rd w b s e) (B : Below w.heap.size w w1) : Rd w1 b s e :=
  ⟨(B.cell (p := ⟨b, 0, none⟩) h.lt).trans h.c0, (B.cell (p := ⟨b, 1, none⟩) h.lt).trans h.c1, (B.frozen (p := ⟨b, 0, none⟩) h.lt).trans h.f0, (B.frozen (p := ⟨b, 1, none⟩) h.lt).trans h.f1⟩
theorem Rd.only {w w1 : World} {b c : Nat} {s : ByteArray} {e : Int} (h : Rd w b s e) (B : Only c w w1) (hc : b ≠ c) : Rd w1 b s e :=
  ⟨(B.cell h.lt hc).trans h.c0, (B.cell h.lt hc).trans h.c1, (B.frozen h.lt hc).trans h.f0, (B.frozen h.lt hc).trans h.f1⟩
theorem Rd.alloc {w : World} {b : Nat} {s : ByteArray} {e : Int} (h : Rd w b s e) (o : Obj) : Rd (w.alloc o) b s e := h.below ((Below.refl _ _).alloc (Nat.le_refl _) o)
theorem Rd.set0 {w : World} {b : Nat} {s : ByteArray} {e : Int} (h : Rd w b s e) (t : ByteArray) : Rd (w.setCell ⟨b, 0, none⟩ (.string t)) b t e :=
  ⟨World.cell?_setCell_same _ _ _ h.c0, (World.cell?_setCell_other _ _ _ _ (fun e => by simp at e)).trans h.c1, by simpa using h.f0, by simpa using h.f1⟩
theorem Rd.set1 {w : World} {b : Nat} {s : ByteArray} {e : Int} (h : Rd w b s e) (y : Int) : Rd (w.setCell ⟨b, 1, none⟩ (.int .i64 y)) b s y :=
  ⟨(World.cell?_setCell_other _ _ _ _ (fun e => by simp at e)).trans h.c0, World.cell?_setCell_same _ _ _ h.c1, by simpa using h.f0, by simpa using h.f1⟩
theorem open_any (s : ByteArray) (w : World) : Calls Try.prog 58 #[.string s] w fun e w' => e = .returned (.pointer (some ⟨w.heap.size, 0, none⟩)) ∧ Rd w' w.heap.size s 0 ∧ Below w.heap.size w w' ∧ w'.heap.size = w.heap.size + 1 := by
  go_enter Try.func58, Try.ntmps58
  go_wp2
  go_ret
  exact ⟨rfl, ⟨by simp [go_sem], by simp [go_sem], by simp [go_sem], by simp [go_sem]⟩, (Below.refl _ _).alloc (Nat.le_refl _) _, by simp⟩
theorem err_any (b : Nat) (s : ByteArray) (e : Int) (w : World) (h : Rd w b s e) : Calls Try.prog 89 #[.pointer (some ⟨b, 0, none⟩)] w fun x w' => x = .returned (.int .i64 e) ∧ w = w' := by
  have c1 := h.c1
  go_enter Try.func89, Try.ntmps89
  go_wp2
  go_ret
  exact ⟨rfl, rfl⟩
theorem err_nil (w : World) : Calls Try.prog 89 #[.pointer none] w fun x w' => x = .returned (.int .i64 18) ∧ w = w' := by
  go_enter Try.func89, Try.ntmps89
  go_wp2
  go_ret
  exact ⟨rfl, rfl⟩
/-- Does it end well? -/
def endF (s : ByteArray) (e : Int) : Int := if e = 0 then (if 0 < s.size then 19 else 0) else e
end Go.Proofs.Ytnjpijihjifkfaa
