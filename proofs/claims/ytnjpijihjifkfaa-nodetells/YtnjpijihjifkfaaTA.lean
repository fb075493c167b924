/- Contract: a leaf, read. -/
import Derived.Test.YtnjpijihjifkfaaT9
import Derived.Deep.AppendLies
import Derived.Deep.RegionLaw
namespace Go.Proofs.Ytnjpijihjifkfaa
open Go.RowKit
set_option linter.unusedVariables false
theorem info44 : (Try.prog.info? 44).map (fun i => (i.zero, i.size, i.bytes)) = some (some (.agg #[.string ByteArray.empty, .string ByteArray.empty]), 2, 32) := by kernel_rfl
/-- Items, cell by cell. -/
def itemV (x : It) : List Value := [.string x.1, .string x.2]
def flatI (L : List It) : List Value := L.flatMap itemV
theorem flatI_snoc (L : List It) (x : It) : flatI (L ++ [x]) = flatI L ++ itemV x := by simp [flatI]
theorem flatI_app (L M : List It) : flatI (L ++ M) = flatI L ++ flatI M := by simp [flatI]
theorem flatI_length (L : List It) : (flatI L).length = L.length * 2 := by
  induction L with
  | nil => rfl
  | cons a l ih => simp [flatI, itemV] at *; omega
theorem flatI_get (L : List It) (j : Nat) (h : j < L.length) : (flatI L)[j * 2]? = some (.string (kq L j)) ∧ (flatI L)[j * 2 + 1]? = some (.string (vq L j)) := by
  induction L generalizing j with
  | nil => simp at h
  | cons a l ih =>
    cases j with
    | zero => simp [flatI, itemV, kq, vq]
    | succ j =>
      have := ih j (by simpa using h)
      rw [show (j + 1) * 2 = j * 2 + 2 by omega, show j * 2 + 2 + 1 = j * 2 + 1 + 2 by omega]
      simp only [flatI, List.flatMap_cons, itemV, List.cons_append, List.nil_append, List.getElem?_cons_succ]
      unfold kq vq
      rw [List.getD_cons_succ]
      exact this
theorem flatI_one (L : List It) : ∀ u ∈ flatI L, u.oneCell' = true := by
  intro u hu
  unfold flatI at hu
  obtain ⟨x, _, hx⟩ := List.mem_flatMap.1 hu
  simp [itemV] at hx
  rcases hx with rfl | rfl <;> rfl
theorem itemV_one (x : It) : ∀ u ∈ itemV x, u.oneCell' = true := by
  intro u hu
  simp [itemV] at hu
  rcases hu with rfl | rfl <;> rfl
theorem add_nil (g x : Nat) : (⟨g, 0, none⟩ : Addr).add x = ⟨g, x, none⟩ := by unfold Addr.add; split <;> simp_all
theorem its_of_own {w : World} {base n : Nat} {v : Value} {L : List It} (h : w.ownsRow base 44 2 v n (flatI L)) : ∃ a c, v = .slice a n c ∧ n ≤ c ∧ Its w a n L := by
  have hc := @World.ownsRow.cells _ _ _ _ _ _ _ h
  have hl : L.length = n := by have := h.1; rw [flatI_length] at this; omega
  rcases h.2 with ⟨rfl, hn⟩ | ⟨g, cap, cur, rfl, hb, hg, hcap, _⟩
  · exact ⟨none, 0, by rw [hn], by omega, hl, .inl hn⟩
  · refine ⟨_, _, rfl, hcap, hl, .inr ⟨g, 0, rfl, (Array.getElem?_eq_some_iff.1 hg).1, fun j hj => ?_⟩⟩
    have h1 := hc rfl (j * 2) _ (flatI_get L j (by omega)).1
    have h2 := hc rfl (j * 2 + 1) _ (flatI_get L j (by omega)).2
    rw [add_nil] at h1 h2
    simp only [Nat.zero_add]
    exact ⟨h1, h2⟩
theorem own_only {w w1 : World} {T : TypeId} {sz n base b : Nat} {v : Value} {xs : List Value} (h : w.ownsRow base T sz v n xs) (B : Only b w w1) (hb : b < base) : w1.ownsRow base T sz v n xs := by
  refine ⟨h.1, ?_⟩
  rcases h.2 with hn | ⟨g, cap, cur, hv, h1, h2, h3⟩
  · exact .inl hn
  · exact .inr ⟨g, cap, cur, hv, h1, (B.block g (Array.getElem?_eq_some_iff.1 h2).1 (by omega)).trans h2, h3⟩
/-- A node that is being built: its two cells, which may be written. -/
structure Nb (w : World) (g : Nat) (u v : Value) : Prop where
  lt : g < w.heap.size
  c0 : w.cell? ⟨g, 0, none⟩ = some u
  c1 : w.cell? ⟨g, 1, none⟩ = some v
  f0 : w.frozen? ⟨g, 0, none⟩ = false
  f1 : w.frozen? ⟨g, 1, none⟩ = false
theorem Nb.block {w w1 : World} {g : Nat} {u v : Value} (h : Nb w g u v) (hs : w.heap.size ≤ w1.heap.size) (hb : w1.heap[g]? = w.heap[g]?) : Nb w1 g u v :=
  ⟨Nat.lt_of_lt_of_le h.lt hs, (World.cell?_of_block (a := ⟨g, 0, none⟩) hb).trans h.c0, (World.cell?_of_block (a := ⟨g, 1, none⟩) hb).trans h.c1, (World.frozen?_of_block (a := ⟨g, 0, none⟩) hb).trans h.f0, (World.frozen?_of_block (a := ⟨g, 1, none⟩) hb).trans h.f1⟩
theorem Nb.only {w w1 : World} {g b : Nat} {u v : Value} (h : Nb w g u v) (B : Only b w w1) (hb : g ≠ b) : Nb w1 g u v := h.block B.size (B.block g h.lt hb)
theorem Nb.below {w w1 : World} {g : Nat} {u v : Value} (h : Nb w g u v) (B : Below w.heap.size w w1) : Nb w1 g u v := h.block B.size (B.block g h.lt)
theorem Nb.grown {w w1 : World} {g : Nat} {u v : Value} {row : Option Nat} (h : Nb w g u v) (hs : w.heap.size ≤ w1.heap.size) (hg : w.grownBy w1 row) (hr : some g ≠ row) : Nb w1 g u v := h.block hs (hg.block g h.lt hr)
theorem Nb.set0 {w : World} {g : Nat} {u v : Value} (h : Nb w g u v) (x : Value) : Nb (w.setCell ⟨g, 0, none⟩ x) g x v :=
  ⟨by simpa using h.lt, World.cell?_setCell_same _ _ _ h.c0, (World.cell?_setCell_other _ _ _ _ (fun e => by simp at e)).trans h.c1, by simpa using h.f0, by simpa using h.f1⟩
theorem Nb.set1 {w : World} {g : Nat} {u v : Value} (h : Nb w g u v) (x : Value) : Nb (w.setCell ⟨g, 1, none⟩ x) g u x :=
  ⟨by simpa using h.lt, (World.cell?_setCell_other _ _ _ _ (fun e => by simp at e)).trans h.c0, World.cell?_setCell_same _ _ _ h.c1, by simpa using h.f0, by simpa using h.f1⟩
theorem Nb.set_far {w : World} {g k o : Nat} {u v : Value} (h : Nb w g u v) (x : Value) (hk : k ≠ g) : Nb (w.setCell ⟨k, o, none⟩ x) g u v :=
  h.block (by simp) (Below.heap_setCell w ⟨k, o, none⟩ x g (by simpa using fun e => hk e.symm))
theorem own_set {w : World} {T : TypeId} {sz n base g o : Nat} {v x : Value} {xs : List Value} (h : w.ownsRow base T sz v n xs) (hb : g < base) : (w.setCell ⟨g, o, none⟩ x).ownsRow base T sz v n xs := by
  refine ⟨h.1, ?_⟩
  rcases h.2 with hn | ⟨k, cap, cur, hv, h1, h2, h3⟩
  · exact .inl hn
  · exact .inr ⟨k, cap, cur, hv, h1, (Below.heap_setCell w ⟨g, o, none⟩ x k (by show k ≠ g; omega)).trans h2, h3⟩
theorem Nb.fresh (w : World) (u v : Value) (T : TypeId) : Nb (w.alloc (.cells #[u, v] T)) w.heap.size u v :=
  ⟨by simp, by simp [go_sem], by simp [go_sem], by simp [go_sem], by simp [go_sem]⟩
theorem rd_grown {w w1 : World} {b : Nat} {s : ByteArray} {e : Int} {row : Option Nat} (h : Rd w b s e) (hg : w.grownBy w1 row) (hr : some b ≠ row) : Rd w1 b s e :=
  ⟨(hg.cell_far _ h.lt hr).trans h.c0, (hg.cell_far _ h.lt hr).trans h.c1, (hg.frozen_far _ h.lt hr).trans h.f0, (hg.frozen_far _ h.lt hr).trans h.f1⟩
theorem rd_set {w : World} {b k o : Nat} {s : ByteArray} {e : Int} (h : Rd w b s e) (x : Value) (hk : k ≠ b) : Rd (w.setCell ⟨k, o, none⟩ x) b s e := by
  have hb := Below.heap_setCell w ⟨k, o, none⟩ x b (by show b ≠ k; omega)
  exact ⟨(World.cell?_of_block (a := ⟨b, 0, none⟩) hb).trans h.c0, (World.cell?_of_block (a := ⟨b, 1, none⟩) hb).trans h.c1, (World.frozen?_of_block (a := ⟨b, 0, none⟩) hb).trans h.f0, (World.frozen?_of_block (a := ⟨b, 1, none⟩) hb).trans h.f1⟩
theorem only_grown {w w1 w2 : World} {b : Nat} {row : Option Nat} (h : Only b w w1) (hg : w1.grownBy w2 row) (hs : w1.heap.size ≤ w2.heap.size) (hr : ∀ g, row = some g → w.heap.size ≤ g) : Only b w w2 :=
  ⟨hg.os.trans h.os, hg.tape.trans h.tape, hg.output.trans h.output, Nat.le_trans h.size hs, fun k hk hb => (hg.block k (Nat.lt_of_lt_of_le hk h.size) (fun e => by have := hr k e.symm; omega)).trans (h.block k hk hb)⟩
theorem only_set {w w1 : World} {b g o : Nat} {x : Value} (h : Only b w w1) (hg : w.heap.size ≤ g) : Only b w (w1.setCell ⟨g, o, none⟩ x) :=
  ⟨h.os, h.tape, h.output, by simpa using h.size, fun k hk hb => (Below.heap_setCell w1 ⟨g, o, none⟩ x k (by show k ≠ g; omega)).trans (h.block k hk hb)⟩
theorem item_cells (w : World) (x : It) (T : TypeId) : ∀ j u, (itemV x)[j]? = some u → (w.alloc (.cells (itemV x).toArray T)).cell? ((⟨w.heap.size, 0, none⟩ : Addr).add j) = some u := by
  intro j u hj
  have hl : j < 2 := by have := (List.getElem?_eq_some_iff.1 hj).1; simpa [itemV] using this
  rw [add_nil]
  simpa [go_sem] using hj
end Go.Proofs.Ytnjpijihjifkfaa
