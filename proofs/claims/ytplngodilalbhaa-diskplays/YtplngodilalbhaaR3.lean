/- The reference's disk: Write. -/
import Derived.Test.YtplngodilalbhaaR2
import Derived.Laws.AppendOwnNone
namespace Go.Proofs.Ytplngodilalbhaa
open Go.RowKit Go.Shelf
/-- K, and what has come since. -/
def fenceK (K : Nat → Prop) (w w' : World) : Nat → Prop := fun k => K k ∨ w.heap.size ≤ k ∧ k < w'.heap.size
/-- The reference's disk in memory: its sectors and its writes. -/
structure Ref (K : Nat → Prop) (w : World) (sa : Option Addr) (sn : Nat) (wa : Option Addr) (wn wc : Nat) (S : List ByteArray) (W : List (Int × ByteArray)) : Prop where
  sn : sn = S.length
  s : ∃ b, sa = some ⟨b, 0, none⟩ ∧ K b ∧ StrRow w b S
  wn : wn = W.length
  ws : wa = none ∧ wc = 0 ∧ W = [] ∨ ∃ g, wa = some ⟨g, 0, none⟩ ∧ K g ∧ WrRow w g W
section
variable {K : Nat → Prop} {w w1 : World} {sa wa : Option Addr} {sn wn wc : Nat} {S : List ByteArray} {W : List (Int × ByteArray)}
theorem Ref.keep (h : Ref K w sa sn wa wn wc S W) (hk : ∀ k, K k → w1.heap[k]? = w.heap[k]?) : Ref K w1 sa sn wa wn wc S W := by
  obtain ⟨b, e, hb, hr⟩ := h.s
  refine ⟨h.sn, ⟨b, e, hb, hr.block (hk b hb)⟩, h.wn, ?_⟩
  rcases h.ws with h0 | ⟨g, e, hg, hr⟩
  · exact .inl h0
  · exact .inr ⟨g, e, hg, hr.block (hk g hg)⟩
theorem Ref.wider {L : Nat → Prop} (h : Ref K w sa sn wa wn wc S W) (hl : ∀ k, K k → L k) : Ref L w sa sn wa wn wc S W := by
  obtain ⟨b, e, hb, hr⟩ := h.s
  refine ⟨h.sn, ⟨b, e, hl b hb, hr⟩, h.wn, ?_⟩
  rcases h.ws with h0 | ⟨g, e, hg, hr⟩
  · exact .inl h0
  · exact .inr ⟨g, e, hl g hg, hr⟩
end
/-- The reference's disk and a number. -/
def RdRet (K : Nat → Prop) (S : List ByteArray) (W : List (Int × ByteArray)) (arm : Int) (dead : Bool) (ops : Int) (y : Int) (w : World) (e : Ending) (w' : World) : Prop :=
  ∃ sa sn sc wa wn wc, e = .returned (.tuple #[.agg #[.slice sa sn sc, .slice wa wn wc, .int .i64 arm, .bool dead, .int .i64 ops], .int .i64 y]) ∧ Ref (fenceK K w w') w' sa sn wa wn wc S W ∧ Below w.heap.size w w'
section
variable {w : World} {b : Nat} {v0 v1 v2 v3 v4 : Value}
/-- Five cells written anew. -/
def put5 (w : World) (b : Nat) (u0 u1 u2 u3 u4 : Value) : World := ((((w.setCell ⟨b, 0, none⟩ u0).setCell ⟨b, 1, none⟩ u1).setCell ⟨b, 2, none⟩ u2).setCell ⟨b, 3, none⟩ u3).setCell ⟨b, 4, none⟩ u4
theorem Five.put (h : Five w b v0 v1 v2 v3 v4) (u0 u1 u2 u3 u4 : Value) : Five (put5 w b u0 u1 u2 u3 u4) b u0 u1 u2 u3 u4 := by
  obtain ⟨c0, c1, c2, c3, c4, f0, f1, f2, f3, f4⟩ := h
  unfold put5
  constructor
  · rw [other _ _ _ _ _ (by omega), other _ _ _ _ _ (by omega), other _ _ _ _ _ (by omega), other _ _ _ _ _ (by omega)]; exact World.cell?_setCell_same _ _ _ c0
  · rw [other _ _ _ _ _ (by omega), other _ _ _ _ _ (by omega), other _ _ _ _ _ (by omega)]; exact World.cell?_setCell_same' _ _ _ (by rw [other _ _ _ _ _ (by omega), c1]; rfl)
  · rw [other _ _ _ _ _ (by omega), other _ _ _ _ _ (by omega)]; exact World.cell?_setCell_same' _ _ _ (by rw [other _ _ _ _ _ (by omega), other _ _ _ _ _ (by omega), c2]; rfl)
  · rw [other _ _ _ _ _ (by omega)]; exact World.cell?_setCell_same' _ _ _ (by rw [other _ _ _ _ _ (by omega), other _ _ _ _ _ (by omega), other _ _ _ _ _ (by omega), c3]; rfl)
  · exact World.cell?_setCell_same' _ _ _ (by rw [other _ _ _ _ _ (by omega), other _ _ _ _ _ (by omega), other _ _ _ _ _ (by omega), other _ _ _ _ _ (by omega), c4]; rfl)
  all_goals simp only [World.frozen?_setCell]; assumption
theorem put5_block (w : World) (b : Nat) (u0 u1 u2 u3 u4 : Value) (k : Nat) (h : k ≠ b) : (put5 w b u0 u1 u2 u3 u4).heap[k]? = w.heap[k]? := by
  unfold put5
  rw [Below.heap_setCell _ ⟨b, 4, none⟩ _ _ h, Below.heap_setCell _ ⟨b, 3, none⟩ _ _ h, Below.heap_setCell _ ⟨b, 2, none⟩ _ _ h, Below.heap_setCell _ ⟨b, 1, none⟩ _ _ h, Below.heap_setCell _ ⟨b, 0, none⟩ _ _ h]
theorem put5_size (w : World) (b : Nat) (u0 u1 u2 u3 u4 : Value) : (put5 w b u0 u1 u2 u3 u4).heap.size = w.heap.size := by simp [put5]
theorem put5_below {n : Nat} {w0 : World} (h : Below n w0 w) (hb : n ≤ b) (u0 u1 u2 u3 u4 : Value) : Below n w0 (put5 w b u0 u1 u2 u3 u4) := by
  unfold put5
  iterate 5 refine Below.setCell ?_ hb _
  exact h
end
end Go.Proofs.Ytplngodilalbhaa
