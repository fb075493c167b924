/- TopHomes: what each page may be, in memory. -/
import Derived.Test.YtplngodilalbhaaH2
import Derived.ArgAppend
namespace Go.Proofs.Ytplngodilalbhaa
open Go.RowKit Go.Shelf
/-- A row of pages of one byte, anywhere in block g, with room behind it. -/
def MRow (w : World) (v : Value) (g : Nat) (l : List UInt8) : Prop :=
  ∃ off cap, v = .slice (some ⟨g, off, none⟩) l.length cap ∧ l.length ≤ cap ∧ (∀ j, j < cap → (w.cell? ⟨g, off + j, none⟩).isSome = true ∧ w.frozen? ⟨g, off + j, none⟩ = false) ∧ ∀ j (hj : j < l.length), w.cell? ⟨g, off + j, none⟩ = some (.string (pgB l[j]))
theorem MRow.block {w w1 : World} {v : Value} {g : Nat} {l : List UInt8} (h : MRow w v g l) (hb : w1.heap[g]? = w.heap[g]?) : MRow w1 v g l := by
  obtain ⟨off, cap, h1, h2, h3, h4⟩ := h
  exact ⟨off, cap, h1, h2, fun j hj => ⟨by rw [World.cell?_of_block (a := ⟨g, off + j, none⟩) hb]; exact (h3 j hj).1, (World.frozen?_of_block (a := ⟨g, off + j, none⟩) hb).trans (h3 j hj).2⟩, fun j hj => (World.cell?_of_block (a := ⟨g, off + j, none⟩) hb).trans (h4 j hj)⟩
/-- The last one alone. -/
theorem MRow.last {w : World} {g off cap n : Nat} {l : List UInt8} (h : MRow w (.slice (some ⟨g, off, none⟩) n cap) g l) (hn : 1 ≤ n) : ∃ hl : n - 1 < l.length, n = l.length ∧ n ≤ cap ∧ MRow w (.slice (some ⟨g, off + (n - 1), none⟩) 1 (cap - (n - 1))) g [l[n - 1]] := by
  obtain ⟨off', cap', h1, h2, h3, h4⟩ := h
  injection h1 with e1 e2 e3
  injection e1 with e1
  injection e1 with _ e4
  subst e2 e3 e4
  refine ⟨by omega, rfl, h2, off + (l.length - 1), cap - (l.length - 1), rfl, by simp; omega, fun j hj => ?_, fun j hj => ?_⟩
  · have := h3 (l.length - 1 + j) (by omega)
    rw [← Nat.add_assoc] at this
    exact this
  · have hj' : j = 0 := by simpa using hj
    subst hj'
    exact h4 (l.length - 1) (by omega)
theorem mrow_append (w : World) (v : Value) (g : Nat) (l : List UInt8) (h : MRow w v g l) (c : UInt8) (sb : Nat) (hs : w.cell? ⟨sb, 0, none⟩ = some (.string (pgB c))) (hl : l.length ≤ 1000) (ty : TypeId) :
    ∃ v' w', (Builtin.append_ #[49, 49] ty #[v, .slice (some ⟨sb, 0, none⟩) 1 1]).run Try.prog w = .ok v' w' ∧ ∃ g', MRow w' v' g' (l ++ [c]) ∧ (g' = g ∨ w.heap.size ≤ g') ∧ g' < w'.heap.size ∧ w.grownBy w' (some g) := by
  obtain ⟨off, cap, rfl, h2, h3, h4⟩ := h
  obtain ⟨i0, hi0, hz0, hz1, hz2⟩ := info_parts info9
  have hnews : ∀ j u, [Value.string (pgB c)][j]? = some u → w.cell? ((⟨sb, 0, none⟩ : Addr).add j) = some u := by
    intro j u hj
    match j, hj with
    | 0, hj => simp at hj; subst hj; rw [add_nil]; exact hs
  have h1c : ∀ u ∈ [Value.string (pgB c)], u.oneCell' = true := by intro u hu; simp at hu; subst hu; rfl
  by_cases hroom : l.length + 1 ≤ cap
  · have hlast := h3 l.length (by omega)
    have hrun := run_append_room_cells (P := Try.prog) w 49 ty 9 i0 Try.underlying49 hi0 g off l.length cap ⟨sb, 0, none⟩ 1 1 [.string (pgB c)] (by rw [hz1]; rfl) hnews h1c hroom
      (by intro j hj; have hj' : j = 0 := by simpa using hj
          subst hj'; rw [hz1]; simpa using hlast.1)
      (by intro j hj; have hj' : j = 0 := by simpa using hj
          subst hj'; rw [hz1]; simpa using hlast.2)
    have hset : w.setCells g (off + l.length * i0.size) [.string (pgB c)] = w.setCell ⟨g, off + l.length, none⟩ (.string (pgB c)) := by rw [hz1]; simp [World.setCells]
    rw [hset] at hrun
    obtain ⟨u, hu⟩ := Option.isSome_iff_exists.1 hlast.1
    have hglt : g < w.heap.size := World.block_lt_of_cell? w _ hu
    refine ⟨_, _, hrun, g, ⟨off, cap, by simp, by simp; omega, fun j hj => ?_, fun j hj => ?_⟩, .inl rfl, by simpa using hglt, ⟨rfl, rfl, rfl, by simp, fun k hk hne => Below.heap_setCell w ⟨g, _, none⟩ _ k (fun e => hne (by rw [e]))⟩⟩
    · refine ⟨?_, by rw [World.frozen?_setCell]; exact (h3 j hj).2⟩
      by_cases hjl : j = l.length
      · subst hjl
        rw [World.cell?_setCell_same' _ _ _ hlast.1, Option.isSome_some]
      · rw [World.cell?_setCell_other _ _ _ _ (fun e => hjl (Nat.add_left_cancel (congrArg Addr.off e)).symm)]; exact (h3 j hj).1
    · by_cases hjl : j < l.length
      · rw [World.cell?_setCell_other _ _ _ _ (fun e => by have e2 : off + l.length = off + j := congrArg Addr.off e; clear e; omega), List.getElem_append_left hjl]
        exact h4 j hjl
      · have hjl' : j = l.length := by simp at hj; omega
        subst hjl'
        rw [World.cell?_setCell_same' _ _ _ hlast.1, List.getElem_append_right (Nat.le_refl _)]
        simp
  · obtain ⟨v', w', hr, hown, hgrow⟩ := run_append_arg_grows (P := Try.prog) w 49 ty 9 i0 (.string ⟨#[]⟩) 1 16 Try.underlying49 hi0 hz0 hz1 hz2 rfl (by decide) ⟨g, off, none⟩ l.length cap (l.map fun x => .string (pgB x)) (by simp)
      (by intro j u hj
          rw [List.getElem?_map] at hj
          obtain ⟨z, hz, rfl⟩ := Option.map_eq_some_iff.1 hj
          obtain ⟨hj', rfl⟩ := List.getElem?_eq_some_iff.1 hz
          rw [add_none]
          exact h4 j hj')
      ⟨sb, 0, none⟩ 1 1 [.string (pgB c)] rfl hnews (by omega) (by unfold maxLen; omega) (by omega)
    rcases hown.2 with ⟨rfl, h0⟩ | ⟨g', cp, cur, rfl, hgb, hgc, hnc, _, hcs, htake⟩
    · omega
    · have hcell : ∀ j, w'.cell? ⟨g', 0 + j, none⟩ = cur[j]? := fun j => by rw [Nat.zero_add, cell_of_row _ _ j _ _ _ hgc]
      refine ⟨_, w', hr, g', ⟨0, cp, by simp, by simp; omega, fun j hj => ?_, fun j hj => ?_⟩, .inr hgb, (Array.getElem?_eq_some_iff.1 hgc).1, ⟨hgrow.os, hgrow.tape, hgrow.output, hgrow.size, fun k hk _ => hgrow.block k hk (by simp)⟩⟩
      · constructor
        · rw [hcell, Array.getElem?_eq_getElem (by omega)]; rfl
        · unfold World.frozen?
          simp only [hgc]
          simp
      · have hcl := hown.cells (g := g') rfl j (.string (pgB (l ++ [c])[j])) (by
          rw [show (l.map fun x => Value.string (pgB x)) ++ [Value.string (pgB c)] = (l ++ [c]).map fun x => Value.string (pgB x) by simp, List.getElem?_map, List.getElem?_eq_getElem hj]; rfl)
        rw [add_nil] at hcl
        rw [Nat.zero_add]
        exact hcl
end Go.Proofs.Ytplngodilalbhaa
