/- Contract: Copy. -/
import Derived.Test.YtplngodilalbhaaD9
namespace Go.Proofs.Ytplngodilalbhaa
open Go.RowKit Go.Shelf
section
variable {K : Nat → Prop} {w w1 : World} {d sb : Nat} {S : List ByteArray} {pv : Value} {P : List (Int × ByteArray)} {fuse : Int} {down : Bool} {ops : Int}
theorem flat_one (P : List (Int × ByteArray)) : ∀ u ∈ flat P, u.oneCell' = true := by
  intro u hu
  unfold flat at hu
  obtain ⟨x, _, hx⟩ := List.mem_flatMap.1 hu
  simp at hx
  rcases hx with rfl | rfl <;> rfl
/-- New pending writes. -/
def WrsRet (P : List (Int × ByteArray)) (w : World) (e : Ending) (w' : World) : Prop :=
  ∃ pv', e = .returned pv' ∧ w'.ownsRow w.heap.size 107 2 pv' P.length (flat P) ∧ Below w.heap.size w w'
set_option maxRecDepth 100000 in
theorem clone_wrs (w : World) (hp : w.ownsRow 0 107 2 pv P.length (flat P)) (hP : P.length ≤ 1000000) : Calls Try.prog 67 #[pv] w (WrsRet P w) := by
  rcases hp.2 with ⟨rfl, hn⟩ | ⟨g, cap, cur, rfl, h1, h2, h3⟩
  · refine (AnyE.slices_Clone_nil Try.clone67 0 0 w).mono ?_
    rintro e w' ⟨rfl, rfl⟩
    obtain rfl : P = [] := List.eq_nil_of_length_eq_zero hn
    exact ⟨_, rfl, World.ownsRow_nil _ _ _ _, Below.refl _ _⟩
  · have hc := hp.cells (g := g) rfl
    refine (AnyE.slices_Clone Try.clone67 _ (.agg #[.int .i64 0, .string ⟨#[]⟩]) 2 24 rfl rfl rfl rfl rfl (by omega) (fun w => rfl) g 0 P.length cap (flat P) w (flat_length P) (by unfold maxLen; omega) (by omega)
      (fun j u hj => by have := hc j u hj; rw [add_nil] at this; rw [Nat.zero_add]; exact this) (flat_one P)).mono ?_
    rintro e w' ⟨v, rfl, ho, hn, hB⟩
    exact ⟨v, rfl, ho, hB⟩
/-- A disk of its own, in new memory. -/
def CopyRet (K : Nat → Prop) (S : List ByteArray) (P : List (Int × ByteArray)) (fuse : Int) (down : Bool) (ops : Int) (w : World) (e : Ending) (w' : World) : Prop :=
  ∃ d' sb' pv', e = .returned (.pointer (some ⟨d', 0, none⟩)) ∧ Disk K w' d' sb' S pv' P fuse down ops ∧ w.heap.size ≤ d' ∧ w.heap.size ≤ sb' ∧ (∀ k, pv'.ownBlock = some k → w.heap.size ≤ k) ∧ Below w.heap.size w w'
theorem Disk.copied (hK : ∀ k, K k → k < w.heap.size) {w1 w2 : World} {g cap sc : Nat} {pv0 pv' : Value} {sa : Option Addr} {o : Obj}
    (ho : o = .cells #[.slice sa S.length sc, pv0, .int .i64 fuse, .bool down, .int .i64 ops] 95)
    (B1 : Below (w.heap.size + 1) (w.alloc o) w1) (hg : w.heap.size + 1 ≤ g) (own1 : w1.ownsRow (w.heap.size + 1) 9 1 (.slice (some ⟨g, 0, none⟩) S.length cap) S.length (S.map Value.string))
    (B2 : Below w1.heap.size (w1.setCell ⟨w.heap.size, 0, none⟩ (.slice (some ⟨g, 0, none⟩) S.length cap)) w2)
    (own2 : w2.ownsRow w1.heap.size 107 2 pv' P.length (flat P)) :
    Disk K (w2.setCell ⟨w.heap.size, 1, none⟩ pv') w.heap.size g S pv' P fuse down ops ∧ (∀ k, pv'.ownBlock = some k → w.heap.size ≤ k) ∧ Below w.heap.size w (w2.setCell ⟨w.heap.size, 1, none⟩ pv') := by
  have hs1 : w.heap.size < w1.heap.size := by have := B1.size; simp at this; omega
  have hs2 : w1.heap.size ≤ w2.heap.size := by have := B2.size; simpa using this
  have a0 : ∀ j, w1.cell? ⟨w.heap.size, j, none⟩ = (w.alloc o).cell? ⟨w.heap.size, j, none⟩ := fun j => B1.cell (p := ⟨w.heap.size, j, none⟩) (by show w.heap.size < _; omega)
  have e0 : ∀ j, w1.frozen? ⟨w.heap.size, j, none⟩ = (w.alloc o).frozen? ⟨w.heap.size, j, none⟩ := fun j => B1.frozen (p := ⟨w.heap.size, j, none⟩) (by show w.heap.size < _; omega)
  have a1 : ∀ j, w2.cell? ⟨w.heap.size, j, none⟩ = (w1.setCell ⟨w.heap.size, 0, none⟩ (.slice (some ⟨g, 0, none⟩) S.length cap)).cell? ⟨w.heap.size, j, none⟩ := fun j => B2.cell (p := ⟨w.heap.size, j, none⟩) hs1
  have e1 : ∀ j, w2.frozen? ⟨w.heap.size, j, none⟩ = w1.frozen? ⟨w.heap.size, j, none⟩ := fun j => (B2.frozen (p := ⟨w.heap.size, j, none⟩) hs1).trans (World.frozen?_setCell ..)
  have b0 : w2.cell? ⟨w.heap.size, 0, none⟩ = some (.slice (some ⟨g, 0, none⟩) S.length cap) := by
    rw [a1]
    exact World.cell?_setCell_same' _ _ _ (by rw [a0, ho]; simp [go_sem])
  have bj : ∀ j, j ≠ 0 → w2.cell? ⟨w.heap.size, j, none⟩ = (w.alloc o).cell? ⟨w.heap.size, j, none⟩ := fun j hj => by rw [a1, other _ _ _ _ _ (fun e => hj e.symm), a0]
  have fj : ∀ j, w2.frozen? ⟨w.heap.size, j, none⟩ = (w.alloc o).frozen? ⟨w.heap.size, j, none⟩ := fun j => (e1 j).trans (e0 j)
  have row1 := StrRow.of_own own1
  rcases own1.2 with ⟨hv, _⟩ | ⟨g', cp, cur, hv, hgb, hgc, _⟩
  · cases hv
  obtain ⟨rfl, rfl⟩ : g = g' ∧ cap = cp := by injection hv with e1 _ e3; injection e1 with e2; injection e2 with e4; exact ⟨e4, e3⟩
  have hgs : g < w1.heap.size := (Array.getElem?_eq_some_iff.1 hgc).1
  have hg2 : w2.heap[g]? = some (.cells cur 9 (0, 0)) := (B2.block g hgs).trans ((Below.heap_setCell w1 ⟨w.heap.size, 0, none⟩ _ g (by show g ≠ w.heap.size; omega)).trans hgc)
  have row2 : StrRow w2 g S := fun j hj => by
    rw [World.cell?_of_block (a := ⟨g, j, none⟩) (w := w1) (w' := w2) (hg2.trans hgc.symm)]
    exact row1 j hj
  have hown : ∀ k, pv'.ownBlock = some k → w1.heap.size ≤ k := fun k hk => (own2.lt k hk).1
  refine ⟨⟨⟨cap, (other _ _ _ _ _ (by omega)).trans b0⟩, World.cell?_setCell_same' _ _ _ (by rw [bj 1 (by omega), ho]; simp [go_sem]), (other _ _ _ _ _ (by omega)).trans ((bj 2 (by omega)).trans (by rw [ho]; simp [go_sem])), (other _ _ _ _ _ (by omega)).trans ((bj 3 (by omega)).trans (by rw [ho]; simp [go_sem])), (other _ _ _ _ _ (by omega)).trans ((bj 4 (by omega)).trans (by rw [ho]; simp [go_sem])),
    (World.frozen?_setCell ..).trans ((fj 1).trans (by rw [ho]; simp [go_sem])), (World.frozen?_setCell ..).trans ((fj 2).trans (by rw [ho]; simp [go_sem])), (World.frozen?_setCell ..).trans ((fj 3).trans (by rw [ho]; simp [go_sem])), (World.frozen?_setCell ..).trans ((fj 4).trans (by rw [ho]; simp [go_sem])), ?_, ⟨own2.1, ?_⟩, ?_, ?_, ?_, by omega, by simp; omega, ?_⟩, ?_, ?_⟩
  · intro j hj
    refine ⟨(World.cell?_setCell_other _ _ _ _ (fun e => by injection e with e1 _ _; omega)).trans (row2 j hj), (World.frozen?_setCell ..).trans ?_⟩
    unfold World.frozen?
    simp only [hg2]
    simp
  · rcases own2.2 with hn | ⟨g3, cp3, cur3, hv3, h1, h2, h3⟩
    · exact .inl hn
    · exact .inr ⟨g3, cp3, cur3, hv3, Nat.zero_le _, (Below.heap_setCell w2 ⟨w.heap.size, 1, none⟩ _ g3 (by show g3 ≠ w.heap.size; omega)).trans h2, h3⟩
  · intro hk; have := hK _ hk; omega
  · intro hk; have := hK _ hk; omega
  · intro k hk
    have h1 := hown k hk
    exact ⟨fun hk2 => by have := hK _ hk2; omega, by omega, by omega⟩
  · intro k hk; have := hK k hk; simp; omega
  · intro k hk; have := hown k hk; omega
  · have q1 : Below w.heap.size w w1 := ((Below.refl w.heap.size w).alloc (Nat.le_refl _) o).trans (B1.mono (by omega))
    have q2 := q1.setCell (p := ⟨w.heap.size, 0, none⟩) (Nat.le_refl _) (.slice (some ⟨g, 0, none⟩) S.length cap)
    exact (q2.trans (B2.mono (by omega))).setCell (p := ⟨w.heap.size, 1, none⟩) (Nat.le_refl _) _
set_option maxHeartbeats 1000000 in
theorem copy_any (h : Disk K w d sb S pv P fuse down ops) (hS : S.length ≤ 1000000) (hP : P.length ≤ 1000000) : Calls Try.prog 39 #[.pointer (some ⟨d, 0, none⟩)] w (CopyRet K S P fuse down ops w) := by
  obtain ⟨pa, pc, rfl⟩ := h.pvForm
  obtain ⟨sc, c0⟩ := h.c0
  have c1 := h.c1
  have c2 := h.c2
  have c3 := h.c3
  have c4 := h.c4
  have hA := h.below ((Below.refl w.heap.size w).alloc (Nat.le_refl _) (.cells #[.slice (some ⟨sb, 0, none⟩) S.length sc, .slice pa P.length pc, .int .i64 fuse, .bool down, .int .i64 ops] 95))
  have n1 := Lib.hid (clone_strs sb S.length sc rfl (w.alloc (.cells #[.slice (some ⟨sb, 0, none⟩) S.length sc, .slice pa P.length pc, .int .i64 fuse, .bool down, .int .i64 ops] 95)) hS (fun j hj => (hA.row j hj).1))
  have hdn : d < w.heap.size := h.dlt
  go_enter Try.func39, Try.ntmps39
  go_wp2_with fail
  refine n1.out.mono ?_
  rintro e w1 ⟨g, cap, rfl, h1, h2, h3, hB⟩
  have hB1 := hA.below hB
  obtain ⟨wa, hwa⟩ : ∃ wa, w.alloc (.cells #[.slice (some ⟨sb, 0, none⟩) S.length sc, .slice pa P.length pc, .int .i64 fuse, .bool down, .int .i64 ops] 95) = wa := ⟨_, rfl⟩
  have hwz : wa.heap.size = w.heap.size + 1 := by rw [← hwa]; simp
  have hq : ∀ j, w1.cell? ⟨w.heap.size, j, none⟩ = (w.alloc (.cells #[.slice (some ⟨sb, 0, none⟩) S.length sc, .slice pa P.length pc, .int .i64 fuse, .bool down, .int .i64 ops] 95)).cell? ⟨w.heap.size, j, none⟩ := fun j => hB.cell (p := ⟨w.heap.size, j, none⟩) (by simp)
  have k0 : w1.cell? ⟨w.heap.size, 0, none⟩ = some (.slice (some ⟨sb, 0, none⟩) S.length sc) := (hq 0).trans (by simp [go_sem])
  have k1 : w1.cell? ⟨w.heap.size, 1, none⟩ = some (.slice pa P.length pc) := (hq 1).trans (by simp [go_sem])
  have e0 : w1.frozen? ⟨w.heap.size, 0, none⟩ = false := (hB.frozen (p := ⟨w.heap.size, 0, none⟩) (by simp)).trans (by simp [go_sem])
  have e1 : w1.frozen? ⟨w.heap.size, 1, none⟩ = false := (hB.frozen (p := ⟨w.heap.size, 1, none⟩) (by simp)).trans (by simp [go_sem])
  rw [hwa] at h1 h3 hB
  rw [hwz] at h1 h3 hB
  rw [← hwa] at hB
  have HW := Lib.hid hwa
  clear hwa hwz hq c0 c1 c2 c3 c4 hA n1
  have m1 := hB1.c1
  have hs1 : w.heap.size < w1.heap.size := World.block_lt_of_cell? w1 _ k0
  have hdne : d ≠ w.heap.size := by omega
  have u1 : (w1.setCell ⟨w.heap.size, 0, none⟩ (.slice (some ⟨g, 0, none⟩) S.length cap)).cell? ⟨d, 1, none⟩ = some (.slice pa P.length pc) := (World.cell?_setCell_other _ _ _ _ (fun e => by injection e with e1 _ _; omega)).trans m1
  have hP1 : (w1.setCell ⟨w.heap.size, 0, none⟩ (.slice (some ⟨g, 0, none⟩) S.length cap)).ownsRow 0 107 2 (.slice pa P.length pc) P.length (flat P) := by
    refine ⟨hB1.pend.1, ?_⟩
    rcases hB1.pend.2 with hn | ⟨g3, cp3, cur3, hv3, q1, q2, q3⟩
    · exact .inl hn
    · have hlt := (h.pend.lt g3 (by rw [hv3]; rfl)).2
      exact .inr ⟨g3, cp3, cur3, hv3, q1, (Below.heap_setCell w1 ⟨w.heap.size, 0, none⟩ _ g3 (by show g3 ≠ w.heap.size; omega)).trans q2, q3⟩
  have n2 := Lib.hid (clone_wrs _ hP1 hP)
  clear hP1 hB1
  go_wp2_with fail
  refine n2.out.mono ?_
  rintro e w2 ⟨pv', rfl, own2, B2⟩
  obtain ⟨pa2, pc2, rfl⟩ : ∃ pa2 pc2, pv' = .slice pa2 P.length pc2 := by
    rcases own2.2 with ⟨rfl, hn⟩ | ⟨g, cap, cur, rfl, _⟩
    · exact ⟨none, 0, by rw [hn]⟩
    · exact ⟨_, _, rfl⟩
  have B2' : Below w1.heap.size (w1.setCell ⟨w.heap.size, 0, none⟩ (.slice (some ⟨g, 0, none⟩) S.length cap)) w2 := by simpa using B2
  have own2' : w2.ownsRow w1.heap.size 107 2 (.slice pa2 P.length pc2) P.length (flat P) := by simpa using own2
  have z1 : w2.cell? ⟨w.heap.size, 1, none⟩ = some (.slice pa P.length pc) := (B2'.cell (p := ⟨w.heap.size, 1, none⟩) hs1).trans ((other _ _ _ _ _ (by omega)).trans k1)
  have z2 : w2.frozen? ⟨w.heap.size, 1, none⟩ = false := (B2'.frozen (p := ⟨w.heap.size, 1, none⟩) hs1).trans ((World.frozen?_setCell ..).trans e1)
  clear B2 own2 n2 u1 m1 k0 k1 e0 e1
  go_wp2_with fail
  go_ret
  obtain ⟨r1, r2, r3⟩ := Disk.copied (K := K) h.lt rfl hB h1 h3 B2' own2'
  exact ⟨_, _, _, rfl, r1, Nat.le_refl _, by omega, r2, r3⟩
end
end Go.Proofs.Ytplngodilalbhaa
