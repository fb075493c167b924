/- TopHomes: pages to be written; rows and disks that grow. -/
import Derived.Test.YtplngodilalbhaaH4
import Derived.BigRegion
namespace Go.Proofs.Ytplngodilalbhaa
open Go.RowKit Go.Shelf
set_option linter.unusedVariables false
/-- A page that is written. -/
structure HomeR where
  page : UInt8
  byte : UInt8
  fl : Bool
instance : Inhabited HomeR := ⟨⟨0, 0, false⟩⟩
/-- The page at block b. -/
structure HomeAt (w : World) (b off : Nat) (r : HomeR) : Prop where
  c0 : w.cell? ⟨b, off, none⟩ = some (.int .u8 (r.page.toNat : Int))
  c1 : w.cell? ⟨b, off + 1, none⟩ = some (.int .u8 (r.byte.toNat : Int))
  c2 : w.cell? ⟨b, off + 2, none⟩ = some (.bool r.fl)
def Homes (K : Nat → Prop) (w : World) (a : Option Addr) (n : Nat) (l : List HomeR) : Prop :=
  l.length = n ∧ (n = 0 ∨ ∃ b off, a = some ⟨b, off, none⟩ ∧ K b ∧ ∀ j (hj : j < l.length), HomeAt w b (off + j * 3) l[j])
theorem Homes.keep {K : Nat → Prop} {w w1 : World} {a : Option Addr} {n : Nat} {l : List HomeR} (h : Homes K w a n l) (hk : Keep K w w1) : Homes K w1 a n l :=
  ⟨h.1, h.2.imp id fun ⟨b, off, e, hb, hj⟩ => ⟨b, off, e, hb, fun j hj' => let q := hj j hj'; ⟨(World.cell?_of_block (a := ⟨b, off + j * 3, none⟩) (hk.block b hb)).trans q.c0, (World.cell?_of_block (a := ⟨b, off + j * 3 + 1, none⟩) (hk.block b hb)).trans q.c1, (World.cell?_of_block (a := ⟨b, off + j * 3 + 2, none⟩) (hk.block b hb)).trans q.c2⟩⟩⟩
theorem info49 : (Try.prog.info? 49).map (fun i => (i.zero, i.size, i.bytes)) = some (some (.slice none 0 0), 1, 24) := by kernel_rfl
set_option maxRecDepth 100000 in
theorem run_make49 (w : World) (m : Nat) (hm : m ≤ 1048576) :
    (Instr.makeSlice 75 (.int .i64 (m : Int)) (.int .i64 (m : Int))).run Try.prog w = .ok (.slice (some ⟨w.heap.size, 0, none⟩) m m) (w.alloc (.cells (List.replicate m (.slice none 0 0)).toArray 49)) := by
  obtain ⟨i0, hi, hz0, hz1, hz2⟩ := info_parts info49
  have := run_make (P := Try.prog) w 75 49 i0 _ Try.underlying75 hi hz0 .i64 .i64 m m (by omega) (by omega) (by rw [hz2]; omega) (by omega)
  rw [this]
  simp only [Int.toNat_natCast]
  congr 3
  rw [hz1]
  apply Array.ext
  · simp [madeCells]
  · intro i h1 h2
    simp [madeCells, Value.cells, Nat.mod_one]
/-- Cells that can be written. -/
def Cells (w : World) (b n : Nat) : Prop := ∀ j, j < n → (w.cell? ⟨b, j, none⟩).isSome = true ∧ w.frozen? ⟨b, j, none⟩ = false
theorem Cells.made (w : World) (m : Nat) (v : Value) (t : TypeId) : Cells (w.alloc (.cells (List.replicate m v).toArray t)) w.heap.size m := by
  intro j hj
  have hg : (w.alloc (.cells (List.replicate m v).toArray t)).heap[w.heap.size]? = some (.cells (List.replicate m v).toArray t (0, 0)) := by
    show (w.heap.push _)[w.heap.size]? = _
    simp
  constructor
  · rw [cell_of_row _ _ j _ _ _ hg]
    simp [hj]
  · unfold World.frozen?
    simp only [hg]
    simp
theorem Cells.block {w w1 : World} {b n : Nat} (h : Cells w b n) (hb : w1.heap[b]? = w.heap[b]?) : Cells w1 b n := fun j hj => ⟨by rw [World.cell?_of_block (a := ⟨b, j, none⟩) hb]; exact (h j hj).1, (World.frozen?_of_block (a := ⟨b, j, none⟩) hb).trans (h j hj).2⟩
theorem Cells.set {w : World} {b n i : Nat} {v : Value} (h : Cells w b n) : Cells (w.setCell ⟨b, i, none⟩ v) b n := fun j hj => by
  refine ⟨?_, by rw [World.frozen?_setCell]; exact (h j hj).2⟩
  by_cases hij : i = j
  · subst hij; rw [World.cell?_setCell_same' _ _ _ (h i hj).1, Option.isSome_some]
  · rw [World.cell?_setCell_other _ _ _ _ (fun e => hij (congrArg Addr.off e))]; exact (h j hj).1
/-- A row more. -/
theorem May.snoc {K L : Nat → Prop} {w w1 : World} {mb : Nat} {G : Nat → Nat} {M : List (List UInt8)} (h : May K w mb G M) {v' : Value} {g' k : Nat} {l' : List UInt8} (hk : k = M.length) (hl : ∀ k, K k → L k)
    (hgr : ∀ k, K k → w1.heap[k]? = w.heap[k]?) (hc : (w1.cell? ⟨mb, k, none⟩).isSome = true ∧ w1.frozen? ⟨mb, k, none⟩ = false) (hr : MRow w1 v' g' l') (hg : ¬ K g') (hgL : L g') :
    May L (w1.setCell ⟨mb, k, none⟩ v') mb (fun i => if i = k then g' else G i) (M ++ [l']) := by
  subst hk
  have hgm : g' ≠ mb := by rintro rfl; exact hg h.own
  refine ⟨hl _ h.own, fun i hi => ?_, fun i hi => ?_, fun i j hi hj hij => ?_⟩
  · by_cases hip : i = M.length
    · subst hip
      refine ⟨v', World.cell?_setCell_same' _ _ _ hc.1, by rw [World.frozen?_setCell]; exact hc.2, ?_⟩
      simp only [if_pos]
      rw [List.getElem_append_right (Nat.le_refl _)]
      simp only [Nat.sub_self, List.getElem_singleton]
      exact hr.block (Below.heap_setCell w1 ⟨mb, _, none⟩ v' g' hgm)
    · have hi' : i < M.length := by simp at hi; omega
      obtain ⟨v, h1, h2, h3⟩ := h.row i hi'
      have hmb := hgr mb h.own
      refine ⟨v, (World.cell?_setCell_other _ _ _ _ (fun e => hip (congrArg Addr.off e).symm)).trans ((World.cell?_of_block (a := ⟨mb, i, none⟩) hmb).trans h1), by rw [World.frozen?_setCell, World.frozen?_of_block (a := ⟨mb, i, none⟩) hmb]; exact h2, ?_⟩
      simp only [if_neg hip]
      rw [List.getElem_append_left hi']
      exact h3.block ((Below.heap_setCell w1 ⟨mb, _, none⟩ v' _ (h.ne i hi').1).trans (hgr _ (h.ne i hi').2))
  · by_cases hip : i = M.length
    · subst hip; simp only [if_pos]; exact ⟨hgm, hgL⟩
    · have hi' : i < M.length := by simp at hi; omega
      simp only [if_neg hip]; exact ⟨(h.ne i hi').1, hl _ (h.ne i hi').2⟩
  · by_cases hip : i = M.length
    · have hj' : j < M.length := by simp at hj; omega
      have hjp : ¬ j = M.length := by omega
      simp only [if_pos hip, if_neg hjp]
      rintro rfl; exact hg (h.ne j hj').2
    · have hi' : i < M.length := by simp at hi; omega
      by_cases hjp : j = M.length
      · simp only [if_neg hip, if_pos hjp]
        rintro rfl; exact hg (h.ne i hi').2
      · have hj' : j < M.length := by simp at hj; omega
        simp only [if_neg hip, if_neg hjp]; exact h.inj i j hi' hj' hij
theorem MRow.one (w : World) (c : UInt8) : MRow (w.alloc (.cells #[.string (pgB c)] 9)) (.slice (some ⟨w.heap.size, 0, none⟩) 1 1) w.heap.size [c] := by
  refine ⟨0, 1, rfl, Nat.le_refl _, fun j hj => ?_, fun j hj => ?_⟩
  · obtain rfl : j = 0 := by omega
    constructor <;> simp [go_sem]
  · obtain rfl : j = 0 := by simpa using hj
    simp [go_sem]
theorem Disk.grow {K : Nat → Prop} {w w1 : World} {d sb : Nat} {S : List ByteArray} {pv : Value} {P : List (Int × ByteArray)} {fuse : Int} {down : Bool} {ops : Int} (h : Disk K w d sb S pv P fuse down ops) (hs : w.heap.size ≤ w1.heap.size) (hb : ∀ k, k < w.heap.size → ¬ K k → w1.heap[k]? = w.heap[k]?) : Disk (fun k => K k ∨ w.heap.size ≤ k ∧ k < w1.heap.size) w1 d sb S pv P fuse down ops := by
  have g := h.same hs (hb d h.dlt h.nd) (hb sb h.slt h.ns) (fun k hk => hb k (h.pend.lt k hk).2 (h.np k hk).1)
  refine ⟨g.c0, g.c1, g.c2, g.c3, g.c4, g.f1, g.f2, g.f3, g.f4, g.row, g.pend, ?_, ?_, ?_, g.ne, g.slt, ?_⟩
  · rintro (hk | hk)
    · exact h.nd hk
    · have := h.dlt; omega
  · rintro (hk | hk)
    · exact h.ns hk
    · have := h.slt; omega
  · intro k hk
    refine ⟨?_, (h.np k hk).2⟩
    rintro (hk2 | hk2)
    · exact (h.np k hk).1 hk2
    · have := (h.pend.lt k hk).2; omega
  · rintro k (hk | hk)
    · have := h.lt k hk; omega
    · exact hk.2
theorem pgB_zero : pgB 0 = z480 := rfl
theorem homeB_zero (a : Nat) : homeB a (pgB 0) = z512 := by unfold homeB; rw [if_pos pgB_zero]
theorem inv_new (m : Nat) : Inv (List.replicate m z512) [] (List.replicate m [0]) := by
  refine ⟨by rw [List.length_replicate, List.length_replicate], fun x hx => by simp at hx, fun i hi => ⟨0, ?_, ?_⟩⟩
  · have hi' : i < m := by simpa using hi
    rw [homeB_zero, List.getElem?_replicate, if_pos hi']
  · rw [List.getElem_replicate]; rfl
end Go.Proofs.Ytplngodilalbhaa
