/- Plain facts for the reference of Total, and its state. -/
import Derived.Test.YtmhfbgcfagfmbaaTC
import Derived.Test.YtmhfbgcfagfmbaaTF
namespace Go.Proofs.Ytmhfbgcfagfmbaa
open Go.RowKit

def AllOk (l : List (Int × Int)) : Prop := l.all okC = true
/-- All counts are valid, and so is the sum (s0, s1) of the first k. -/
def CSum (cs : List (Int × Int)) (k : Nat) (s0 s1 : Int) : Prop := cs.all okC = true ∧ SumsTo (cs.map (·.1)) k s0 ∧ SumsTo (cs.map (·.2)) k s1

theorem okC_parts {cs : List (Int × Int)} (h : cs.all okC = true) : (cs.map (·.1)).all inRB = true ∧ (cs.map (·.2)).all inRB = true := by
  simp only [List.all_map, List.all_eq_true, Function.comp] at h ⊢
  exact ⟨fun c hc => by have := h c hc; simp [okC, okB] at this; exact this.1, fun c hc => by have := h c hc; simp [okC, okB] at this; exact this.2⟩
theorem AllOk.snoc {cs : List (Int × Int)} {k : Nat} {x y : Int} (h : AllOk (cs.take k)) (hk : k < cs.length) (hx : cs.getD k (0, 0) = (x, y)) (hi : okB x y = true) : AllOk (cs.take (k + 1)) := by
  unfold AllOk at *
  rw [take_snoc_c cs k hk, hx]
  simp only [List.all_append, h, Bool.true_and, List.all_cons, List.all_nil, Bool.and_true]; exact hi
theorem getD_map1 {cs : List (Int × Int)} {k : Nat} {x y : Int} (hk : k < cs.length) (hx : cs.getD k (0, 0) = (x, y)) : (cs.map (·.1)).getD k 0 = x ∧ (cs.map (·.2)).getD k 0 = y := by
  have e : cs[k] = (x, y) := by rw [← hx]; simp [hk]
  constructor <;> simp [hk, e]
theorem okB_getD {cs : List (Int × Int)} {k : Nat} {x y : Int} (h : cs.all okC = true) (hk : k < cs.length) (hx : cs.getD k (0, 0) = (x, y)) : okB x y = true := by
  rw [List.all_eq_true] at h
  have e : cs[k] = (x, y) := by rw [← hx]; simp [hk]
  have := h _ (List.getElem_mem hk)
  rwa [e] at this
theorem CSum.start {cs : List (Int × Int)} {k : Nat} (h : AllOk (cs.take k)) (hk : cs.length ≤ k) : CSum cs 0 0 0 := by
  unfold AllOk at h
  rw [List.take_of_length_le hk] at h
  exact ⟨h, ⟨(okC_parts h).1, by simp, by omega⟩, ⟨(okC_parts h).2, by simp, by omega⟩⟩
theorem CSum.ok {cs : List (Int × Int)} {k : Nat} {s0 s1 : Int} (h : CSum cs k s0 s1) : okB s0 s1 = true := by
  simp [okB, h.2.1.in, h.2.2.in]

theorem totF_two {a b c d : Int} (h1 : okB a b = true) (h2 : okB c d = true) : totF [(a, b), (c, d)] = if 1125899906842624 < a + c ∨ 1125899906842624 < b + d then ((0, 0), 15) else ((a + c, b + d), 0) := by
  rw [← pairF_plus]
  unfold pairF
  rw [if_pos (by simp [h1, h2])]
  simp only [okB, Bool.and_eq_true] at h1 h2
  by_cases s1 : 1125899906842624 < a + c
  · rw [addF_gt h1.1 h2.1 s1]; simp [s1]
  · rw [addF_le h1.1 h2.1 s1]
    by_cases s2 : 1125899906842624 < b + d
    · rw [addF_gt h1.2 h2.2 s2]; simp [s2]
    · rw [addF_le h1.2 h2.2 s2]; simp [s1, s2]

theorem CSum.snoc {cs : List (Int × Int)} {k : Nat} {s0 s1 x y : Int} (h : CSum cs k s0 s1) (hk : k < cs.length) (hx : cs.getD k (0, 0) = (x, y)) (hi : ¬ (1125899906842624 < s0 + x ∨ 1125899906842624 < s1 + y)) : CSum cs (k + 1) (s0 + x) (s1 + y) := by
  obtain ⟨e1, e2⟩ := getD_map1 hk hx
  exact ⟨h.1, h.2.1.snoc (by simpa using hk) e1 (by omega), h.2.2.snoc (by simpa using hk) e2 (by omega)⟩

theorem totF_sums {cs : List (Int × Int)} (h : cs.all okC = true) : totF cs = if 1125899906842624 < (cs.map (·.1)).sum ∨ 1125899906842624 < (cs.map (·.2)).sum then ((0, 0), 15) else (((cs.map (·.1)).sum, (cs.map (·.2)).sum), 0) := by
  have n0 := sum_nonneg _ (okC_parts h).1
  have n1 := sum_nonneg _ (okC_parts h).2
  unfold totF
  rw [if_pos h]
  unfold resF
  by_cases hs : 1125899906842624 < (cs.map (·.1)).sum ∨ 1125899906842624 < (cs.map (·.2)).sum
  · rw [if_pos hs, if_neg]
    simp only [okB, Bool.and_eq_true, inRB_true]; omega
  · rw [if_neg hs, if_pos]
    · congr 2 <;> omega
    · simp only [okB, Bool.and_eq_true, inRB_true]; omega

theorem totF_ref_over {cs : List (Int × Int)} {k : Nat} {s0 s1 x y : Int} (h : CSum cs k s0 s1) (hk : k < cs.length) (hx : cs.getD k (0, 0) = (x, y)) (hi : 1125899906842624 < s0 + x ∨ 1125899906842624 < s1 + y) : totF cs = ((0, 0), 15) := by
  obtain ⟨e1, e2⟩ := getD_map1 hk hx
  rw [totF_sums h.1, if_pos]
  rcases hi with hi | hi
  · left
    have e : (cs.map (·.1)).sum = ((cs.map (·.1)).take (k + 1)).sum + ((cs.map (·.1)).drop (k + 1)).sum := by rw [← List.sum_append, List.take_append_drop]
    have e3 : ((cs.map (·.1)).take (k + 1)).sum = s0 + x := by rw [take_snoc_int _ k (by simpa using hk), e1, List.sum_append, h.2.1.2.1]; simp
    have := sum_nonneg _ (all_drop (okC_parts h.1).1 (k + 1))
    omega
  · right
    have e : (cs.map (·.2)).sum = ((cs.map (·.2)).take (k + 1)).sum + ((cs.map (·.2)).drop (k + 1)).sum := by rw [← List.sum_append, List.take_append_drop]
    have e3 : ((cs.map (·.2)).take (k + 1)).sum = s1 + y := by rw [take_snoc_int _ k (by simpa using hk), e2, List.sum_append, h.2.2.2.1]; simp
    have := sum_nonneg _ (all_drop (okC_parts h.1).2 (k + 1))
    omega
theorem totF_ref_end {cs : List (Int × Int)} {k : Nat} {s0 s1 : Int} (h : CSum cs k s0 s1) (hk : cs.length ≤ k) : totF cs = ((s0, s1), 0) := by
  have e1 := h.2.1.2.1
  have e2 := h.2.2.2.1
  rw [List.take_of_length_le (by simpa using hk)] at e1 e2
  have := h.2.1.2.2
  have := h.2.2.2.2
  rw [totF_sums h.1, if_neg (by omega), e1, e2]

/-- The result's cells are there, zero, and nothing old has turned. -/
structure RT (w wx : World) : Prop where
  below : Below w.heap.size w wx
  r0 : wx.cell? ⟨w.heap.size, 0, none⟩ = some (.int .i64 0)
  r1 : wx.cell? ⟨w.heap.size, 1, none⟩ = some (.int .i64 0)
  f0 : ∀ o, wx.frozen? ⟨w.heap.size, o, none⟩ = false
theorem RT.lt {w wx : World} (h : RT w wx) : w.heap.size < wx.heap.size := World.block_lt_of_cell? wx _ h.r0
theorem RT.later {w wx w2 : World} (h : RT w wx) (hb : Below wx.heap.size wx w2) : RT w w2 :=
  ⟨h.below.trans (hb.mono h.below.size), (hb.cell (p := ⟨w.heap.size, 0, none⟩) h.lt).trans h.r0, (hb.cell (p := ⟨w.heap.size, 1, none⟩) h.lt).trans h.r1, fun o => (hb.frozen (p := ⟨w.heap.size, o, none⟩) h.lt).trans (h.f0 o)⟩
theorem RT.setCell {w wx : World} (h : RT w wx) {p : Addr} (hp : w.heap.size < p.block) (v : Value) : RT w (wx.setCell p v) := by
  have hne : p.block ≠ w.heap.size := by omega
  exact ⟨h.below.setCell (by omega) _, by rw [World.cell?_setCell_far _ _ _ _ (by simpa using hne)]; exact h.r0, by rw [World.cell?_setCell_far _ _ _ _ (by simpa using hne)]; exact h.r1,
    fun o => by have := h.f0 o; rwa [World.frozen?_of_block (w := wx) (Below.heap_setCell _ _ _ _ (by simpa using Ne.symm hne))]⟩

/-- The sum's cells, at block bc. -/
structure CT (w : World) (bc : Nat) (s0 s1 : Int) (wx : World) : Prop where
  rt : RT w wx
  c0 : wx.cell? ⟨bc, 0, none⟩ = some (.int .i64 s0)
  c1 : wx.cell? ⟨bc, 1, none⟩ = some (.int .i64 s1)
  f1 : ∀ o, wx.frozen? ⟨bc, o, none⟩ = false
  new : w.heap.size < bc
theorem CT.lt {w : World} {bc : Nat} {s0 s1 : Int} {wx : World} (h : CT w bc s0 s1 wx) : bc < wx.heap.size := World.block_lt_of_cell? wx _ h.c0
theorem CT.later {w : World} {bc : Nat} {s0 s1 : Int} {wx w2 : World} (h : CT w bc s0 s1 wx) (hb : Below wx.heap.size wx w2) : CT w bc s0 s1 w2 :=
  ⟨h.rt.later hb, (hb.cell (p := ⟨bc, 0, none⟩) h.lt).trans h.c0, (hb.cell (p := ⟨bc, 1, none⟩) h.lt).trans h.c1, fun o => (hb.frozen (p := ⟨bc, o, none⟩) h.lt).trans (h.f1 o), h.new⟩
theorem CT.other {w : World} {bc : Nat} {s0 s1 : Int} {wx : World} (h : CT w bc s0 s1 wx) {p : Addr} (hp : bc < p.block) (v : Value) : CT w bc s0 s1 (wx.setCell p v) := by
  have hn := h.new
  have hne : p.block ≠ bc := by omega
  exact ⟨h.rt.setCell (by omega) _, by rw [World.cell?_setCell_far _ _ _ _ (by simpa using hne)]; exact h.c0, by rw [World.cell?_setCell_far _ _ _ _ (by simpa using hne)]; exact h.c1,
    fun o => by have := h.f1 o; rwa [World.frozen?_of_block (w := wx) (Below.heap_setCell _ _ _ _ (by simpa using Ne.symm hne))], h.new⟩
theorem CT.stored {w : World} {bc : Nat} {s0 s1 : Int} {wx : World} (h : CT w bc s0 s1 wx) (t0 t1 : Int) : CT w bc t0 t1 ((wx.setCell ⟨bc, 0, none⟩ (.int .i64 t0)).setCell ⟨bc, 1, none⟩ (.int .i64 t1)) :=
  ⟨(h.rt.setCell h.new _).setCell h.new _, by simp [go_sem, h.c0], by simp [go_sem, h.c1], fun o => by simp [go_sem, h.f1], h.new⟩
end Go.Proofs.Ytmhfbgcfagfmbaa
