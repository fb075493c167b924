/- Contract: the reference's Pad. -/
import Derived.Test.YtnjpijihjifkfaaO7
import Derived.Lib.BufferWrite
namespace Go.Proofs.Ytnjpijihjifkfaa
open Go.RowKit
theorem BRow.cells (w : World) (C : Array Value) (l : List UInt8) (h : C.toList = l.map fun b => Value.int .u8 (b.toNat : Int)) : BRow (w.alloc (.cells C 5)) w.heap.size l := by
  intro j hj
  have hg : (w.alloc (.cells C 5)).heap[w.heap.size]? = some (.cells C 5 (0, 0)) := by
    show (w.heap.push _)[w.heap.size]? = _
    simp
  constructor
  · rw [cell_of_row _ _ j _ _ _ hg, ← Array.getElem?_toList, h, List.getElem?_map, List.getElem?_eq_getElem hj]
    rfl
  · unfold World.frozen?
    simp only [hg]
    simp
theorem copy5 (w : World) (n : Nat) (s : ByteArray) (h : s.size ≤ n) :
    ∃ C, (Builtin.copy_ #[85, 9] 3 #[.slice (some ⟨w.heap.size, 0, none⟩) n n, .string s]).run Try.prog (w.alloc (.cells (Array.replicate n (.int .u8 0)) 5)) = .ok (goInt s.size) (w.alloc (.cells C 5)) ∧
      BRow (w.alloc (.cells C 5)) w.heap.size (s.data.toList ++ List.replicate (n - s.size) 0) := by
  have hg : (w.alloc (.cells (Array.replicate n (.int .u8 0)) 5)).heap[w.heap.size]? = some (.cells (Array.replicate n (.int .u8 0)) 5 (0, 0)) := by
    show (w.heap.push _)[w.heap.size]? = _
    simp
  have := Lib.run_copy_row_string (P := Try.prog) _ 85 9 3 5 w.heap.size 0 n n s _ 5 Try.underlying85 (by kernel_rfl) hg h (by simpa using h)
  rw [World.setRow_alloc_new] at this
  refine ⟨_, this, BRow.cells _ _ _ ?_⟩
  simp [Lib.byteCells]
theorem rpad_same (s : ByteArray) (n : Int) (w : World) (h : 65536 < n ∨ n ≤ (s.size : Int)) (hs : s.size ≤ maxLen) : Calls Try.prog 57 #[.string s, .int .i64 n] w fun e w' => e = .returned (.string s) ∧ w = w' := by
  replace hs : s.size ≤ 9223372036854775807 := hs
  by_cases h1 : 65536 < n
  · go_enter Try.func57, Try.ntmps57
    go_wp2
    go_ret
    exact ⟨rfl, rfl⟩
  · have h2 : n ≤ (s.size : Int) := by omega
    clear h
    go_enter Try.func57, Try.ntmps57
    go_wp2
    go_ret
    exact ⟨rfl, rfl⟩
set_option maxRecDepth 100000 in
theorem rpad_more (s : ByteArray) (n : Int) (w : World) (h1 : n ≤ 65536) (h2 : (s.size : Int) < n) : Calls Try.prog 57 #[.string s, .int .i64 n] w fun e w' => e = .returned (.string (s ++ bs (List.replicate (n - s.size).toNat 0))) ∧ Below w.heap.size w w' := by
  obtain ⟨m, rfl⟩ := Int.eq_ofNat_of_zero_le (show 0 ≤ n by omega)
  have km := run_make5 w m (by omega)
  obtain ⟨C, kc, hB⟩ := copy5 w m s (by omega)
  have hl : (s.data.toList ++ List.replicate (m - s.size) (0 : UInt8)).length = m := by rw [List.length_append, ← blen, List.length_replicate]; omega
  have kb := toStr' _ w.heap.size m m _ hB hl
  have he : bs (s.data.toList ++ List.replicate (m - s.size) (0 : UInt8)) = s ++ bs (List.replicate ((m : Int) - s.size).toNat 0) := by
    apply ByteArray.ext
    apply Array.toList_inj.1
    rw [bs_toList, toList_append, bs_toList]
    congr 2; omega
  rw [he] at kb
  have HB := Lib.hid hB
  have HL := Lib.hid hl
  have HE := Lib.hid he
  obtain ⟨u, hu⟩ : ∃ u, s ++ bs (List.replicate ((m : Int) - s.size).toNat 0) = u := ⟨_, rfl⟩
  rw [hu] at kb ⊢
  clear hB hl he hu
  go_enter Try.func57, Try.ntmps57
  go_wp2
  go_ret
  exact ⟨rfl, (Below.refl _ _).alloc (Nat.le_refl _) _⟩
end Go.Proofs.Ytnjpijihjifkfaa
