/- Contracts: Read that fails; Safe and Copy of no disk; sectors of one byte. -/
import Derived.Test.YtplngodilalbhaaD7
namespace Go.Proofs.Ytplngodilalbhaa
open Go.RowKit Go.Shelf
theorem read_nil (i : Int) (w : World) : Calls Try.prog 27 #[.pointer none, .int .i64 i] w fun e w' => e = .returned (.tuple #[.string ByteArray.empty, .int .i64 18]) ∧ Below w.heap.size w w' := by
  go_enter Try.func27, Try.ntmps27
  go_wp2
  refine bodyPost_ret (v := .tuple #[.string ByteArray.empty, .int .i64 18]) (by simp [results, Try.results27, go_sem]; rfl) rfl ⟨rfl, ?_⟩
  exact (((Below.refl _ w).alloc (Nat.le_refl _) _).alloc (by simp) _).alloc (by simp; omega) _
theorem safe_nil (w : World) : Calls Try.prog 32 #[.pointer none] w fun e w' => e = .returned (.slice none 0 0) ∧ w = w' := by
  go_enter Try.func32, Try.ntmps32
  go_wp2
  go_ret
  exact ⟨rfl, rfl⟩
theorem copy_nil (w : World) : Calls Try.prog 39 #[.pointer none] w fun e w' => e = .returned (.pointer none) ∧ w = w' := by
  go_enter Try.func39, Try.ntmps39
  go_wp2
  go_ret
  exact ⟨rfl, rfl⟩
section
variable {K : Nat → Prop} {w w1 : World} {d sb : Nat} {S : List ByteArray} {pv : Value} {P : List (Int × ByteArray)} {fuse : Int} {down : Bool} {ops : Int}
theorem read_down (h : Disk K w d sb S pv P fuse true ops) (i : Int) : Calls Try.prog 27 #[.pointer (some ⟨d, 0, none⟩), .int .i64 i] w fun e w' => e = .returned (.tuple #[.string ByteArray.empty, .int .i64 17]) ∧ Below w.heap.size w w' := by
  have hB3 : Below w.heap.size w (((w.alloc (.cells #[.int .i64 i] 3)).alloc (.cells #[.string ⟨#[]⟩] 9)).alloc (.cells #[.int .i64 0] 26)) := (((Below.refl _ w).alloc (Nat.le_refl _) _).alloc (by simp) _).alloc (by simp; omega) _
  have c3 := (h.below hB3).c3
  go_enter Try.func27, Try.ntmps27
  go_wp2
  refine bodyPost_ret (v := .tuple #[.string ByteArray.empty, .int .i64 17]) (by simp [results, Try.results27, go_sem]; rfl) rfl ⟨rfl, ?_⟩
  exact (((Below.refl _ w).alloc (Nat.le_refl _) _).alloc (by simp) _).alloc (by simp; omega) _
theorem read_out (h : Disk K w d sb S pv P fuse false ops) (i : Int) (hi : i < 0 ∨ (S.length : Int) ≤ i) : Calls Try.prog 27 #[.pointer (some ⟨d, 0, none⟩), .int .i64 i] w fun e w' => e = .returned (.tuple #[.string ByteArray.empty, .int .i64 18]) ∧ Below w.heap.size w w' := by
  have hB3 : Below w.heap.size w (((w.alloc (.cells #[.int .i64 i] 3)).alloc (.cells #[.string ⟨#[]⟩] 9)).alloc (.cells #[.int .i64 0] 26)) := (((Below.refl _ w).alloc (Nat.le_refl _) _).alloc (by simp) _).alloc (by simp; omega) _
  have hD3 := h.below hB3
  have c3 := hD3.c3
  have H := Lib.hid hi
  clear hi
  go_enter Try.func27, Try.ntmps27
  go_wp2_with fail
  refine (has_no hD3 i H.out).mono ?_
  rintro e w' ⟨rfl, rfl⟩
  go_wp2_with fail
  refine bodyPost_ret (v := .tuple #[.string ByteArray.empty, .int .i64 18]) (by simp [results, Try.results27, go_sem]; rfl) rfl ⟨rfl, ?_⟩
  exact (((Below.refl _ w).alloc (Nat.le_refl _) _).alloc (by simp) _).alloc (by simp; omega) _
end
set_option maxRecDepth 100000 in
set_option maxHeartbeats 400000 in
theorem text_any (c : UInt8) (w : World) : Calls Try.prog 35 #[.int .u8 (c.toNat : Int)] w fun e w' => e = .returned (.string (bs (List.replicate 512 c))) ∧ Below w.heap.size w w' := by
  have km : (Instr.makeSlice 43 (.int .i64 512) (.int .i64 512)).run Try.prog w = .ok (.slice (some ⟨w.heap.size, 0, none⟩) 512 512) (w.alloc (.cells (Array.replicate 512 (.int .u8 0)) 5)) := run_make5 w 512 (by omega)
  have hz := BRow.zeros w 512
  generalize Array.replicate 512 (Value.int .u8 0) = C at km hz
  go_enter Try.func35, Try.ntmps35
  go_wp2
  clear km
  go_loopw [8] (fun i wx => ∃ (k : Nat) (l : List UInt8), k ≤ 512 ∧ Hid (l = List.replicate k c ++ List.replicate (512 - k) 0) ∧ BRow wx w.heap.size l ∧ Below w.heap.size w wx ∧ w.heap.size < wx.heap.size ∧ i = .int .i64 (k : Int)) (fun i _ => 512 - (intOf i).toNat)
  case atStart => exact ⟨0, _, by omega, Lib.hid rfl, hz, (Below.refl _ _).alloc (Nat.le_refl _) _, by simp, rfl⟩
  case round =>
    obtain ⟨k, l, hk, HL, HB, HW, hsz, rfl⟩ := hrel
    have hll : l.length = 512 := by rw [HL.out]; simp; omega
    by_cases hlt : k < 512
    · obtain ⟨d, hcell, hfz⟩ : ∃ d : UInt8, wr.cell? ⟨w.heap.size, k, none⟩ = some (.int .u8 (d.toNat : Int)) ∧ wr.frozen? ⟨w.heap.size, k, none⟩ = false := ⟨_, HB k (by omega)⟩
      have HLL := Lib.hid hll
      clear hll
      go_wp2
      go_roundw
      case rel =>
        refine ⟨k + 1, l.set k c, by omega, Lib.hid ?_, HB.set k _, ?_, ?_, by go_num⟩
        · rw [HL.out, fill_one 512 k c hlt]
        · exact HW.setCell (p := ⟨w.heap.size, k, none⟩) (Nat.le_refl _) _
        · simpa using hsz
      case measure => simp [intOf]; omega
    · obtain rfl : k = 512 := by omega
      have hl : l = List.replicate 512 c := by rw [HL.out]; simp
      subst hl
      have kb := toStr' wr w.heap.size 512 512 _ HB hll
      clear hll HL
      go_wp2
      go_ret
      exact ⟨rfl, HW⟩
theorem text_lit (C : Int) (c : UInt8) (hC : C = (c.toNat : Int)) (t : ByteArray) (h : bs (List.replicate 512 c) = t) (w : World) : Calls Try.prog 35 #[.int .u8 C] w fun e w' => e = .returned (.string t) ∧ Below w.heap.size w w' := by
  subst hC h; exact text_any c w
end Go.Proofs.Ytplngodilalbhaa
