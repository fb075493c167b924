/- Contracts: pages of one byte; sealed, home, Blank. -/
import Derived.Test.YtplngodilalbhaaA7
namespace Go.Proofs.Ytplngodilalbhaa
open Go.RowKit
theorem fill_one (n k : Nat) (c : UInt8) (h : k < n) : (List.replicate k c ++ List.replicate (n - k) 0).set k c = List.replicate (k + 1) c ++ List.replicate (n - (k + 1)) 0 := by
  rw [List.set_append_right _ _ (by simp)]
  simp only [List.length_replicate, Nat.sub_self]
  rw [show n - k = (n - (k + 1)) + 1 by omega, List.replicate_succ, List.set_cons_zero, List.replicate_succ' (n := k)]
  simp
set_option maxRecDepth 100000 in
set_option maxHeartbeats 400000 in
theorem page6_any (c : UInt8) (w : World) : Calls Try.prog 42 #[.int .u8 (c.toNat : Int)] w fun e w' => e = .returned (.string (bs (List.replicate 480 c))) ∧ Below w.heap.size w w' := by
  have km : (Instr.makeSlice 43 (.int .i64 480) (.int .i64 480)).run Try.prog w = .ok (.slice (some ⟨w.heap.size, 0, none⟩) 480 480) (w.alloc (.cells (Array.replicate 480 (.int .u8 0)) 5)) := run_make5 w 480 (by omega)
  have hz := BRow.zeros w 480
  generalize Array.replicate 480 (Value.int .u8 0) = C at km hz
  go_enter Try.func42, Try.ntmps42
  go_wp2
  clear km
  go_loopw [8] (fun i wx => ∃ (k : Nat) (l : List UInt8), k ≤ 480 ∧ Hid (l = List.replicate k c ++ List.replicate (480 - k) 0) ∧ BRow wx w.heap.size l ∧ Below w.heap.size w wx ∧ w.heap.size < wx.heap.size ∧ i = .int .i64 (k : Int)) (fun i _ => 480 - (intOf i).toNat)
  case atStart => exact ⟨0, _, by omega, Lib.hid rfl, hz, (Below.refl _ _).alloc (Nat.le_refl _) _, by simp, rfl⟩
  case round =>
    obtain ⟨k, l, hk, HL, HB, HW, hsz, rfl⟩ := hrel
    have hll : l.length = 480 := by rw [HL.out]; simp; omega
    by_cases hlt : k < 480
    · obtain ⟨d, hcell, hfz⟩ : ∃ d : UInt8, wr.cell? ⟨w.heap.size, k, none⟩ = some (.int .u8 (d.toNat : Int)) ∧ wr.frozen? ⟨w.heap.size, k, none⟩ = false := ⟨_, HB k (by omega)⟩
      have HLL := Lib.hid hll
      clear hll
      go_wp2
      go_roundw
      case rel =>
        refine ⟨k + 1, l.set k c, by omega, Lib.hid ?_, HB.set k _, ?_, ?_, by go_num⟩
        · rw [HL.out, fill_one 480 k c hlt]
        · exact HW.setCell (p := ⟨w.heap.size, k, none⟩) (Nat.le_refl _) _
        · simpa using hsz
      case measure => simp [intOf]; omega
    · obtain rfl : k = 480 := by omega
      have hl : l = List.replicate 480 c := by rw [HL.out]; simp
      subst hl
      have kb := toStr' wr w.heap.size 480 480 _ HB hll
      clear hll HL
      go_wp2
      go_ret
      exact ⟨rfl, HW⟩
theorem sealed_any (k : Int) (e n : Nat) (a m : Int) (p : ByteArray) (w : World) :
    Calls Try.prog 12 #[.agg #[.int .i64 k, .int .u64 (e : Int), .int .u64 (n : Int), .int .i64 a, .int .i64 m, .string p]] w fun x w' => x = .returned (.agg #[.int .i64 k, .int .u64 (e : Int), .int .u64 (n : Int), .int .i64 a, .int .i64 m, .string p]) ∧ Below w.heap.size w w' := by
  go_enter Try.func12, Try.ntmps12
  go_wp2
  refine bodyPost_ret (v := .agg #[.int .i64 k, .int .u64 (e : Int), .int .u64 (n : Int), .int .i64 a, .int .i64 m, .string p]) (by simp [results, Try.results12, go_sem]) rfl ⟨rfl, ?_⟩
  exact ((Below.refl _ _).alloc (Nat.le_refl _) _).alloc (by simp) _
theorem home_any (a : Int) (p : ByteArray) (w : World) :
    Calls Try.prog 52 #[.int .i64 a, .string p] w fun x w' => x = .returned (.agg #[.int .i64 4, .int .u64 0, .int .u64 0, .int .i64 a, .int .i64 0, .string p]) ∧ Below w.heap.size w w' := by
  go_enter Try.func52, Try.ntmps52
  go_wp2
  refine bodyPost_ret (v := .agg #[.int .i64 4, .int .u64 0, .int .u64 0, .int .i64 a, .int .i64 0, .string p]) (by simp [results, Try.results52, go_sem]) rfl ⟨rfl, ?_⟩
  exact (Below.refl _ _).alloc (Nat.le_refl _) _
theorem blank_any (z : ByteArray) (hz : bs (List.replicate 512 0) = z) (w : World) : Calls Try.prog 43 #[] w fun x w' => x = .returned (.string z) ∧ Below w.heap.size w w' := by
  have n1 := Lib.hid (fun w => zeros_lit 512 512 z rfl hz w (by omega) (by omega))
  clear hz
  go_enter Try.func43, Try.ntmps43
  go_wp2_with fail
  refine (n1.out _).mono ?_
  rintro x w1 ⟨rfl, hb⟩
  go_wp2_with fail
  go_ret
  exact ⟨rfl, hb⟩
theorem rzeros_lit (n : Nat) (N : Int) (t : ByteArray) (hN : N = n) (h : bs (List.replicate n 0) = t) (w : World) (h1 : 1 ≤ n) (h2 : n ≤ 65536) : Calls Try.prog 54 #[.int .i64 N] w fun e w' => e = .returned (.string t) ∧ Below w.heap.size w w' := by
  have h3 : (((ByteArray.mk #[]).size : Nat) : Int) < (n : Int) := by show ((0 : Nat) : Int) < _; omega
  have hp := fun w => rpad_more ⟨#[]⟩ n w (by omega) h3
  rw [empty_append, show ((n : Int) - ((ByteArray.mk #[]).size : Nat)).toNat = n by show ((n : Int) - ((0 : Nat) : Int)).toNat = n; omega, h, ← hN] at hp
  have HP := Lib.hid hp
  clear hp h3 h hN h1 h2
  go_enter Try.func54, Try.ntmps54
  go_wp2_with fail
  refine (HP.out _).mono ?_
  rintro e w1 ⟨rfl, hb⟩
  go_wp2_with fail
  go_ret
  exact ⟨rfl, hb⟩
end Go.Proofs.Ytplngodilalbhaa
