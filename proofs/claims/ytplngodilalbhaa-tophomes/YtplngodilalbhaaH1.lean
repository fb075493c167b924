/- Pages of one byte, and the sectors of pages at their home positions. -/
import Derived.Test.YtplngodilalbhaaD9
import Derived.Test.YtplngodilalbhaaE1
import Derived.Test.YtplngodilalbhaaAG
namespace Go.Proofs.Ytplngodilalbhaa
open Go.RowKit Go.Shelf
/-- A page of one byte. -/
def pgB (c : UInt8) : ByteArray := bs (List.replicate 480 c)
theorem pgB_size (c : UInt8) : (pgB c).size = 480 := by
  show (List.replicate 480 c).toArray.size = 480
  rw [List.size_toArray, List.length_replicate]
set_option maxRecDepth 100000 in
set_option maxHeartbeats 400000 in
theorem page_any (c : UInt8) (w : World) : Calls Try.prog 41 #[.int .u8 (c.toNat : Int)] w fun e w' => e = .returned (.string (bs (List.replicate 480 c))) ∧ Below w.heap.size w w' := by
  have km : (Instr.makeSlice 43 (.int .i64 480) (.int .i64 480)).run Try.prog w = .ok (.slice (some ⟨w.heap.size, 0, none⟩) 480 480) (w.alloc (.cells (Array.replicate 480 (.int .u8 0)) 5)) := run_make5 w 480 (by omega)
  have hz := BRow.zeros w 480
  generalize Array.replicate 480 (Value.int .u8 0) = C at km hz
  go_enter Try.func41, Try.ntmps41
  go_wp2
  clear km
  go_loopw [8] (fun i wx => ∃ (k : Nat) (l : List UInt8), k ≤ 480 ∧ Hid (l = List.replicate k c ++ List.replicate (480 - k) 0) ∧ BRow wx w.heap.size l ∧ Below w.heap.size w wx ∧ w.heap.size < wx.heap.size ∧ i = .int .i64 (k : Int)) (fun i _ => 480 - (intOf i).toNat)
  case atStart => exact ⟨0, _, by omega, Lib.hid rfl, hz, (Below.refl _ _).alloc (Nat.le_refl _) _, by simp, rfl⟩
  case round =>
    obtain ⟨k, l, hk, HL, HB, HW, hsz, rfl⟩ := hrel
    have hll : l.length = 480 := by rw [HL.out]; simp; omega
    by_cases hlt : k < 480
    · obtain ⟨d, hcell, hfz⟩ : ∃ d : UInt8, wr.cell? ⟨w.heap.size, k, none⟩ = some (.int .u8 (d.toNat : Int)) ∧ wr.frozen? ⟨w.heap.size, k, none⟩ = false := ⟨_, HB k (by omega)⟩
      have HLL := Lib.hid hll
      clear hll
      go_wp2
      go_roundw
      case rel =>
        refine ⟨k + 1, l.set k c, by omega, Lib.hid ?_, HB.set k _, ?_, ?_, by go_num⟩
        · rw [HL.out, fill_one 480 k c hlt]
        · exact HW.setCell (p := ⟨w.heap.size, k, none⟩) (Nat.le_refl _) _
        · simpa using hsz
      case measure => simp [intOf]; omega
    · obtain rfl : k = 480 := by omega
      have hl : l = List.replicate 480 c := by rw [HL.out]; simp
      subst hl
      have kb := toStr' wr w.heap.size 480 480 _ HB hll
      clear hll HL
      go_wp2
      go_ret
      exact ⟨rfl, HW⟩
theorem pg_any (c : UInt8) (w : World) : Calls Try.prog 41 #[.int .u8 (c.toNat : Int)] w fun e w' => e = .returned (.string (pgB c)) ∧ Below w.heap.size w w' := page_any c w
/-- The sector of a page. -/
def homeB (a : Nat) (p : ByteArray) : ByteArray := if p = z480 then z512 else sealB 4 0 0 a 0 p
theorem okS_home (a : Nat) (p : ByteArray) (ha : a ≤ 65535) (hp : p.size = 480) : okS 4 (a : Int) 0 p.size := ⟨by omega, by omega, by omega, by omega, by omega, by omega, hp⟩
theorem homeB_size (a : Nat) (p : ByteArray) (ha : a ≤ 65535) (hp : p.size = 480) : (homeB a p).size = 512 := by
  unfold homeB
  split
  · rw [bs_size, List.length_replicate]
  · exact opens_size ⟨okS_home a p ha hp, by omega, by omega, rfl⟩
theorem homeB_opens (a : Nat) (p : ByteArray) (ha : a ≤ 65535) (hp : p.size = 480) (hz : p ≠ z480) : homeB a p ≠ z512 ∧ Opens (homeB a p) 4 0 0 a 0 p := by
  unfold homeB
  rw [if_neg hz]
  exact ⟨seal_not_blank _ _ _ _ _ _ (by omega) (by omega), okS_home a p ha hp, by omega, by omega, rfl⟩
theorem allZ_page {p : ByteArray} (hp : p.size = 480) : allZ p.data.toList = true ↔ p = z480 := by
  constructor
  · exact allZ_zero hp
  · intro h
    cases hz : allZ p.data.toList with
    | true => rfl
    | false => exact absurd h (allZ_not hz)
theorem home_is (a : Nat) (p : ByteArray) (ha : a ≤ 65535) (hp : p.size = 480) (w : World) : Calls Try.prog 18 #[.int .i64 (a : Int), .string p] w fun x w' => x = strErr (homeB a p) 0 ∧ Below w.heap.size w w' := by
  by_cases hz : p = z480
  · unfold homeB
    rw [if_pos hz]
    exact home_blank a p _ w (okS_home a p ha hp) ((allZ_page hp).2 hz) rfl
  · have hz' : allZ p.data.toList = false := by
      cases h : allZ p.data.toList with
      | true => exact absurd ((allZ_page hp).1 h) hz
      | false => rfl
    unfold homeB
    rw [if_neg hz]
    exact home_seal a p _ w (okS_home a p ha hp) hz' (fun w => seal_ok 4 0 0 a 0 p w (okS_home a p ha hp) (by omega) (by omega))
theorem ofHome_is (a : Nat) (p : ByteArray) (ha : a ≤ 65535) (hp : p.size = 480) (w : World) : Calls Try.prog 20 #[.string (homeB a p), .int .i64 (a : Int)] w fun x w' => x = strErr p 0 ∧ Below w.heap.size w w' := by
  by_cases hz : p = z480
  · unfold homeB
    rw [if_pos hz, hz]
    exact (of_blank a).h1 w
  · obtain ⟨h1, h2⟩ := homeB_opens a p ha hp hz
    exact (of_yes h1 h2).h1 w
/-- At the next page's position. -/
theorem ofHome_next (a : Nat) (p : ByteArray) (ha : a ≤ 65535) (hp : p.size = 480) : ∃ q y, (y = 0 ∧ p = z480 ∨ (y == 0) = false) ∧ ∀ w, Calls Try.prog 20 #[.string (homeB a p), .int .i64 ((a : Int) + 1)] w fun x w' => x = strErr q y ∧ Below w.heap.size w w' := by
  by_cases hz : p = z480
  · refine ⟨z480, 0, .inl ⟨rfl, hz⟩, ?_⟩
    unfold homeB
    rw [if_pos hz]
    exact (of_blank _).h1
  · obtain ⟨h1, h2⟩ := homeB_opens a p ha hp hz
    refine ⟨ByteArray.empty, 19, .inr rfl, (of_no h1 h2 ?_).h1⟩
    rintro ⟨_, _, _, h, _⟩
    omega
end Go.Proofs.Ytplngodilalbhaa
