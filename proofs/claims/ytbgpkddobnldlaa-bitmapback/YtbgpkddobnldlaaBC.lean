/- The examples hold. -/
import Derived.Test.YtbgpkddobnldlaaBB
namespace Go.Proofs.Ytbgpkddobnldlaa
open Go.RowKit
theorem eq_int3 (d : Nat) (a b : Int) (w : World) : (Op.equalIn (d + 1) 3 (.int .i64 a) (.int .i64 b)).run Try.prog w = .ok (a == b) w := run_equalIn_int w d 3 .i64 .i64 a b Try.underlying3
theorem eq40d (d : Nat) (a b c e : Int) (w : World) : (Op.equalIn (d + 1 + 1) 40 (.agg #[.int .i64 a, .int .i64 b]) (.agg #[.int .i64 c, .int .i64 e])).run Try.prog w = .ok (a == c && b == e) w := by
  rw [Op.equalIn]
  simp only [Sem.run_bind, run_underlying Try.underlying40, Result.andThen_ok]
  have hs : (sizeOf 3).run Try.prog w = .ok 1 w := by simp [go_sem]
  rw [hs]
  simp only [Result.andThen_ok]
  simp [Std.Legacy.Range.forIn_eq_forIn_range', Std.Legacy.Range.size, List.range', go_sem, eq_int3]
  by_cases h1 : a = c
  · by_cases h2 : b = e <;> simp [h1, h2]
  · simp [h1]
/-- Two pairs that are one. -/
theorem eq40 (a b : Int) (w : World) : (Op.equalIn 10000 40 (.agg #[.int .i64 a, .int .i64 b]) (.agg #[.int .i64 a, .int .i64 b])).run Try.prog w = .ok true w := by
  have := eq40d 9998 a b a b w
  simpa using this
def noneL : List UInt8 := List.replicate 480 0
def lA : List UInt8 := 0 :: 2 :: List.replicate 478 0
def lB : List UInt8 := 0 :: 7 :: List.replicate 478 0
def lC : List UInt8 := 0 :: 4 :: List.replicate 478 0
theorem eA : setL noneL 9 true = lA := by decide +kernel
theorem eLow2 : lowF lA ((8 : Nat) : Int) ((12 : Nat) : Int) ((2 : Nat) : Int) = ([8, 10], 0) := by decide +kernel
theorem eLow4 : lowF lA ((8 : Nat) : Int) ((12 : Nat) : Int) ((4 : Nat) : Int) = ([], 13) := by decide +kernel
theorem eB : takeB lA ((8 : Nat) : Int) ((12 : Nat) : Int) ((2 : Nat) : Int) = lB := by decide +kernel
theorem eB4 : takeB lA ((8 : Nat) : Int) ((12 : Nat) : Int) ((4 : Nat) : Int) = [] := by decide +kernel
theorem eC : giveS lB [8, 9] = lC := by decide +kernel
theorem eCe : giveE lB [8, 9] = 0 := by decide +kernel
theorem eD : giveS lB [11] = [] := by decide +kernel
theorem eDe : giveE lB [11] = 18 := by decide +kernel
theorem eS : spS lA 12 8 = [(8, 9), (10, 12)] := by decide +kernel
theorem eU9 : usedL lA 9 = true := by decide +kernel
theorem eU8 : usedL lA 8 = false := by decide +kernel
set_option maxRecDepth 1000000 in
theorem eM : manyL lC 0 3840 = 1 := by decide +kernel
theorem eX : usedL (ByteArray.mk #[120]).data.toList 0 = false := by decide +kernel
theorem nA : lA.length = 480 := by decide +kernel
theorem nB : lB.length = 480 := by decide +kernel
theorem nN : noneL.length = 480 := by decide +kernel
theorem info5 : (Try.prog.info? 5).map (fun i => (i.zero, i.size, i.bytes)) = some (some (.int .u8 0), 1, 1) := by kernel_rfl
theorem run_make5 (w : World) (m : Nat) (hm : m ≤ 1099511627776) :
    (Instr.makeSlice 43 (.int .i64 (m : Int)) (.int .i64 (m : Int))).run Try.prog w = .ok (.slice (some ⟨w.heap.size, 0, none⟩) m m) (w.alloc (.cells (Array.replicate m (.int .u8 0)) 5)) := by
  obtain ⟨i0, hi, hz0, hz1, hz2⟩ := info_parts info5
  have := run_make (P := Try.prog) w 43 5 i0 _ Try.underlying43 hi hz0 .i64 .i64 m m (by omega) (by omega) (by rw [hz2]; omega) (by omega)
  rw [this]
  simp only [Int.toNat_natCast]
  congr 3
  rw [hz1]
  apply Array.ext
  · simp [madeCells]
  · intro i h1 h2
    simp [madeCells, Value.cells, Nat.mod_one]
theorem BRow.zeros (w : World) (m : Nat) : BRow (w.alloc (.cells (Array.replicate m (.int .u8 0)) 5)) w.heap.size (List.replicate m 0) := by
  intro j hj
  have hj' : j < m := by simpa using hj
  have hg : (w.alloc (.cells (Array.replicate m (.int .u8 0)) 5)).heap[w.heap.size]? = some (.cells (Array.replicate m (.int .u8 0)) 5 (0, 0)) := by
    show (w.heap.push _)[w.heap.size]? = _
    simp
  constructor
  · rw [cell_of_row _ _ j _ _ _ hg]
    simp [hj']
  · unfold World.frozen?
    simp only [hg]
    simp
theorem Ints.two (w : World) (i j : Int) : Ints (w.alloc (.cells #[.int .i64 i, .int .i64 j] 3)) (some ⟨w.heap.size, 0, none⟩) 2 [i, j] := by
  refine ⟨rfl, .inr ⟨w.heap.size, 0, rfl, by simp, fun n hn => ?_⟩⟩
  match n, hn with
  | 0, _ => simp [go_sem]
  | 1, _ => simp [go_sem]
theorem used_lit (s : ByteArray) (i : Int) (u : Bool) (w : World) (h : usedL s.data.toList i = u) : Calls Try.prog 9 #[.string s, .int .i64 i] w fun e w' => e = .returned (.bool u) ∧ Below w.heap.size w w' := by
  subst h; exact used_any s i w
theorem many_lit (s : ByteArray) (a b : Int) (n : Nat) (w : World) (ha : a < 9223372036854775808) (h : manyL s.data.toList a b = n) : Calls Try.prog 11 #[.string s, .int .i64 a, .int .i64 b] w fun e w' => e = .returned (.int .i64 (n : Int)) ∧ Below w.heap.size w w' := by
  subst h; exact many_any s a b w ha
set_option maxRecDepth 100000 in
set_option maxHeartbeats 4000000 in
theorem lives_any (w : World) : Calls Try.prog 6 #[] w fun e w' => e = .returned (.bool true) ∧ Below w.heap.size w w' := by
  have km := run_make5 w 480 (by omega)
  have kt := toStr' (w.alloc (.cells (Array.replicate 480 (.int .u8 0)) 5)) w.heap.size 480 480 noneL (BRow.zeros w 480) nN
  have kt2 := Lib.hid kt
  clear kt
  rw [show ((480 : Nat) : Int) = 480 from rfl] at km
  have kt := kt2.out
  go_enter Try.func6, Try.ntmps6
  go_wp2_with fail
  clear km kt
  have B0 : Below w.heap.size w (w.alloc (.cells (Array.replicate 480 (.int .u8 0)) 5)) := (Below.refl _ _).alloc (Nat.le_refl _) _
  refine (bset_yes (bs noneL) 9 true _ (by rw [bs_size, nN]) (by omega)).mono ?_
  rintro e w1 ⟨rfl, hb⟩
  rw [bs_toList, eA]
  unfold strErr
  have B1 := below_to B0 hb
  clear hb B0
  go_wp2_with fail
  refine (take_yes (bs lA) 8 12 2 _ (by rw [bs_size, nA]) (by omega) (by omega) (by omega)).mono ?_
  rw [bs_toList, eLow2, eB]
  rintro e w2 ⟨ra, rc, rfl, hI2, hb⟩
  have B2 := below_to B1 hb
  clear hb B1
  go_wp2_with fail
  refine (take_yes (bs lA) 8 12 4 _ (by rw [bs_size, nA]) (by omega) (by omega) (by omega)).mono ?_
  rw [bs_toList, eLow4, eB4]
  rintro e w3 ⟨ra3, rc3, rfl, hI3, hb⟩
  have B3 := below_to B2 hb
  replace hI2 := hI2.below hb
  clear hb B2 hI3
  go_wp2_with fail
  have B4 : Below w.heap.size w (w3.alloc (.cells #[.int .i64 8, .int .i64 9] 3)) := B3.alloc B3.size _
  refine (give_yes (bs lB) _ 2 2 [8, 9] _ (by rw [bs_size, nB]) (Ints.two w3 8 9) (by omega)).mono ?_
  rw [bs_toList, eC, eCe]
  rintro e w4 ⟨rfl, hb⟩
  unfold strErr
  replace B4 := below_to B4 hb
  replace hI2 := (hI2.below ((Below.refl _ _).alloc (Nat.le_refl _) (.cells #[.int .i64 8, .int .i64 9] 3))).below hb
  clear hb B3
  go_wp2_with fail
  have B5 : Below w.heap.size w (w4.alloc (.cells #[.int .i64 11] 3)) := B4.alloc B4.size _
  refine (give_yes (bs lB) _ 1 1 [11] _ (by rw [bs_size, nB]) (Ints.one w4 11) (by omega)).mono ?_
  rw [bs_toList, eD, eDe]
  rintro e w5 ⟨rfl, hb⟩
  unfold strErr
  replace B5 := below_to B5 hb
  replace hI2 := (hI2.below ((Below.refl _ _).alloc (Nat.le_refl _) (.cells #[.int .i64 11] 3))).below hb
  clear hb B4
  go_wp2_with fail
  refine (spans_yes (bs lA) 8 12 _ (by rw [bs_size, nA]) (by omega) (by omega)).mono ?_
  rw [bs_toList, eS]
  rintro e w6 ⟨ra6, rc6, rfl, hP6, hb⟩
  have B6 := below_to B5 hb
  replace hI2 := hI2.below hb
  clear hb B5
  have s1 : (bs lA).size = 480 := by rw [bs_size, nA]
  have s2 : 1 < (bs lA).size := by rw [s1]; omega
  have s3 : ((bs lA)[1].toNat : Int) = 2 := by
    have e : (bs lA)[1] = 2 := by simp [bs, lA, ByteArray.getElem_eq_getElem_data]
    rw [e]; rfl
  go_wp2_with fail
  refine (used_lit (bs lA) 9 true _ (by rw [bs_toList, eU9])).mono ?_
  rintro e w7 ⟨rfl, hb⟩
  have B7 := below_to B6 hb
  replace hI2 := hI2.below hb
  replace hP6 := hP6.below hb
  clear hb B6
  go_wp2_with fail
  refine (used_lit (bs lA) 8 false _ (by rw [bs_toList, eU8])).mono ?_
  rintro e w8 ⟨rfl, hb⟩
  have B8 := below_to B7 hb
  replace hI2 := hI2.below hb
  replace hP6 := hP6.below hb
  clear hb B7
  go_wp2_with fail
  have hI8 := hI2.below ((Below.refl _ _).alloc (Nat.le_refl _) (.cells #[.int .i64 8, .int .i64 10] 3))
  have B9 : Below w.heap.size w (w8.alloc (.cells #[.int .i64 8, .int .i64 10] 3)) := B8.alloc B8.size _
  replace hP6 := hP6.below ((Below.refl _ _).alloc (Nat.le_refl _) (.cells #[.int .i64 8, .int .i64 10] 3))
  refine (same_yes ra _ 2 rc 2 [8, 10] _ hI8 (Ints.two w8 8 10) (by omega)).mono ?_
  rintro e w9 ⟨rfl, hb⟩
  replace B9 := below_to B9 hb
  replace hP6 := hP6.below hb
  clear hb B8 hI2 hI8
  go_wp2_with fail
  refine (many_lit (bs lC) 0 3840 1 _ (by omega) (by rw [bs_toList, eM])).mono ?_
  rintro e w10 ⟨rfl, hb⟩
  have B10 := below_to B9 hb
  replace hP6 := hP6.below hb
  clear hb B9
  rcases hP6 with h0 | ⟨g, hg, hgl, hc⟩
  · simp at h0
  subst hg
  have c0 := hc 0 (by simp)
  have c1 := hc 1 (by simp)
  have c00 : w10.cell? ⟨g, 0, none⟩ = some (.int .i64 8) := c0.1
  have c01 : w10.cell? ⟨g, 1, none⟩ = some (.int .i64 9) := c0.2
  have c10 : w10.cell? ⟨g, 2, none⟩ = some (.int .i64 10) := c1.1
  have c11 : w10.cell? ⟨g, 3, none⟩ = some (.int .i64 12) := c1.2
  have q1 := eq40 8 9 w10
  have q2 := eq40 10 12 w10
  clear c0 c1 hc
  go_wp2_with fail
  refine (used_lit ⟨#[120]⟩ 0 false _ eX).mono ?_
  rintro e w11 ⟨rfl, hb⟩
  have B11 := below_to B10 hb
  clear hb B10
  go_wp2_with fail
  go_ret
  exact ⟨rfl, B11⟩
end Go.Proofs.Ytbgpkddobnldlaa
