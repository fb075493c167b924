/- The examples of the checksums; sums by parts. -/
import Derived.Test.YtgbnmokajaehhaaC4
namespace Go.Proofs.Ytgbnmokajaehhaa
open Go.RowKit
theorem bcell {W w1 : World} (hb : Below W.heap.size W w1) : (∀ b o, b < W.heap.size → w1.cell? ⟨b, o, none⟩ = W.cell? ⟨b, o, none⟩) ∧ (∀ b o, b < W.heap.size → w1.frozen? ⟨b, o, none⟩ = W.frozen? ⟨b, o, none⟩) :=
  ⟨fun b o h => hb.cell (p := ⟨b, o, none⟩) h, fun b o h => hb.frozen (p := ⟨b, o, none⟩) h⟩
/-- Below, on and on. -/
theorem below_to {w w1 w2 : World} (h : Below w.heap.size w w1) (h2 : Below w1.heap.size w1 w2) : Below w.heap.size w w2 := h.trans (h2.mono h.size)
theorem sum_lit (s : ByteArray) (n : Nat) (hn : sumN s.data.toList = n) (hs : s.size ≤ maxLen) (w : World) :
    Calls Try.prog 42 #[.string s] w fun e w' => e = .returned (.int .u32 (n : Int)) ∧ Below w.heap.size w w' := by
  subst hn; exact sum_any s w hs
theorem rsum_lit (s : ByteArray) (n : Nat) (hn : sumN s.data.toList = n) (hs : s.size ≤ maxLen) (w : World) :
    Calls Try.prog 43 #[.string s] w fun e w' => e = .returned (.int .u32 (n : Int)) ∧ w = w' := by
  subst hn; exact rsum_any s w hs
theorem more_lit (X : Int) (x : Nat) (hX : X = x) (s : ByteArray) (n : Nat) (hn : moreN x s.data.toList = n) (hx : x < 4294967296) (hs : s.size ≤ maxLen) (w : World) :
    Calls Try.prog 44 #[.int .u32 X, .string s] w fun e w' => e = .returned (.int .u32 (n : Int)) ∧ Below w.heap.size w w' := by
  subst hn hX; exact more_any x s w hx hs
theorem join_lit (A B : Int) (a b : Nat) (hA : A = a) (hB : B = b) (m : Int) (n : Nat) (hn : joinZ a b m = n) (ha : a < 4294967296) (hb : b < 4294967296) (w : World) :
    Calls Try.prog 46 #[.int .u32 A, .int .u32 B, .int .i64 m] w fun e w' => e = .returned (.int .u32 (n : Int)) ∧ w = w' := by
  subst hn hA hB; exact join_any a b m w ha hb
theorem s0 : sumN (ByteArray.mk #[]).data.toList = 0 := by decide +kernel
theorem sA : sumN (ByteArray.mk #[97]).data.toList = 228764298 := by decide +kernel
theorem sB : sumN (ByteArray.mk #[98]).data.toList = 1618958217 := by decide +kernel
theorem sAB : sumN (ByteArray.mk #[97, 98]).data.toList = 837587802 := by decide +kernel
theorem mAB : moreN 228764298 (ByteArray.mk #[98]).data.toList = 837587802 := by decide +kernel
theorem jAB : joinZ 228764298 1618958217 1 = 837587802 := by decide +kernel
theorem j0 : joinZ 1 2 (-1) = 0 := by decide +kernel
theorem t128 : stps 8 128 = 3945912366 := by decide +kernel
theorem t0 : stps 8 0 = 0 := by decide +kernel
set_option maxRecDepth 100000 in
set_option maxHeartbeats 1000000 in
theorem lives4 (w : World) : Calls Try.prog 39 #[] w fun e w' => e = .returned (.bool true) ∧ Below w.heap.size w w' := by
  obtain ⟨C, hC⟩ : ∃ C, Tab C 256 := ⟨_, rfl⟩
  go_enter Try.func39, Try.ntmps39
  go_wp2_with (first | (go_at_call 40; refine (halves_c C hC _).mono ?_; rintro e w1 ⟨rfl, hb⟩) | (refine wpList_store_new rfl (.tmp 1) (.tmp 2) rfl _ C z58_size hC rfl rfl ?_))
  refine (sum_lit _ 0 s0 (by decide) _).mono ?_
  rintro e w2 ⟨rfl, hb2⟩
  have hsz : w1.heap.size < w2.heap.size := by have := hb2.size; simp at this; omega
  have c1 := (hb2.cell (p := ⟨w1.heap.size, 128, none⟩) (by simp)).trans ((tab_cell hC w1 128 (by omega)).trans (by rw [t128]))
  have c0 := (hb2.cell (p := ⟨w1.heap.size, 0, none⟩) (by simp)).trans ((tab_cell hC w1 0 (by omega)).trans (by rw [t0]))
  have B2 := below_to (hb.alloc hb.size (.cells C 58)) hb2
  clear hb hb2
  go_wp2_with fail
  refine (sum_lit _ _ sA (by decide) _).mono ?_
  rintro e w3 ⟨rfl, hb⟩
  have B3 := below_to B2 hb
  clear B2 hb c1 c0 hsz
  go_wp2_with fail
  refine (rsum_lit _ _ sA (by decide) _).mono ?_
  rintro e w' ⟨rfl, rfl⟩
  go_wp2_with fail
  refine (sum_lit _ _ sA (by decide) _).mono ?_
  rintro e w4 ⟨rfl, hb⟩
  have B4 := below_to B3 hb
  clear B3 hb
  go_wp2_with fail
  refine (sum_lit _ _ sA (by decide) _).mono ?_
  rintro e w5 ⟨rfl, hb⟩
  have B5 := below_to B4 hb
  clear B4 hb
  go_wp2_with fail
  refine (more_lit _ _ (by rfl) _ _ mAB (by omega) (by decide) _).mono ?_
  rintro e w6 ⟨rfl, hb⟩
  have B6 := below_to B5 hb
  clear B5 hb
  go_wp2_with fail
  refine (sum_lit _ _ sAB (by decide) _).mono ?_
  rintro e w7 ⟨rfl, hb⟩
  have B7 := below_to B6 hb
  clear B6 hb
  go_wp2_with fail
  refine (sum_lit _ _ sA (by decide) _).mono ?_
  rintro e w8 ⟨rfl, hb⟩
  have B8 := below_to B7 hb
  clear B7 hb
  go_wp2_with fail
  refine (sum_lit _ _ sB (by decide) _).mono ?_
  rintro e w9 ⟨rfl, hb⟩
  have B9 := below_to B8 hb
  clear B8 hb
  go_wp2_with fail
  refine (join_lit _ _ _ _ (by rfl) (by rfl) _ _ jAB (by omega) (by omega) _).mono ?_
  rintro e w' ⟨rfl, rfl⟩
  go_wp2_with fail
  refine (sum_lit _ _ sAB (by decide) _).mono ?_
  rintro e wA ⟨rfl, hb⟩
  have BA := below_to B9 hb
  clear B9 hb
  go_wp2_with fail
  refine (join_lit _ _ _ _ (by rfl) (by rfl) _ _ j0 (by omega) (by omega) _).mono ?_
  rintro e w' ⟨rfl, rfl⟩
  go_wp2_with fail
  go_ret
  exact ⟨rfl, BA⟩

theorem mod4096 {s : ByteArray} (h : s.size ≤ 4096) : s.size ≤ maxLen := Nat.le_trans h (by decide)

theorem toList_append (a b : ByteArray) : (a ++ b).data.toList = a.data.toList ++ b.data.toList := by simp [ByteArray.data_append]
theorem join_parts (l m : List UInt8) (n : Nat) (hn : n = m.length) (h : n ≤ 1073741824) : joinZ (sumN l) (sumN m) (n : Int) = sumN (l ++ m) := by
  rw [joinZ_nat h, hn, joinN_sum]
theorem more_parts (l m : List UInt8) : moreN (sumN l) m = sumN (l ++ m) := (moreN_append 0 l m).symm
theorem join_zero (x : Nat) : joinZ x 0 0 = x := by
  rw [show (0 : Int) = ((0 : Nat) : Int) from rfl, joinZ_nat (by omega)]
  show stps 0 x ^^^ 0 = x
  rw [Nat.xor_zero]; rfl
theorem blen (b : ByteArray) : b.size = b.data.toList.length := by simp

set_option maxHeartbeats 1000000 in
set_option maxRecDepth 100000 in
theorem crcParts_walk (a b c : ByteArray) (ha : a.size ≤ maxLen) (hb : b.size ≤ maxLen) (hc : c.size ≤ maxLen) (w : World) :
    Calls Try.prog 9 #[.string a, .string b, .string c] w fun e w' => e = .returned (.bool true) ∧ Below w.heap.size w w' := by
  by_cases h1 : a.size ≤ 4096
  · by_cases h2 : b.size ≤ 4096
    · by_cases h3 : c.size ≤ 4096
      · go_enter Try.func9, Try.ntmps9
        go_wp2_with (go_at_call 39; refine (lives4 _).mono ?_; rintro e w1 ⟨rfl, B1⟩)
        obtain ⟨x, hx⟩ : ∃ x, sumN a.data.toList = x := ⟨_, rfl⟩
        obtain ⟨y, hy⟩ : ∃ x, sumN b.data.toList = x := ⟨_, rfl⟩
        obtain ⟨z, hz⟩ : ∃ x, sumN c.data.toList = x := ⟨_, rfl⟩
        obtain ⟨xy, hxy⟩ : ∃ x, sumN (a.data.toList ++ b.data.toList) = x := ⟨_, rfl⟩
        obtain ⟨yz, hyz⟩ : ∃ x, sumN (b.data.toList ++ c.data.toList) = x := ⟨_, rfl⟩
        obtain ⟨t, ht⟩ : ∃ x, sumN (a.data.toList ++ b.data.toList ++ c.data.toList) = x := ⟨_, rfl⟩
        have lx : x < 4294967296 := hx ▸ sumN_lt _
        have ly : y < 4294967296 := hy ▸ sumN_lt _
        have lz : z < 4294967296 := hz ▸ sumN_lt _
        have lxy : xy < 4294967296 := hxy ▸ sumN_lt _
        have lyz : yz < 4294967296 := hyz ▸ sumN_lt _
        have HA := Lib.hid (show sumN (a ++ b ++ c).data.toList = t by rw [toList_append, toList_append]; exact ht)
        have J1 := Lib.hid (show joinZ x y (b.size : Int) = xy by rw [← hx, ← hy, ← hxy, join_parts _ _ _ (blen b) (by omega)])
        have J2 := Lib.hid (show joinZ xy z (c.size : Int) = t by rw [← hxy, ← hz, ← ht, join_parts _ _ _ (blen c) (by omega)])
        have J3 := Lib.hid (show joinZ y z (c.size : Int) = yz by rw [← hy, ← hz, ← hyz, join_parts _ _ _ (blen c) (by omega)])
        have J4 := Lib.hid (show joinZ x yz ((b.size : Int) + (c.size : Int)) = t by rw [← hx, ← hyz, ← ht, ← Int.natCast_add, join_parts _ _ _ (by rw [List.length_append, ← blen, ← blen]) (by omega), List.append_assoc])
        have M1 := Lib.hid (show moreN x b.data.toList = xy by rw [← hx, ← hxy, more_parts])
        have M2 := Lib.hid (show moreN xy c.data.toList = t by rw [← hxy, ← ht, more_parts])
        have HX := Lib.hid hx
        have HY := Lib.hid hy
        have HZ := Lib.hid hz
        have sab : (a ++ b ++ c).size ≤ maxLen := Nat.le_trans (m := 20000) (by rw [ByteArray.size_append, ByteArray.size_append]; omega) (by decide)
        clear hx hy hz hxy hyz ht
        refine (sum_lit _ x HX.out ha _).mono ?_
        rintro e w2 ⟨rfl, hb1⟩
        have B2 := below_to B1 hb1
        clear B1 hb1
        go_wp2_with fail
        refine (sum_lit _ y HY.out hb _).mono ?_
        rintro e w3 ⟨rfl, hb1⟩
        have B3 := below_to B2 hb1
        clear B2 hb1
        go_wp2_with fail
        refine (sum_lit _ z HZ.out hc _).mono ?_
        rintro e w4 ⟨rfl, hb1⟩
        have B4 := below_to B3 hb1
        clear B3 hb1
        go_wp2_with fail
        refine (sum_lit _ t HA.out sab _).mono ?_
        rintro e w5 ⟨rfl, hb1⟩
        have B5 := below_to B4 hb1
        clear B4 hb1
        go_wp2_with fail
        refine (join_lit _ _ x y rfl rfl _ _ J1.out lx ly _).mono ?_
        rintro e w' ⟨rfl, rfl⟩
        go_wp2_with fail
        refine (join_lit _ _ xy z rfl rfl _ _ J2.out lxy lz _).mono ?_
        rintro e w' ⟨rfl, rfl⟩
        go_wp2_with fail
        refine (join_lit _ _ y z rfl rfl _ _ J3.out ly lz _).mono ?_
        rintro e w' ⟨rfl, rfl⟩
        go_wp2_with fail
        refine (join_lit _ _ x yz rfl rfl _ _ J4.out lx lyz _).mono ?_
        rintro e w' ⟨rfl, rfl⟩
        go_wp2_with fail
        refine (more_lit _ x rfl _ _ M1.out lx hb _).mono ?_
        rintro e w6 ⟨rfl, hb1⟩
        have B6 := below_to B5 hb1
        clear B5 hb1
        go_wp2_with fail
        refine (more_lit _ xy rfl _ _ M2.out lxy hc _).mono ?_
        rintro e w7 ⟨rfl, hb1⟩
        have B7 := below_to B6 hb1
        clear B6 hb1
        go_wp2_with fail
        refine (join_lit _ _ x 0 rfl rfl _ _ (join_zero x) lx (by omega) _).mono ?_
        rintro e w' ⟨rfl, rfl⟩
        go_wp2_with fail
        go_ret
        exact ⟨rfl, B7⟩
      · go_enter Try.func9, Try.ntmps9
        go_wp2_with (go_at_call 39; refine (lives4 _).mono ?_; rintro e w1 ⟨rfl, B1⟩)
        go_ret
        exact ⟨rfl, B1⟩
    · go_enter Try.func9, Try.ntmps9
      go_wp2_with (go_at_call 39; refine (lives4 _).mono ?_; rintro e w1 ⟨rfl, B1⟩)
      go_ret
      exact ⟨rfl, B1⟩
  · go_enter Try.func9, Try.ntmps9
    go_wp2_with (go_at_call 39; refine (lives4 _).mono ?_; rintro e w1 ⟨rfl, B1⟩)
    go_ret
    exact ⟨rfl, B1⟩
end Go.Proofs.Ytgbnmokajaehhaa
