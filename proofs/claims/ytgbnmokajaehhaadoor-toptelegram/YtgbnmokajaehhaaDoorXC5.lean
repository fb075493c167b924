/- The examples of the checksums; sums by parts. -/
import Derived.Test.YtgbnmokajaehhaaDoorXC4
namespace Go.Proofs.YtgbnmokajaehhaaDoor.Oc
open Go.RowKit
theorem bcell {W w1 : World} (hb : Below W.heap.size W w1) : (∀ b o, b < W.heap.size → w1.cell? ⟨b, o, none⟩ = W.cell? ⟨b, o, none⟩) ∧ (∀ b o, b < W.heap.size → w1.frozen? ⟨b, o, none⟩ = W.frozen? ⟨b, o, none⟩) :=
  ⟨fun b o h => hb.cell (p := ⟨b, o, none⟩) h, fun b o h => hb.frozen (p := ⟨b, o, none⟩) h⟩
/-- Below, on and on. -/
theorem below_to {w w1 w2 : World} (h : Below w.heap.size w w1) (h2 : Below w1.heap.size w1 w2) : Below w.heap.size w w2 := h.trans (h2.mono h.size)
theorem sum_lit (s : ByteArray) (n : Nat) (hn : sumN s.data.toList = n) (hs : s.size ≤ maxLen) (w : World) :
    Calls Tryd.prog 29 #[.string s] w fun e w' => e = .returned (.int .u32 (n : Int)) ∧ Below w.heap.size w w' := by
  subst hn; exact sum_any s w hs
theorem more_lit (X : Int) (x : Nat) (hX : X = x) (s : ByteArray) (n : Nat) (hn : moreN x s.data.toList = n) (hx : x < 4294967296) (hs : s.size ≤ maxLen) (w : World) :
    Calls Tryd.prog 56 #[.int .u32 X, .string s] w fun e w' => e = .returned (.int .u32 (n : Int)) ∧ Below w.heap.size w w' := by
  subst hn hX; exact more_any x s w hx hs
theorem join_lit (A B : Int) (a b : Nat) (hA : A = a) (hB : B = b) (m : Int) (n : Nat) (hn : joinZ a b m = n) (ha : a < 4294967296) (hb : b < 4294967296) (w : World) :
    Calls Tryd.prog 28 #[.int .u32 A, .int .u32 B, .int .i64 m] w fun e w' => e = .returned (.int .u32 (n : Int)) ∧ w = w' := by
  subst hn hA hB; exact join_any a b m w ha hb
theorem s0 : sumN (ByteArray.mk #[]).data.toList = 0 := by decide +kernel
theorem sA : sumN (ByteArray.mk #[97]).data.toList = 228764298 := by decide +kernel
theorem sB : sumN (ByteArray.mk #[98]).data.toList = 1618958217 := by decide +kernel
theorem sAB : sumN (ByteArray.mk #[97, 98]).data.toList = 837587802 := by decide +kernel
theorem mAB : moreN 228764298 (ByteArray.mk #[98]).data.toList = 837587802 := by decide +kernel
theorem jAB : joinZ 228764298 1618958217 1 = 837587802 := by decide +kernel
theorem j0 : joinZ 1 2 (-1) = 0 := by decide +kernel
theorem t128 : stps 8 128 = 3945912366 := by decide +kernel
theorem t0 : stps 8 0 = 0 := by decide +kernel
theorem mod4096 {s : ByteArray} (h : s.size ≤ 4096) : s.size ≤ maxLen := Nat.le_trans h (by decide)

theorem toList_append (a b : ByteArray) : (a ++ b).data.toList = a.data.toList ++ b.data.toList := by simp [ByteArray.data_append]
theorem join_parts (l m : List UInt8) (n : Nat) (hn : n = m.length) (h : n ≤ 1073741824) : joinZ (sumN l) (sumN m) (n : Int) = sumN (l ++ m) := by
  rw [joinZ_nat h, hn, joinN_sum]
theorem more_parts (l m : List UInt8) : moreN (sumN l) m = sumN (l ++ m) := (moreN_append 0 l m).symm
theorem join_zero (x : Nat) : joinZ x 0 0 = x := by
  rw [show (0 : Int) = ((0 : Nat) : Int) from rfl, joinZ_nat (by omega)]
  show stps 0 x ^^^ 0 = x
  rw [Nat.xor_zero]; rfl
theorem blen (b : ByteArray) : b.size = b.data.toList.length := by simp

end Go.Proofs.YtgbnmokajaehhaaDoor.Oc
