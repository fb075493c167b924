/- A reader that has read k bytes of a text: what a number there is. -/
import Derived.Test.YteekjndhehnpaaaKM
import Derived.Test.YteekjndhehnpaaaKI
namespace Go.Proofs.Yteekjndhehnpaaa
open Go.RowKit
set_option maxRecDepth 100000
set_option linter.unusedVariables false
set_option linter.unusedSimpArgs false
set_option maxHeartbeats 4000000
/-- What a reader of s has left behind k bytes. -/
def rdT (s : ByteArray) (k : Nat) : ByteArray := if k ≤ s.size then s.extract k s.size else ByteArray.empty
/-- Its error then. -/
def rdE (s : ByteArray) (k : Nat) : Int := if k ≤ s.size then 0 else 20
/-- The number of n bytes at a place; 0 if there are too few. -/
def numAt (s : ByteArray) (k n : Nat) : Nat := if k + n ≤ s.size then ofL ((s.data.toList.drop k).take n) else 0
theorem rdT_le (s : ByteArray) (k : Nat) : (rdT s k).size ≤ s.size := by
  unfold rdT; split
  · rw [ext_size]; omega
  · exact Nat.zero_le _
theorem rd_wf (s : ByteArray) (k : Nat) : RWf (rdT s k) (rdE s k) := by
  unfold rdT rdE; split
  · exact .inl rfl
  · exact .inr rfl
theorem rd_zero (s : ByteArray) : rdT s 0 = s ∧ rdE s 0 = 0 := by
  unfold rdT rdE
  rw [if_pos (Nat.zero_le _), if_pos (Nat.zero_le _)]
  exact ⟨by rw [ext_front, blen, List.take_length, bs_of], rfl⟩
theorem numS_at (s : ByteArray) (k n : Nat) (h1 : 1 ≤ n) (h8 : n ≤ 8) : numS (rdT s k) (rdE s k) n = (rdT s (k + n), rdE s (k + n), numAt s k n) := by
  by_cases hk : k ≤ s.size
  · have e1 : rdT s k = s.extract k s.size := if_pos hk
    have e2 : rdE s k = 0 := if_pos hk
    have hz : (s.extract k s.size).size = s.size - k := by rw [ext_size]; omega
    have hd : (s.extract k s.size).data.toList = s.data.toList.drop k := by rw [ext_toList, List.take_of_length_le (by rw [blen]; exact Nat.le_refl _)]
    rw [e1, e2]
    by_cases hn : k + n ≤ s.size
    · rw [numS_many _ n h1 h8 (by omega)]
      have e3 : rdT s (k + n) = s.extract (k + n) s.size := if_pos hn
      have e4 : rdE s (k + n) = 0 := if_pos hn
      have e5 : numAt s k n = ofL ((s.data.toList.drop k).take n) := if_pos hn
      rw [e3, e4, e5, hd]
      congr 1
      rw [← bs_of ((s.extract k s.size).extract n _), ← bs_of (s.extract (k + n) s.size)]
      congr 1
      have hz2 := hz
      generalize s.extract k s.size = X at hd hz2 ⊢
      rw [ext_toList, ext_toList, hd, hz2, List.take_of_length_le (by rw [List.length_drop, ← blen]; exact Nat.le_refl _), List.take_of_length_le (by rw [blen]; exact Nat.le_refl _), List.drop_drop]
    · rw [numS_none _ n h1 h8 (by omega)]
      have e3 : rdT s (k + n) = ByteArray.empty := if_neg hn
      have e4 : rdE s (k + n) = 20 := if_neg hn
      have e5 : numAt s k n = 0 := if_neg hn
      rw [e3, e4, e5]
  · have e1 : rdT s k = ByteArray.empty := if_neg hk
    have e2 : rdE s k = 20 := if_neg hk
    have hn : ¬ k + n ≤ s.size := by omega
    have e3 : rdT s (k + n) = ByteArray.empty := if_neg hn
    have e4 : rdE s (k + n) = 20 := if_neg hn
    have e5 : numAt s k n = 0 := if_neg hn
    rw [e1, e2, e3, e4, e5, numS_failed (by omega)]
theorem numAt_lt (s : ByteArray) (k n : Nat) : numAt s k n < 256 ^ n := by
  unfold numAt; split
  · have h := ofL_lt ((s.data.toList.drop k).take n)
    refine Nat.lt_of_lt_of_le h (Nat.pow_le_pow_right (by omega) ?_)
    simp; omega
  · exact Nat.pow_pos (by omega)
/-- Block b is a reader of s that has read k bytes. -/
def RdAt (w : World) (b : Nat) (s : ByteArray) (k : Nat) : Prop := Rd w b (rdT s k) (rdE s k)
theorem RdAt.lt {w : World} {b : Nat} {s : ByteArray} {k : Nat} (h : RdAt w b s k) : b < w.heap.size := Rd.lt h
theorem RdAt.below {w w1 : World} {b : Nat} {s : ByteArray} {k : Nat} (h : RdAt w b s k) (B : Below w.heap.size w w1) : RdAt w1 b s k := Rd.below h B
theorem RdAt.alloc {w : World} {b : Nat} {s : ByteArray} {k : Nat} (h : RdAt w b s k) (o : Obj) : RdAt (w.alloc o) b s k := Rd.alloc h o
theorem rdnum_any (b : Nat) (n k : Nat) (s : ByteArray) (h1 : 1 ≤ n) (h8 : n ≤ 8) (hs : s.size ≤ 1000) (w : World) (hr : RdAt w b s k) :
    Calls Try.prog 81 #[.pointer (some ⟨b, 0, none⟩), .int .i64 (n : Int)] w fun x w' => x = .returned (.int .u64 (numAt s k n : Int)) ∧ RdAt w' b s (k + n) ∧ Only b w w' := by
  have := rnumS_any b n (rdT s k) (rdE s k) w hr (rd_wf s k) (Nat.le_trans (rdT_le s k) (Nat.le_trans hs (by decide)))
  rw [numS_at s k n h1 h8] at this
  exact this
theorem rdopen_any (s : ByteArray) (w : World) : Calls Try.prog 94 #[.string s] w fun e w' => e = .returned (.pointer (some ⟨w.heap.size, 0, none⟩)) ∧ RdAt w' w.heap.size s 0 ∧ Below w.heap.size w w' ∧ w'.heap.size = w.heap.size + 1 := by
  have := open_any s w
  unfold RdAt
  rw [(rd_zero s).1, (rd_zero s).2]
  exact this
/-- Both numbers at a place, as the program has them. -/
def cAt (s : ByteArray) (k : Nat) : Int := IntKind.i64.wrap (numAt s k 8)
def lAt (s : ByteArray) (k : Nat) : Int := IntKind.i64.wrap (IntKind.i64.wrap (numAt s k 8) - 1)
def mAt (s : ByteArray) (k n : Nat) : Int := IntKind.i64.wrap (numAt s k n)
end Go.Proofs.Yteekjndhehnpaaa
