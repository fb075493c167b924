/- Contracts: texts, padding, zero bytes. -/
import Derived.Test.YtgbnmokajaehhaaDoorXO6
namespace Go.Proofs.YtgbnmokajaehhaaDoor.Oc
open Go.RowKit
/-- Two answers: a number and an error; a text and an error. -/
def numErr (n : Nat) (e : Int) : Ending := .returned (.tuple #[.int .u64 (n : Int), .int .i64 e])
def strErr (s : ByteArray) (e : Int) : Ending := .returned (.tuple #[.string s, .int .i64 e])
theorem numErr_of {a b : Int} {n : Nat} {e : Int} (h1 : a = n) (h2 : b = e) : Ending.returned (.tuple #[.int .u64 a, .int .i64 b]) = numErr n e := by subst h1 h2; rfl
theorem ofRise_ok (s : ByteArray) (w : World) (hs : s.size = 8) : Calls Tryd.prog 34 #[.string s] w fun e w' => e = numErr (ofL s.data.toList) 0 ∧ w = w' := by
  have h8 : s.size ≤ 8 := by omega
  have h9 : 8 ≤ s.size := by omega
  have hd : ((s.size : Int) != 8) = false := by rw [bne_eq_false_iff_eq]; omega
  clear hs
  go_enter Tryd.func34, Tryd.ntmps34
  go_wp2_with (go_at_call 59; refine (number_any _ _ h8).mono ?_; rintro e w' ⟨rfl, rfl⟩)
  go_ret2
  exact ⟨rfl, rfl⟩
theorem ofRise_no (s : ByteArray) (w : World) (hs : s.size ≠ 8) : Calls Tryd.prog 34 #[.string s] w fun e w' => e = numErr 0 19 ∧ w = w' := by
  have hd : ((s.size : Int) != 8) = true := by rw [bne_iff_ne]; omega
  clear hs
  go_enter Tryd.func34, Tryd.ntmps34
  go_wp2
  go_ret2
  exact ⟨rfl, rfl⟩
/-- A text's bytes. -/
def textB (s : ByteArray) : ByteArray := bs (numL 2 s.size) ++ s
theorem text_ok (s : ByteArray) (w : World) (hs : s.size ≤ 65535) : Calls Tryd.prog 27 #[.string s] w fun e w' => e = strErr (textB s) 0 ∧ Below w.heap.size w w' := by
  have hb2 : (bs (numL 2 s.size)).size = 2 := by rw [bs_size, numL_length]
  go_enter Tryd.func27, Tryd.ntmps27
  go_wp2_with (go_at_call 32; refine (num_ok 2 s.size _ (by omega) (by omega) (by omega)).mono ?_; rintro e w1 ⟨rfl, hb⟩)
  go_ret2
  exact ⟨rfl, hb⟩
theorem text_no (s : ByteArray) (w : World) (hs : 65535 < s.size) : Calls Tryd.prog 27 #[.string s] w fun e w' => e = strErr ByteArray.empty 11 ∧ w = w' := by
  go_enter Tryd.func27, Tryd.ntmps27
  go_wp2
  go_ret2
  exact ⟨rfl, rfl⟩
/-- Zero bytes alone? -/
def allZ (l : List UInt8) : Bool := l.all (· == 0)
theorem allZ_bad (s : ByteArray) (k : Nat) (hk : k < s.size) (h : ((s[k].toNat : Int) != 0) = true) : allZ s.data.toList = false := by
  unfold allZ
  rw [List.all_eq_false]
  refine ⟨s[k], ?_, ?_⟩
  · have : s[k] = s.data.toList[k]'(by simpa using hk) := by simp [ByteArray.getElem_eq_getElem_data]
    rw [this]; exact List.getElem_mem _
  · intro h0
    rw [beq_iff_eq] at h0
    rw [h0] at h
    simp at h
theorem allZ_snoc (s : ByteArray) (k : Nat) (hk : k < s.size) (h : ((s[k].toNat : Int) != 0) = false) (h1 : allZ (s.data.toList.take k) = true) : allZ (s.data.toList.take (k + 1)) = true := by
  rw [take_snoc8 s k hk]
  unfold allZ at h1 ⊢
  rw [List.all_append, h1]
  simp
  rw [bne_eq_false_iff_eq] at h
  apply UInt8.toNat_inj.1
  simpa using h
/-- Padded. -/
def padB (s : ByteArray) (n : Int) : ByteArray := if 65536 < n ∨ n ≤ (s.size : Int) then s else s ++ bs (List.replicate (n - s.size).toNat 0)
end Go.Proofs.YtgbnmokajaehhaaDoor.Oc
