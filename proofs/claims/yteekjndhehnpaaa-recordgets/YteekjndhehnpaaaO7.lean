/- Contracts: texts, padding, zero bytes. -/
import Derived.Test.YteekjndhehnpaaaO5
namespace Go.Proofs.Yteekjndhehnpaaa
open Go.RowKit
set_option maxRecDepth 100000
/-- Two answers: a number and an error; a text and an error. -/
def numErr (n : Nat) (e : Int) : Ending := .returned (.tuple #[.int .u64 (n : Int), .int .i64 e])
def strErr (s : ByteArray) (e : Int) : Ending := .returned (.tuple #[.string s, .int .i64 e])
theorem numErr_of {a b : Int} {n : Nat} {e : Int} (h1 : a = n) (h2 : b = e) : Ending.returned (.tuple #[.int .u64 a, .int .i64 b]) = numErr n e := by subst h1 h2; rfl
theorem ofRise_ok (s : ByteArray) (w : World) (hs : s.size = 8) : Calls Try.prog 98 #[.string s] w fun e w' => e = numErr (ofL s.data.toList) 0 ∧ w = w' := by
  have h8 : s.size ≤ 8 := by omega
  have h9 : 8 ≤ s.size := by omega
  have hd : ((s.size : Int) != 8) = false := by rw [bne_eq_false_iff_eq]; omega
  clear hs
  go_enter Try.func98, Try.ntmps98
  go_wp2_with (go_at_call 114; refine (number_any _ _ h8).mono ?_; rintro e w' ⟨rfl, rfl⟩)
  go_ret2
  exact ⟨rfl, rfl⟩
theorem ofRise_no (s : ByteArray) (w : World) (hs : s.size ≠ 8) : Calls Try.prog 98 #[.string s] w fun e w' => e = numErr 0 19 ∧ w = w' := by
  have hd : ((s.size : Int) != 8) = true := by rw [bne_iff_ne]; omega
  clear hs
  go_enter Try.func98, Try.ntmps98
  go_wp2
  go_ret2
  exact ⟨rfl, rfl⟩
theorem ofFall_ok (s : ByteArray) (n f : Nat) (w : World) (hs : s.size = 8) (hn : ofL s.data.toList = n) (hf : n + f = 18446744073709551615) : Calls Try.prog 97 #[.string s] w fun e w' => e = numErr f 0 ∧ w = w' := by
  have hx : bits .xor .u64 IntKind.u64.max (n : Int) = (f : Int) := by rw [u64_not n (by omega)]; omega
  have HC := fun w' => ofRise_ok s w' hs
  rw [hn] at HC
  have HC := Lib.hid HC
  clear hn hs hf
  rename Hid _ => HC
  go_enter Try.func97, Try.ntmps97
  go_wp2_with (go_at_call 98; refine (HC.out _).mono ?_; rintro e w' ⟨rfl, rfl⟩; unfold numErr)
  go_ret2
  exact ⟨rfl, rfl⟩
theorem ofFall_no (s : ByteArray) (w : World) (hs : s.size ≠ 8) : Calls Try.prog 97 #[.string s] w fun e w' => e = numErr 0 19 ∧ w = w' := by
  have HS := Lib.hid hs
  clear hs
  go_enter Try.func97, Try.ntmps97
  go_wp2_with (go_at_call 98; refine (ofRise_no _ _ HS.out).mono ?_; rintro e w' ⟨rfl, rfl⟩; unfold numErr)
  go_ret2
  exact ⟨rfl, rfl⟩
/-- A text's bytes. -/
def textB (s : ByteArray) : ByteArray := bs (numL 2 s.size) ++ s
/-- Zero bytes alone? -/
def allZ (l : List UInt8) : Bool := l.all (· == 0)
theorem allZ_bad (s : ByteArray) (k : Nat) (hk : k < s.size) (h : ((s[k].toNat : Int) != 0) = true) : allZ s.data.toList = false := by
  unfold allZ
  rw [List.all_eq_false]
  refine ⟨s[k], ?_, ?_⟩
  · have : s[k] = s.data.toList[k]'(by simpa using hk) := by simp [ByteArray.getElem_eq_getElem_data]
    rw [this]; exact List.getElem_mem _
  · intro h0
    rw [beq_iff_eq] at h0
    rw [h0] at h
    simp at h
theorem allZ_snoc (s : ByteArray) (k : Nat) (hk : k < s.size) (h : ((s[k].toNat : Int) != 0) = false) (h1 : allZ (s.data.toList.take k) = true) : allZ (s.data.toList.take (k + 1)) = true := by
  rw [take_snoc8 s k hk]
  unfold allZ at h1 ⊢
  rw [List.all_append, h1]
  simp
  rw [bne_eq_false_iff_eq] at h
  apply UInt8.toNat_inj.1
  simpa using h
/-- Padded. -/
def padB (s : ByteArray) (n : Int) : ByteArray := if 65536 < n ∨ n ≤ (s.size : Int) then s else s ++ bs (List.replicate (n - s.size).toNat 0)
end Go.Proofs.Yteekjndhehnpaaa
