/- Contracts: texts, padding, zero bytes. -/
import Derived.Test.YtnjpijihjifkfaaO5
import Derived.Test.YtnjpijihjifkfaaShelf
namespace Go.Proofs.Ytnjpijihjifkfaa
open Go.RowKit
/-- Two answers: a number and an error; a text and an error. -/
def numErr (n : Nat) (e : Int) : Ending := .returned (.tuple #[.int .u64 (n : Int), .int .i64 e])
def strErr (s : ByteArray) (e : Int) : Ending := .returned (.tuple #[.string s, .int .i64 e])
theorem numErr_of {a b : Int} {n : Nat} {e : Int} (h1 : a = n) (h2 : b = e) : Ending.returned (.tuple #[.int .u64 a, .int .i64 b]) = numErr n e := by subst h1 h2; rfl
/-- A text's bytes. -/
def textB (s : ByteArray) : ByteArray := bs (numL 2 s.size) ++ s
/-- Zero bytes alone? -/
def allZ (l : List UInt8) : Bool := l.all (· == 0)
theorem allZ_bad (s : ByteArray) (k : Nat) (hk : k < s.size) (h : ((s[k].toNat : Int) != 0) = true) : allZ s.data.toList = false := by
  unfold allZ
  rw [List.all_eq_false]
  refine ⟨s[k], ?_, ?_⟩
  · have : s[k] = s.data.toList[k]'(by simpa using hk) := by simp [ByteArray.getElem_eq_getElem_data]
    rw [this]; exact List.getElem_mem _
  · intro h0
    rw [beq_iff_eq] at h0
    rw [h0] at h
    simp at h
theorem allZ_snoc (s : ByteArray) (k : Nat) (hk : k < s.size) (h : ((s[k].toNat : Int) != 0) = false) (h1 : allZ (s.data.toList.take k) = true) : allZ (s.data.toList.take (k + 1)) = true := by
  rw [take_snoc8 s k hk]
  unfold allZ at h1 ⊢
  rw [List.all_append, h1]
  simp
  rw [bne_eq_false_iff_eq] at h
  apply UInt8.toNat_inj.1
  simpa using h
/-- Padded. -/
def padB (s : ByteArray) (n : Int) : ByteArray := if 65536 < n ∨ n ≤ (s.size : Int) then s else s ++ bs (List.replicate (n - s.size).toNat 0)
theorem repeat_zero (c : Nat) : Lib.repeatL (ByteArray.mk #[0]).data.toList c = List.replicate c 0 := by
  induction c with
  | zero => rfl
  | succ c ih => rw [List.replicate_succ, ← ih]; rfl
theorem rep_any (c : Nat) (w : World) (hc : c ≤ 65536) : Calls Try.prog 51 #[.string ⟨#[0]⟩, .int .i64 (c : Int)] w fun e w' => e = .returned (.string (bs (List.replicate c 0))) ∧ Below w.heap.size w w' := by
  have h1 : (ByteArray.mk #[0]).size = 1 := by decide
  refine (Try.strings_Repeat ⟨#[0]⟩ c w (by omega) (by rw [h1]; omega)).mono ?_
  rintro e w' ⟨rfl, hb⟩
  exact ⟨by rw [repeat_zero]; rfl, hb⟩
theorem pad_same (s : ByteArray) (n : Int) (w : World) (h : 65536 < n ∨ n ≤ (s.size : Int)) (hs : s.size ≤ maxLen) : Calls Try.prog 29 #[.string s, .int .i64 n] w fun e w' => e = .returned (.string s) ∧ w = w' := by
  replace hs : s.size ≤ 9223372036854775807 := hs
  by_cases h1 : 65536 < n
  · go_enter Try.func29, Try.ntmps29
    go_wp2
    go_ret
    exact ⟨rfl, rfl⟩
  · have h2 : n ≤ (s.size : Int) := by omega
    clear h
    go_enter Try.func29, Try.ntmps29
    go_wp2
    go_ret
    exact ⟨rfl, rfl⟩
theorem pad_more (s : ByteArray) (n : Int) (w : World) (h1 : n ≤ 65536) (h2 : (s.size : Int) < n) : Calls Try.prog 29 #[.string s, .int .i64 n] w fun e w' => e = .returned (.string (s ++ bs (List.replicate (n - s.size).toNat 0))) ∧ Below w.heap.size w w' := by
  obtain ⟨c, hc⟩ : ∃ c : Nat, n - (s.size : Int) = (c : Int) := ⟨(n - s.size).toNat, by omega⟩
  have hc1 : c ≤ 65536 := by omega
  have hsz : (bs (List.replicate c 0)).size = c := by rw [bs_size]; simp
  have hsz' : (bs (List.replicate c 0)).size ≤ 65536 := by omega
  have HS := Lib.hid hsz
  rw [hc, Int.toNat_natCast]
  clear hsz
  go_enter Try.func29, Try.ntmps29
  go_wp2_with (go_at_call 51; refine (rep_any c _ hc1).mono ?_; rintro e w1 ⟨rfl, hb⟩)
  go_ret
  exact ⟨rfl, hb⟩
end Go.Proofs.Ytnjpijihjifkfaa
