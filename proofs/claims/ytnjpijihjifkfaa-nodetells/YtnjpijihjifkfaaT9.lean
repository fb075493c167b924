/- Contracts: short texts and kids, read. -/
import Derived.Test.YtnjpijihjifkfaaT8
namespace Go.Proofs.Ytnjpijihjifkfaa
open Go.RowKit
set_option linter.unusedVariables false
theorem numS_lt (s : ByteArray) (e : Int) (k : Nat) (h1 : 1 ≤ k) (h2 : k ≤ 8) : (numS s e (k : Int)).2.2 < 256 ^ k := by
  by_cases he : e = 0 ∨ e ≠ 0
  · rw [numS_good (by omega) (by omega)]
    have h := ofL_lt (rawS s e (k : Int)).2.2.data.toList
    have h3 : (rawS s e (k : Int)).2.2.data.toList.length ≤ k := by
      have := rawS_out s e k
      rwa [show (rawS s e (k : Int)).2.2.data.toList.length = (rawS s e (k : Int)).2.2.size from Array.length_toList ..]
    exact Nat.lt_of_lt_of_le h (Nat.pow_le_pow_right (by omega) h3)
  · omega
theorem numS_le (s : ByteArray) (e n : Int) : (numS s e n).1.size ≤ s.size := by
  unfold numS; split
  · exact Nat.zero_le _
  · exact rawS_le s e n
theorem numS_wf {s : ByteArray} {e n : Int} (h : RWf s e) : RWf (numS s e n).1 (numS s e n).2.1 := by
  unfold numS; split
  · exact .inr rfl
  · exact rawS_wf h
theorem shortS_wf {s : ByteArray} {e : Int} (h : RWf s e) : RWf (shortS s e).1 (shortS s e).2.1 := rawS_wf (numS_wf h)
theorem shortS_le (s : ByteArray) (e : Int) : (shortS s e).1.size ≤ s.size := Nat.le_trans (rawS_le _ _ _) (numS_le s e 1)
theorem shortS_out (s : ByteArray) (e : Int) : (shortS s e).2.2.size ≤ 255 := by
  have h1 : (numS s e 1).2.2 < 256 ^ 1 := numS_lt s e 1 (by omega) (by omega)
  have h2 := rawS_out (numS s e 1).1 (numS s e 1).2.1 (numS s e 1).2.2
  unfold shortS; have : (256 : Nat) ^ 1 = 256 := rfl; omega
theorem rnumS_lit (b : Nat) (s t : ByteArray) (e y : Int) (k : Int) (o : Nat) (h : numS s e k = (t, y, o)) (w : World) (hr : Rd w b s e) (hw : RWf s e) (hs : s.size ≤ maxLen) :
    Calls Try.prog 59 #[.pointer (some ⟨b, 0, none⟩), .int .i64 k] w (Reads b w t y (.int .u64 (o : Int))) := by
  have := rnumS_any b k s e w hr hw hs
  rwa [h] at this
theorem rraw_lit (b : Nat) (s t : ByteArray) (e y : Int) (k : Nat) (o : ByteArray) (h : rawS s e (k : Int) = (t, y, o)) (w : World) (hr : Rd w b s e) (hw : RWf s e) (hs : s.size ≤ maxLen) :
    Calls Try.prog 80 #[.pointer (some ⟨b, 0, none⟩), .int .i64 (k : Int)] w (Reads b w t y (.string o)) := by
  have := raw_any b (k : Int) s e w hr hw hs
  rwa [h] at this
theorem readShort_any (b : Nat) (s t : ByteArray) (e y : Int) (o : ByteArray) (h : shortS s e = (t, y, o)) (w : World) (hr : Rd w b s e) (hw : RWf s e) (hs : s.size ≤ maxLen) :
    Calls Try.prog 81 #[.pointer (some ⟨b, 0, none⟩)] w (Reads b w t y (.string o)) := by
  obtain ⟨t1, y1, k, h1⟩ : ∃ t1 y1 k, numS s e 1 = (t1, y1, k) := ⟨_, _, _, rfl⟩
  have hk := numS_lt s e 1 (by omega) (by omega)
  have hw1 := numS_wf (n := 1) hw
  have hl1 := numS_le s e 1
  unfold shortS at h
  rw [h1] at h hw1 hl1
  have hk2 : k < 256 := by have h2 : (numS s e ((1 : Nat) : Int)).2.2 = k := by rw [show ((1 : Nat) : Int) = 1 from rfl, h1]
                           rw [h2] at hk; simpa using hk
  simp only at h hw1 hl1
  have K1 := Lib.hid (fun w hr => rnumS_lit b s t1 e y1 1 k h1 w hr hw hs)
  have K2 := Lib.hid (fun w hr => rraw_lit b t1 t y1 y k o h w hr hw1 (Nat.le_trans hl1 hs))
  have HR := Lib.hid hr
  clear h h1 hw hw1 hl1 hk hr
  go_enter Try.func81, Try.ntmps81
  go_wp2_with fail
  refine (K1.out _ HR.out).mono ?_
  rintro e w1 ⟨rfl, R1, o1⟩
  go_wp2_with fail
  refine (K2.out _ R1).mono ?_
  rintro e w2 ⟨rfl, R2, o2⟩
  go_wp2_with fail
  go_ret
  exact ⟨rfl, R2, o1.trans o2⟩
theorem readKid_any (b : Nat) (s t : ByteArray) (e y : Int) (k : Nat) (h : numS s e 2 = (t, y, k)) (w : World) (hr : Rd w b s e) (hw : RWf s e) (hs : s.size ≤ maxLen) :
    Calls Try.prog 82 #[.pointer (some ⟨b, 0, none⟩)] w (Reads b w t y (.int .i64 (k : Int))) := by
  have hk := numS_lt s e 2 (by omega) (by omega)
  have hk2 : k < 65536 := by have h2 : (numS s e ((2 : Nat) : Int)).2.2 = k := by rw [show ((2 : Nat) : Int) = 2 from rfl, h]
                             rw [h2] at hk; simpa using hk
  have K1 := Lib.hid (fun w hr => rnumS_lit b s t e y 2 k h w hr hw hs)
  have HR := Lib.hid hr
  clear h hw hk hr
  go_enter Try.func82, Try.ntmps82
  go_wp2_with fail
  refine (K1.out _ HR.out).mono ?_
  rintro e w1 ⟨rfl, R1, o1⟩
  go_wp2_with fail
  go_ret
  exact ⟨rfl, R1, o1⟩
end Go.Proofs.Ytnjpijihjifkfaa
