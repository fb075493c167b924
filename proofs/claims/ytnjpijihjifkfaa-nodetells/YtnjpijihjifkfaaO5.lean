/- Contracts: a reader's Num. -/
import Derived.Test.YtnjpijihjifkfaaO4
namespace Go.Proofs.Ytnjpijihjifkfaa
open Go.RowKit
/-- What Raw does to a reader, and what it answers. -/
def rawS (s : ByteArray) (e n : Int) : ByteArray × Int × ByteArray :=
  if e ≠ 0 then (s, e, ByteArray.empty) else if n < 0 then (ByteArray.empty, 18, ByteArray.empty) else if (s.size : Int) < n then (ByteArray.empty, 20, ByteArray.empty) else (s.extract n.toNat s.size, 0, s.extract 0 n.toNat)
theorem rawS_failed {s : ByteArray} {e n : Int} (h : e ≠ 0) : rawS s e n = (s, e, ByteArray.empty) := by simp [rawS, h]
theorem rawS_neg {s : ByteArray} {n : Int} (h : n < 0) : rawS s 0 n = (ByteArray.empty, 18, ByteArray.empty) := by simp [rawS, h]
theorem rawS_short {s : ByteArray} {n : Int} (h : (s.size : Int) < n) : rawS s 0 n = (ByteArray.empty, 20, ByteArray.empty) := by
  unfold rawS; rw [if_neg (by simp), if_neg (by omega), if_pos h]
theorem rawS_ok {s : ByteArray} {n : Nat} (h : n ≤ s.size) : rawS s 0 n = (s.extract n s.size, 0, s.extract 0 n) := by
  unfold rawS; rw [if_neg (by simp), if_neg (by omega), if_neg (by omega)]; simp
/-- A reader that has failed has nothing left. -/
def RWf (s : ByteArray) (e : Int) : Prop := e = 0 ∨ s.size = 0
theorem ext_size (s : ByteArray) (a b : Nat) : (s.extract a b).size = min b s.size - a := by simp
theorem rawS_wf {s : ByteArray} {e n : Int} (h : RWf s e) : RWf (rawS s e n).1 (rawS s e n).2.1 := by
  by_cases he : e = 0
  · subst he
    by_cases h1 : n < 0
    · rw [rawS_neg h1]; exact .inr rfl
    · by_cases h2 : (s.size : Int) < n
      · rw [rawS_short h2]; exact .inr rfl
      · obtain ⟨m, rfl⟩ := Int.eq_ofNat_of_zero_le (show 0 ≤ n by omega)
        rw [rawS_ok (by omega)]; exact .inl rfl
  · rw [rawS_failed he]; exact h
theorem rawS_le (s : ByteArray) (e n : Int) : (rawS s e n).1.size ≤ s.size := by
  by_cases he : e = 0
  · subst he
    by_cases h1 : n < 0
    · rw [rawS_neg h1]; exact Nat.zero_le _
    · by_cases h2 : (s.size : Int) < n
      · rw [rawS_short h2]; exact Nat.zero_le _
      · obtain ⟨m, rfl⟩ := Int.eq_ofNat_of_zero_le (show 0 ≤ n by omega)
        rw [rawS_ok (by omega)]; show (s.extract m s.size).size ≤ _; rw [ext_size]; omega
  · rw [rawS_failed he]; exact Nat.le_refl _
theorem rawS_out (s : ByteArray) (e : Int) (n : Nat) : (rawS s e n).2.2.size ≤ n := by
  by_cases he : e = 0
  · subst he
    by_cases h2 : (s.size : Int) < n
    · rw [rawS_short h2]; exact Nat.zero_le _
    · rw [rawS_ok (by omega)]; show (s.extract 0 n).size ≤ _; rw [ext_size]; omega
  · rw [rawS_failed he]; exact Nat.zero_le _
/-- How a read ends. -/
def Reads (b : Nat) (w : World) (t : ByteArray) (y : Int) (v : Value) (x : Ending) (w' : World) : Prop := x = .returned v ∧ Rd w' b t y ∧ Only b w w'
theorem raw_any (b : Nat) (n : Int) (s : ByteArray) (e : Int) (w : World) (hr : Rd w b s e) (hw : RWf s e) (hs : s.size ≤ maxLen) :
    Calls Try.prog 80 #[.pointer (some ⟨b, 0, none⟩), .int .i64 n] w (Reads b w (rawS s e n).1 (rawS s e n).2.1 (.string (rawS s e n).2.2)) := by
  by_cases he : e = 0
  · subst he
    by_cases h1 : n < 0
    · rw [rawS_neg h1]; exact raw_bad b n 18 s w hr (.inl ⟨h1, rfl⟩)
    · by_cases h2 : (s.size : Int) < n
      · rw [rawS_short h2]; exact raw_bad b n 20 s w hr (.inr ⟨by omega, h2, rfl⟩)
      · obtain ⟨m, rfl⟩ := Int.eq_ofNat_of_zero_le (show 0 ≤ n by omega)
        rw [rawS_ok (by omega)]; exact raw_ok b m s 0 w hr hs (by omega)
  · rw [rawS_failed he]
    exact raw_failed b n s e w hr (by rcases hw with h | h; exact absurd h he; exact h) (by simp [he])
/-- What a reader's Num does. -/
def numS (s : ByteArray) (e n : Int) : ByteArray × Int × Nat :=
  if e = 0 ∧ (n < 1 ∨ 8 < n) then (ByteArray.empty, 18, 0) else ((rawS s e n).1, (rawS s e n).2.1, ofL (rawS s e n).2.2.data.toList)
theorem numS_bad {s : ByteArray} {n : Int} (h : n < 1 ∨ 8 < n) : numS s 0 n = (ByteArray.empty, 18, 0) := by simp [numS, h]
theorem numS_good {s : ByteArray} {e n : Int} (h1 : 1 ≤ n) (h2 : n ≤ 8) : numS s e n = ((rawS s e n).1, (rawS s e n).2.1, ofL (rawS s e n).2.2.data.toList) := by
  unfold numS; rw [if_neg (by omega)]
theorem numS_failed {s : ByteArray} {e n : Int} (h : e ≠ 0) : numS s e n = (s, e, 0) := by
  unfold numS; rw [if_neg (by omega), rawS_failed h]; rfl
theorem rnum_good (b n : Nat) (s : ByteArray) (e : Int) (w : World) (hr : Rd w b s e) (hw : RWf s e) (hs : s.size ≤ maxLen) (h1 : 1 ≤ n) (h2 : n ≤ 8) :
    Calls Try.prog 59 #[.pointer (some ⟨b, 0, none⟩), .int .i64 (n : Int)] w (Reads b w (rawS s e n).1 (rawS s e n).2.1 (.int .u64 (ofL (rawS s e n).2.2.data.toList : Nat))) := by
  obtain ⟨t, y, o, hq⟩ : ∃ t y o, rawS s e n = (t, y, o) := ⟨_, _, _, rfl⟩
  have ho : o.size ≤ 8 := by have := rawS_out s e n; rw [hq] at this; exact Nat.le_trans this h2
  have hrw := fun w' hr' => raw_any b n s e w' hr' hw hs
  rw [hq] at hrw ⊢
  have HQ := Lib.hid hq
  have HRW := Lib.hid hrw
  clear hq hrw
  show Calls _ _ _ _ (Reads b w t y (.int .u64 (ofL o.data.toList : Nat)))
  go_enter Try.func59, Try.ntmps59
  go_wp2_with (first | (go_at_call 77; refine (failing_any _ _).mono ?_; rintro e w1 ⟨rfl, hx, hb, hsz⟩) | (go_at_call 78; refine (isWidth_yes _ _ (by omega) (by omega)).mono ?_; rintro e w' ⟨rfl, rfl⟩) | (go_at_call 80; refine (HRW.out _ (hr.below hb)).mono ?_; rintro e w2 ⟨rfl, hr2, ho2⟩) | (go_at_call 79; refine (number_any o _ ho).mono ?_; rintro e w' ⟨rfl, rfl⟩))
  go_ret
  exact ⟨rfl, hr2, (Only.of_below hb).trans ho2⟩
theorem rnum_bad (b : Nat) (n : Int) (s : ByteArray) (w : World) (hr : Rd w b s 0) (h : n < 1 ∨ 8 < n) :
    Calls Try.prog 59 #[.pointer (some ⟨b, 0, none⟩), .int .i64 n] w (Reads b w ByteArray.empty 18 (.int .u64 0)) := by
  have H := Lib.hid h
  clear h
  go_enter Try.func59, Try.ntmps59
  go_wp2_with (first | (go_at_call 77; refine (failing_any _ _).mono ?_; rintro e w1 ⟨rfl, hx, hb, hsz⟩) | (go_at_call 78; refine (isWidth_no _ _ H.out).mono ?_; rintro e w' ⟨rfl, rfl⟩) | (go_at_call 88; refine (fail_yes _ _ b s _ hx (hr.below hb)).mono ?_; rintro e w2 ⟨rfl, hr2, ho2⟩))
  go_ret
  exact ⟨rfl, hr2, (Only.of_below hb).trans ho2⟩
theorem rnum_failed (b : Nat) (n : Int) (s : ByteArray) (e : Int) (w : World) (hr : Rd w b s e) (h : n < 1 ∨ 8 < n) (he : (e == 0) = false) :
    Calls Try.prog 59 #[.pointer (some ⟨b, 0, none⟩), .int .i64 n] w (Reads b w s e (.int .u64 0)) := by
  have H := Lib.hid h
  clear h
  go_enter Try.func59, Try.ntmps59
  go_wp2_with (first | (go_at_call 77; refine (failing_any _ _).mono ?_; rintro e w1 ⟨rfl, hx, hb, hsz⟩) | (go_at_call 78; refine (isWidth_no _ _ H.out).mono ?_; rintro e w' ⟨rfl, rfl⟩) | (go_at_call 88; refine (fail_no _ _ b s e _ hx (hr.below hb) he).mono ?_; rintro e w2 ⟨rfl, rfl⟩))
  go_ret
  exact ⟨rfl, hr.below hb, Only.of_below hb⟩
theorem rnumS_any (b : Nat) (n : Int) (s : ByteArray) (e : Int) (w : World) (hr : Rd w b s e) (hw : RWf s e) (hs : s.size ≤ maxLen) :
    Calls Try.prog 59 #[.pointer (some ⟨b, 0, none⟩), .int .i64 n] w (Reads b w (numS s e n).1 (numS s e n).2.1 (.int .u64 ((numS s e n).2.2 : Nat))) := by
  by_cases h : n < 1 ∨ 8 < n
  · by_cases he : e = 0
    · subst he; rw [numS_bad h]; exact rnum_bad b n s w hr h
    · rw [numS_failed he]; exact rnum_failed b n s e w hr h (by simp [he])
  · obtain ⟨m, rfl⟩ := Int.eq_ofNat_of_zero_le (show 0 ≤ n by omega)
    rw [numS_good (by omega) (by omega)]; exact rnum_good b m s e w hr hw hs (by omega) (by omega)
theorem rnum_nil (n : Int) (w : World) : Calls Try.prog 59 #[.pointer none, .int .i64 n] w fun x w' => x = .returned (.int .u64 0) ∧ Below w.heap.size w w' := by
  by_cases h : n < 1 ∨ 8 < n
  · have H := Lib.hid h
    clear h
    go_enter Try.func59, Try.ntmps59
    go_wp2_with (first | (go_at_call 77; refine (failing_any _ _).mono ?_; rintro e w1 ⟨rfl, hx, hb, hsz⟩) | (go_at_call 78; refine (isWidth_no _ _ H.out).mono ?_; rintro e w' ⟨rfl, rfl⟩) | (go_at_call 88; refine (fail_nil _ _ _ hx).mono ?_; rintro e w2 ⟨rfl, rfl⟩))
    go_ret
    exact ⟨rfl, hb⟩
  · go_enter Try.func59, Try.ntmps59
    go_wp2_with (first | (go_at_call 77; refine (failing_any _ _).mono ?_; rintro e w1 ⟨rfl, hx, hb, hsz⟩) | (go_at_call 78; refine (isWidth_yes _ _ (by omega) (by omega)).mono ?_; rintro e w' ⟨rfl, rfl⟩) | (go_at_call 80; refine (raw_nil _ _).mono ?_; rintro e w2 ⟨rfl, rfl⟩) | (go_at_call 79; refine (number_any _ _ (by decide)).mono ?_; rintro e w' ⟨rfl, rfl⟩))
    go_ret
    exact ⟨rfl, hb⟩
end Go.Proofs.Ytnjpijihjifkfaa
