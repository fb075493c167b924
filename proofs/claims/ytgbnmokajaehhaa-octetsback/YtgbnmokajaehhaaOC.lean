/- The examples of package octets. -/
import Derived.Test.YtgbnmokajaehhaaOB
namespace Go.Proofs.Ytgbnmokajaehhaa
open Go.RowKit
theorem rtext_lit (b : Nat) (most : Int) (s : ByteArray) (e : Int) (t : ByteArray) (y : Int) (o : ByteArray) (h : textS s e most = (t, y, o)) (w : World) (hr : Rd w b s e) (hw : RWf s e) (hs : s.size ≤ maxLen) :
    Calls Try.prog 32 #[.pointer (some ⟨b, 0, none⟩), .int .i64 most] w (Reads b w t y (.string o)) := by
  have := rtext_any b most s e w hr hw hs
  rwa [h] at this
theorem rnum_lit (b : Nat) (n : Int) (s : ByteArray) (e : Int) (t : ByteArray) (y : Int) (o : Nat) (h : numS s e n = (t, y, o)) (w : World) (hr : Rd w b s e) (hw : RWf s e) (hs : s.size ≤ maxLen) :
    Calls Try.prog 30 #[.pointer (some ⟨b, 0, none⟩), .int .i64 n] w (Reads b w t y (.int .u64 (o : Int))) := by
  have := rnumS_any b n s e w hr hw hs
  rwa [h] at this
theorem text_lit (s t : ByteArray) (h : textB s = t) (w : World) (hs : s.size ≤ 65535) : Calls Try.prog 12 #[.string s] w fun e w' => e = .returned (.tuple #[.string t, .int .i64 0]) ∧ Below w.heap.size w w' := by
  subst h; exact text_ok s w hs
theorem rise_lit (n : Nat) (t : ByteArray) (h : bs (numL 8 n) = t) (w : World) (hn : n < 18446744073709551616) :
    Calls Try.prog 19 #[.int .u64 (n : Int)] w fun e w' => e = .returned (.string t) ∧ Below w.heap.size w w' := by
  subst h; exact rise_any n w hn
theorem fall_lit (n f : Nat) (t : ByteArray) (h : bs (numL 8 f) = t) (w : World) (hn : n < 18446744073709551616) (hf : n + f = 18446744073709551615) :
    Calls Try.prog 20 #[.int .u64 (n : Int)] w fun e w' => e = .returned (.string t) ∧ Below w.heap.size w w' := by
  subst h; exact fall_any n f w hn hf
theorem ofFall_lit (s : ByteArray) (n f : Nat) (w : World) (hs : s.size = 8) (hn : ofL s.data.toList = n) (hf : n + f = 18446744073709551615) : Calls Try.prog 16 #[.string s] w fun e w' => e = .returned (.tuple #[.int .u64 (f : Int), .int .i64 0]) ∧ w = w' := ofFall_ok s n f w hs hn hf
theorem noughts_lit (s : ByteArray) (v : Bool) (h : allZ s.data.toList = v) (w : World) (hs : s.size ≤ maxLen) : Calls Try.prog 26 #[.string s] w fun e w' => e = .returned (.bool v) ∧ w = w' := by
  subst h; exact noughts_any s w hs
theorem v1 : textB ⟨#[97, 98]⟩ = ⟨#[0, 2, 97, 98]⟩ := by kernel_rfl
theorem v2 : textS ⟨#[0, 2, 97, 98, 1, 2, 3]⟩ 0 2 = (⟨#[1, 2, 3]⟩, 0, ⟨#[97, 98]⟩) := by kernel_rfl
theorem v3 : numS ⟨#[1, 2, 3]⟩ 0 2 = (⟨#[3]⟩, 0, 258) := by kernel_rfl
theorem v4 : numS ⟨#[3]⟩ 0 2 = (ByteArray.empty, 20, 0) := by kernel_rfl
theorem v5 : textS ⟨#[0, 3, 97, 98, 99]⟩ 0 2 = (ByteArray.empty, 11, ByteArray.empty) := by kernel_rfl
theorem v6 : bs (numL 8 18446744073709551610) = ⟨#[255, 255, 255, 255, 255, 255, 255, 250]⟩ := by kernel_rfl
theorem v7 : ofL (ByteArray.mk #[255, 255, 255, 255, 255, 255, 255, 250]).data.toList = 18446744073709551610 := by kernel_rfl
theorem v8 : bs (numL 8 258) = ⟨#[0, 0, 0, 0, 0, 0, 1, 2]⟩ := by kernel_rfl
theorem v9 : cutB 2 ⟨#[97, 98, 99]⟩ = [⟨#[97, 98]⟩, ⟨#[99]⟩] := by kernel_rfl
theorem v10 : (ByteArray.mk #[97]) ++ bs (List.replicate (3 - ((ByteArray.mk #[97]).size : Int)).toNat 0) = ⟨#[97, 0, 0]⟩ := by kernel_rfl
theorem v11 : allZ (ByteArray.mk #[0]).data.toList = true := by kernel_rfl
theorem v12 : allZ (ByteArray.mk #[97]).data.toList = false := by kernel_rfl
def Two (w : World) (e : Ending) (w' : World) : Prop := ∃ a cap, e = .returned (.slice a 2 cap) ∧ Below w.heap.size w w'
theorem cut2 (w : World) : Calls Try.prog 24 #[.string ⟨#[97, 98, 99]⟩, .int .i64 2] w (Two w) := by
  refine (cut_any ⟨#[97, 98, 99]⟩ 2 w (by decide) (by omega) (by omega)).mono ?_
  rintro e w' ⟨v, rfl, hS⟩
  obtain ⟨a, cap, hv, _, _⟩ := hS.strs
  rw [v9] at hv
  exact ⟨a, cap, by rw [hv]; rfl, hS.below⟩
theorem pad_lit (w : World) : Calls Try.prog 21 #[.string ⟨#[97]⟩, .int .i64 3] w fun e w' => e = .returned (.string ⟨#[97, 0, 0]⟩) ∧ Below w.heap.size w w' := by
  have := pad_more ⟨#[97]⟩ 3 w (by omega) (by decide)
  rwa [v10] at this

set_option maxRecDepth 100000 in
set_option maxHeartbeats 2000000 in
theorem lives3 (w : World) : Calls Try.prog 11 #[] w fun e w' => e = .returned (.bool true) ∧ Below w.heap.size w w' := by
  go_enter Try.func11, Try.ntmps11
  go_wp2_with fail
  refine (text_lit _ _ v1 _ (by decide)).mono ?_
  rintro e w1 ⟨rfl, B1⟩
  go_wp2_with fail
  refine (open_any _ _).mono ?_
  rintro e w2 ⟨rfl, R2, hb, hz⟩
  have B2 := below_to B1 hb
  clear hb hz
  go_wp2_with fail
  refine (rtext_lit _ _ _ _ _ _ _ v2 _ R2 (.inl rfl) (by decide)).mono ?_
  rintro e w3 ⟨rfl, R3, o3⟩
  have B3 := o3.below B2 B1.size (Nat.le_trans B1.size (Nat.le_of_lt R2.lt))
  clear R2 o3
  go_wp2_with fail
  refine (rnum_lit _ _ _ _ _ _ _ v3 _ R3 (.inl rfl) (by decide)).mono ?_
  rintro e w4 ⟨rfl, R4, o4⟩
  have B4 := o4.below B3 B1.size (Nat.le_trans B1.size (Nat.le_of_lt R3.lt))
  clear R3 o4
  go_wp2_with fail
  refine (left_any _ _ _ _ R4).mono ?_
  rintro e w' ⟨rfl, rfl⟩
  go_wp2_with fail
  refine (rnum_lit _ _ _ _ _ _ _ v4 _ R4 (.inl rfl) (by decide)).mono ?_
  rintro e w5 ⟨rfl, R5, o5⟩
  have B5 := o5.below B4 B1.size (Nat.le_trans B1.size (Nat.le_of_lt R4.lt))
  clear R4 o5
  go_wp2_with fail
  refine (open_any _ _).mono ?_
  rintro e w6 ⟨rfl, Q6, hb, hz⟩
  have B6 := below_to B5 hb
  have R6 := R5.below hb
  have hlt := R5.lt
  clear hb hz R5
  go_wp2_with fail
  refine (rtext_lit _ _ _ _ _ _ _ v5 _ Q6 (.inl rfl) (by decide)).mono ?_
  rintro e w7 ⟨rfl, Q7, o7⟩
  have B7 := o7.below B6 B5.size (Nat.le_trans B5.size (Nat.le_of_lt Q6.lt))
  have R7 := R6.only o7 (by omega)
  clear o7 Q6 R6
  go_wp2_with fail
  refine (fall_lit 5 _ _ v6 _ (by omega) (by omega)).mono ?_
  rintro e w8 ⟨rfl, hb⟩
  have B8 := below_to B7 hb
  have R8 := R7.below hb
  have Q8 := Q7.below hb
  clear hb R7 Q7
  go_wp2_with fail
  refine (ofFall_lit _ _ 5 _ (by decide) v7 (by omega)).mono ?_
  rintro e w' ⟨rfl, rfl⟩
  go_wp2_with fail
  refine (err_any _ _ _ _ R8).mono ?_
  rintro e w' ⟨rfl, rfl⟩
  go_wp2_with fail
  refine (err_any _ _ _ _ Q8).mono ?_
  rintro e w' ⟨rfl, rfl⟩
  clear R8 Q8
  go_wp2_with fail
  refine (rise_lit 258 _ v8 _ (by omega)).mono ?_
  rintro e w9 ⟨rfl, hb⟩
  have B9 := below_to B8 hb
  clear hb
  go_wp2_with fail
  refine (cut2 _).mono ?_
  rintro e wA ⟨ax, cx, rfl, hb⟩
  have BA := below_to B9 hb
  clear hb
  go_wp2_with fail
  refine (pad_lit _).mono ?_
  rintro e wB ⟨rfl, hb⟩
  have BB := below_to BA hb
  clear hb
  go_wp2_with fail
  refine (noughts_lit _ _ v11 _ (by decide)).mono ?_
  rintro e w' ⟨rfl, rfl⟩
  go_wp2_with fail
  refine (noughts_lit _ _ v12 _ (by decide)).mono ?_
  rintro e w' ⟨rfl, rfl⟩
  go_wp2_with fail
  go_ret
  exact ⟨rfl, BB⟩
end Go.Proofs.Ytgbnmokajaehhaa
