/- Contract: the law's names. -/
import Derived.Test.YtgbnmokajaehhaaDoorNE
namespace Go.Proofs.YtgbnmokajaehhaaDoor
open Go.RowKit Go.Sort
set_option linter.unusedVariables false
def keyBB (s : ByteArray) : Bool := decide (0 < s.size ∧ s.size ≤ 24) && allB (keyB s) s.size
def preBB (s : ByteArray) : Bool := decide (s.size ≤ 24) && allB (keyB s) s.size
theorem bucket_all (s : ByteArray) (w : World) : Calls Tryd.prog 38 #[.string s] w fun e w' => e = .returned (.int .i64 (argE (bucketB s))) ∧ Below w.heap.size w w' := by
  by_cases h : s.size ≤ 1048576
  · exact bucket_any s h w
  · have HR := Lib.hid (bucketB_no s (by omega))
    have hB : Below w.heap.size w (w.alloc (.cells #[.string s] 9)) := (Below.refl _ _).alloc (Nat.le_refl _) _
    go_enter Tryd.func38, Tryd.ntmps38
    go_wp2_with fail
    refine (check_long s 12 _ (by omega) _).mono ?_
    rintro e w' ⟨rfl, rfl⟩
    go_wp2
    go_ret
    exact ⟨ret_int (by rw [HR.out]; rfl), hB⟩
theorem key_all (s : ByteArray) (w : World) : Calls Tryd.prog 39 #[.string s] w fun e w' => e = .returned (.int .i64 (argE (keyBB s))) ∧ Below w.heap.size w w' := by
  by_cases h : s.size ≤ 1048576
  · exact key_any s h w
  · have HR := Lib.hid (show keyBB s = false by unfold keyBB; rw [decide_eq_false (by omega)]; rfl)
    have hB : Below w.heap.size w (w.alloc (.cells #[.string s] 9)) := (Below.refl _ _).alloc (Nat.le_refl _) _
    go_enter Tryd.func39, Tryd.ntmps39
    go_wp2_with fail
    refine (check_long s 24 _ (by omega) _).mono ?_
    rintro e w' ⟨rfl, rfl⟩
    go_wp2
    go_ret
    exact ⟨ret_int (by rw [HR.out]; rfl), hB⟩
theorem prefix_all (s : ByteArray) (w : World) : Calls Tryd.prog 40 #[.string s] w fun e w' => e = .returned (.int .i64 (argE (preBB s))) ∧ Below w.heap.size w w' := by
  by_cases h : s.size ≤ 1048576
  · exact prefix_any s h w
  · have hk : keyBB s = preBB s := by unfold keyBB preBB; rw [decide_eq_false (by omega), decide_eq_false (by omega)]
    have HK := Lib.hid (key_all s)
    rw [hk] at HK
    have hne : s.toList.isEmpty = false := by rw [ByteArray.toList_eq]; cases hl : s.data.toList with
      | nil => rw [blen, hl] at h; simp at h
      | cons c l => rfl
    clear h hk
    obtain ⟨b, hb⟩ : ∃ b, argE (preBB s) = b := ⟨_, rfl⟩
    rw [hb] at HK ⊢
    clear hb
    go_enter Tryd.func40, Tryd.ntmps40
    go_wp2_with fail
    refine (HK.out _).mono ?_
    rintro e w' ⟨rfl, hb⟩
    go_wp2
    go_ret
    exact ⟨rfl, hb⟩
set_option maxHeartbeats 2000000 in
theorem names_any (s : ByteArray) (hs : s.size ≤ 9223372036854775806) (w : World) : Calls Tryd.prog 10 #[.string s] w fun e w' => e = .returned (.bool true) ∧ Below w.heap.size w w' := by
  have K1 := Lib.hid (bucket_all s)
  have K2 := Lib.hid (fun w => rbucket_any s w hs)
  have K3 := Lib.hid (key_all s)
  have K4 := Lib.hid (rkey_any s hs)
  have K5 := Lib.hid (prefix_all s)
  have K6 := Lib.hid (rprefix_any s hs)
  rw [show (decide (0 < s.size ∧ s.size ≤ 24) && allB (keyB s) s.size) = keyBB s from rfl] at K4
  rw [show (allB (keyB s) s.size && decide (s.size ≤ 24)) = preBB s from Bool.and_comm _ _] at K6
  obtain ⟨b, hb⟩ : ∃ b, bucketB s = b := ⟨_, rfl⟩
  obtain ⟨k, hk⟩ : ∃ b, keyBB s = b := ⟨_, rfl⟩
  obtain ⟨p, hp⟩ : ∃ b, preBB s = b := ⟨_, rfl⟩
  rw [hb] at K1 K2
  rw [hk] at K3 K4
  rw [hp] at K5 K6
  clear hb hk hp
  have et : argE true = 0 := rfl
  have ef : argE false = 18 := rfl
  cases b <;> cases k <;> cases p <;> simp only [et, ef] at K1 K3 K5 <;>
  · clear et ef
    go_enter Tryd.func10, Tryd.ntmps10
    go_wp2_with fail
    refine (K1.out _).mono ?_
    rintro e w1 ⟨rfl, B1⟩
    go_wp2_with fail
    refine (K2.out _).mono ?_
    rintro e w1' ⟨rfl, rfl⟩
    go_wp2_with fail
    refine (K3.out _).mono ?_
    rintro e w2 ⟨rfl, b2⟩
    have B2 := below_to B1 b2
    clear b2 B1
    go_wp2_with fail
    refine (K4.out _).mono ?_
    rintro e w1' ⟨rfl, rfl⟩
    go_wp2_with fail
    refine (K5.out _).mono ?_
    rintro e w3 ⟨rfl, b3⟩
    have B3 := below_to B2 b3
    clear b3 B2
    go_wp2_with fail
    refine (K6.out _).mono ?_
    rintro e w1' ⟨rfl, rfl⟩
    go_wp2_with (first
      | (go_at_call 38; refine (K1.out _).mono ?_; rintro e w4 ⟨rfl, b4⟩; replace B3 := below_to B3 b4; clear b4)
      | (go_at_call 39; refine (K3.out _).mono ?_; rintro e w4 ⟨rfl, b4⟩; replace B3 := below_to B3 b4; clear b4)
      | (go_at_call 40; refine (K5.out _).mono ?_; rintro e w4 ⟨rfl, b4⟩; replace B3 := below_to B3 b4; clear b4))
    go_ret
    exact ⟨rfl, B3⟩
end Go.Proofs.YtgbnmokajaehhaaDoor
