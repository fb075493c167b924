/- Contracts: strings.Cut at a nought; the reference's cut; names. -/
import Derived.Test.YteekjndhehnpaaaKA
import Derived.Test.YteekjndhehnpaaaOF
import Derived.Test.YteekjndhehnpaaaShelf
namespace Go.Proofs.Yteekjndhehnpaaa
open Go.RowKit
set_option maxRecDepth 100000
set_option linter.unusedVariables false
def nul : ByteArray := ⟨#[0]⟩
theorem ext_toList (s : ByteArray) (a b : Nat) : (s.extract a b).data.toList = (s.data.toList.take b).drop a := by
  rw [ByteArray.data_extract, Array.toList_extract]; simp [List.drop_take]
theorem ext_front (s : ByteArray) (k : Nat) : s.extract 0 k = bs (s.data.toList.take k) := ba_ext (by rw [ext_toList, bs_toList]; rfl)
theorem ext_back (s : ByteArray) (k : Nat) : s.extract k s.size = bs (s.data.toList.drop k) := ba_ext (by rw [ext_toList, bs_toList, List.take_of_length_le (by simp)])
theorem below_drewN (w : World) (n : Nat) : Below w.heap.size w (w.drewN n) := by
  induction n with
  | zero => exact Below.refl _ _
  | succ n ih => exact ih.drew
theorem index_nul (s : ByteArray) (w : World) : Calls Try.prog 124 #[.string s, .string ⟨#[0]⟩] w fun e w' => e = .returned (.int .i64 (Lib.indexByte s.data.toList 0)) ∧ w' = w := by
  by_cases h0 : s = ⟨#[0]⟩
  · subst h0
    go_enter Try.func124, Try.ntmps124
    go_wp2
    go_ret
    exact ⟨rfl, rfl⟩
  · have hne : ([0] == s.toList) = false := by
      rw [ByteArray.toList_eq]
      cases h : ([0] == s.data.toList) with
      | false => rfl
      | true => exact absurd (ba_ext (eq_of_beq h).symm) h0
    obtain ⟨i, hi⟩ : ∃ i, Lib.indexByte s.data.toList 0 = i := ⟨_, rfl⟩
    have HJ : Hid (∀ w, Calls Try.prog 115 #[.string s, .int .u8 0] w fun e w' => e = .returned (.int .i64 i) ∧ w' = w) := Lib.hid (by
      intro w; rw [← hi]; exact Try.stringslite_IndexByte s 0 w)
    rw [hi]
    clear hi h0
    go_enter Try.func124, Try.ntmps124
    go_wp2_with (go_at_call 115; refine (HJ.out _).mono ?_; rintro e w' ⟨rfl, rfl⟩)
    go_ret
    exact ⟨rfl, rfl⟩
/-- strings.Cut at a nought. -/
def cutA (s : ByteArray) : ByteArray := bs (cutL s.data.toList).1
def cutZ (s : ByteArray) : ByteArray := bs (cutL s.data.toList).2
def CutRet (a b : ByteArray) (w : World) (e : Ending) (w' : World) : Prop := (∃ f : Bool, e = .returned (.tuple #[.string a, .string b, .bool f])) ∧ Below w.heap.size w w'
theorem scut_any (s : ByteArray) (w : World) (hs : s.size ≤ maxLen) : Calls Try.prog 116 #[.string s, .string ⟨#[0]⟩] w (CutRet (cutA s) (cutZ s) w) := by
  replace hs : s.size ≤ 9223372036854775807 := hs
  rcases cut_idx s.data.toList with ⟨h1, h2⟩ | ⟨k, h1, hk, h2⟩
  · have HA : Hid (cutA s = s ∧ cutZ s = ByteArray.empty) := Lib.hid ⟨by unfold cutA; rw [h2]; exact bs_of s, by unfold cutZ; rw [h2]; rfl⟩
    have HI := Lib.hid (index_nul s)
    rw [h1] at HI
    clear h1 h2
    rw [HA.out.1, HA.out.2]
    go_enter Try.func116, Try.ntmps116
    go_wp2_with (go_at_call 124; refine (HI.out _).mono ?_; rintro e w' ⟨rfl, rfl⟩)
    refine bodyPost_ret (v := .tuple #[.string s, .string ByteArray.empty, .bool false]) (by simp [results, Try.results116, go_sem]; try rfl) rfl ⟨⟨_, rfl⟩, Below.refl _ _⟩
  · have hks : k < s.size := by simpa using hk
    have HA : Hid (cutA s = s.extract 0 k ∧ cutZ s = s.extract (k + 1) s.size) := Lib.hid ⟨by unfold cutA; rw [h2]; exact (ext_front s k).symm, by unfold cutZ; rw [h2]; exact (ext_back s (k + 1)).symm⟩
    have HI := Lib.hid (index_nul s)
    rw [h1] at HI
    clear h1 h2 hk
    rw [HA.out.1, HA.out.2]
    go_enter Try.func116, Try.ntmps116
    go_wp2_with (first | (go_at_call 124; refine (HI.out _).mono ?_; rintro e w' ⟨rfl, rfl⟩) | (go_quiet (fail)))
    refine bodyPost_ret (v := .tuple #[.string (s.extract 0 k), .string (s.extract (k + 1) s.size), .bool true]) (by simp [results, Try.results116, go_sem]; try rfl) rfl ⟨⟨_, rfl⟩, below_drewN _ _⟩
theorem cut_any (s : ByteArray) (w : World) (hs : s.size ≤ maxLen) : Calls Try.prog 96 #[.string s, .string ⟨#[0]⟩] w (CutRet (cutA s) (cutZ s) w) := by
  have HI := Lib.hid (fun w => scut_any s w hs)
  clear hs
  obtain ⟨a, ha⟩ : ∃ a, cutA s = a := ⟨_, rfl⟩
  obtain ⟨b, hb⟩ : ∃ b, cutZ s = b := ⟨_, rfl⟩
  rw [ha, hb] at HI ⊢
  clear ha hb
  go_enter Try.func96, Try.ntmps96
  go_wp2_with fail
  refine (HI.out _).mono ?_
  rintro e w' ⟨⟨f, rfl⟩, hb⟩
  go_wp2_with fail
  refine bodyPost_ret (v := .tuple #[.string a, .string b, .bool f]) (by simp [results, Try.results96, go_sem]; try rfl) rfl ⟨⟨_, rfl⟩, hb⟩
end Go.Proofs.Yteekjndhehnpaaa
