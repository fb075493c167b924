/- Contracts: Unword, Words, Line. -/
import Derived.Test.YtgbnmokajaehhaaDoorN8
namespace Go.Proofs.YtgbnmokajaehhaaDoor
open Go.RowKit Go.Sort
set_option linter.unusedVariables false
theorem unescL_le : ∀ l : List UInt8, (unescL l).length ≤ l.length
  | [] => by simp [unescL]
  | [c] => by simp [unescL]
  | [c, d] => by simp [unescL]
  | c :: a :: b :: r => by
    rw [unescL]; split
    · have := unescL_le r; simp; omega
    · have := unescL_le (a :: b :: r); simp at this ⊢; omega
theorem unescL_pos (l : List UInt8) (h : 0 < l.length) : 0 < (unescL l).length := by
  match l with
  | [] => simp at h
  | [c] => simp [unescL]
  | [c, d] => simp [unescL]
  | c :: a :: b :: r => rw [unescL]; split <;> simp
def strErr (x : ByteArray) (e : Int) : Ending := .returned (.tuple #[.string x, .int .i64 e])
theorem unword_yes (s : ByteArray) (h0 : 0 < s.size) (hs : s.size ≤ 1048576) (h37 : (s.toList == [37]) = false) (h : wordL (unescL s.data.toList) = s.data.toList) (w : World) : Calls Tryd.prog 8 #[.string s] w fun e w' => e = strErr (bs (unescL s.data.toList)) 0 ∧ Below w.heap.size w w' := by
  have hu0 := unescL_pos s.data.toList (by rw [← blen]; exact h0)
  have hu1 := unescL_le s.data.toList
  rw [← blen] at hu1
  have HC := Lib.hid (unescaped_any s h0 hs)
  have HW := Lib.hid (word_any (bs (unescL s.data.toList)) (by rw [bs_size]; exact hu0) (by rw [bs_size]; omega))
  rw [bs_toList, h, bs_of] at HW
  obtain ⟨u, hu⟩ : ∃ u, bs (unescL s.data.toList) = u := ⟨_, rfl⟩
  rw [hu] at HC HW ⊢
  clear hu hu0 hu1 h
  go_enter Tryd.func8, Tryd.ntmps8
  go_wp2_with fail
  refine (HC.out _).mono ?_
  rintro e w1 ⟨rfl, hb1⟩
  go_wp2_with fail
  refine (HW.out _).mono ?_
  rintro e w2 ⟨rfl, hb2⟩
  go_wp2
  go_ret2
  exact ⟨rfl, below_to hb1 hb2⟩
theorem unword_no (s : ByteArray) (h0 : 0 < s.size) (hs : s.size ≤ 1048576) (h37 : (s.toList == [37]) = false) (h : wordL (unescL s.data.toList) ≠ s.data.toList) (w : World) : Calls Tryd.prog 8 #[.string s] w fun e w' => e = strErr ByteArray.empty 19 ∧ Below w.heap.size w w' := by
  have hu0 := unescL_pos s.data.toList (by rw [← blen]; exact h0)
  have hu1 := unescL_le s.data.toList
  rw [← blen] at hu1
  have HC := Lib.hid (unescaped_any s h0 hs)
  have HW := Lib.hid (word_any (bs (unescL s.data.toList)) (by rw [bs_size]; exact hu0) (by rw [bs_size]; omega))
  rw [bs_toList] at HW
  have hne := str_neq (a := bs (wordL (unescL s.data.toList))) (b := s) (by rw [bs_toList]; exact h)
  obtain ⟨u, hu⟩ : ∃ u, bs (unescL s.data.toList) = u := ⟨_, rfl⟩
  obtain ⟨v, hv⟩ : ∃ u, bs (wordL (unescL s.data.toList)) = u := ⟨_, rfl⟩
  rw [hu, hv] at HW
  rw [hu] at HC
  rw [hv] at hne
  clear hu hu0 hu1 h hv
  go_enter Tryd.func8, Tryd.ntmps8
  go_wp2_with fail
  refine (HC.out _).mono ?_
  rintro e w1 ⟨rfl, hb1⟩
  go_wp2_with fail
  refine (HW.out _).mono ?_
  rintro e w2 ⟨rfl, hb2⟩
  go_wp2
  go_ret2
  exact ⟨rfl, below_to hb1 hb2⟩
theorem words_any (s : ByteArray) (hs : s.size ≤ 1048576) (w : World) (hE : Env w) : Calls Tryd.prog 14 #[.string s] w fun e w' => e = .returned (.slice (some ⟨w.heap.size, 0, none⟩) (Lib.countB s ⟨#[32]⟩ + 1) (Lib.countB s ⟨#[32]⟩ + 1)) ∧ w' = w.alloc (.cells ((Lib.splitB ⟨#[32]⟩ 0 (Lib.countB s ⟨#[32]⟩) s).map Value.string).toArray 9) := by
  obtain ⟨m, hm⟩ := hE.mx
  have HM := Lib.hid hm
  clear hm
  go_enter Tryd.func14, Tryd.ntmps14
  go_wp2_with fail
  refine (Tryd.strings_Split s ⟨#[32]⟩ m _ (by omega) HM.out (by decide)).mono ?_
  rintro e w' ⟨rfl, rfl⟩
  go_wp2
  go_ret
  exact ⟨rfl, rfl⟩
theorem line_two (x y : ByteArray) (b : Nat) (w : World) (hx : x.size + y.size ≤ 1048576) (hb : b < w.heap.size) (h0 : w.cell? ⟨b, 0, none⟩ = some (.string x)) (h1 : w.cell? ⟨b, 1, none⟩ = some (.string y)) : Calls Tryd.prog 16 #[.slice (some ⟨b, 0, none⟩) 2 2] w fun e w' => e = .returned (.string (bs (Lib.join [x.data.toList, y.data.toList] [32]))) ∧ Below w.heap.size w w' := by
  have HJ := Lib.hid (Tryd.strings_Join b 0 2 [x, y] ⟨#[32]⟩ w (by
    intro j z hz
    match j, hz with
    | 0, hz => simp at hz; subst hz; simpa using h0
    | 1, hz => simp at hz; subst hz; simpa using h1) hb (by simp) (by simp) (by simp [Lib.join, List.intercalate]; omega))
  clear h0 h1
  go_enter Tryd.func16, Tryd.ntmps16
  go_wp2_with fail
  refine HJ.out.mono ?_
  rintro e w' ⟨rfl, hb⟩
  go_wp2
  go_ret
  exact ⟨rfl, hb⟩
end Go.Proofs.YtgbnmokajaehhaaDoor
