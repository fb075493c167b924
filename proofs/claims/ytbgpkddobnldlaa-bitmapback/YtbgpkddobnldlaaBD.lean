/- BitmapTells, walked. -/
import Derived.Test.YtbgpkddobnldlaaBC
namespace Go.Proofs.Ytbgpkddobnldlaa
open Go.RowKit
/-- What Set answers. -/
def setB (s : ByteArray) (i : Int) (on : Bool) : ByteArray := if s.size = 480 ∧ 0 ≤ i ∧ i < 3840 then bs (setL s.data.toList i.toNat on) else ⟨#[]⟩
def setE (s : ByteArray) (i : Int) : Int := if s.size = 480 ∧ 0 ≤ i ∧ i < 3840 then 0 else 18
theorem bset_any (s : ByteArray) (i : Int) (on : Bool) (w : World) : Calls Try.prog 7 #[.string s, .int .i64 i, .bool on] w fun e w' => e = .returned (.tuple #[.string (setB s i on), .int .i64 (setE s i)]) ∧ Below w.heap.size w w' := by
  by_cases h : s.size = 480 ∧ 0 ≤ i ∧ i < 3840
  · unfold setB setE; rw [if_pos h, if_pos h]
    obtain ⟨n, rfl⟩ := Int.eq_ofNat_of_zero_le h.2.1
    exact bset_yes s n on w h.1 (by omega)
  · unfold setB setE; rw [if_neg h, if_neg h]
    refine (bset_no s i on w h).mono ?_
    rintro e w' ⟨he, rfl⟩
    exact ⟨he, Below.refl _ _⟩
theorem rset_any (s : ByteArray) (i : Int) (on : Bool) (w : World) : Calls Try.prog 8 #[.string s, .int .i64 i, .bool on] w fun e w' => e = .returned (.tuple #[.string (setB s i on), .int .i64 (setE s i)]) ∧ Below w.heap.size w w' := by
  by_cases h : s.size = 480 ∧ 0 ≤ i ∧ i < 3840
  · unfold setB setE; rw [if_pos h, if_pos h]
    obtain ⟨n, rfl⟩ := Int.eq_ofNat_of_zero_le h.2.1
    exact rset_yes s n on w h.1 (by omega)
  · unfold setB setE; rw [if_neg h, if_neg h]
    refine (rset_no s i on w h).mono ?_
    rintro e w' ⟨he, rfl⟩
    exact ⟨he, Below.refl _ _⟩
set_option maxRecDepth 100000 in
set_option maxHeartbeats 1000000 in
theorem bitmapTells_main (s : ByteArray) (i : Int) (on : Bool) (a b : Int) (ha : a < 9223372036854775808) (w : World) :
    Calls Try.prog 3 #[.string s, .int .i64 i, .bool on, .int .i64 a, .int .i64 b] w fun e w' => e = .returned (.bool true) ∧ Below w.heap.size w w' := by
  by_cases hs : 4096 < s.size
  · go_enter Try.func3, Try.ntmps3
    go_wp2_with (go_at_call 6; refine (lives_any _).mono ?_; rintro e w1 ⟨rfl, B1⟩)
    go_ret
    exact ⟨rfl, B1⟩
  · obtain ⟨x, hx⟩ : ∃ x, setB s i on = x := ⟨_, rfl⟩
    obtain ⟨y, hy⟩ : ∃ y, setE s i = y := ⟨_, rfl⟩
    have h1 := fun w => bset_any s i on w
    have h2 := fun w => rset_any s i on w
    have h3 := fun w => used_any s i w
    have h4 := fun w => rused_any s i w
    have h5 := fun w => many_any s a b w ha
    have h6 := fun w => rmany_any s a b w
    rw [hx, hy] at h1 h2
    generalize usedL s.data.toList i = u at h3 h4
    generalize manyL s.data.toList a b = m at h5 h6
    have H1 := Lib.hid h1
    have H2 := Lib.hid h2
    have H3 := Lib.hid h3
    have H4 := Lib.hid h4
    have H5 := Lib.hid h5
    have H6 := Lib.hid h6
    clear h1 h2 h3 h4 h5 h6 hx hy
    go_enter Try.func3, Try.ntmps3
    go_wp2_with fail
    refine (H1.out _).mono ?_
    rintro e w1 ⟨rfl, B1⟩
    go_wp2_with fail
    refine (H2.out _).mono ?_
    rintro e w2 ⟨rfl, hb⟩
    have B2 := below_to B1 hb
    clear hb B1
    go_wp2_with fail
    refine (lives_any _).mono ?_
    rintro e w3 ⟨rfl, hb⟩
    have B3 := below_to B2 hb
    clear hb B2
    go_wp2_with fail
    refine (H3.out _).mono ?_
    rintro e w4 ⟨rfl, hb⟩
    have B4 := below_to B3 hb
    clear hb B3
    go_wp2_with fail
    refine (H4.out _).mono ?_
    rintro e w5 ⟨rfl, rfl⟩
    go_wp2_with fail
    refine (H5.out _).mono ?_
    rintro e w6 ⟨rfl, hb⟩
    have B6 := below_to B4 hb
    clear hb B4
    go_wp2_with fail
    refine (H6.out _).mono ?_
    rintro e w7 ⟨rfl, rfl⟩
    go_wp2_with fail
    go_ret
    first | exact ⟨rfl, B6⟩ | exact ⟨ret_bool (by simp), B6⟩
theorem bitmapTells_walk (s : ByteArray) (_ : s.size ≤ maxLen) (i : Int) (_ : -9223372036854775808 ≤ i ∧ i ≤ 9223372036854775807) (on : Bool) (_ : True) (a : Int) (ha : -9223372036854775808 ≤ a ∧ a ≤ 9223372036854775807) (b : Int) (_ : -9223372036854775808 ≤ b ∧ b ≤ 9223372036854775807) (w : World) :
    Calls Try.prog 3 #[.string s, .int .i64 i, .bool on, .int .i64 a, .int .i64 b] w fun e w' => e = .returned (.bool true) ∧ Below w.heap.size w w' := bitmapTells_main s i on a b (by omega) w
end Go.Proofs.Ytbgpkddobnldlaa
