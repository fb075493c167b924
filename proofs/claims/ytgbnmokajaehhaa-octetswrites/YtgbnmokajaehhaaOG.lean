/- OctetsWrites: the walk. -/
import Derived.Test.YtgbnmokajaehhaaOF
namespace Go.Proofs.Ytgbnmokajaehhaa
open Go.RowKit
set_option linter.unusedVariables false
theorem below_self (w : World) : Below w.heap.size w w := Below.refl _ _
theorem text_pair (s : ByteArray) : ∃ t e, (∀ w, Calls Try.prog 12 #[.string s] w fun x w' => x = .returned (.tuple #[.string t, .int .i64 e]) ∧ Below w.heap.size w w') ∧
    (∀ w, Calls Try.prog 13 #[.string s] w fun x w' => x = .returned (.tuple #[.string t, .int .i64 e]) ∧ Below w.heap.size w w') := by
  by_cases h : s.size ≤ 65535
  · exact ⟨_, _, fun w => text_ok s w h, fun w => rtextB_ok s w h⟩
  · exact ⟨_, _, fun w => (text_no s w (by omega)).mono fun x w' ⟨h1, h2⟩ => ⟨h1, h2 ▸ below_self w⟩, fun w => (rtextB_no s w (by omega)).mono fun x w' ⟨h1, h2⟩ => ⟨h1, h2 ▸ below_self w⟩⟩
theorem num_pair (m : Int) (n : Nat) (hn : n < 18446744073709551616) : ∃ a, (∀ w, Calls Try.prog 17 #[.int .i64 m, .int .u64 (n : Int)] w fun x w' => x = .returned (.string a) ∧ Below w.heap.size w w') ∧
    (∀ w, Calls Try.prog 18 #[.int .i64 m, .int .u64 (n : Int)] w fun x w' => x = .returned (.string a) ∧ Below w.heap.size w w') := by
  by_cases h : m < 1 ∨ 8 < m
  · exact ⟨_, fun w => (num_no m n w h).mono fun x w' ⟨h1, h2⟩ => ⟨h1, h2 ▸ below_self w⟩, fun w => (rnum_no m n w h).mono fun x w' ⟨h1, h2⟩ => ⟨h1, h2 ▸ below_self w⟩⟩
  · obtain ⟨k, rfl⟩ := Int.eq_ofNat_of_zero_le (show 0 ≤ m by omega)
    exact ⟨_, fun w => num_ok k n w (by omega) (by omega) hn, fun w => rnum_ok k n w (by omega) (by omega) hn⟩
theorem pad_pair (s : ByteArray) (n : Int) (hs : s.size ≤ maxLen) : ∃ a, (∀ w, Calls Try.prog 21 #[.string s, .int .i64 n] w fun x w' => x = .returned (.string a) ∧ Below w.heap.size w w') ∧
    (∀ w, Calls Try.prog 22 #[.string s, .int .i64 n] w fun x w' => x = .returned (.string a) ∧ Below w.heap.size w w') := by
  by_cases h : 65536 < n ∨ n ≤ (s.size : Int)
  · exact ⟨_, fun w => (pad_same s n w h hs).mono fun x w' ⟨h1, h2⟩ => ⟨h1, h2 ▸ below_self w⟩, fun w => (rpad_same s n w h hs).mono fun x w' ⟨h1, h2⟩ => ⟨h1, h2 ▸ below_self w⟩⟩
  · exact ⟨_, fun w => pad_more s n w (by omega) (by omega), fun w => rpad_more s n w (by omega) (by omega)⟩
/-- The answer is a slice of these strings. -/
def SlcPost (w : World) (ps : List ByteArray) (x : Ending) (w' : World) : Prop := ∃ a cap, x = .returned (.slice a ps.length cap) ∧ Strs w' a ps.length ps ∧ Below w.heap.size w w'
theorem SlcPost.of_row {w : World} {ps : List ByteArray} {x : Ending} {w' : World} (h : ∃ v, x = .returned v ∧ StrRow w ps v w') : SlcPost w ps x w' := by
  obtain ⟨v, rfl, hS⟩ := h
  obtain ⟨a, cap, rfl, _, hs⟩ := hS.strs
  exact ⟨a, cap, rfl, hs, hS.below⟩
theorem cut_pair (s : ByteArray) (m : Int) (hs : s.size ≤ 1048576) (hm : m ≤ 9223372036854775807) : ∃ ps : List ByteArray, ps.length ≤ 1048576 ∧ (∀ w, Calls Try.prog 24 #[.string s, .int .i64 m] w (SlcPost w ps)) ∧
    (∀ w, Calls Try.prog 25 #[.string s, .int .i64 m] w (SlcPost w ps)) := by
  by_cases h : m < 1
  · exact ⟨[], by simp, fun w => (cut_no s m w h).mono fun x w' ⟨h1, h2⟩ => ⟨none, 0, h1, ⟨rfl, .inl rfl⟩, h2 ▸ below_self w⟩, fun w => (rcut_no s m w h).mono fun x w' hh => SlcPost.of_row hh⟩
  · obtain ⟨k, rfl⟩ := Int.eq_ofNat_of_zero_le (show 0 ≤ m by omega)
    have hl : (cutB k s).length ≤ s.size := by
      have hC : CutAt k s ByteArray.empty (cutB k s) := ⟨0, by decide, by
        unfold cutB
        rw [List.map_map]
        have : ((fun x : ByteArray => x.data.toList) ∘ bs) = id := by funext x; exact bs_toList x
        rw [this, List.map_id]; simp [chunksF]⟩
      exact hC.len
    exact ⟨cutB k s, by omega, fun w => (cut_any s k w hs (by omega) (by omega)).mono fun x w' hh => SlcPost.of_row hh, fun w => (rcut_any s k w hs (by omega) (by omega)).mono fun x w' hh => SlcPost.of_row hh⟩
theorem rnum8_lit (n : Nat) (t : ByteArray) (h : bs (numL 8 n) = t) (w : World) (hn : n < 18446744073709551616) :
    Calls Try.prog 18 #[.int .i64 8, .int .u64 (n : Int)] w fun e w' => e = .returned (.string t) ∧ Below w.heap.size w w' := by
  subst h; exact rnum_ok 8 n w (by omega) (by omega) hn
theorem ofRise_lit (s : ByteArray) (n : Nat) (hs : s.size = 8) (hn : ofL s.data.toList = n) (w : World) : Calls Try.prog 14 #[.string s] w fun e w' => e = .returned (.tuple #[.int .u64 (n : Int), .int .i64 0]) ∧ w = w' := by
  subst hn; exact ofRise_ok s w hs
theorem of_lit (s : ByteArray) (n : Nat) (hs : s.size = 8) (hn : ofL s.data.toList = n) (w : World) : Calls Try.prog 15 #[.string s] w fun e w' => e = .returned (.tuple #[.int .u64 (n : Int), .int .i64 0]) ∧ Below w.heap.size w w' := by
  subst hn; exact of_ok s w hs
theorem ofRise_none (s : ByteArray) (hs : s.size ≠ 8) (w : World) : Calls Try.prog 14 #[.string s] w fun e w' => e = .returned (.tuple #[.int .u64 0, .int .i64 19]) ∧ w = w' := ofRise_no s w hs
theorem of_none (s : ByteArray) (hs : s.size ≠ 8) (w : World) : Calls Try.prog 15 #[.string s] w fun e w' => e = .returned (.tuple #[.int .u64 0, .int .i64 19]) ∧ w = w' := of_no s w hs
theorem ofFall_none (s : ByteArray) (hs : s.size ≠ 8) (w : World) : Calls Try.prog 16 #[.string s] w fun e w' => e = .returned (.tuple #[.int .u64 0, .int .i64 19]) ∧ w = w' := ofFall_no s w hs
theorem rnoughts_lit (s : ByteArray) (v : Bool) (h : allZ s.data.toList = v) (w : World) (hs : s.size ≤ maxLen) : Calls Try.prog 27 #[.string s] w fun e w' => e = .returned (.bool v) ∧ w = w' := by
  subst h; exact rnoughts_any s w hs
theorem same_post (a b : Option Addr) (n c d : Nat) (ps : List ByteArray) (w : World) (ha : Strs w a n ps) (hb : Strs w b n ps) (hn : n ≤ 1048577) :
    Calls Try.prog 23 #[.slice a n c, .slice b n d] w fun e w' => e = .returned (.bool true) ∧ Below w.heap.size w w' :=
  (same_true a b n c d ps w ha hb hn).mono fun e w' ⟨h1, k, h2⟩ => ⟨h1, h2 ▸ below_drewN (below_self w) k⟩
set_option maxRecDepth 100000 in
set_option maxHeartbeats 2000000 in
theorem ow_far (wd : Int) (n : Nat) (s : ByteArray) (pad each : Int) (w : World) (h : 131072 < s.size ∨ 8192 < pad ∧ pad ≤ 65536) :
    Calls Try.prog 3 #[.int .i64 wd, .int .u64 (n : Int), .string s, .int .i64 pad, .int .i64 each] w fun e w' => e = .returned (.bool true) ∧ Below w.heap.size w w' := by
  by_cases h1 : 131072 < s.size
  · clear h
    go_enter Try.func3, Try.ntmps3
    go_wp2_with (go_at_call 11; refine (lives3 _).mono ?_; rintro e w1 ⟨rfl, B1⟩)
    go_ret
    exact ⟨rfl, B1⟩
  · have h2 : 8192 < pad := by omega
    have h3 : pad ≤ 65536 := by omega
    clear h
    go_enter Try.func3, Try.ntmps3
    go_wp2_with (go_at_call 11; refine (lives3 _).mono ?_; rintro e w1 ⟨rfl, B1⟩)
    go_ret
    exact ⟨rfl, B1⟩
set_option maxRecDepth 100000 in
set_option maxHeartbeats 4000000 in
theorem ow_a1 (wd : Int) (n : Nat) (s : ByteArray) (pad each : Int) (w : World) (hn : n < 18446744073709551616) (hs : s.size ≤ maxLen) (he : each ≤ 9223372036854775807) (h1 : s.size ≤ 131072) (hx8 : s.size = 8) (h2 : pad ≤ 8192) :
    Calls Try.prog 3 #[.int .i64 wd, .int .u64 (n : Int), .string s, .int .i64 pad, .int .i64 each] w fun e w' => e = .returned (.bool true) ∧ Below w.heap.size w w' := by
  obtain ⟨x, hx⟩ : ∃ x, ofL s.data.toList = x := ⟨_, rfl⟩
  have hx2 : x < 18446744073709551616 := by
    have := ofL_lt s.data.toList
    rw [← blen, hx8, hx] at this
    exact this
  obtain ⟨g, hg⟩ : ∃ g, x + g = 18446744073709551615 := ⟨18446744073709551615 - x, by omega⟩
  have hg2 : g < 18446744073709551616 := by omega
  have hxg : 18446744073709551615 - (x : Int) = (g : Int) := by omega
  have HX := Lib.hid hx
  have HG := Lib.hid hg
  have HX8 := Lib.hid hx8
  clear hx hg
  obtain ⟨t, e0, T1, T2⟩ := text_pair s
  obtain ⟨a, N1, N2⟩ := num_pair wd n hn
  obtain ⟨p, P1, P2⟩ := pad_pair s pad hs
  obtain ⟨ps, hps, C1, C2⟩ := cut_pair s each (by omega) he
  obtain ⟨z, hz⟩ : ∃ z, allZ s.data.toList = z := ⟨_, rfl⟩
  obtain ⟨f, hf⟩ : ∃ f, n + f = 18446744073709551615 := ⟨18446744073709551615 - n, by omega⟩
  have hf2 : f < 18446744073709551616 := by omega
  have hnf : 18446744073709551615 - (n : Int) = (f : Int) := by omega
  obtain ⟨ra, hra⟩ : ∃ a, bs (numL 8 n) = a := ⟨_, rfl⟩
  obtain ⟨fa, hfa⟩ : ∃ a, bs (numL 8 f) = a := ⟨_, rfl⟩
  have T1 := Lib.hid T1
  have T2 := Lib.hid T2
  have N1 := Lib.hid N1
  have N2 := Lib.hid N2
  have P1 := Lib.hid P1
  have P2 := Lib.hid P2
  have C1 := Lib.hid C1
  have C2 := Lib.hid C2
  have HZ := Lib.hid hz
  have HF := Lib.hid hf
  have HRA := Lib.hid hra
  have HFA := Lib.hid hfa
  clear hz hf hra hfa
  go_enter Try.func3, Try.ntmps3
  go_wp2_with fail
  refine (T1.out _).mono ?_
  rintro e w1 ⟨rfl, B1⟩
  go_wp2_with fail
  refine (T2.out _).mono ?_
  rintro e w2 ⟨rfl, h⟩
  have B2 := below_to B1 h
  clear h
  go_wp2_with fail
  refine (ofRise_lit s x hx8 HX.out _).mono ?_
  rintro e w' ⟨rfl, rfl⟩
  go_wp2_with fail
  refine (of_lit s x hx8 HX.out _).mono ?_
  rintro e w3 ⟨rfl, h⟩
  have B3 := below_to B2 h
  clear h
  go_wp2_with fail
  refine (ofFall_lit s x g _ hx8 HX.out HG.out).mono ?_
  rintro e w' ⟨rfl, rfl⟩
  go_wp2_with fail
  refine (lives3 _).mono ?_
  rintro e w4 ⟨rfl, h⟩
  have B4 := below_to B3 h
  clear h
  go_wp2_with fail
  refine (N1.out _).mono ?_
  rintro e w5 ⟨rfl, h⟩
  have B5 := below_to B4 h
  clear h
  go_wp2_with fail
  refine (N2.out _).mono ?_
  rintro e w6 ⟨rfl, h⟩
  have B6 := below_to B5 h
  clear h
  go_wp2_with fail
  refine (rise_lit n ra HRA.out _ hn).mono ?_
  rintro e w7 ⟨rfl, h⟩
  have B7 := below_to B6 h
  clear h
  go_wp2_with fail
  refine (rnum8_lit n ra HRA.out _ hn).mono ?_
  rintro e w8 ⟨rfl, h⟩
  have B8 := below_to B7 h
  clear h
  go_wp2_with fail
  refine (fall_lit n f fa HFA.out _ hn HF.out).mono ?_
  rintro e w9 ⟨rfl, h⟩
  have B9 := below_to B8 h
  clear h
  go_wp2_with fail
  refine (rnum8_lit f fa HFA.out _ hf2).mono ?_
  rintro e wA ⟨rfl, h⟩
  have BA := below_to B9 h
  clear h
  go_wp2_with fail
  refine (P1.out _).mono ?_
  rintro e wB ⟨rfl, h⟩
  have BB := below_to BA h
  clear h
  go_wp2_with fail
  refine (P2.out _).mono ?_
  rintro e wC ⟨rfl, h⟩
  have BC := below_to BB h
  clear h
  go_wp2_with fail
  refine (C1.out _).mono ?_
  rintro e wD ⟨a1, c1, rfl, S1, h⟩
  have BD := below_to BC h
  clear h
  go_wp2_with fail
  refine (C2.out _).mono ?_
  rintro e wE ⟨a2, c2, rfl, S2, h⟩
  have BE := below_to BD h
  have S1' := S1.below h
  clear h
  go_wp2_with fail
  refine (same_post a1 a2 _ c1 c2 ps _ S1' S2 (by omega)).mono ?_
  rintro e wF ⟨rfl, h⟩
  have BF := below_to BE h
  clear h
  go_wp2_with fail
  refine (noughts_lit s z HZ.out _ hs).mono ?_
  rintro e w' ⟨rfl, rfl⟩
  go_wp2_with fail
  refine (rnoughts_lit s z HZ.out _ hs).mono ?_
  rintro e w' ⟨rfl, rfl⟩
  go_wp2_with fail
  go_ret
  exact ⟨rfl, BF⟩
set_option maxRecDepth 100000 in
set_option maxHeartbeats 4000000 in
theorem ow_a2 (wd : Int) (n : Nat) (s : ByteArray) (pad each : Int) (w : World) (hn : n < 18446744073709551616) (hs : s.size ≤ maxLen) (he : each ≤ 9223372036854775807) (h1 : s.size ≤ 131072) (hx8 : s.size = 8) (h2 : 8192 < pad) (h3 : 65536 < pad) :
    Calls Try.prog 3 #[.int .i64 wd, .int .u64 (n : Int), .string s, .int .i64 pad, .int .i64 each] w fun e w' => e = .returned (.bool true) ∧ Below w.heap.size w w' := by
  obtain ⟨x, hx⟩ : ∃ x, ofL s.data.toList = x := ⟨_, rfl⟩
  have hx2 : x < 18446744073709551616 := by
    have := ofL_lt s.data.toList
    rw [← blen, hx8, hx] at this
    exact this
  obtain ⟨g, hg⟩ : ∃ g, x + g = 18446744073709551615 := ⟨18446744073709551615 - x, by omega⟩
  have hg2 : g < 18446744073709551616 := by omega
  have hxg : 18446744073709551615 - (x : Int) = (g : Int) := by omega
  have HX := Lib.hid hx
  have HG := Lib.hid hg
  have HX8 := Lib.hid hx8
  clear hx hg
  obtain ⟨t, e0, T1, T2⟩ := text_pair s
  obtain ⟨a, N1, N2⟩ := num_pair wd n hn
  obtain ⟨p, P1, P2⟩ := pad_pair s pad hs
  obtain ⟨ps, hps, C1, C2⟩ := cut_pair s each (by omega) he
  obtain ⟨z, hz⟩ : ∃ z, allZ s.data.toList = z := ⟨_, rfl⟩
  obtain ⟨f, hf⟩ : ∃ f, n + f = 18446744073709551615 := ⟨18446744073709551615 - n, by omega⟩
  have hf2 : f < 18446744073709551616 := by omega
  have hnf : 18446744073709551615 - (n : Int) = (f : Int) := by omega
  obtain ⟨ra, hra⟩ : ∃ a, bs (numL 8 n) = a := ⟨_, rfl⟩
  obtain ⟨fa, hfa⟩ : ∃ a, bs (numL 8 f) = a := ⟨_, rfl⟩
  have T1 := Lib.hid T1
  have T2 := Lib.hid T2
  have N1 := Lib.hid N1
  have N2 := Lib.hid N2
  have P1 := Lib.hid P1
  have P2 := Lib.hid P2
  have C1 := Lib.hid C1
  have C2 := Lib.hid C2
  have HZ := Lib.hid hz
  have HF := Lib.hid hf
  have HRA := Lib.hid hra
  have HFA := Lib.hid hfa
  clear hz hf hra hfa
  go_enter Try.func3, Try.ntmps3
  go_wp2_with fail
  refine (T1.out _).mono ?_
  rintro e w1 ⟨rfl, B1⟩
  go_wp2_with fail
  refine (T2.out _).mono ?_
  rintro e w2 ⟨rfl, h⟩
  have B2 := below_to B1 h
  clear h
  go_wp2_with fail
  refine (ofRise_lit s x hx8 HX.out _).mono ?_
  rintro e w' ⟨rfl, rfl⟩
  go_wp2_with fail
  refine (of_lit s x hx8 HX.out _).mono ?_
  rintro e w3 ⟨rfl, h⟩
  have B3 := below_to B2 h
  clear h
  go_wp2_with fail
  refine (ofFall_lit s x g _ hx8 HX.out HG.out).mono ?_
  rintro e w' ⟨rfl, rfl⟩
  go_wp2_with fail
  refine (lives3 _).mono ?_
  rintro e w4 ⟨rfl, h⟩
  have B4 := below_to B3 h
  clear h
  go_wp2_with fail
  refine (N1.out _).mono ?_
  rintro e w5 ⟨rfl, h⟩
  have B5 := below_to B4 h
  clear h
  go_wp2_with fail
  refine (N2.out _).mono ?_
  rintro e w6 ⟨rfl, h⟩
  have B6 := below_to B5 h
  clear h
  go_wp2_with fail
  refine (rise_lit n ra HRA.out _ hn).mono ?_
  rintro e w7 ⟨rfl, h⟩
  have B7 := below_to B6 h
  clear h
  go_wp2_with fail
  refine (rnum8_lit n ra HRA.out _ hn).mono ?_
  rintro e w8 ⟨rfl, h⟩
  have B8 := below_to B7 h
  clear h
  go_wp2_with fail
  refine (fall_lit n f fa HFA.out _ hn HF.out).mono ?_
  rintro e w9 ⟨rfl, h⟩
  have B9 := below_to B8 h
  clear h
  go_wp2_with fail
  refine (rnum8_lit f fa HFA.out _ hf2).mono ?_
  rintro e wA ⟨rfl, h⟩
  have BA := below_to B9 h
  clear h
  go_wp2_with fail
  refine (P1.out _).mono ?_
  rintro e wB ⟨rfl, h⟩
  have BB := below_to BA h
  clear h
  go_wp2_with fail
  refine (P2.out _).mono ?_
  rintro e wC ⟨rfl, h⟩
  have BC := below_to BB h
  clear h
  go_wp2_with fail
  refine (C1.out _).mono ?_
  rintro e wD ⟨a1, c1, rfl, S1, h⟩
  have BD := below_to BC h
  clear h
  go_wp2_with fail
  refine (C2.out _).mono ?_
  rintro e wE ⟨a2, c2, rfl, S2, h⟩
  have BE := below_to BD h
  have S1' := S1.below h
  clear h
  go_wp2_with fail
  refine (same_post a1 a2 _ c1 c2 ps _ S1' S2 (by omega)).mono ?_
  rintro e wF ⟨rfl, h⟩
  have BF := below_to BE h
  clear h
  go_wp2_with fail
  refine (noughts_lit s z HZ.out _ hs).mono ?_
  rintro e w' ⟨rfl, rfl⟩
  go_wp2_with fail
  refine (rnoughts_lit s z HZ.out _ hs).mono ?_
  rintro e w' ⟨rfl, rfl⟩
  go_wp2_with fail
  go_ret
  exact ⟨rfl, BF⟩
set_option maxRecDepth 100000 in
set_option maxHeartbeats 4000000 in
theorem ow_b1 (wd : Int) (n : Nat) (s : ByteArray) (pad each : Int) (w : World) (hn : n < 18446744073709551616) (hs : s.size ≤ maxLen) (he : each ≤ 9223372036854775807) (h1 : s.size ≤ 131072) (hx8 : s.size ≠ 8) (h2 : pad ≤ 8192) :
    Calls Try.prog 3 #[.int .i64 wd, .int .u64 (n : Int), .string s, .int .i64 pad, .int .i64 each] w fun e w' => e = .returned (.bool true) ∧ Below w.heap.size w w' := by
  obtain ⟨t, e0, T1, T2⟩ := text_pair s
  obtain ⟨a, N1, N2⟩ := num_pair wd n hn
  obtain ⟨p, P1, P2⟩ := pad_pair s pad hs
  obtain ⟨ps, hps, C1, C2⟩ := cut_pair s each (by omega) he
  obtain ⟨z, hz⟩ : ∃ z, allZ s.data.toList = z := ⟨_, rfl⟩
  obtain ⟨f, hf⟩ : ∃ f, n + f = 18446744073709551615 := ⟨18446744073709551615 - n, by omega⟩
  have hf2 : f < 18446744073709551616 := by omega
  have hnf : 18446744073709551615 - (n : Int) = (f : Int) := by omega
  obtain ⟨ra, hra⟩ : ∃ a, bs (numL 8 n) = a := ⟨_, rfl⟩
  obtain ⟨fa, hfa⟩ : ∃ a, bs (numL 8 f) = a := ⟨_, rfl⟩
  have T1 := Lib.hid T1
  have T2 := Lib.hid T2
  have N1 := Lib.hid N1
  have N2 := Lib.hid N2
  have P1 := Lib.hid P1
  have P2 := Lib.hid P2
  have C1 := Lib.hid C1
  have C2 := Lib.hid C2
  have HZ := Lib.hid hz
  have HF := Lib.hid hf
  have HRA := Lib.hid hra
  have HFA := Lib.hid hfa
  clear hz hf hra hfa
  go_enter Try.func3, Try.ntmps3
  go_wp2_with fail
  refine (T1.out _).mono ?_
  rintro e w1 ⟨rfl, B1⟩
  go_wp2_with fail
  refine (T2.out _).mono ?_
  rintro e w2 ⟨rfl, h⟩
  have B2 := below_to B1 h
  clear h
  go_wp2_with fail
  refine (ofRise_none s hx8 _).mono ?_
  rintro e w' ⟨rfl, rfl⟩
  go_wp2_with fail
  refine (of_none s hx8 _).mono ?_
  rintro e w' ⟨rfl, rfl⟩
  have B3 := B2
  go_wp2_with fail
  refine (ofFall_none s hx8 _).mono ?_
  rintro e w' ⟨rfl, rfl⟩
  go_wp2_with fail
  refine (lives3 _).mono ?_
  rintro e w4 ⟨rfl, h⟩
  have B4 := below_to B3 h
  clear h
  go_wp2_with fail
  refine (N1.out _).mono ?_
  rintro e w5 ⟨rfl, h⟩
  have B5 := below_to B4 h
  clear h
  go_wp2_with fail
  refine (N2.out _).mono ?_
  rintro e w6 ⟨rfl, h⟩
  have B6 := below_to B5 h
  clear h
  go_wp2_with fail
  refine (rise_lit n ra HRA.out _ hn).mono ?_
  rintro e w7 ⟨rfl, h⟩
  have B7 := below_to B6 h
  clear h
  go_wp2_with fail
  refine (rnum8_lit n ra HRA.out _ hn).mono ?_
  rintro e w8 ⟨rfl, h⟩
  have B8 := below_to B7 h
  clear h
  go_wp2_with fail
  refine (fall_lit n f fa HFA.out _ hn HF.out).mono ?_
  rintro e w9 ⟨rfl, h⟩
  have B9 := below_to B8 h
  clear h
  go_wp2_with fail
  refine (rnum8_lit f fa HFA.out _ hf2).mono ?_
  rintro e wA ⟨rfl, h⟩
  have BA := below_to B9 h
  clear h
  go_wp2_with fail
  refine (P1.out _).mono ?_
  rintro e wB ⟨rfl, h⟩
  have BB := below_to BA h
  clear h
  go_wp2_with fail
  refine (P2.out _).mono ?_
  rintro e wC ⟨rfl, h⟩
  have BC := below_to BB h
  clear h
  go_wp2_with fail
  refine (C1.out _).mono ?_
  rintro e wD ⟨a1, c1, rfl, S1, h⟩
  have BD := below_to BC h
  clear h
  go_wp2_with fail
  refine (C2.out _).mono ?_
  rintro e wE ⟨a2, c2, rfl, S2, h⟩
  have BE := below_to BD h
  have S1' := S1.below h
  clear h
  go_wp2_with fail
  refine (same_post a1 a2 _ c1 c2 ps _ S1' S2 (by omega)).mono ?_
  rintro e wF ⟨rfl, h⟩
  have BF := below_to BE h
  clear h
  go_wp2_with fail
  refine (noughts_lit s z HZ.out _ hs).mono ?_
  rintro e w' ⟨rfl, rfl⟩
  go_wp2_with fail
  refine (rnoughts_lit s z HZ.out _ hs).mono ?_
  rintro e w' ⟨rfl, rfl⟩
  go_wp2_with fail
  go_ret
  exact ⟨rfl, BF⟩
set_option maxRecDepth 100000 in
set_option maxHeartbeats 4000000 in
theorem ow_b2 (wd : Int) (n : Nat) (s : ByteArray) (pad each : Int) (w : World) (hn : n < 18446744073709551616) (hs : s.size ≤ maxLen) (he : each ≤ 9223372036854775807) (h1 : s.size ≤ 131072) (hx8 : s.size ≠ 8) (h2 : 8192 < pad) (h3 : 65536 < pad) :
    Calls Try.prog 3 #[.int .i64 wd, .int .u64 (n : Int), .string s, .int .i64 pad, .int .i64 each] w fun e w' => e = .returned (.bool true) ∧ Below w.heap.size w w' := by
  obtain ⟨t, e0, T1, T2⟩ := text_pair s
  obtain ⟨a, N1, N2⟩ := num_pair wd n hn
  obtain ⟨p, P1, P2⟩ := pad_pair s pad hs
  obtain ⟨ps, hps, C1, C2⟩ := cut_pair s each (by omega) he
  obtain ⟨z, hz⟩ : ∃ z, allZ s.data.toList = z := ⟨_, rfl⟩
  obtain ⟨f, hf⟩ : ∃ f, n + f = 18446744073709551615 := ⟨18446744073709551615 - n, by omega⟩
  have hf2 : f < 18446744073709551616 := by omega
  have hnf : 18446744073709551615 - (n : Int) = (f : Int) := by omega
  obtain ⟨ra, hra⟩ : ∃ a, bs (numL 8 n) = a := ⟨_, rfl⟩
  obtain ⟨fa, hfa⟩ : ∃ a, bs (numL 8 f) = a := ⟨_, rfl⟩
  have T1 := Lib.hid T1
  have T2 := Lib.hid T2
  have N1 := Lib.hid N1
  have N2 := Lib.hid N2
  have P1 := Lib.hid P1
  have P2 := Lib.hid P2
  have C1 := Lib.hid C1
  have C2 := Lib.hid C2
  have HZ := Lib.hid hz
  have HF := Lib.hid hf
  have HRA := Lib.hid hra
  have HFA := Lib.hid hfa
  clear hz hf hra hfa
  go_enter Try.func3, Try.ntmps3
  go_wp2_with fail
  refine (T1.out _).mono ?_
  rintro e w1 ⟨rfl, B1⟩
  go_wp2_with fail
  refine (T2.out _).mono ?_
  rintro e w2 ⟨rfl, h⟩
  have B2 := below_to B1 h
  clear h
  go_wp2_with fail
  refine (ofRise_none s hx8 _).mono ?_
  rintro e w' ⟨rfl, rfl⟩
  go_wp2_with fail
  refine (of_none s hx8 _).mono ?_
  rintro e w' ⟨rfl, rfl⟩
  have B3 := B2
  go_wp2_with fail
  refine (ofFall_none s hx8 _).mono ?_
  rintro e w' ⟨rfl, rfl⟩
  go_wp2_with fail
  refine (lives3 _).mono ?_
  rintro e w4 ⟨rfl, h⟩
  have B4 := below_to B3 h
  clear h
  go_wp2_with fail
  refine (N1.out _).mono ?_
  rintro e w5 ⟨rfl, h⟩
  have B5 := below_to B4 h
  clear h
  go_wp2_with fail
  refine (N2.out _).mono ?_
  rintro e w6 ⟨rfl, h⟩
  have B6 := below_to B5 h
  clear h
  go_wp2_with fail
  refine (rise_lit n ra HRA.out _ hn).mono ?_
  rintro e w7 ⟨rfl, h⟩
  have B7 := below_to B6 h
  clear h
  go_wp2_with fail
  refine (rnum8_lit n ra HRA.out _ hn).mono ?_
  rintro e w8 ⟨rfl, h⟩
  have B8 := below_to B7 h
  clear h
  go_wp2_with fail
  refine (fall_lit n f fa HFA.out _ hn HF.out).mono ?_
  rintro e w9 ⟨rfl, h⟩
  have B9 := below_to B8 h
  clear h
  go_wp2_with fail
  refine (rnum8_lit f fa HFA.out _ hf2).mono ?_
  rintro e wA ⟨rfl, h⟩
  have BA := below_to B9 h
  clear h
  go_wp2_with fail
  refine (P1.out _).mono ?_
  rintro e wB ⟨rfl, h⟩
  have BB := below_to BA h
  clear h
  go_wp2_with fail
  refine (P2.out _).mono ?_
  rintro e wC ⟨rfl, h⟩
  have BC := below_to BB h
  clear h
  go_wp2_with fail
  refine (C1.out _).mono ?_
  rintro e wD ⟨a1, c1, rfl, S1, h⟩
  have BD := below_to BC h
  clear h
  go_wp2_with fail
  refine (C2.out _).mono ?_
  rintro e wE ⟨a2, c2, rfl, S2, h⟩
  have BE := below_to BD h
  have S1' := S1.below h
  clear h
  go_wp2_with fail
  refine (same_post a1 a2 _ c1 c2 ps _ S1' S2 (by omega)).mono ?_
  rintro e wF ⟨rfl, h⟩
  have BF := below_to BE h
  clear h
  go_wp2_with fail
  refine (noughts_lit s z HZ.out _ hs).mono ?_
  rintro e w' ⟨rfl, rfl⟩
  go_wp2_with fail
  refine (rnoughts_lit s z HZ.out _ hs).mono ?_
  rintro e w' ⟨rfl, rfl⟩
  go_wp2_with fail
  go_ret
  exact ⟨rfl, BF⟩
theorem octetsWrites_walk (wd : Int) (n : Nat) (s : ByteArray) (pad each : Int) (hn : n < 18446744073709551616) (hs : s.size ≤ maxLen) (he : each ≤ 9223372036854775807) (w : World) :
    Calls Try.prog 3 #[.int .i64 wd, .int .u64 (n : Int), .string s, .int .i64 pad, .int .i64 each] w fun e w' => e = .returned (.bool true) ∧ Below w.heap.size w w' := by
  by_cases h1 : s.size ≤ 131072
  · by_cases h2 : pad ≤ 8192
    · by_cases h8 : s.size = 8
      · exact ow_a1 wd n s pad each w hn hs he h1 h8 h2
      · exact ow_b1 wd n s pad each w hn hs he h1 h8 h2
    · by_cases h3 : 65536 < pad
      · by_cases h8 : s.size = 8
        · exact ow_a2 wd n s pad each w hn hs he h1 h8 (by omega) h3
        · exact ow_b2 wd n s pad each w hn hs he h1 h8 (by omega) h3
      · exact ow_far wd n s pad each w (.inr ⟨by omega, by omega⟩)
  · exact ow_far wd n s pad each w (.inl (by omega))
end Go.Proofs.Ytgbnmokajaehhaa
