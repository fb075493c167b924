/- NameTells, walked. -/
import Derived.Test.YtgbnmokajaehhaaDoorNO
import Derived.Test.YtgbnmokajaehhaaDoorNF
namespace Go.Proofs.YtgbnmokajaehhaaDoor
open Go.RowKit Go.Sort
set_option linter.unusedVariables false
set_option maxRecDepth 100000
theorem runword_37 (w : World) : Calls Tryd.prog 9 #[.string ⟨#[37]⟩] w fun e w' => e = .returned (.tuple #[.string ⟨#[]⟩, .int .i64 0]) ∧ Below w.heap.size w w' := by
  have kn : ∀ w : World, ∀ g, (convert 42 9 (.slice (some ⟨g, 0, none⟩) 0 0)).run Tryd.prog w = .ok (.string ⟨#[]⟩) w := fun w g => by
    have := run_convert_bytes_back (P := Tryd.prog) w 42 9 5 ⟨g, 0, none⟩ 0 [] Tryd.underlying42 Tryd.underlying5 Tryd.underlying9 (fun j hj => by simp at hj)
    simpa using this
  have HK := Lib.hid (kn (w.alloc (.cells #[] 5)) w.heap.size)
  clear kn
  go_enter Tryd.func9, Tryd.ntmps9
  go_wp2_with fail
  go_loopw [4, 5] (fun v i wx => ∃ k : Nat, k ≤ 1 ∧ v = .slice (some ⟨w.heap.size, 0, none⟩) 0 0 ∧ wx = w.alloc (.cells #[] 5) ∧ i = .int .i64 (k : Int)) (fun _ i _ => 1 - (intOf i).toNat)
  case atStart => exact ⟨0, by omega, rfl, rfl, rfl⟩
  case round =>
    obtain ⟨k, hk, rfl, rfl, rfl⟩ := hrel
    have hsz : (ByteArray.mk #[37]).size = 1 := rfl
    by_cases hlt : k = 0
    · subst hlt
      go_wp2_with fail
      go_roundw
      case rel => exact ⟨1, by omega, by first | rfl | trivial, by first | rfl | trivial, by first | rfl | go_num⟩
      case measure => simp [intOf]
    · obtain rfl : k = 1 := by omega
      have kn := HK.out
      go_wp2_with fail
      refine (rword_nil _).mono ?_
      rintro e w1 ⟨rfl, rfl⟩
      go_wp2_with fail
      go_ret2
      exact ⟨rfl, (Below.refl _ _).alloc (Nat.le_refl _) _⟩
theorem runword_nil (w : World) : Calls Tryd.prog 9 #[.string ⟨#[]⟩] w fun e w' => e = .returned (.tuple #[.string ⟨#[]⟩, .int .i64 19]) ∧ Below w.heap.size w w' := by
  have kn : ∀ w : World, ∀ g, (convert 42 9 (.slice (some ⟨g, 0, none⟩) 0 0)).run Tryd.prog w = .ok (.string ⟨#[]⟩) w := fun w g => by
    have := run_convert_bytes_back (P := Tryd.prog) w 42 9 5 ⟨g, 0, none⟩ 0 [] Tryd.underlying42 Tryd.underlying5 Tryd.underlying9 (fun j hj => by simp at hj)
    simpa using this
  have HK := Lib.hid (kn (w.alloc (.cells #[] 5)) w.heap.size)
  clear kn
  go_enter Tryd.func9, Tryd.ntmps9
  go_wp2_with fail
  go_loopw [4, 5] (fun v i wx => v = .slice (some ⟨w.heap.size, 0, none⟩) 0 0 ∧ wx = w.alloc (.cells #[] 5) ∧ i = .int .i64 0) (fun _ i _ => 0)
  case atStart => exact ⟨rfl, rfl, rfl⟩
  case round =>
    obtain ⟨rfl, rfl, rfl⟩ := hrel
    have hsz : (ByteArray.mk #[]).size = 0 := rfl
    have kn := HK.out
    go_wp2_with fail
    refine (rword_nil _).mono ?_
    rintro e w1 ⟨rfl, rfl⟩
    go_wp2_with fail
    go_ret2
    exact ⟨rfl, (Below.refl _ _).alloc (Nat.le_refl _) _⟩
theorem runword_all (s : ByteArray) (hs : s.size ≤ 2048) (w : World) : Calls Tryd.prog 9 #[.string s] w fun e w' => e = .returned (.tuple #[.string (bs (unwS s.data.toList).1), .int .i64 (unwS s.data.toList).2]) ∧ Below w.heap.size w w' := by
  by_cases h37 : s.data.toList = [37]
  · obtain rfl : s = ⟨#[37]⟩ := str_eq h37
    exact runword_37 w
  · by_cases h0 : s.data.toList = []
    · obtain rfl : s = ⟨#[]⟩ := str_eq h0
      exact runword_nil w
    · exact runword_loop s hs (by rw [blen]; exact List.length_pos_iff.2 h0) (toList_37 s h37) w
theorem splitB_A (s : ByteArray) : (Lib.splitB ⟨#[32]⟩ 0 (Lib.countB s ⟨#[32]⟩) s).map (·.data.toList) = splitA s.data.toList := by
  rw [Lib.splitB_data]
  unfold splitA
  show Lib.splitK [32] 0 (Lib.count s.data.toList [32]) s.data.toList = _
  rw [Lib.count_one]
theorem map_inj : ∀ (a b : List ByteArray), a.map (·.data.toList) = b.map (·.data.toList) → a = b
  | [], [], _ => rfl
  | [], y :: b, h => by simp at h
  | z :: a, [], h => by simp at h
  | z :: a, y :: b, h => by
    simp only [List.map_cons, List.cons.injEq] at h
    rw [str_eq h.1, map_inj a b h.2]
theorem line_all (a : Option Addr) (n c : Nat) (ps : List ByteArray) (w : World) (hS : Strs w a n ps) (hc : n ≤ c) (hlen : (ps.map (·.data.toList.length)).sum + ps.length ≤ 1048576) :
    Calls Tryd.prog 16 #[.slice a n c] w fun e w' => e = .returned (.string (bs (jn ps))) ∧ Below w.heap.size w w' := by
  by_cases h0 : n = 0
  · subst h0
    obtain rfl : ps = [] := List.eq_nil_of_length_eq_zero hS.1
    refine (line_zero a c w).mono ?_
    rintro e w' ⟨rfl, rfl⟩
    exact ⟨rfl, Below.refl _ _⟩
  · exact line_any a n c ps w hS (by omega) hc (by omega)
set_option maxHeartbeats 2000000 in
theorem tells_main (s : ByteArray) (za : Option Addr) (len cap : Nat) (ps : List ByteArray) (w : World) (hE : Env w) (hs : s.size ≤ 2048) (hl : len ≤ 100) (hc : len ≤ cap) (hz : Strs w za len ps) (hsum : (ps.map (·.data.toList.length)).sum + ps.length ≤ 1048576) :
    Calls Tryd.prog 3 #[.string s, .slice za len cap] w fun e w' => e = .returned (.bool true) ∧ Below w.heap.size w w' := by
  have k1 := fun w => unword_all s (by omega) w
  have k2 := fun w => runword_all s hs w
  have k3 := fun w => word_all s (by omega) w
  have k4 := fun w => rword_all s (by omega) w
  have hSA := splitB_A s
  have hal := Lib.splitB_all ⟨#[32]⟩ (by decide) 0 _ s rfl
  have k5 := fun w hE => words_any s (by omega) w hE
  generalize bs (unwS s.data.toList).1 = U at k1 k2
  generalize (unwS s.data.toList).2 = y at k1 k2
  generalize bs (wordS s.data.toList) = X at k3 k4
  have hcl : Lib.countB s ⟨#[32]⟩ ≤ 2048 := by have := Lib.countB_le ⟨#[32]⟩ (by decide) s.size s (Nat.le_refl _); omega
  generalize Lib.countB s ⟨#[32]⟩ = cn at hSA hal k5 hcl
  generalize Lib.splitB ⟨#[32]⟩ 0 cn s = P at hSA hal k5
  have K1 := Lib.hid k1
  have K2 := Lib.hid k2
  have K3 := Lib.hid k3
  have K4 := Lib.hid k4
  have K5 := Lib.hid k5
  have HSA := Lib.hid hSA
  have HAL := Lib.hid hal
  have HZ := Lib.hid hz
  have HSUM := Lib.hid hsum
  clear k1 k2 k3 k4 k5 hSA hal hz hsum
  go_enter Tryd.func3, Tryd.ntmps3
  go_wp2_with fail
  refine (K1.out _).mono ?_
  rintro e w1 ⟨rfl, B1⟩
  go_wp2_with fail
  refine (K2.out _).mono ?_
  rintro e w2 ⟨rfl, hb⟩
  have B2 := below_to B1 hb
  clear hb B1
  go_wp2_with fail
  refine (lives_any _ (hE.below B2)).mono ?_
  rintro e w3 ⟨rfl, hb⟩
  have B3 := below_to B2 hb
  clear hb B2
  go_wp2_with fail
  refine (names_any s (by omega) _).mono ?_
  rintro e w4 ⟨rfl, hb⟩
  have B4 := below_to B3 hb
  clear hb B3
  go_wp2_with fail
  refine (K3.out _).mono ?_
  rintro e w5 ⟨rfl, hb⟩
  have B5 := below_to B4 hb
  clear hb B4
  go_wp2_with fail
  refine (K4.out _).mono ?_
  rintro e w6 ⟨rfl, hb⟩
  have B6 := below_to B5 hb
  clear hb B5
  go_wp2_with fail
  refine (K5.out _ (hE.below B6)).mono ?_
  rintro e w7 ⟨rfl, rfl⟩
  have hS7 := Strs.split w6 P 9
  rw [HAL.out] at hS7
  have B7 : Below w.heap.size w (w6.alloc (.cells (P.map Value.string).toArray 9)) := B6.alloc B6.size _
  generalize (w6.alloc (.cells (P.map Value.string).toArray 9)) = w7 at hS7 B7 ⊢
  go_wp2_with fail
  refine (rwords_any s hs _).mono ?_
  rintro e w8 ⟨a8, n8, c8, out, rfl, hS8, ho, hb⟩
  have B8 := below_to B7 hb
  have hS9 := hS7.below hb
  obtain rfl : out = P := map_inj _ _ (by rw [ho]; exact HSA.out.symm)
  have hn8 : n8 = cn + 1 := by rw [← hS8.1]; exact HAL.out
  subst hn8
  clear hb B7 hS7 ho
  go_wp2_with fail
  refine (same_strs _ a8 (cn + 1) (cn + 1) c8 out _ hS9 hS8 (by omega)).mono ?_
  rintro e w9 ⟨rfl, hb⟩
  have B9 := below_to B8 hb
  clear hb B8 hS8 hS9
  have hLn := line_all za len cap ps w9 (HZ.out.below B9) hc HSUM.out
  have HLn := Lib.hid hLn
  clear hLn
  go_wp2_with fail
  refine HLn.out.mono ?_
  rintro e wA ⟨rfl, hb⟩
  have BA := below_to B9 hb
  clear hb
  have hLr := rline_any za len cap ps wA (HZ.out.below BA) hl HSUM.out
  have HLr := Lib.hid hLr
  clear hLr
  go_wp2_with fail
  refine HLr.out.mono ?_
  rintro e wB ⟨rfl, rfl⟩
  go_wp2_with fail
  go_ret
  first | exact ⟨rfl, BA⟩ | exact ⟨ret_bool (by simp), BA⟩
theorem nameTells_walk (s : ByteArray) (za : Option Addr) (len cap : Nat) (ps : List ByteArray) (w : World) (hE : Env w) (hs : s.size ≤ maxLen) (hm : len ≤ 9223372036854775807) (hc : len ≤ cap) (hz : Strs w za len ps) (hsum : (ps.map (·.data.toList.length)).sum + ps.length ≤ 1048576) :
    Calls Tryd.prog 3 #[.string s, .slice za len cap] w fun e w' => e = .returned (.bool true) ∧ Below w.heap.size w w' := by
  by_cases h1 : 2048 < s.size
  · clear hz hsum
    go_enter Tryd.func3, Tryd.ntmps3
    go_wp2_with fail
    refine (lives_any _ hE).mono ?_
    rintro e w1 ⟨rfl, B1⟩
    go_wp2_with fail
    go_ret
    exact ⟨rfl, B1⟩
  · by_cases h3 : 100 < len
    · clear hz hsum
      go_enter Tryd.func3, Tryd.ntmps3
      go_wp2_with fail
      refine (lives_any _ hE).mono ?_
      rintro e w1 ⟨rfl, B1⟩
      go_wp2_with fail
      go_ret
      exact ⟨rfl, B1⟩
    · exact tells_main s za len cap ps w hE (by omega) (by omega) hc hz hsum
end Go.Proofs.YtgbnmokajaehhaaDoor
