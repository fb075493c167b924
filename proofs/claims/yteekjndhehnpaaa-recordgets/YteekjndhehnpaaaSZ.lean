/- Contracts: the reference's number and pair. -/
import Derived.Test.YteekjndhehnpaaaSK
import Derived.Test.YteekjndhehnpaaaOF
import Derived.Deep.Cut
namespace Go.Proofs.Yteekjndhehnpaaa
open Go.RowKit
set_option maxRecDepth 100000
set_option linter.unusedVariables false
set_option linter.unusedSimpArgs false
set_option maxHeartbeats 4000000
theorem rn_at (s : ByteArray) (hs : s.size ≤ maxLen) (e n : Int) {t : ByteArray} {y : Int} {u : Nat} (h : numS s e n = (t, y, u)) : ∀ w, Calls Try.prog 55 #[.agg #[.string s, .int .i64 e], .int .i64 n] w (RReads w t y (.int .u64 (u : Int))) := by
  intro w
  have := rn_any n s e w hs
  rw [h] at this
  exact this
theorem rnumber_any (s : ByteArray) (hs : s.size ≤ 1000) (k n : Nat) (hk : k ≤ 100) (h1 : 1 ≤ n) (h8 : n ≤ 8) (w : World) :
    Calls Try.prog 82 #[.string s, .int .i64 (k : Int), .int .i64 (n : Int)] w fun x w' => x = .returned (.int .u64 (numAt s k n : Int)) ∧ Below w.heap.size w w' := by
  by_cases h : k + n ≤ s.size
  · have hz : (s.extract k s.size).size = s.size - k := by rw [ext_size]; omega
    have hd : (s.extract k s.size).data.toList = s.data.toList.drop k := by rw [ext_toList, List.take_of_length_le (by rw [blen]; exact Nat.le_refl _)]
    have hN := numS_many (s.extract k s.size) n h1 h8 (by omega)
    have HN := Lib.hid (rn_at (s.extract k s.size) (by rw [hz]; exact Nat.le_trans (Nat.sub_le _ _) (Nat.le_trans hs (by decide))) 0 n hN)
    have e : numAt s k n = ofL ((s.extract k s.size).data.toList.take n) := by unfold numAt; rw [if_pos h, hd]
    rw [e]
    generalize ofL ((s.extract k s.size).data.toList.take n) = u at HN ⊢
    generalize ((s.extract k s.size).extract n (s.extract k s.size).size) = T at HN
    clear hN hd hz e
    have hwi : IntKind.i64.wrap ((k : Int) + (n : Int)) = (k : Int) + (n : Int) := IntWalk.i64_in _ (by omega)
    have g1 : ¬ (s.size : Int) < (k : Int) + (n : Int) := by omega
    go_enter Try.func82, Try.ntmps82
    go_wp2_with fail
    refine (HN.out _).mono ?_
    rintro e w1 ⟨rfl, hb⟩
    go_wp2_with fail
    go_ret
    exact ⟨rfl, hb.alloc hb.size _⟩
  · have e : numAt s k n = 0 := by unfold numAt; rw [if_neg h]
    rw [e]
    have g1 : (s.size : Int) < (k : Int) + (n : Int) := by omega
    clear h e
    go_enter Try.func82, Try.ntmps82
    go_wp2_with fail
    go_ret
    exact ⟨rfl, Below.refl _ _⟩
theorem pair_main (s : ByteArray) (k : Nat) (hk : k ≤ 50) (l : Int) (x y : Nat)
    (H1 : Hid (∀ w, Calls Try.prog 82 #[.string s, .int .i64 (k : Int), .int .i64 8] w fun e w' => e = .returned (.int .u64 (x : Int)) ∧ Below w.heap.size w w'))
    (H2 : Hid (∀ w, Calls Try.prog 82 #[.string s, .int .i64 ((k : Int) + 8), .int .i64 8] w fun e w' => e = .returned (.int .u64 (y : Int)) ∧ Below w.heap.size w w')) (w : World) :
    Calls Try.prog 78 #[.string s, .int .i64 (k : Int), .int .i64 l] w fun e w' => e = .returned (.agg #[.int .i64 (IntKind.i64.wrap (IntKind.i64.wrap x - l)), .int .i64 (IntKind.i64.wrap (IntKind.i64.wrap y - l))]) ∧ Below w.heap.size w w' := by
  obtain ⟨x1, hx1⟩ : ∃ z, IntKind.i64.wrap (x : Int) = z := ⟨_, rfl⟩
  obtain ⟨y1, hy1⟩ : ∃ z, IntKind.i64.wrap (y : Int) = z := ⟨_, rfl⟩
  rw [hx1, hy1]
  have hx2 : wrap64 (x : Int) = x1 := by rw [← wrapEq]; exact hx1
  have hy2 : wrap64 (y : Int) = y1 := by rw [← wrapEq]; exact hy1
  go_enter Try.func78, Try.ntmps78
  go_wp2_with fail
  refine (H1.out _).mono ?_
  rintro e w1 ⟨rfl, hb⟩
  have K := (Blk.new w [.int .i64 0, .int .i64 0] 47).below hb
  have BB := below_to (below_box w (.cells #[.int .i64 0, .int .i64 0] 47)) hb
  clear hb
  go_wp2_with fail
  refine (H2.out _).mono ?_
  rintro e w2 ⟨rfl, hb⟩
  replace K := K.below hb
  replace BB := below_to BB hb
  clear hb
  have c0 := K.cell 0 _ rfl
  have c1 := K.cell 1 _ rfl
  have d0 := K.froz 0 _ rfl
  have d1 := K.froz 1 _ rfl
  go_wp2_with fail
  have KK := (K.put 0 (.int .i64 (wrap64 (x1 - l))) (by simp)).put 1 (.int .i64 (wrap64 (y1 - l))) (by simp)
  have z0 := KK.cell 0 _ rfl
  have z1 := KK.cell 1 _ rfl
  refine bodyPost_ret (v := .agg #[.int .i64 (wrap64 (x1 - l)), .int .i64 (wrap64 (y1 - l))]) (by simp [results, Try.results78, go_sem, z0, z1]) rfl ?_
  exact ⟨by simp only [wrapEq], (BB.setCell (p := ⟨w.heap.size, 0, none⟩) (Nat.le_refl _) _).setCell (p := ⟨w.heap.size, 1, none⟩) (Nat.le_refl _) _⟩
theorem wrap_zero (x : Int) : IntKind.i64.wrap (IntKind.i64.wrap x - 0) = IntKind.i64.wrap x := by rw [IntKind.wrap_i64, IntKind.wrap_i64]; omega
theorem pair_any (s : ByteArray) (hs : s.size ≤ 1000) (k : Nat) (hk : k ≤ 50) (l : Int) (w : World) :
    Calls Try.prog 78 #[.string s, .int .i64 (k : Int), .int .i64 l] w fun e w' => e = .returned (.agg #[.int .i64 (IntKind.i64.wrap (IntKind.i64.wrap (numAt s k 8) - l)), .int .i64 (IntKind.i64.wrap (IntKind.i64.wrap (numAt s (k + 8) 8) - l))]) ∧ Below w.heap.size w w' :=
  pair_main s k hk l _ _ (Lib.hid (fun w => rnumber_any s hs k 8 (by omega) (by omega) (by omega) w)) (Lib.hid (fun w => rnumber_any s hs (k + 8) 8 (by omega) (by omega) (by omega) w)) w
end Go.Proofs.Yteekjndhehnpaaa
