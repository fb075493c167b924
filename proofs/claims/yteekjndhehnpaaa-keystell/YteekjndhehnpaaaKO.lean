/- Contracts: Open. -/
import Derived.Test.YteekjndhehnpaaaKL
import Derived.Test.YteekjndhehnpaaaKN
namespace Go.Proofs.Yteekjndhehnpaaa
open Go.RowKit
set_option maxRecDepth 100000
set_option linter.unusedVariables false
set_option linter.unusedSimpArgs false
set_option maxHeartbeats 8000000
theorem kd_cases (c : UInt8) : kd c = 0 ∨ kd c = 1 ∨ kd c = 2 ∨ kd c = 3 ∨ kd c = 4 ∨ kd c = 5 := by
  unfold kd
  by_cases h1 : c = 84
  · simp [h1]
  by_cases h2 : c = 66
  · simp [h2]
  by_cases h3 : c = 86
  · simp [h3]
  by_cases h4 : c = 85
  · simp [h4]
  by_cases h5 : c = 80
  · simp [h5]
  simp [h1, h2, h3, h4, h5]
theorem parsed_any (s : ByteArray) (hs : s.size ≤ maxLen) (w : World) : Calls Try.prog 53 #[.string s] w fun e w' => e = .returned (kV (parseK true s.data.toList)) ∧ Below w.heap.size w w' := by
  rcases kd_cases (s.data.toList.getD 0 0) with h | h | h | h | h | h
  · exact parsed0 s hs h w
  · exact parsed1 s hs h w
  · exact parsed2 s hs h w
  · exact parsed3 s hs h w
  · exact parsed4 s hs h w
  · exact parsed5 s hs h w
theorem fallN_lt (w : Bool) (r : List UInt8) : fallN w r < 18446744073709551616 := by
  unfold fallN; cases w <;> simp <;> split <;> omega
theorem riseN_lt (w : Bool) (r : List UInt8) : riseN w r < 18446744073709551616 := by
  unfold riseN
  cases w
  · simp only [Bool.false_eq_true, if_false]
    split
    · have := ofL_lt (r.take 8)
      have h2 : (r.take 8).length = 8 := by simp; omega
      rw [h2] at this; simpa using this
    · omega
  · simp only [if_true]
    split
    · rename_i h
      have := ofL_lt r
      rw [h] at this; simpa using this
    · omega
theorem parse_lt (w : Bool) (l : List UInt8) : (parseK w l).num < 18446744073709551616 := by
  unfold parseK
  simp only
  split
  · exact fallN_lt _ _
  · split
    · exact riseN_lt _ _
    · split
      · exact riseN_lt _ _
      · omega
theorem parse_buc (w : Bool) (l : List UInt8) : (parseK w l).buc.size ≤ l.length := by
  unfold parseK
  simp only [bs_size]
  have := (cutL_le (l.drop 2)).2
  rw [List.length_drop] at this
  omega
theorem parse_nam (w : Bool) (l : List UInt8) : (parseK w l).nam.size ≤ l.length := by
  unfold parseK restL
  simp only
  split
  · rw [bs_size]
    have := (cutL_le (cutL (l.drop 2)).2).2
    have := (cutL_le (l.drop 2)).1
    rw [List.length_drop] at this
    omega
  · exact Nat.zero_le _
/-- What Open answers. -/
def goodL (w : Bool) (l : List UInt8) : Bool := okK (parseK w l) && decide (encL (parseK w l) = l)
def openK (l : List UInt8) : K := if goodL true l then parseK true l else k0
def openE (l : List UInt8) : Int := if goodL true l then 0 else 19
def keyErr (k : K) (e : Int) : Ending := .returned (.tuple #[kV k, .int .i64 e])
theorem open_walk (s : ByteArray) (P : K) (M : ByteArray) (e : Int) (w : World) (HP : Hid (∀ w, Calls Try.prog 53 #[.string s] w fun e w' => e = .returned (kV P) ∧ Below w.heap.size w w'))
    (HM : Hid (∀ w, Calls Try.prog 11 #[kV P] w fun x w' => x = strErr M e ∧ Below w.heap.size w w')) (good : Bool) (hg : (good = true ∧ e = 0 ∧ (M.toList == s.toList) = true) ∨ (good = false ∧ e = 18) ∨ (good = false ∧ e = 0 ∧ (M.toList == s.toList) = false)) :
    Calls Try.prog 14 #[.string s] w fun x w' => (x = match good with | true => keyErr P 0 | false => keyErr k0 19) ∧ Below w.heap.size w w' := by
  obtain ⟨kind, t, b, n, u, p⟩ := P
  unfold kV at HP HM
  simp only at HP HM
  rcases hg with ⟨rfl, rfl, hm⟩ | ⟨rfl, rfl⟩ | ⟨rfl, rfl, hm⟩
  · go_enter Try.func14, Try.ntmps14
    go_wp2_with fail
    refine (HP.out _).mono ?_
    rintro e w2 ⟨rfl, hb2⟩
    have S0 := (Six.new w _ _ _ _ _ _ 29).below hb2
    have BB := below_alloc_to hb2
    clear hb2
    go_wp2_with fail
    refine (HM.out _).mono ?_
    rintro e w3 ⟨rfl, hb3⟩
    have K3 := (Six.new w2 _ _ _ _ _ _ 29).below hb3
    have S3 := (S0.below (below_box w2 _)).below hb3
    have B3 := below_to BB (below_alloc_to hb3)
    have hlt := S0.lt
    have SX := S3
    obtain ⟨p0, p1, p2, p3, p4, p5, f0, f1, f2, f3, f4, f5⟩ := K3
    obtain ⟨d0, d1, d2, d3, d4, d5, g0, g1, g2, g3, g4, g5⟩ := S3
    clear hb3 BB S0
    unfold strErr
    go_wp2_with fail
    refine bodyPost_ret (v := .tuple #[.agg #[.int .i64 kind, .int .i64 t, .string b, .string n, .int .u64 (u : Int), .int .i64 p], .int .i64 0]) ?_ rfl ⟨rfl, ?_⟩
    · have SY := ((((((SX.put0 (.int .i64 kind)).put1 (.int .i64 t)).put2 (.string b)).put3 (.string n)).put4 (.int .u64 (u : Int))).put5 (.int .i64 p))
      have hl := load29 SY 29 (.inl rfl)
      rw [results_cell_tmp Try.results14]
      show ((asAddr (.pointer (some ⟨w.heap.size, 0, none⟩))).run Try.prog _).andThen _ = _
      simp [asAddr, hl]
    · exact ((((((B3.setCell (Nat.le_refl _) _).setCell (Nat.le_refl _) _).setCell (Nat.le_refl _) _).setCell (Nat.le_refl _) _).setCell (Nat.le_refl _) _).setCell (Nat.le_refl _) _)
  all_goals
    go_enter Try.func14, Try.ntmps14
    go_wp2_with fail
    refine (HP.out _).mono ?_
    rintro e w2 ⟨rfl, hb2⟩
    have S0 := (Six.new w _ _ _ _ _ _ 29).below hb2
    have BB := below_alloc_to hb2
    clear hb2
    go_wp2_with fail
    refine (HM.out _).mono ?_
    rintro e w3 ⟨rfl, hb3⟩
    have S3 := (S0.below (below_box w2 _)).below hb3
    have B3 := below_to BB (below_alloc_to hb3)
    have hlt := S0.lt
    have SX := S3
    obtain ⟨d0, d1, d2, d3, d4, d5, g0, g1, g2, g3, g4, g5⟩ := S3
    clear hb3 BB S0
    unfold strErr
    go_wp2_with fail
    refine bodyPost_ret (v := .tuple #[.agg #[.int .i64 0, .int .i64 0, .string ⟨#[]⟩, .string ⟨#[]⟩, .int .u64 0, .int .i64 0], .int .i64 19]) ?_ rfl ⟨rfl, ?_⟩
    · have SY := ((((((SX.put0 (.int .i64 0)).put1 (.int .i64 0)).put2 (.string ⟨#[]⟩)).put3 (.string ⟨#[]⟩)).put4 (.int .u64 0)).put5 (.int .i64 0))
      have hl := load29 SY 29 (.inl rfl)
      rw [results_cell_tmp Try.results14]
      show ((asAddr (.pointer (some ⟨w.heap.size, 0, none⟩))).run Try.prog _).andThen _ = _
      simp [asAddr, hl]
    · exact ((((((B3.setCell (Nat.le_refl _) _).setCell (Nat.le_refl _) _).setCell (Nat.le_refl _) _).setCell (Nat.le_refl _) _).setCell (Nat.le_refl _) _).setCell (Nat.le_refl _) _)
theorem kopen_any (s : ByteArray) (hs : s.size ≤ maxLen) (w : World) : Calls Try.prog 14 #[.string s] w fun x w' => x = keyErr (openK s.data.toList) (openE s.data.toList) ∧ Below w.heap.size w w' := by
  have hsl : s.data.toList.length = s.size := (blen s).symm
  have hP := fun w => parsed_any s hs w
  have hM := fun w => make_any (parseK true s.data.toList) (Nat.le_trans (parse_buc _ _) (by omega)) (Nat.le_trans (parse_nam _ _) (by omega)) (parse_lt _ _) w
  have hmain := open_walk s (parseK true s.data.toList) _ _ w (Lib.hid hP) (Lib.hid hM)
  unfold openK openE
  cases hg : goodL true s.data.toList with
  | true =>
    have hg2 := hg
    unfold goodL at hg2
    rw [Bool.and_eq_true, decide_eq_true_eq] at hg2
    refine (hmain true (.inl ⟨rfl, by rw [hg2.1]; rfl, ?_⟩)).mono fun x w' h => h
    unfold makeS
    rw [if_pos hg2.1, hg2.2, bs_of]
    simp
  | false =>
    unfold goodL at hg
    refine (hmain false (.inr ?_)).mono fun x w' h => h
    cases hok : okK (parseK true s.data.toList) with
    | false => exact .inl ⟨rfl, rfl⟩
    | true =>
      rw [hok, Bool.true_and, decide_eq_false_iff_not] at hg
      refine .inr ⟨rfl, rfl, ?_⟩
      unfold makeS
      rw [if_pos hok]
      refine str_nbeq fun h => hg ?_
      have := congrArg (fun x => x.data.toList) h
      simpa [bs_toList] using this
end Go.Proofs.Yteekjndhehnpaaa
