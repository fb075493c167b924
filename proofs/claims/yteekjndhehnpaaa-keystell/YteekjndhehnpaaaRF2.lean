/- Contracts: the reference's Open, at a kind. -/
import Derived.Test.YteekjndhehnpaaaRD
import Derived.Deep.Cut
namespace Go.Proofs.Yteekjndhehnpaaa
open Go.RowKit
set_option maxRecDepth 100000
set_option linter.unusedVariables false
set_option linter.unusedSimpArgs false
set_option maxHeartbeats 8000000
def kt2 (k : Nat) : Int := if 2 ≤ k then 2 else 0
theorem ropen2 (s : ByteArray) (hs : s.size ≤ 1000) (h2 : 2 ≤ s.size) (c1 : Nat) (hc1 : s[1].toNat = c1) (hc256 : c1 < 256) (hk : (s[0].toNat : Int) = 66) (A Z : ByteArray) 
    (HCU : Hid (∀ w, Calls Try.prog 54 #[.string (s.extract 2 s.size)] w (PairRet A Z w))) (M : ByteArray) (e : Int) (HM : Hid (∀ w, Calls Try.prog 13 #[.agg #[.int .i64 2, .int .i64 (c1 : Int), .string A, .string ⟨#[]⟩, .int .u64 0, .int .i64 0]] w fun x w' => x = .returned (.tuple #[.string M, .int .i64 e]) ∧ Below w.heap.size w w'))
    (good : Bool) (hg : Hid ((good = true ∧ e = 0 ∧ (M.toList == s.toList) = true) ∨ (good = false ∧ e = 18) ∨ (good = false ∧ e = 0 ∧ (M.toList == s.toList) = false))) (w : World) :
    Calls Try.prog 15 #[.string s] w fun x w' => (x = match good with | true => .returned (.tuple #[.agg #[.int .i64 2, .int .i64 (c1 : Int), .string A, .string ⟨#[]⟩, .int .u64 0, .int .i64 0], .int .i64 0]) | false => .returned (.tuple #[.agg #[.int .i64 0, .int .i64 0, .string ⟨#[]⟩, .string ⟨#[]⟩, .int .u64 0, .int .i64 0], .int .i64 19])) ∧ Below w.heap.size w w' := by
  have hs9 : s.size ≤ 9223372036854775807 := by omega
  have hwi : IntKind.i64.wrap (c1 : Int) = (c1 : Int) := IntWalk.i64_in _ (by omega)
  go_enter Try.func15, Try.ntmps15
  go_wp2_with fail
  go_loopw [5] (fun i wx => ∃ k : Nat, k ≤ 5 ∧ i = .int .i64 k ∧ Six wx (w.heap.size + 1) (.int .i64 (kt2 k)) (.int .i64 (c1 : Int)) (.string ⟨#[]⟩) (.string ⟨#[]⟩) (.int .u64 0) (.int .i64 0) ∧ Six wx w.heap.size (.int .i64 0) (.int .i64 0) (.string ⟨#[]⟩) (.string ⟨#[]⟩) (.int .u64 0) (.int .i64 0) ∧ Below w.heap.size w wx) (fun i _ => 5 - (intOf i).toNat)
  case atStart =>
    refine ⟨0, by omega, rfl, ?_, ?_, below_two _ _ _⟩
    · exact Six.two w _ _ _ _ _ _ _ 24
    · exact (Six.new w _ _ _ _ _ _ 24).below (below_box _ _)
  case round =>
    obtain ⟨k, hk5, rfl, S4, S0, BB⟩ := hrel
    have hcase : k = 0 ∨ k = 1 ∨ k = 2 ∨ k = 3 ∨ k = 4 ∨ k = 5 := by omega
    obtain ⟨c0, cc1, c2, c3, c4, c5, f0, f1, f2, f3, f4, f5⟩ := S4
    have S4 : Six wr (w.heap.size + 1) _ _ _ _ _ _ := ⟨c0, cc1, c2, c3, c4, c5, f0, f1, f2, f3, f4, f5⟩
    rcases hcase with rfl | rfl | rfl | rfl | rfl | rfl
    · go_wp2_with (go_quiet (fail))
      go_roundw
      case rel => exact ⟨1, by omega, by simp, S4.below (below_drewN wr _), S0.below (below_drewN wr _), below_to BB (below_drewN wr _)⟩
      case measure => simp [intOf]
    · go_wp2_with (go_quiet (fail))
      go_roundw
      case rel => exact ⟨2, by omega, by simp, by first | exact (S4.below (below_drewN wr _)).put0 (.int .i64 2) | exact (S4.put0 (.int .i64 2)).below (below_drewN _ _), by first | exact (S0.below (below_drewN wr _)).other (k := w.heap.size + 1) (o := 0) (by omega) (.int .i64 2) | exact (S0.other (k := w.heap.size + 1) (o := 0) (by omega) (.int .i64 2)).below (below_drewN _ _), by first | exact (below_to BB (below_drewN wr _)).setCell (p := ⟨w.heap.size + 1, 0, none⟩) (by show w.heap.size ≤ w.heap.size + 1; omega) (.int .i64 2) | exact below_to (BB.setCell (p := ⟨w.heap.size + 1, 0, none⟩) (by show w.heap.size ≤ w.heap.size + 1; omega) (.int .i64 2)) (below_drewN _ _)⟩
      case measure => simp [intOf]
    · go_wp2_with (go_quiet (fail))
      go_roundw
      case rel => exact ⟨3, by omega, by simp, S4.below (below_drewN wr _), S0.below (below_drewN wr _), below_to BB (below_drewN wr _)⟩
      case measure => simp [intOf]
    · go_wp2_with (go_quiet (fail))
      go_roundw
      case rel => exact ⟨4, by omega, by simp, S4.below (below_drewN wr _), S0.below (below_drewN wr _), below_to BB (below_drewN wr _)⟩
      case measure => simp [intOf]
    · go_wp2_with (go_quiet (fail))
      go_roundw
      case rel => exact ⟨5, by omega, by simp, S4.below (below_drewN wr _), S0.below (below_drewN wr _), below_to BB (below_drewN wr _)⟩
      case measure => simp [intOf]
    · clear c0 cc1 c2 c3 c4 c5 f0 f1 f2 f3 f4 f5
      replace S4 : Six wr (w.heap.size + 1) (.int .i64 2) (.int .i64 (c1 : Int)) (.string ⟨#[]⟩) (.string ⟨#[]⟩) (.int .u64 0) (.int .i64 0) := S4
      go_wp2_with fail
      refine (HCU.out _).mono ?_
      rintro x w1 ⟨rfl, hb⟩
      replace S4 := S4.below hb
      replace S0 := S0.below hb
      replace BB := below_to BB hb
      clear hb
      have c0 := S4.c0
      have cc1 := S4.c1
      have c2 := S4.c2
      have c3 := S4.c3
      have c4 := S4.c4
      have c5 := S4.c5
      have f2 := S4.f2
      have f3 := S4.f3
      have f4 := S4.f4
      have f5 := S4.f5
      go_wp2_with fail
      clear c0 cc1 c2 c3 c4 c5 f2 f3 f4 f5
      replace S4 := S4.put2 (.string A)
      replace S0 := S0.other (k := w.heap.size + 1) (o := 2) (by omega) (.string A)
      replace BB := BB.setCell (p := ⟨w.heap.size + 1, 2, none⟩) (by show w.heap.size ≤ w.heap.size + 1; omega) (.string A)
      generalize w1.setCell ⟨w.heap.size + 1, 2, none⟩ (.string A) = w2 at S4 S0 BB ⊢
      refine (HM.out _).mono ?_
      rintro x wm ⟨rfl, hb⟩
      replace S4 := S4.below hb
      replace S0 := S0.below hb
      replace BB := below_to BB hb
      clear hb
      have HB := hg.out
      rcases HB with ⟨rfl, rfl, hm⟩ | ⟨rfl, rfl⟩ | ⟨rfl, rfl, hm⟩
      · have SX := S0
        obtain ⟨c0, c1', c2, c3, c4, c5, f0, f1, f2, f3, f4, f5⟩ := S4
        obtain ⟨d0, d1, d2, d3, d4, d5, g0, g1, g2, g3, g4, g5⟩ := S0
        go_wp2_with fail
        refine bodyPost_ret (v := .tuple #[.agg #[.int .i64 2, .int .i64 (c1 : Int), .string A, .string ⟨#[]⟩, .int .u64 0, .int .i64 0], .int .i64 0]) ?_ rfl ⟨rfl, ?_⟩
        · have SY := ((((((SX.put0 (.int .i64 2)).put1 (.int .i64 (c1 : Int))).put2 (.string A)).put3 (.string ⟨#[]⟩)).put4 (.int .u64 0)).put5 (.int .i64 0))
          have hl := load29 SY 24 (.inr rfl)
          rw [results_cell_tmp Try.results15]
          show ((asAddr (.pointer (some ⟨w.heap.size, 0, none⟩))).run Try.prog _).andThen _ = _
          simp [asAddr, hl]
        · exact ((((((BB.setCell (Nat.le_refl _) _).setCell (Nat.le_refl _) _).setCell (Nat.le_refl _) _).setCell (Nat.le_refl _) _).setCell (Nat.le_refl _) _).setCell (Nat.le_refl _) _)
      · have SX := S0
        obtain ⟨c0, c1', c2, c3, c4, c5, f0, f1, f2, f3, f4, f5⟩ := S4
        obtain ⟨d0, d1, d2, d3, d4, d5, g0, g1, g2, g3, g4, g5⟩ := S0
        go_wp2_with fail
        refine bodyPost_ret (v := .tuple #[.agg #[.int .i64 0, .int .i64 0, .string ⟨#[]⟩, .string ⟨#[]⟩, .int .u64 0, .int .i64 0], .int .i64 19]) ?_ rfl ⟨rfl, ?_⟩
        · have SY := ((((((SX.put0 (.int .i64 0)).put1 (.int .i64 0)).put2 (.string ⟨#[]⟩)).put3 (.string ⟨#[]⟩)).put4 (.int .u64 0)).put5 (.int .i64 0))
          have hl := load29 SY 24 (.inr rfl)
          rw [results_cell_tmp Try.results15]
          show ((asAddr (.pointer (some ⟨w.heap.size, 0, none⟩))).run Try.prog _).andThen _ = _
          simp [asAddr, hl]
        · exact ((((((BB.setCell (Nat.le_refl _) _).setCell (Nat.le_refl _) _).setCell (Nat.le_refl _) _).setCell (Nat.le_refl _) _).setCell (Nat.le_refl _) _).setCell (Nat.le_refl _) _)
      · have SX := S0
        obtain ⟨c0, c1', c2, c3, c4, c5, f0, f1, f2, f3, f4, f5⟩ := S4
        obtain ⟨d0, d1, d2, d3, d4, d5, g0, g1, g2, g3, g4, g5⟩ := S0
        go_wp2_with fail
        refine bodyPost_ret (v := .tuple #[.agg #[.int .i64 0, .int .i64 0, .string ⟨#[]⟩, .string ⟨#[]⟩, .int .u64 0, .int .i64 0], .int .i64 19]) ?_ rfl ⟨rfl, ?_⟩
        · have SY := ((((((SX.put0 (.int .i64 0)).put1 (.int .i64 0)).put2 (.string ⟨#[]⟩)).put3 (.string ⟨#[]⟩)).put4 (.int .u64 0)).put5 (.int .i64 0))
          have hl := load29 SY 24 (.inr rfl)
          rw [results_cell_tmp Try.results15]
          show ((asAddr (.pointer (some ⟨w.heap.size, 0, none⟩))).run Try.prog _).andThen _ = _
          simp [asAddr, hl]
        · exact ((((((BB.setCell (Nat.le_refl _) _).setCell (Nat.le_refl _) _).setCell (Nat.le_refl _) _).setCell (Nat.le_refl _) _).setCell (Nat.le_refl _) _).setCell (Nat.le_refl _) _)
end Go.Proofs.Yteekjndhehnpaaa
