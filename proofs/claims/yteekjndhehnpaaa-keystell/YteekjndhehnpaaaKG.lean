/- Contracts: a key's Check, 5. -/
import Derived.Test.YteekjndhehnpaaaKE
namespace Go.Proofs.Yteekjndhehnpaaa
open Go.RowKit
set_option maxRecDepth 100000
set_option linter.unusedVariables false
set_option maxHeartbeats 4000000
theorem check5 (t : Int) (b n : ByteArray) (u : Nat) (p : Int) (w : World) (tb : Bool) (HT : Hid (∀ w, Calls Try.prog 56 #[.int .i64 t] w fun e w' => e = .returned (.bool tb) ∧ w = w')) (bb : Bool) (HB : Hid (∀ w, Calls Try.prog 57 #[.string b] w fun e w' => e = .returned (.int .i64 (argE bb)) ∧ Below w.heap.size w w')) (nq : Bool)
    (HQ : Hid (∀ w, (binOp .neq 29 (.agg #[.int .i64 5, .int .i64 t, .string b, .string ⟨#[]⟩, .int .u64 (u : Int), .int .i64 p]) (.agg #[.int .i64 5, .int .i64 t, .string b, .string n, .int .u64 (u : Int), .int .i64 p])).run Try.prog w = .ok (.bool nq) w)) :
    Calls Try.prog 16 #[.agg #[.int .i64 5, .int .i64 t, .string b, .string n, .int .u64 (u : Int), .int .i64 p]] w fun e w' => e = .returned (.int .i64 (argE (tb && (bb && (decide (1 ≤ p ∧ p ≤ 16) && !nq))))) ∧ Below w.heap.size w w' := by
  have hq := HQ.out
  clear HQ
  cases tb
  · go_enter Try.func16, Try.ntmps16
    go_wp2_with fail
    refine (HT.out _).mono ?_
    rintro e w' ⟨rfl, rfl⟩
    go_wp2_with fail
    go_region
    go_wp2_with fail
    go_ret
    exact ⟨rfl, (below_two _ _ _).drew⟩
  · cases bb <;> simp only [argE] at HB
    · go_enter Try.func16, Try.ntmps16
      go_wp2_with fail
      refine (HT.out _).mono ?_
      rintro e w' ⟨rfl, rfl⟩
      go_wp2_with fail
      refine (HB.out _).mono ?_
      rintro e w2 ⟨rfl, hb⟩
      have hS1 := ((Six.new w _ _ _ _ _ _ 29).below (below_box _ _)).below hb
      have hS2 := (Six.two w _ _ _ _ _ _ _ 29).below hb
      have hB := below_two_to hb
      obtain ⟨c0, c1, c2, c3, c4, c5, f0, f1, f2, f3, f4, f5⟩ := hS1
      obtain ⟨d0, d1, d2, d3, d4, d5, g0, g1, g2, g3, g4, g5⟩ := hS2
      clear hb
      go_wp2_with fail
      go_region
      go_wp2_with fail
      go_ret
      exact ⟨rfl, (hB.drew.setCell (by show w.heap.size ≤ w.heap.size + 1; omega) _).setCell (by show w.heap.size ≤ w.heap.size + 1; omega) _⟩
    · by_cases h1 : 1 ≤ p
      · by_cases h2 : p ≤ 16
        · have hp := Lib.hid (show decide (1 ≤ p ∧ p ≤ 16) = true from decide_eq_true ⟨h1, h2⟩)
          cases nq <;>
          · go_enter Try.func16, Try.ntmps16
            go_wp2_with fail
            refine (HT.out _).mono ?_
            rintro e w' ⟨rfl, rfl⟩
            go_wp2_with fail
            refine (HB.out _).mono ?_
            rintro e w2 ⟨rfl, hb⟩
            have hS1 := ((Six.new w _ _ _ _ _ _ 29).below (below_box _ _)).below hb
            have hS2 := (Six.two w _ _ _ _ _ _ _ 29).below hb
            have hB := below_two_to hb
            obtain ⟨c0, c1, c2, c3, c4, c5, f0, f1, f2, f3, f4, f5⟩ := hS1
            obtain ⟨d0, d1, d2, d3, d4, d5, g0, g1, g2, g3, g4, g5⟩ := hS2
            clear hb
            go_wp2_with fail
            go_region
            go_wp2_with fail
            go_ret
            exact ⟨ret_int (by first | (rw [hp.out]; rfl) | (rw [decide_eq_false (by omega)]; rfl) | (rw [decide_eq_false (by omega), Bool.false_and]; rfl)), (hB.drew.setCell (by show w.heap.size ≤ w.heap.size + 1; omega) _).setCell (by show w.heap.size ≤ w.heap.size + 1; omega) _⟩
        · have hp := Lib.hid (show decide (1 ≤ p ∧ p ≤ 16) = false from decide_eq_false (fun h => h2 h.2))
          go_enter Try.func16, Try.ntmps16
          go_wp2_with fail
          refine (HT.out _).mono ?_
          rintro e w' ⟨rfl, rfl⟩
          go_wp2_with fail
          refine (HB.out _).mono ?_
          rintro e w2 ⟨rfl, hb⟩
          have hS1 := ((Six.new w _ _ _ _ _ _ 29).below (below_box _ _)).below hb
          have hS2 := (Six.two w _ _ _ _ _ _ _ 29).below hb
          have hB := below_two_to hb
          obtain ⟨c0, c1, c2, c3, c4, c5, f0, f1, f2, f3, f4, f5⟩ := hS1
          obtain ⟨d0, d1, d2, d3, d4, d5, g0, g1, g2, g3, g4, g5⟩ := hS2
          clear hb
          go_wp2_with fail
          go_region
          go_wp2_with fail
          go_ret
          exact ⟨ret_int (by first | (rw [hp.out]; rfl) | (rw [decide_eq_false (by omega)]; rfl) | (rw [decide_eq_false (by omega), Bool.false_and]; rfl)), (hB.drew.setCell (by show w.heap.size ≤ w.heap.size + 1; omega) _).setCell (by show w.heap.size ≤ w.heap.size + 1; omega) _⟩
      · have hp := Lib.hid (show decide (1 ≤ p ∧ p ≤ 16) = false from decide_eq_false (fun h => h1 h.1))
        go_enter Try.func16, Try.ntmps16
        go_wp2_with fail
        refine (HT.out _).mono ?_
        rintro e w' ⟨rfl, rfl⟩
        go_wp2_with fail
        refine (HB.out _).mono ?_
        rintro e w2 ⟨rfl, hb⟩
        have hS1 := ((Six.new w _ _ _ _ _ _ 29).below (below_box _ _)).below hb
        have hS2 := (Six.two w _ _ _ _ _ _ _ 29).below hb
        have hB := below_two_to hb
        obtain ⟨c0, c1, c2, c3, c4, c5, f0, f1, f2, f3, f4, f5⟩ := hS1
        obtain ⟨d0, d1, d2, d3, d4, d5, g0, g1, g2, g3, g4, g5⟩ := hS2
        clear hb
        go_wp2_with fail
        go_region
        go_wp2_with fail
        go_ret
        exact ⟨ret_int (by first | (rw [hp.out]; rfl) | (rw [decide_eq_false (by omega)]; rfl) | (rw [decide_eq_false (by omega), Bool.false_and]; rfl)), (hB.drew.setCell (by show w.heap.size ≤ w.heap.size + 1; omega) _).setCell (by show w.heap.size ≤ w.heap.size + 1; omega) _⟩
end Go.Proofs.Yteekjndhehnpaaa
