/- Contracts: a key's Check, 3. -/
import Derived.Test.YteekjndhehnpaaaKE
namespace Go.Proofs.Yteekjndhehnpaaa
open Go.RowKit
set_option maxRecDepth 100000
set_option linter.unusedVariables false
set_option maxHeartbeats 4000000
theorem check3 (t : Int) (b n : ByteArray) (u : Nat) (p : Int) (w : World) (tb : Bool) (HT : Hid (∀ w, Calls Try.prog 56 #[.int .i64 t] w fun e w' => e = .returned (.bool tb) ∧ w = w')) (bb : Bool) (HB : Hid (∀ w, Calls Try.prog 57 #[.string b] w fun e w' => e = .returned (.int .i64 (argE bb)) ∧ Below w.heap.size w w')) (nb : Bool) (HN : Hid (∀ w, Calls Try.prog 58 #[.string n] w fun e w' => e = .returned (.int .i64 (argE nb)) ∧ Below w.heap.size w w')) (nq : Bool)
    (HQ : Hid (∀ w, (binOp .neq 29 (.agg #[.int .i64 3, .int .i64 t, .string b, .string n, .int .u64 (u : Int), .int .i64 0]) (.agg #[.int .i64 3, .int .i64 t, .string b, .string n, .int .u64 (u : Int), .int .i64 p])).run Try.prog w = .ok (.bool nq) w)) :
    Calls Try.prog 16 #[.agg #[.int .i64 3, .int .i64 t, .string b, .string n, .int .u64 (u : Int), .int .i64 p]] w fun e w' => e = .returned (.int .i64 (argE (tb && (bb && (nb && !nq))))) ∧ Below w.heap.size w w' := by
  have hq := HQ.out
  clear HQ
  cases tb
  · go_enter Try.func16, Try.ntmps16
    go_wp2_with fail
    refine (HT.out _).mono ?_
    rintro e w' ⟨rfl, rfl⟩
    go_wp2_with fail
    go_region
    go_wp2_with fail
    go_ret
    exact ⟨rfl, (below_two _ _ _).drew⟩
  · cases bb <;> simp only [argE] at HB
    · go_enter Try.func16, Try.ntmps16
      go_wp2_with fail
      refine (HT.out _).mono ?_
      rintro e w' ⟨rfl, rfl⟩
      go_wp2_with fail
      refine (HB.out _).mono ?_
      rintro e w2 ⟨rfl, hb⟩
      have hS1 := ((Six.new w _ _ _ _ _ _ 29).below (below_box _ _)).below hb
      have hS2 := (Six.two w _ _ _ _ _ _ _ 29).below hb
      have hB := below_two_to hb
      obtain ⟨c0, c1, c2, c3, c4, c5, f0, f1, f2, f3, f4, f5⟩ := hS1
      obtain ⟨d0, d1, d2, d3, d4, d5, g0, g1, g2, g3, g4, g5⟩ := hS2
      clear hb
      go_wp2_with fail
      go_region
      go_wp2_with fail
      go_ret
      exact ⟨rfl, (hB.drew.setCell (by show w.heap.size ≤ w.heap.size + 1; omega) _).setCell (by show w.heap.size ≤ w.heap.size + 1; omega) _⟩
    · cases nb <;> simp only [argE] at HN <;> cases nq <;>
      · go_enter Try.func16, Try.ntmps16
        go_wp2_with fail
        refine (HT.out _).mono ?_
        rintro e w' ⟨rfl, rfl⟩
        go_wp2_with fail
        refine (HB.out _).mono ?_
        rintro e w2 ⟨rfl, hb⟩
        have hS1 := ((Six.new w _ _ _ _ _ _ 29).below (below_box _ _)).below hb
        have hS2 := (Six.two w _ _ _ _ _ _ _ 29).below hb
        have hB := below_two_to hb
        obtain ⟨c0, c1, c2, c3, c4, c5, f0, f1, f2, f3, f4, f5⟩ := hS1
        obtain ⟨d0, d1, d2, d3, d4, d5, g0, g1, g2, g3, g4, g5⟩ := hS2
        clear hb
        go_wp2_with fail
        go_region
        have hT1 := ((show Six w2 w.heap.size _ _ _ _ _ _ from ⟨c0, c1, c2, c3, c4, c5, f0, f1, f2, f3, f4, f5⟩).below (Below.refl _ _).drew)
        have hT2 := ((show Six w2 (w.heap.size + 1) _ _ _ _ _ _ from ⟨d0, d1, d2, d3, d4, d5, g0, g1, g2, g3, g4, g5⟩).below (Below.refl _ _).drew)
        have hT3 := (hT1.other (k := w.heap.size + 1) (o := 3) (by omega) (.string n)).other (k := w.heap.size + 1) (o := 4) (by omega) (.int .u64 (u : Int))
        have hT4 := (hT2.set3 (.string n)).set4 (.int .u64 (u : Int))
        go_wp2_with fail
        refine (HN.out _).mono ?_
        rintro e w3 ⟨rfl, hb3⟩
        have hU1 := hT3.below hb3
        have hU2 := hT4.below hb3
        have hB3 := (((hB.drew.setCell (p := ⟨w.heap.size + 1, 3, none⟩) (by show w.heap.size ≤ w.heap.size + 1; omega) (.string n)).setCell (p := ⟨w.heap.size + 1, 4, none⟩) (by show w.heap.size ≤ w.heap.size + 1; omega) (.int .u64 (u : Int)))).trans (hb3.mono (by simp; exact hB.size))
        clear c0 c1 c2 c3 c4 c5 f0 f1 f2 f3 f4 f5 d0 d1 d2 d3 d4 d5 g0 g1 g2 g3 g4 g5 hT1 hT2 hT3 hT4 hb3
        obtain ⟨c0, c1, c2, c3, c4, c5, f0, f1, f2, f3, f4, f5⟩ := hU1
        obtain ⟨d0, d1, d2, d3, d4, d5, g0, g1, g2, g3, g4, g5⟩ := hU2
        go_wp2_with fail
        go_ret
        exact ⟨rfl, hB3⟩
end Go.Proofs.Yteekjndhehnpaaa
