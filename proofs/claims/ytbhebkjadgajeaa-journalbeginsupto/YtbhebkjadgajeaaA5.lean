/- Contracts: Open, the program's and the reference's. -/
import Derived.Test.YtbhebkjadgajeaaA4
namespace Go.Proofs.Ytbhebkjadgajeaa
open Go.RowKit
/-- Two answers: a sector and an error. -/
def secErr (k : Int) (e n : Nat) (a m : Int) (p : ByteArray) (y : Int) : Ending := .returned (.tuple #[.agg #[.int .i64 k, .int .u64 (e : Int), .int .u64 (n : Int), .int .i64 a, .int .i64 m, .string p], .int .i64 y])
theorem results_secs {fn : Func} {P U : Tmp} (h : fn.results = #[.cell P 70, .tmp U]) (tmps : Array Value) (w : World) (b : Nat) (k : Int) (e n : Nat) (a m : Int) (p : ByteArray) (v : Value) (hR : Sec w b k e n a m p)
    (hp : tmps.getD P undef = .pointer (some ⟨b, 0, none⟩)) (hv : tmps.getD U undef = v) : (results fn tmps).run Try.prog w = .ok (.tuple #[.agg #[.int .i64 k, .int .u64 (e : Int), .int .u64 (n : Int), .int .i64 a, .int .i64 m, .string p], v]) w := by
  rw [results_cell_tmp h, hp, hv]
  show ((asAddr (.pointer (some ⟨b, 0, none⟩))).run Try.prog w).andThen _ = _
  simp [asAddr, load29 w b k e n a m p hR]
abbrev zSec : Array Value := #[.int .i64 0, .int .u64 0, .int .u64 0, .int .i64 0, .int .i64 0, .string ⟨#[]⟩]
theorem SecW.zero (w : World) (t : TypeId) : SecW (w.alloc (.cells #[.int .i64 0, .int .u64 0, .int .u64 0, .int .i64 0, .int .i64 0, .string ⟨#[]⟩] t)) w.heap.size 0 0 0 0 0 ⟨#[]⟩ :=
  ⟨⟨by simp [go_sem], by simp [go_sem], by simp [go_sem], by simp [go_sem], by simp [go_sem], by simp [go_sem]⟩, by simp [go_sem], by simp [go_sem], by simp [go_sem], by simp [go_sem], by simp [go_sem], by simp [go_sem]⟩
theorem SecW.new (w : World) (k : Int) (e n : Nat) (a m : Int) (p : ByteArray) (t : TypeId) :
    SecW (w.alloc (.cells #[.int .i64 k, .int .u64 (e : Int), .int .u64 (n : Int), .int .i64 a, .int .i64 m, .string p] t)) w.heap.size k e n a m p :=
  ⟨⟨by simp [go_sem], by simp [go_sem], by simp [go_sem], by simp [go_sem], by simp [go_sem], by simp [go_sem]⟩, by simp [go_sem], by simp [go_sem], by simp [go_sem], by simp [go_sem], by simp [go_sem], by simp [go_sem]⟩
theorem str_nbeq {a b : ByteArray} (h : a ≠ b) : (a.toList == b.toList) = false := by
  rw [ByteArray.toList_eq, ByteArray.toList_eq, beq_eq_false_iff_ne]
  exact fun e => h (ByteArray.ext (Array.toList_inj.1 e))
set_option maxHeartbeats 400000 in
theorem open_yes (b : ByteArray) (k a m e n : Nat) (p : ByteArray) (w : World)
    (HF : ∀ w, Calls Try.prog 53 #[.string b] w fun x w' => x = .returned (.agg #[.int .i64 (k : Int), .int .u64 (e : Int), .int .u64 (n : Int), .int .i64 (a : Int), .int .i64 (m : Int), .string p]) ∧ Below w.heap.size w w')
    (HS : ∀ w, Calls Try.prog 40 #[.agg #[.int .i64 (k : Int), .int .u64 (e : Int), .int .u64 (n : Int), .int .i64 (a : Int), .int .i64 (m : Int), .string p]] w fun x w' => x = strErr b 0 ∧ Below w.heap.size w w') :
    Calls Try.prog 43 #[.string b] w fun x w' => x = secErr k e n a m p 0 ∧ Below w.heap.size w w' := by
  have HF' := Lib.hid HF
  have HS' := Lib.hid HS
  clear HF HS
  go_enter Try.func43, Try.ntmps43
  go_wp2_with fail
  refine (HF'.out _).mono ?_
  rintro x w1 ⟨rfl, hb⟩
  have S0 := (SecW.zero w 70).below hb
  have B := below_to ((Below.refl w.heap.size w).alloc (Nat.le_refl _) (.cells #[.int .i64 0, .int .u64 0, .int .u64 0, .int .i64 0, .int .i64 0, .string ⟨#[]⟩] 70)) hb
  clear hb
  go_wp2_with fail
  refine (HS'.out _).mono ?_
  rintro x w2 ⟨rfl, hb⟩
  have S1 := (SecW.new w1 k e n a m p 70).below hb
  replace S0 := (S0.below ((Below.refl w1.heap.size w1).alloc (Nat.le_refl _) (.cells #[.int .i64 (k : Int), .int .u64 (e : Int), .int .u64 (n : Int), .int .i64 (a : Int), .int .i64 (m : Int), .string p] 70))).below hb
  replace B := below_to (below_to B ((Below.refl w1.heap.size w1).alloc (Nat.le_refl _) (.cells #[.int .i64 (k : Int), .int .u64 (e : Int), .int .u64 (n : Int), .int .i64 (a : Int), .int .i64 (m : Int), .string p] 70))) hb
  clear hb
  unfold strErr
  have E := ((((((S0.set0 k).set1 e).set2 n).set3 a).set4 m).set5 p)
  obtain ⟨⟨c0, c1, c2, c3, c4, c5⟩, f0, f1, f2, f3, f4, f5⟩ := S0
  obtain ⟨⟨d0, d1, d2, d3, d4, d5⟩, g0, g1, g2, g3, g4, g5⟩ := S1
  go_wp2_with fail
  refine bodyPost_ret (results_secs Try.results43 _ _ _ _ _ _ _ _ _ _ E.c rfl rfl) rfl ⟨rfl, ?_⟩
  exact ((((((B.setCell (Nat.le_refl _) _).setCell (Nat.le_refl _) _).setCell (Nat.le_refl _) _).setCell (Nat.le_refl _) _).setCell (Nat.le_refl _) _).setCell (Nat.le_refl _) _)
set_option maxHeartbeats 400000 in
theorem open_bad (b : ByteArray) (k a m e n : Nat) (p : ByteArray) (w : World)
    (HF : ∀ w, Calls Try.prog 53 #[.string b] w fun x w' => x = .returned (.agg #[.int .i64 (k : Int), .int .u64 (e : Int), .int .u64 (n : Int), .int .i64 (a : Int), .int .i64 (m : Int), .string p]) ∧ Below w.heap.size w w')
    (HS : ∀ w, Calls Try.prog 40 #[.agg #[.int .i64 (k : Int), .int .u64 (e : Int), .int .u64 (n : Int), .int .i64 (a : Int), .int .i64 (m : Int), .string p]] w fun x w' => x = strErr ByteArray.empty 18 ∧ Below w.heap.size w w') :
    Calls Try.prog 43 #[.string b] w fun x w' => x = secErr 0 0 0 0 0 ByteArray.empty 19 ∧ Below w.heap.size w w' := by
  have HF' := Lib.hid HF
  have HS' := Lib.hid HS
  clear HF HS
  go_enter Try.func43, Try.ntmps43
  go_wp2_with fail
  refine (HF'.out _).mono ?_
  rintro x w1 ⟨rfl, hb⟩
  have S0 := (SecW.zero w 70).below hb
  have B := below_to ((Below.refl w.heap.size w).alloc (Nat.le_refl _) (.cells #[.int .i64 0, .int .u64 0, .int .u64 0, .int .i64 0, .int .i64 0, .string ⟨#[]⟩] 70)) hb
  clear hb
  go_wp2_with fail
  refine (HS'.out _).mono ?_
  rintro x w2 ⟨rfl, hb⟩
  have S1 := (SecW.new w1 k e n a m p 70).below hb
  replace S0 := (S0.below ((Below.refl w1.heap.size w1).alloc (Nat.le_refl _) (.cells #[.int .i64 (k : Int), .int .u64 (e : Int), .int .u64 (n : Int), .int .i64 (a : Int), .int .i64 (m : Int), .string p] 70))).below hb
  replace B := below_to (below_to B ((Below.refl w1.heap.size w1).alloc (Nat.le_refl _) (.cells #[.int .i64 (k : Int), .int .u64 (e : Int), .int .u64 (n : Int), .int .i64 (a : Int), .int .i64 (m : Int), .string p] 70))) hb
  clear hb
  unfold strErr
  have E := ((((((S0.set0 0).set1 0).set2 0).set3 0).set4 0).set5 ByteArray.empty)
  obtain ⟨⟨c0, c1, c2, c3, c4, c5⟩, f0, f1, f2, f3, f4, f5⟩ := S0
  obtain ⟨⟨d0, d1, d2, d3, d4, d5⟩, g0, g1, g2, g3, g4, g5⟩ := S1
  go_wp2_with fail
  refine bodyPost_ret (results_secs Try.results43 _ _ _ _ _ _ _ _ _ _ E.c rfl rfl) rfl ⟨rfl, ?_⟩
  exact ((((((B.setCell (Nat.le_refl _) _).setCell (Nat.le_refl _) _).setCell (Nat.le_refl _) _).setCell (Nat.le_refl _) _).setCell (Nat.le_refl _) _).setCell (Nat.le_refl _) _)
set_option maxHeartbeats 400000 in
theorem open_other (b : ByteArray) (k a m e n : Nat) (p : ByteArray) (w : World) (c : ByteArray) (hc : c ≠ b)
    (HF : ∀ w, Calls Try.prog 53 #[.string b] w fun x w' => x = .returned (.agg #[.int .i64 (k : Int), .int .u64 (e : Int), .int .u64 (n : Int), .int .i64 (a : Int), .int .i64 (m : Int), .string p]) ∧ Below w.heap.size w w')
    (HS : ∀ w, Calls Try.prog 40 #[.agg #[.int .i64 (k : Int), .int .u64 (e : Int), .int .u64 (n : Int), .int .i64 (a : Int), .int .i64 (m : Int), .string p]] w fun x w' => x = strErr c 0 ∧ Below w.heap.size w w') :
    Calls Try.prog 43 #[.string b] w fun x w' => x = secErr 0 0 0 0 0 ByteArray.empty 19 ∧ Below w.heap.size w w' := by
  have HF' := Lib.hid HF
  have HS' := Lib.hid HS
  clear HF HS
  have hd := str_nbeq hc
  clear hc
  go_enter Try.func43, Try.ntmps43
  go_wp2_with fail
  refine (HF'.out _).mono ?_
  rintro x w1 ⟨rfl, hb⟩
  have S0 := (SecW.zero w 70).below hb
  have B := below_to ((Below.refl w.heap.size w).alloc (Nat.le_refl _) (.cells #[.int .i64 0, .int .u64 0, .int .u64 0, .int .i64 0, .int .i64 0, .string ⟨#[]⟩] 70)) hb
  clear hb
  go_wp2_with fail
  refine (HS'.out _).mono ?_
  rintro x w2 ⟨rfl, hb⟩
  have S1 := (SecW.new w1 k e n a m p 70).below hb
  replace S0 := (S0.below ((Below.refl w1.heap.size w1).alloc (Nat.le_refl _) (.cells #[.int .i64 (k : Int), .int .u64 (e : Int), .int .u64 (n : Int), .int .i64 (a : Int), .int .i64 (m : Int), .string p] 70))).below hb
  replace B := below_to (below_to B ((Below.refl w1.heap.size w1).alloc (Nat.le_refl _) (.cells #[.int .i64 (k : Int), .int .u64 (e : Int), .int .u64 (n : Int), .int .i64 (a : Int), .int .i64 (m : Int), .string p] 70))) hb
  clear hb
  unfold strErr
  have E := ((((((S0.set0 0).set1 0).set2 0).set3 0).set4 0).set5 ByteArray.empty)
  obtain ⟨⟨c0, c1, c2, c3, c4, c5⟩, f0, f1, f2, f3, f4, f5⟩ := S0
  obtain ⟨⟨d0, d1, d2, d3, d4, d5⟩, g0, g1, g2, g3, g4, g5⟩ := S1
  go_wp2_with fail
  refine bodyPost_ret (results_secs Try.results43 _ _ _ _ _ _ _ _ _ _ E.c rfl rfl) rfl ⟨rfl, ?_⟩
  exact ((((((B.setCell (Nat.le_refl _) _).setCell (Nat.le_refl _) _).setCell (Nat.le_refl _) _).setCell (Nat.le_refl _) _).setCell (Nat.le_refl _) _).setCell (Nat.le_refl _) _)
end Go.Proofs.Ytbhebkjadgajeaa
