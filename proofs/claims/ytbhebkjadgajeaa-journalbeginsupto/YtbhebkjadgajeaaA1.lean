/- Contracts: which sectors are valid; a region whose callees lay memory of their own. -/
import Derived.Test.YtbhebkjadgajeaaO5
import Derived.BigQuiet
namespace Go.Proofs.Ytbhebkjadgajeaa
open Go.RowKit
/-- A world in which all of W's blocks are as they were. -/
structure Bw (W : World) where
  w : World
  h : Below W.heap.size W w
theorem wp_region_below {P : Program} {id : Nat} {Q : Exit → Act → World → Prop} {a : Act} {w : World} {l : List Oper} (hm : P.follows .mixedOrders = true) (hB : Region.lexB .any l.toArray = true)
    (h : wpQuiet P l.toArray (fun w' => ∃ p : Bw w, w' = p.w) (fun a' => ∀ w', (∃ p : Bw w, w' = p.w) → Q .normal a' w') l a) : (Code.region id l.toArray true).wp P Q a w :=
  wp_region_quiet (C := fun w' => ∃ p : Bw w, w' = p.w) hm hB ⟨⟨w.drew, (Below.refl _ _).drew⟩, rfl⟩ (by simpa using h)
theorem Calls.bw_of {P : Program} {f : FuncId} {args : Array Value} {W : World} {p : Bw W} {v : Value}
    (h : Calls P f args p.w fun e w' => e = .returned v ∧ Below p.w.heap.size p.w w') : Calls P f args p.w fun e w'' => e = .returned v ∧ ∃ q : Bw W, w'' = q.w :=
  h.mono fun _ w' ⟨he, hb⟩ => ⟨he, ⟨w', below_to p.h hb⟩, rfl⟩
theorem Calls.bw_of_same {P : Program} {f : FuncId} {args : Array Value} {W : World} {p : Bw W} {v : Value}
    (h : Calls P f args p.w fun e w' => e = .returned v ∧ p.w = w') : Calls P f args p.w fun e w'' => e = .returned v ∧ ∃ q : Bw W, w'' = q.w :=
  h.mono fun _ _ ⟨he, hb⟩ => ⟨he, p, hb.symm⟩
theorem Bw.cell {W : World} {b o : Nat} {v : Value} (hb : b < W.heap.size) (h : W.cell? ⟨b, o, none⟩ = some v) (p : Bw W) : p.w.cell? ⟨b, o, none⟩ = some v :=
  (p.h.cell (p := ⟨b, o, none⟩) hb).trans h
/-- A sector's value. -/
def secV (k : Int) (e n : Nat) (a m : Int) (p : ByteArray) : Value := .agg #[.int .i64 k, .int .u64 (e : Int), .int .u64 (n : Int), .int .i64 a, .int .i64 m, .string p]
/-- Is it valid? -/
def okS (k a m : Int) (n : Nat) : Prop := 1 ≤ k ∧ k ≤ 4 ∧ 0 ≤ a ∧ a ≤ 65535 ∧ 0 ≤ m ∧ m ≤ 65535 ∧ n = 480
theorem isShort_yes (n : Int) (w : World) (h1 : 0 ≤ n) (h2 : n ≤ 65535) : Calls Try.prog 55 #[.int .i64 n] w fun e w' => e = .returned (.bool true) ∧ w = w' := by
  go_enter Try.func55, Try.ntmps55
  go_wp2
  go_ret
  first | exact ⟨rfl, rfl⟩ | exact ⟨ret_bool (by first | (simp; done) | (simp; omega)), rfl⟩
theorem isShort_no (n : Int) (w : World) (h : n < 0 ∨ 65535 < n) : Calls Try.prog 55 #[.int .i64 n] w fun e w' => e = .returned (.bool false) ∧ w = w' := by
  by_cases h1 : 0 ≤ n
  · have h2 : 65535 < n := by omega
    go_enter Try.func55, Try.ntmps55
    go_wp2
    go_ret
    first | exact ⟨rfl, rfl⟩ | exact ⟨ret_bool (by first | (simp; done) | (simp; omega)), rfl⟩
  · go_enter Try.func55, Try.ntmps55
    go_wp2
    go_ret
    first | exact ⟨rfl, rfl⟩ | exact ⟨ret_bool (by first | (simp; done) | (simp; omega)), rfl⟩
theorem check_ok (k : Int) (e n : Nat) (a m : Int) (p : ByteArray) (w : World) (h : okS k a m p.size) :
    Calls Try.prog 47 #[.agg #[.int .i64 k, .int .u64 (e : Int), .int .u64 (n : Int), .int .i64 a, .int .i64 m, .string p]] w fun x w' => x = .returned (.int .i64 0) ∧ Below w.heap.size w w' := by
  obtain ⟨h1, h2, h3, h4, h5, h6, h7⟩ := h
  have H7 : ((p.size : Int) != 480) = false := by rw [h7]; rfl
  clear h7
  go_enter Try.func47, Try.ntmps47
  go_wp2_with fail
  refine (isShort_yes _ _ h3 h4).mono ?_
  rintro x w' ⟨rfl, rfl⟩
  go_wp2_with fail
  refine (isShort_yes _ _ h5 h6).mono ?_
  rintro x w' ⟨rfl, rfl⟩
  go_wp2_with fail
  go_ret
  exact ⟨rfl, (Below.refl _ _).alloc (Nat.le_refl _) _⟩
theorem check_no (k : Int) (e n : Nat) (a m : Int) (p : ByteArray) (w : World) (h : ¬ okS k a m p.size) :
    Calls Try.prog 47 #[.agg #[.int .i64 k, .int .u64 (e : Int), .int .u64 (n : Int), .int .i64 a, .int .i64 m, .string p]] w fun x w' => x = .returned (.int .i64 18) ∧ Below w.heap.size w w' := by
  unfold okS at h
  by_cases h1 : 1 ≤ k
  · by_cases h2 : k ≤ 4
    · by_cases h3 : 0 ≤ a ∧ a ≤ 65535
      · by_cases h4 : 0 ≤ m ∧ m ≤ 65535
        · have H7 : ((p.size : Int) != 480) = true := by rw [bne_iff_ne]; omega
          clear h
          go_enter Try.func47, Try.ntmps47
          go_wp2_with fail
          refine (isShort_yes _ _ h3.1 h3.2).mono ?_
          rintro x w' ⟨rfl, rfl⟩
          go_wp2_with fail
          refine (isShort_yes _ _ h4.1 h4.2).mono ?_
          rintro x w' ⟨rfl, rfl⟩
          go_wp2_with fail
          go_ret
          exact ⟨rfl, (Below.refl _ _).alloc (Nat.le_refl _) _⟩
        · have H4 : m < 0 ∨ 65535 < m := by omega
          clear h h4
          have H := Lib.hid H4
          clear H4
          go_enter Try.func47, Try.ntmps47
          go_wp2_with fail
          refine (isShort_yes _ _ h3.1 h3.2).mono ?_
          rintro x w' ⟨rfl, rfl⟩
          go_wp2_with fail
          refine (isShort_no _ _ H.out).mono ?_
          rintro x w' ⟨rfl, rfl⟩
          go_wp2_with fail
          go_ret
          exact ⟨rfl, (Below.refl _ _).alloc (Nat.le_refl _) _⟩
      · have H := Lib.hid (show a < 0 ∨ 65535 < a by omega)
        clear h h3
        go_enter Try.func47, Try.ntmps47
        go_wp2_with fail
        refine (isShort_no _ _ H.out).mono ?_
        rintro x w' ⟨rfl, rfl⟩
        go_wp2_with fail
        go_ret
        exact ⟨rfl, (Below.refl _ _).alloc (Nat.le_refl _) _⟩
    · clear h
      go_enter Try.func47, Try.ntmps47
      go_wp2_with fail
      go_ret
      exact ⟨rfl, (Below.refl _ _).alloc (Nat.le_refl _) _⟩
  · clear h
    go_enter Try.func47, Try.ntmps47
    go_wp2_with fail
    go_ret
    exact ⟨rfl, (Below.refl _ _).alloc (Nat.le_refl _) _⟩
end Go.Proofs.Ytbhebkjadgajeaa
