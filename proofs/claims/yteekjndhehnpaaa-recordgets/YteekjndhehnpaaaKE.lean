/- Contracts: a key's Check. -/
import Derived.Test.YteekjndhehnpaaaKD
namespace Go.Proofs.Yteekjndhehnpaaa
open Go.RowKit
set_option maxRecDepth 100000
set_option linter.unusedVariables false
theorem str_nbeq {a b : ByteArray} (h : a ≠ b) : (a.toList == b.toList) = false := by
  cases h2 : (a.toList == b.toList) with
  | false => rfl
  | true =>
    have := eq_of_beq h2
    rw [ByteArray.toList_eq, ByteArray.toList_eq] at this
    exact absurd (ba_ext this) h
theorem str_beq (a b : ByteArray) : (a.toList == b.toList) = decide (a = b) := by
  by_cases h : a = b
  · subst h; simp
  · rw [decide_eq_false h, str_nbeq h]
theorem nat_beq (x y : Nat) : ((x : Int) == (y : Int)) = decide (x = y) := by
  by_cases h : x = y
  · subst h; simp
  · rw [decide_eq_false h, beq_eq_false_iff_ne]; omega
/-- A key's value. -/
def kV (k : K) : Value := .agg #[.int .i64 k.kind, .int .i64 k.ten, .string k.buc, .string k.nam, .int .u64 (k.num : Int), .int .i64 k.part]
theorem eql29 (x y : K) (w : World) : (binOp .eql 29 (kV x) (kV y)).run Try.prog w = .ok (.bool (decide (x = y))) w := by
  obtain ⟨a, b, c, d, e, f⟩ := x
  obtain ⟨a', b', c', d', e', f'⟩ := y
  unfold kV
  simp only [K.mk.injEq]
  by_cases h1 : a = a'
  · by_cases h2 : b = b'
    · by_cases h3 : c = c'
      · by_cases h4 : d = d'
        · by_cases h5 : e = e'
          · by_cases h6 : f = f' <;> simp [go_sem, h1, h2, h3, h4, h5, h6]
          · simp [go_sem, h1, h2, h3, h4, h5, nat_beq]
        · simp [go_sem, h1, h2, h3, h4, str_beq]
      · simp [go_sem, h1, h2, h3, str_beq]
    · simp [go_sem, h1, h2]
  · simp [go_sem, h1]
theorem neq29 (x y : K) (w : World) : (binOp .neq 29 (kV x) (kV y)).run Try.prog w = .ok (.bool (!decide (x = y))) w := by
  obtain ⟨a, b, c, d, e, f⟩ := x
  obtain ⟨a', b', c', d', e', f'⟩ := y
  unfold kV
  simp only [K.mk.injEq]
  by_cases h1 : a = a'
  · by_cases h2 : b = b'
    · by_cases h3 : c = c'
      · by_cases h4 : d = d'
        · by_cases h5 : e = e'
          · by_cases h6 : f = f' <;> simp [go_sem, h1, h2, h3, h4, h5, h6]
          · simp [go_sem, h1, h2, h3, h4, h5, nat_beq]
        · simp [go_sem, h1, h2, h3, h4, str_beq]
      · simp [go_sem, h1, h2, h3, str_beq]
    · simp [go_sem, h1, h2]
  · simp [go_sem, h1]
theorem eql24 (x y : K) (w : World) : (binOp .eql 24 (kV x) (kV y)).run Try.prog w = .ok (.bool (decide (x = y))) w := by
  obtain ⟨a, b, c, d, e, f⟩ := x
  obtain ⟨a', b', c', d', e', f'⟩ := y
  unfold kV
  simp only [K.mk.injEq]
  by_cases h1 : a = a'
  · by_cases h2 : b = b'
    · by_cases h3 : c = c'
      · by_cases h4 : d = d'
        · by_cases h5 : e = e'
          · by_cases h6 : f = f' <;> simp [go_sem, h1, h2, h3, h4, h5, h6]
          · simp [go_sem, h1, h2, h3, h4, h5, nat_beq]
        · simp [go_sem, h1, h2, h3, h4, str_beq]
      · simp [go_sem, h1, h2, h3, str_beq]
    · simp [go_sem, h1, h2]
  · simp [go_sem, h1]
theorem isTenant_any (t : Int) (w : World) : Calls Try.prog 56 #[.int .i64 t] w fun e w' => e = .returned (.bool (tenB t)) ∧ w = w' := by
  unfold tenB
  by_cases h1 : 0 ≤ t
  · by_cases h2 : t < 8 <;>
    · go_enter Try.func56, Try.ntmps56
      go_wp2
      go_ret
      exact ⟨ret_bool (by simp [h1, h2]; try omega), rfl⟩
  · go_enter Try.func56, Try.ntmps56
    go_wp2
    go_ret
    exact ⟨ret_bool (by simp; try omega), rfl⟩
theorem below_box (w : World) (o : Obj) : Below w.heap.size w (w.alloc o) := (Below.refl _ _).alloc (Nat.le_refl _) _
/-- Block g holds six values, and they may be written. -/
structure Six (w : World) (g : Nat) (a b c d e f : Value) : Prop where
  c0 : w.cell? ⟨g, 0, none⟩ = some a
  c1 : w.cell? ⟨g, 1, none⟩ = some b
  c2 : w.cell? ⟨g, 2, none⟩ = some c
  c3 : w.cell? ⟨g, 3, none⟩ = some d
  c4 : w.cell? ⟨g, 4, none⟩ = some e
  c5 : w.cell? ⟨g, 5, none⟩ = some f
  f0 : w.frozen? ⟨g, 0, none⟩ = false
  f1 : w.frozen? ⟨g, 1, none⟩ = false
  f2 : w.frozen? ⟨g, 2, none⟩ = false
  f3 : w.frozen? ⟨g, 3, none⟩ = false
  f4 : w.frozen? ⟨g, 4, none⟩ = false
  f5 : w.frozen? ⟨g, 5, none⟩ = false
theorem Six.lt {w : World} {g : Nat} {a b c d e f : Value} (h : Six w g a b c d e f) : g < w.heap.size := World.block_lt_of_cell? w _ h.c0
theorem Six.below {w w1 : World} {g : Nat} {a b c d e f : Value} (h : Six w g a b c d e f) (B : Below w.heap.size w w1) : Six w1 g a b c d e f :=
  ⟨(B.cell (p := ⟨g, 0, none⟩) h.lt).trans h.c0, (B.cell (p := ⟨g, 1, none⟩) h.lt).trans h.c1, (B.cell (p := ⟨g, 2, none⟩) h.lt).trans h.c2, (B.cell (p := ⟨g, 3, none⟩) h.lt).trans h.c3, (B.cell (p := ⟨g, 4, none⟩) h.lt).trans h.c4, (B.cell (p := ⟨g, 5, none⟩) h.lt).trans h.c5,
   (B.frozen (p := ⟨g, 0, none⟩) h.lt).trans h.f0, (B.frozen (p := ⟨g, 1, none⟩) h.lt).trans h.f1, (B.frozen (p := ⟨g, 2, none⟩) h.lt).trans h.f2, (B.frozen (p := ⟨g, 3, none⟩) h.lt).trans h.f3, (B.frozen (p := ⟨g, 4, none⟩) h.lt).trans h.f4, (B.frozen (p := ⟨g, 5, none⟩) h.lt).trans h.f5⟩
theorem Six.new (w : World) (a b c d e f : Value) (T : TypeId) : Six (w.alloc (.cells #[a, b, c, d, e, f] T)) w.heap.size a b c d e f :=
  ⟨by simp [go_sem], by simp [go_sem], by simp [go_sem], by simp [go_sem], by simp [go_sem], by simp [go_sem], by simp [go_sem], by simp [go_sem], by simp [go_sem], by simp [go_sem], by simp [go_sem], by simp [go_sem]⟩
theorem Six.two (w : World) (o : Obj) (a b c d e f : Value) (T : TypeId) : Six ((w.alloc o).alloc (.cells #[a, b, c, d, e, f] T)) (w.heap.size + 1) a b c d e f :=
  ⟨by simp [go_sem], by simp [go_sem], by simp [go_sem], by simp [go_sem], by simp [go_sem], by simp [go_sem], by simp [go_sem], by simp [go_sem], by simp [go_sem], by simp [go_sem], by simp [go_sem], by simp [go_sem]⟩
theorem below_alloc_to {w w1 : World} {o : Obj} (h : Below (w.alloc o).heap.size (w.alloc o) w1) : Below w.heap.size w w1 := (below_box w o).trans (h.mono (by simp))
theorem Six.set2 {w : World} {g : Nat} {a b c d e f : Value} (h : Six w g a b c d e f) (v : Value) : Six (w.setCell ⟨g, 2, none⟩ v) g a b v d e f := by
  obtain ⟨c0, c1, c2, c3, c4, c5, f0, f1, f2, f3, f4, f5⟩ := h
  exact ⟨(World.cell?_setCell_other _ _ _ _ (fun e => by simp at e)).trans c0, (World.cell?_setCell_other _ _ _ _ (fun e => by simp at e)).trans c1, World.cell?_setCell_same _ _ _ c2, (World.cell?_setCell_other _ _ _ _ (fun e => by simp at e)).trans c3, (World.cell?_setCell_other _ _ _ _ (fun e => by simp at e)).trans c4, (World.cell?_setCell_other _ _ _ _ (fun e => by simp at e)).trans c5, by simpa using f0, by simpa using f1, by simpa using f2, by simpa using f3, by simpa using f4, by simpa using f5⟩
theorem Six.set3 {w : World} {g : Nat} {a b c d e f : Value} (h : Six w g a b c d e f) (v : Value) : Six (w.setCell ⟨g, 3, none⟩ v) g a b c v e f := by
  obtain ⟨c0, c1, c2, c3, c4, c5, f0, f1, f2, f3, f4, f5⟩ := h
  exact ⟨(World.cell?_setCell_other _ _ _ _ (fun e => by simp at e)).trans c0, (World.cell?_setCell_other _ _ _ _ (fun e => by simp at e)).trans c1, (World.cell?_setCell_other _ _ _ _ (fun e => by simp at e)).trans c2, World.cell?_setCell_same _ _ _ c3, (World.cell?_setCell_other _ _ _ _ (fun e => by simp at e)).trans c4, (World.cell?_setCell_other _ _ _ _ (fun e => by simp at e)).trans c5, by simpa using f0, by simpa using f1, by simpa using f2, by simpa using f3, by simpa using f4, by simpa using f5⟩
theorem Six.set4 {w : World} {g : Nat} {a b c d e f : Value} (h : Six w g a b c d e f) (v : Value) : Six (w.setCell ⟨g, 4, none⟩ v) g a b c d v f := by
  obtain ⟨c0, c1, c2, c3, c4, c5, f0, f1, f2, f3, f4, f5⟩ := h
  exact ⟨(World.cell?_setCell_other _ _ _ _ (fun e => by simp at e)).trans c0, (World.cell?_setCell_other _ _ _ _ (fun e => by simp at e)).trans c1, (World.cell?_setCell_other _ _ _ _ (fun e => by simp at e)).trans c2, (World.cell?_setCell_other _ _ _ _ (fun e => by simp at e)).trans c3, World.cell?_setCell_same _ _ _ c4, (World.cell?_setCell_other _ _ _ _ (fun e => by simp at e)).trans c5, by simpa using f0, by simpa using f1, by simpa using f2, by simpa using f3, by simpa using f4, by simpa using f5⟩
theorem Six.other {w : World} {g k o : Nat} {a b c d e f : Value} (h : Six w g a b c d e f) (hk : g ≠ k) (v : Value) : Six (w.setCell ⟨k, o, none⟩ v) g a b c d e f := by
  obtain ⟨c0, c1, c2, c3, c4, c5, f0, f1, f2, f3, f4, f5⟩ := h
  have hh : ∀ j : Nat, (⟨g, j, none⟩ : Addr) ≠ ⟨k, o, none⟩ := fun j e => hk (by injection e)
  exact ⟨(World.cell?_setCell_other _ _ _ _ (fun e => hh _ e.symm)).trans c0, (World.cell?_setCell_other _ _ _ _ (fun e => hh _ e.symm)).trans c1, (World.cell?_setCell_other _ _ _ _ (fun e => hh _ e.symm)).trans c2, (World.cell?_setCell_other _ _ _ _ (fun e => hh _ e.symm)).trans c3, (World.cell?_setCell_other _ _ _ _ (fun e => hh _ e.symm)).trans c4, (World.cell?_setCell_other _ _ _ _ (fun e => hh _ e.symm)).trans c5, by simpa using f0, by simpa using f1, by simpa using f2, by simpa using f3, by simpa using f4, by simpa using f5⟩
theorem check1 (t : Int) (b n : ByteArray) (u : Nat) (p : Int) (w : World) (tb : Bool) (HT : Hid (∀ w, Calls Try.prog 56 #[.int .i64 t] w fun e w' => e = .returned (.bool tb) ∧ w = w')) (nq : Bool)
    (HQ : Hid (∀ w, (binOp .neq 29 (.agg #[.int .i64 1, .int .i64 t, .string ⟨#[]⟩, .string ⟨#[]⟩, .int .u64 0, .int .i64 0]) (.agg #[.int .i64 1, .int .i64 t, .string b, .string n, .int .u64 (u : Int), .int .i64 p])).run Try.prog w = .ok (.bool nq) w)) :
    Calls Try.prog 16 #[.agg #[.int .i64 1, .int .i64 t, .string b, .string n, .int .u64 (u : Int), .int .i64 p]] w fun e w' => e = .returned (.int .i64 (argE (tb && !nq))) ∧ Below w.heap.size w w' := by
  have hq := HQ.out
  clear HQ
  cases tb <;> cases nq <;>
  · go_enter Try.func16, Try.ntmps16
    go_wp2_with (first | (go_at_call 56; refine (HT.out _).mono ?_; rintro e w' ⟨rfl, rfl⟩))
    go_ret
    exact ⟨rfl, ((below_box _ _).alloc (by simp) _)⟩
theorem check2 (t : Int) (b n : ByteArray) (u : Nat) (p : Int) (w : World) (tb : Bool) (HT : Hid (∀ w, Calls Try.prog 56 #[.int .i64 t] w fun e w' => e = .returned (.bool tb) ∧ w = w')) (bb : Bool) (HB : Hid (∀ w, Calls Try.prog 57 #[.string b] w fun e w' => e = .returned (.int .i64 (argE bb)) ∧ Below w.heap.size w w')) (nq : Bool)
    (HQ : Hid (∀ w, (binOp .neq 29 (.agg #[.int .i64 2, .int .i64 t, .string b, .string ⟨#[]⟩, .int .u64 0, .int .i64 0]) (.agg #[.int .i64 2, .int .i64 t, .string b, .string n, .int .u64 (u : Int), .int .i64 p])).run Try.prog w = .ok (.bool nq) w)) :
    Calls Try.prog 16 #[.agg #[.int .i64 2, .int .i64 t, .string b, .string n, .int .u64 (u : Int), .int .i64 p]] w fun e w' => e = .returned (.int .i64 (argE (tb && (bb && !nq)))) ∧ Below w.heap.size w w' := by
  have hq := HQ.out
  clear HQ
  cases tb
  · cases nq <;>
    · go_enter Try.func16, Try.ntmps16
      go_wp2_with (first | (go_at_call 56; refine (HT.out _).mono ?_; rintro e w' ⟨rfl, rfl⟩))
      go_ret
      exact ⟨rfl, below_two _ _ _⟩
  · cases bb <;> simp only [argE] at HB <;> cases nq <;>
    · go_enter Try.func16, Try.ntmps16
      go_wp2_with fail
      refine (HT.out _).mono ?_
      rintro e w' ⟨rfl, rfl⟩
      go_wp2_with fail
      refine (HB.out _).mono ?_
      rintro e w2 ⟨rfl, hb⟩
      have hS1 := ((Six.new w _ _ _ _ _ _ 29).below (below_box _ _)).below hb
      have hS2 := (Six.two w _ _ _ _ _ _ _ 29).below hb
      have hB := below_two_to hb
      obtain ⟨c0, c1, c2, c3, c4, c5, f0, f1, f2, f3, f4, f5⟩ := hS1
      obtain ⟨d0, d1, d2, d3, d4, d5, g0, g1, g2, g3, g4, g5⟩ := hS2
      clear hb
      go_wp2_with fail
      go_ret
      exact ⟨rfl, hB⟩
end Go.Proofs.Yteekjndhehnpaaa
