/- Contract: all sectors of a journal, read. -/
import Derived.Test.YtbhebkjadgajeaaJ5
namespace Go.Proofs.Ytbhebkjadgajeaa
open Go.RowKit
/-- Block g holds these sectors, and can be written. -/
structure SW (w : World) (g : Nat) (L : List Sct) : Prop where
  lt : g < w.heap.size
  cell : ∀ j (hj : j < L.length) i u, (L[j].cells)[i]? = some u → w.cell? ⟨g, j * 6 + i, none⟩ = some u
  free : ∀ j i, j < L.length → i < 6 → w.frozen? ⟨g, j * 6 + i, none⟩ = false
/-- Six cells are written. -/
def put6 (w : World) (g o : Nat) (s : Sct) : World :=
  (((((w.setCell ⟨g, o, none⟩ (.int .i64 (s.k : Int))).setCell ⟨g, o + 1, none⟩ (.int .u64 (s.e : Int))).setCell ⟨g, o + 2, none⟩ (.int .u64 (s.n : Int))).setCell ⟨g, o + 3, none⟩ (.int .i64 (s.a : Int))).setCell ⟨g, o + 4, none⟩ (.int .i64 (s.m : Int))).setCell ⟨g, o + 5, none⟩ (.string s.p)
theorem put6_other (w : World) (g o : Nat) (s : Sct) (x : Nat) (h : x < o ∨ o + 5 < x) : (put6 w g o s).cell? ⟨g, x, none⟩ = w.cell? ⟨g, x, none⟩ := by
  unfold put6
  rw [other _ _ _ _ _ (by omega), other _ _ _ _ _ (by omega), other _ _ _ _ _ (by omega), other _ _ _ _ _ (by omega), other _ _ _ _ _ (by omega), other _ _ _ _ _ (by omega)]
theorem put6_same (w : World) (g o : Nat) (s : Sct) (h : ∀ i, i < 6 → ∃ u, w.cell? ⟨g, o + i, none⟩ = some u) : ∀ i u, s.cells[i]? = some u → (put6 w g o s).cell? ⟨g, o + i, none⟩ = some u := by
  intro i u hu
  have hi : i < 6 := by have := (List.getElem?_eq_some_iff.1 hu).1; simpa [Sct.cells] using this
  have g0 := h 0 (by omega)
  have g1 := h 1 (by omega)
  have g2 := h 2 (by omega)
  have g3 := h 3 (by omega)
  have g4 := h 4 (by omega)
  have g5 := h 5 (by omega)
  unfold put6
  match i, hi, hu with
  | 0, _, hu =>
    simp only [Sct.cells, List.getElem?_cons_zero, Option.some.injEq] at hu
    subst hu
    rw [Nat.add_zero] at *
    rw [other _ _ _ _ _ (by omega), other _ _ _ _ _ (by omega), other _ _ _ _ _ (by omega), other _ _ _ _ _ (by omega), other _ _ _ _ _ (by omega)]
    obtain ⟨v, hv⟩ := g0
    exact World.cell?_setCell_same _ _ _ hv
  | 1, _, hu =>
    simp only [Sct.cells, List.getElem?_cons_zero, List.getElem?_cons_succ, Option.some.injEq] at hu
    subst hu
    rw [other _ _ _ _ _ (by omega), other _ _ _ _ _ (by omega), other _ _ _ _ _ (by omega), other _ _ _ _ _ (by omega)]
    obtain ⟨v, hv⟩ := g1
    exact World.cell?_setCell_same _ _ _ (by rw [other _ _ _ _ _ (by omega)]; exact hv)
  | 2, _, hu =>
    simp only [Sct.cells, List.getElem?_cons_zero, List.getElem?_cons_succ, Option.some.injEq] at hu
    subst hu
    rw [other _ _ _ _ _ (by omega), other _ _ _ _ _ (by omega), other _ _ _ _ _ (by omega)]
    obtain ⟨v, hv⟩ := g2
    exact World.cell?_setCell_same _ _ _ (by rw [other _ _ _ _ _ (by omega), other _ _ _ _ _ (by omega)]; exact hv)
  | 3, _, hu =>
    simp only [Sct.cells, List.getElem?_cons_zero, List.getElem?_cons_succ, Option.some.injEq] at hu
    subst hu
    rw [other _ _ _ _ _ (by omega), other _ _ _ _ _ (by omega)]
    obtain ⟨v, hv⟩ := g3
    exact World.cell?_setCell_same _ _ _ (by rw [other _ _ _ _ _ (by omega), other _ _ _ _ _ (by omega), other _ _ _ _ _ (by omega)]; exact hv)
  | 4, _, hu =>
    simp only [Sct.cells, List.getElem?_cons_zero, List.getElem?_cons_succ, Option.some.injEq] at hu
    subst hu
    rw [other _ _ _ _ _ (by omega)]
    obtain ⟨v, hv⟩ := g4
    exact World.cell?_setCell_same _ _ _ (by rw [other _ _ _ _ _ (by omega), other _ _ _ _ _ (by omega), other _ _ _ _ _ (by omega), other _ _ _ _ _ (by omega)]; exact hv)
  | 5, _, hu =>
    simp only [Sct.cells, List.getElem?_cons_zero, List.getElem?_cons_succ, Option.some.injEq] at hu
    subst hu
    obtain ⟨v, hv⟩ := g5
    exact World.cell?_setCell_same _ _ _ (by rw [other _ _ _ _ _ (by omega), other _ _ _ _ _ (by omega), other _ _ _ _ _ (by omega), other _ _ _ _ _ (by omega), other _ _ _ _ _ (by omega)]; exact hv)
theorem SW.put {w : World} {g : Nat} {L : List Sct} (h : SW w g L) (k : Nat) (hk : k < L.length) (s : Sct) : SW (put6 w g (k * 6) s) g (L.set k s) := by
  refine ⟨by unfold put6; simpa using h.lt, ?_, ?_⟩
  · intro j hj i u hu
    have hj' : j < L.length := by simpa using hj
    have hi : i < 6 := by have := (List.getElem?_eq_some_iff.1 hu).1; simpa [Sct.cells] using this
    by_cases hjk : k = j
    · subst hjk
      rw [List.getElem_set_self] at hu
      exact put6_same w g (k * 6) s (fun i hi => ⟨_, h.cell k hk i _ (List.getElem?_eq_getElem (by simpa [Sct.cells] using hi))⟩) i u hu
    · rw [List.getElem_set_ne hjk] at hu
      rw [put6_other _ _ _ _ _ (by omega)]
      exact h.cell j hj' i u hu
  · intro j i hj hi
    unfold put6
    simp only [World.frozen?_setCell]
    exact h.free j i (by simpa using hj) hi
theorem SW.below {w w1 : World} {g : Nat} {L : List Sct} (h : SW w g L) (B : Below w.heap.size w w1) : SW w1 g L :=
  ⟨Nat.lt_of_lt_of_le h.lt B.size, fun j hj i u hu => (B.cell (p := ⟨g, j * 6 + i, none⟩) h.lt).trans (h.cell j hj i u hu), fun j i hj hi => (World.frozen?_of_block (a := ⟨g, j * 6 + i, none⟩) (B.block g h.lt)).trans (h.free j i hj hi)⟩
theorem below_put6 {w w1 : World} {n g o : Nat} {s : Sct} (h : Below n w w1) (hg : n ≤ g) : Below n w (put6 w1 g o s) := by
  unfold put6
  exact ((((((h.setCell hg _).setCell hg _).setCell hg _).setCell hg _).setCell hg _).setCell hg _)
set_option maxRecDepth 100000 in
theorem run_make70 (w : World) (m : Nat) (hm : m ≤ 1048576) :
    ∃ X, (Instr.makeSlice 67 (.int .i64 (m : Int)) (.int .i64 (m : Int))).run Try.prog w = .ok (.slice (some ⟨w.heap.size, 0, none⟩) m m) (w.alloc (.cells X 70)) ∧ SW (w.alloc (.cells X 70)) w.heap.size (List.replicate m zeroS) := by
  obtain ⟨i0, hi, hz0, hz1, hz2⟩ := info_parts info70
  have := run_make (P := Try.prog) w 67 70 i0 _ Try.underlying67 hi hz0 .i64 .i64 m m (by omega) (by omega) (by rw [hz2]; omega) (by omega)
  refine ⟨_, this, by simp, ?_, ?_⟩
  · intro j hj i u hu
    have hj' : j < m := by simpa using hj
    have hi : i < 6 := by have := (List.getElem?_eq_some_iff.1 hu).1; simpa [Sct.cells] using this
    rw [List.getElem_replicate] at hu
    rw [hz1]
    have hx : j * 6 + i < m * 6 := by omega
    have hmod : (j * 6 + i) % 6 = i := by omega
    have hc : (madeCells (Value.agg #[.int .i64 0, .int .u64 0, .int .u64 0, .int .i64 0, .int .i64 0, .string ⟨#[]⟩]).cells (m * 6))[j * 6 + i]? = some u := by
      simp only [madeCells, Array.getElem?_map, Array.getElem?_range, hx, if_true, Option.map_some]
      match i, hi, hu with
      | 0, _, hu => simp [Value.cells] at hu ⊢; simpa [zeroS, Sct.cells] using hu
      | 1, _, hu => simp [Value.cells, hmod] at hu ⊢; simpa [zeroS, Sct.cells] using hu
      | 2, _, hu => simp [Value.cells, hmod] at hu ⊢; simpa [zeroS, Sct.cells] using hu
      | 3, _, hu => simp [Value.cells, hmod] at hu ⊢; simpa [zeroS, Sct.cells] using hu
      | 4, _, hu => simp [Value.cells, hmod] at hu ⊢; simpa [zeroS, Sct.cells] using hu
      | 5, _, hu => simp [Value.cells, hmod] at hu ⊢; simp [zeroS, Sct.cells] at hu; exact hu
    simpa [go_sem] using hc
  · intro j i hj hi
    simp [go_sem]
/-- The sectors of a journal as they read. -/
noncomputable def readS (S : List ByteArray) (P : List (Int × ByteArray)) (size : Nat) : List Sct := (List.range size).map fun i => openT (readT S P (1 + i))
theorem readS_length (S : List ByteArray) (P : List (Int × ByteArray)) (size : Nat) : (readS S P size).length = size := by simp [readS]
theorem readS_get (S : List ByteArray) (P : List (Int × ByteArray)) (size k : Nat) (hk : k < size) : (readS S P size)[k]'(by rw [readS_length]; exact hk) = openT (readT S P (1 + k)) := by simp [readS]
/-- .. the first ones. -/
noncomputable def readPart (S : List ByteArray) (P : List (Int × ByteArray)) (size k : Nat) : List Sct := (readS S P size).take k ++ List.replicate (size - k) zeroS
theorem readPart_length (S : List ByteArray) (P : List (Int × ByteArray)) (size k : Nat) (hk : k ≤ size) : (readPart S P size k).length = size := by simp [readPart, readS_length]; omega
theorem readPart_succ (S : List ByteArray) (P : List (Int × ByteArray)) (size k : Nat) (hk : k < size) : (readPart S P size k).set k (openT (readT S P (1 + k))) = readPart S P size (k + 1) := by
  unfold readPart
  have hl : ((readS S P size).take k).length = k := by simp [readS_length]; omega
  rw [List.set_append_right _ _ (by omega), hl, Nat.sub_self, show size - k = (size - (k + 1)) + 1 by omega, List.replicate_succ, List.set_cons_zero, List.take_add_one, List.getElem?_eq_getElem (by rw [readS_length]; exact hk), readS_get S P size k hk]
  simp
section
variable {K : Nat → Prop} {w w1 : World} {d sb : Nat} {S : List ByteArray} {pv : Value} {P : List (Int × ByteArray)} {fuse : Int} {down : Bool} {ops : Int} {j size used ep num : Nat}
theorem read_at (h : Disk K w d sb S pv P fuse false ops) (I : Int) (i : Nat) (hI : I = (i : Int)) (hi : i < S.length) (hP : P.length ≤ 1000000) (t : ByteArray) (ht : readT S P i = t) :
    Calls Try.prog 42 #[.pointer (some ⟨d, 0, none⟩), .int .i64 I] w fun e w' => e = .returned (.tuple #[.string t, .int .i64 0]) ∧ Below w.heap.size w w' := by
  subst hI ht; exact read_ok h i hi hP
set_option maxRecDepth 100000 in
theorem jread_down (h : Disk K w d sb S pv P fuse true ops) (size : Nat) (h1 : 1 ≤ size) (h2 : size ≤ 1024) : Calls Try.prog 32 #[.pointer (some ⟨d, 0, none⟩), .int .i64 (size : Int)] w fun e w' => e = .returned (.tuple #[.slice none 0 0, .int .i64 17]) ∧ Below w.heap.size w w' := by
  obtain ⟨X, km, hSW⟩ := run_make70 w size (by omega)
  have B := (Below.refl w.heap.size w).alloc (Nat.le_refl _) (.cells X 70)
  generalize w.alloc (.cells X 70) = w1 at km hSW B
  go_enter Try.func32, Try.ntmps32
  go_wp2_with fail
  refine wp_loop_rounds 1 ?_
  rw [rounds_succ]
  go_wp2_with fail
  refine (read_down (h.below B) _).mono ?_
  rintro e w2 ⟨rfl, hb⟩
  replace B := below_to B hb
  go_wp2_with fail
  go_ret2
  exact ⟨rfl, B⟩
set_option maxRecDepth 100000 in
set_option maxHeartbeats 1000000 in
theorem jread_ok (h : Disk K w d sb S pv P fuse false ops) (size : Nat) (h1 : 1 ≤ size) (h2 : size ≤ 1024) (h3 : size < S.length) (hP : P.length ≤ 1000000) (hT : ∀ i, i < S.length → (readT S P i).size ≤ maxLen) :
    Calls Try.prog 32 #[.pointer (some ⟨d, 0, none⟩), .int .i64 (size : Int)] w fun e w' => e = .returned (.tuple #[.slice (some ⟨w.heap.size, 0, none⟩) size size, .int .i64 0]) ∧ SW w' w.heap.size (readS S P size) ∧ Below w.heap.size w w' := by
  obtain ⟨X, km, hSW⟩ := run_make70 w size (by omega)
  have B := (Below.refl w.heap.size w).alloc (Nat.le_refl _) (.cells X 70)
  generalize w.alloc (.cells X 70) = w1 at km hSW B
  go_enter Try.func32, Try.ntmps32
  go_wp2_with fail
  clear km
  go_loopw [13] (fun i wr => ∃ k : Nat, k ≤ size ∧ i = .int .i64 k ∧ SW wr w.heap.size (readPart S P size k) ∧ Below w.heap.size w wr) (fun i _ => size - (intOf i).toNat)
  case atStart => exact ⟨0, Nat.zero_le _, rfl, by simpa [readPart] using hSW, B⟩
  case round =>
    obtain ⟨k, hk, rfl, hR, hB⟩ := hrel
    by_cases hlt : k < size
    · obtain ⟨t, ht⟩ : ∃ t, readT S P (1 + k) = t := ⟨_, rfl⟩
      have hts : t.size ≤ maxLen := by rw [← ht]; exact hT _ (by omega)
      obtain ⟨s, hs⟩ : ∃ s, openT t = s := ⟨_, rfl⟩
      have hst := readPart_succ S P size k hlt
      rw [ht, hs] at hst
      have n1 := Lib.hid (read_at (h.below hB) (1 + (k : Int)) (1 + k) (by omega) (by omega) hP t ht)
      have n2 := Lib.hid (fun w => open_sct t hts s hs w)
      have HST := Lib.hid hst
      clear ht hs hst
      go_wp2_with fail
      refine n1.out.mono ?_
      rintro e w2 ⟨rfl, hb⟩
      replace hR := hR.below hb
      replace hB := below_to hB hb
      clear hb n1
      go_wp2_with fail
      refine (n2.out _).mono ?_
      rintro e w3 ⟨⟨y, rfl⟩, hb⟩
      replace hR := hR.below hb
      replace hB := below_to hB hb
      clear hb n2
      have hkl : k < (readPart S P size k).length := by rw [readPart_length S P size k hk]; exact hlt
      have R2 := hR.put k hkl s
      rw [HST.out] at R2
      have B2 : Below w.heap.size w (put6 w3 w.heap.size (k * 6) s) := below_put6 hB (Nat.le_refl _)
      have hq : ∀ i, i < 6 → ∃ u, w3.cell? ⟨w.heap.size, k * 6 + i, none⟩ = some u := fun i hi => ⟨_, hR.cell k hkl i _ (List.getElem?_eq_getElem (by simpa [Sct.cells] using hi))⟩
      obtain ⟨v0, q0⟩ := hq 0 (by omega)
      obtain ⟨v1, q1⟩ := hq 1 (by omega)
      obtain ⟨v2, q2⟩ := hq 2 (by omega)
      obtain ⟨v3, q3⟩ := hq 3 (by omega)
      obtain ⟨v4, q4⟩ := hq 4 (by omega)
      obtain ⟨v5, q5⟩ := hq 5 (by omega)
      have e0 := hR.free k 0 hkl (by omega)
      have e1 := hR.free k 1 hkl (by omega)
      have e2 := hR.free k 2 hkl (by omega)
      have e3 := hR.free k 3 hkl (by omega)
      have e4 := hR.free k 4 hkl (by omega)
      have e5 := hR.free k 5 hkl (by omega)
      rw [Nat.add_zero] at q0 e0
      unfold put6 at R2 B2
      clear hq hR hB
      obtain ⟨sk, se, sn, sa, sm, sp⟩ := s
      simp only at R2 B2
      unfold Sct.val
      go_wp2_with fail
      go_roundw
      case rel => exact ⟨k + 1, by omega, by go_num, R2, B2⟩
      case measure => simp [intOf]; omega
    · obtain rfl : k = size := by omega
      have hfin : readPart S P k k = readS S P k := by
        unfold readPart
        rw [List.take_of_length_le (by rw [readS_length]; exact Nat.le_refl _)]
        simp
      rw [hfin] at hR
      go_wp2_with fail
      go_ret2
      exact ⟨rfl, hR, hB⟩
end
end Go.Proofs.Ytbhebkjadgajeaa
