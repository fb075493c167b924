/- A disk in memory; its small functions. -/
import Derived.Test.YtbhebkjadgajeaaAD
import Derived.Laws.AppendOwn
namespace Go.Proofs.Ytbhebkjadgajeaa
open Go.RowKit
/-- The blocks of K are as they were. -/
structure Keep (K : Nat → Prop) (w w' : World) : Prop where
  os : w'.os = w.os
  tape : w'.tape = w.tape
  output : w'.output = w.output
  size : w.heap.size ≤ w'.heap.size
  block : ∀ k, K k → w'.heap[k]? = w.heap[k]?
section
variable {K : Nat → Prop} {w w1 w2 : World}
theorem Keep.refl (w : World) : Keep K w w := ⟨rfl, rfl, rfl, Nat.le_refl _, fun _ _ => rfl⟩
theorem Keep.trans (h : Keep K w w1) (k : Keep K w1 w2) : Keep K w w2 := ⟨k.os.trans h.os, k.tape.trans h.tape, k.output.trans h.output, Nat.le_trans h.size k.size, fun i hi => (k.block i hi).trans (h.block i hi)⟩
theorem Keep.setCell (h : Keep K w w1) {b o : Nat} (hb : ¬ K b) (v : Value) : Keep K w (w1.setCell ⟨b, o, none⟩ v) :=
  ⟨h.os, h.tape, h.output, by have := h.size; simpa using this, fun k hk => (Below.heap_setCell w1 ⟨b, o, none⟩ v k (fun e => hb (by have e2 : k = b := e; rw [← e2]; exact hk))).trans (h.block k hk)⟩
theorem Keep.below (h : Keep K w w1) (hl : ∀ k, K k → k < w.heap.size) (B : Below w1.heap.size w1 w2) : Keep K w w2 :=
  ⟨B.os.trans h.os, B.tape.trans h.tape, B.output.trans h.output, Nat.le_trans h.size B.size, fun k hk => (B.block k (Nat.lt_of_lt_of_le (hl k hk) h.size)).trans (h.block k hk)⟩
theorem Keep.toBelow {n : Nat} (h : Keep (fun k => k < n) w w1) : Below n w w1 := ⟨h.os, h.tape, h.output, h.size, fun k hk => h.block k hk⟩
theorem Keep.mono {L : Nat → Prop} (h : Keep K w w1) (hl : ∀ k, L k → K k) : Keep L w w1 := ⟨h.os, h.tape, h.output, h.size, fun k hk => h.block k (hl k hk)⟩
end
/-- The cells of pending writes. -/
def flat (P : List (Int × ByteArray)) : List Value := P.flatMap fun x => [.int .i64 x.1, .string x.2]
theorem flat_length (P : List (Int × ByteArray)) : (flat P).length = P.length * 2 := by
  induction P with
  | nil => rfl
  | cons a l ih => simp [flat] at *; omega
theorem flat_snoc (P : List (Int × ByteArray)) (a : Int) (t : ByteArray) : flat (P ++ [(a, t)]) = flat P ++ [.int .i64 a, .string t] := by simp [flat]
theorem flat_get (P : List (Int × ByteArray)) (j : Nat) (h : j < P.length) : (flat P)[2 * j]? = some (.int .i64 P[j].1) ∧ (flat P)[2 * j + 1]? = some (.string P[j].2) := by
  induction P generalizing j with
  | nil => simp at h
  | cons a l ih =>
    cases j with
    | zero => simp [flat]
    | succ j =>
      have := ih j (by simpa using h)
      rw [show 2 * (j + 1) = 2 * j + 2 by omega, show 2 * j + 2 + 1 = 2 * j + 1 + 2 by omega]
      simpa [flat] using this
/-- Block d is a disk: its durable sectors, its pending writes, its fuse, whether it is down, its count; none of its blocks is in K. -/
structure Disk (K : Nat → Prop) (w : World) (d sb : Nat) (S : List ByteArray) (pv : Value) (P : List (Int × ByteArray)) (fuse : Int) (down : Bool) (ops : Int) : Prop where
  c0 : ∃ sc, w.cell? ⟨d, 0, none⟩ = some (.slice (some ⟨sb, 0, none⟩) S.length sc)
  c1 : w.cell? ⟨d, 1, none⟩ = some pv
  c2 : w.cell? ⟨d, 2, none⟩ = some (.int .i64 fuse)
  c3 : w.cell? ⟨d, 3, none⟩ = some (.bool down)
  c4 : w.cell? ⟨d, 4, none⟩ = some (.int .i64 ops)
  f1 : w.frozen? ⟨d, 1, none⟩ = false
  f2 : w.frozen? ⟨d, 2, none⟩ = false
  f3 : w.frozen? ⟨d, 3, none⟩ = false
  f4 : w.frozen? ⟨d, 4, none⟩ = false
  row : ∀ j (hj : j < S.length), w.cell? ⟨sb, j, none⟩ = some (.string S[j]) ∧ w.frozen? ⟨sb, j, none⟩ = false
  pend : w.ownsRow 0 92 2 pv P.length (flat P)
  nd : ¬ K d
  ns : ¬ K sb
  np : ∀ k, pv.ownBlock = some k → ¬ K k ∧ k ≠ d ∧ k ≠ sb
  ne : d ≠ sb
  slt : sb < w.heap.size
  lt : ∀ k, K k → k < w.heap.size
section
variable {K : Nat → Prop} {w w1 : World} {d sb : Nat} {S : List ByteArray} {pv : Value} {P : List (Int × ByteArray)} {fuse : Int} {down : Bool} {ops : Int}
theorem Disk.dlt (h : Disk K w d sb S pv P fuse down ops) : d < w.heap.size := World.block_lt_of_cell? w _ h.c1
theorem Disk.pvForm (h : Disk K w d sb S pv P fuse down ops) : ∃ pa cap, pv = .slice pa P.length cap := by
  rcases h.pend.2 with ⟨rfl, hn⟩ | ⟨g, cap, cur, rfl, _⟩
  · exact ⟨none, 0, by rw [hn]⟩
  · exact ⟨_, _, rfl⟩
theorem Disk.same (h : Disk K w d sb S pv P fuse down ops) (hs : w.heap.size ≤ w1.heap.size) (hd : w1.heap[d]? = w.heap[d]?) (hb : w1.heap[sb]? = w.heap[sb]?) (hp : ∀ k, pv.ownBlock = some k → w1.heap[k]? = w.heap[k]?) : Disk K w1 d sb S pv P fuse down ops := by
  refine ⟨h.c0.imp fun _ h0 => (World.cell?_of_block (a := ⟨d, 0, none⟩) hd).trans h0, (World.cell?_of_block (a := ⟨d, 1, none⟩) hd).trans h.c1, (World.cell?_of_block (a := ⟨d, 2, none⟩) hd).trans h.c2, (World.cell?_of_block (a := ⟨d, 3, none⟩) hd).trans h.c3, (World.cell?_of_block (a := ⟨d, 4, none⟩) hd).trans h.c4,
    (World.frozen?_of_block (a := ⟨d, 1, none⟩) hd).trans h.f1, (World.frozen?_of_block (a := ⟨d, 2, none⟩) hd).trans h.f2, (World.frozen?_of_block (a := ⟨d, 3, none⟩) hd).trans h.f3, (World.frozen?_of_block (a := ⟨d, 4, none⟩) hd).trans h.f4,
    fun j hj => ⟨(World.cell?_of_block (a := ⟨sb, j, none⟩) hb).trans (h.row j hj).1, (World.frozen?_of_block (a := ⟨sb, j, none⟩) hb).trans (h.row j hj).2⟩, ⟨h.pend.1, ?_⟩, h.nd, h.ns, h.np, h.ne, Nat.lt_of_lt_of_le h.slt hs, fun k hk => Nat.lt_of_lt_of_le (h.lt k hk) hs⟩
  rcases h.pend.2 with hn | ⟨g, cap, cur, rfl, h1, h2, h3⟩
  · exact .inl hn
  · exact .inr ⟨g, cap, cur, rfl, h1, (hp g rfl).trans h2, h3⟩
theorem Disk.below (h : Disk K w d sb S pv P fuse down ops) (B : Below w.heap.size w w1) : Disk K w1 d sb S pv P fuse down ops :=
  h.same B.size (B.block d h.dlt) (B.block sb h.slt) (fun k hk => B.block k (h.pend.lt k hk).2)
theorem Disk.pset (h : Disk K w d sb S pv P fuse down ops) {i : Nat} (v : Value) : (w.setCell ⟨d, i, none⟩ v).ownsRow 0 92 2 pv P.length (flat P) := by
  refine ⟨h.pend.1, ?_⟩
  rcases h.pend.2 with hn | ⟨g, cap, cur, hv, h1, h2, h3⟩
  · exact .inl hn
  · exact .inr ⟨g, cap, cur, hv, h1, (Below.heap_setCell w ⟨d, i, none⟩ v g (h.np g (by rw [hv]; rfl)).2.1).trans h2, h3⟩
theorem Disk.rset (h : Disk K w d sb S pv P fuse down ops) {i : Nat} (v : Value) : ∀ j (hj : j < S.length), (w.setCell ⟨d, i, none⟩ v).cell? ⟨sb, j, none⟩ = some (.string S[j]) ∧ (w.setCell ⟨d, i, none⟩ v).frozen? ⟨sb, j, none⟩ = false :=
  fun j hj => ⟨(World.cell?_setCell_other _ _ _ _ (fun e => h.ne (by injection e))).trans (h.row j hj).1, by rw [World.frozen?_setCell]; exact (h.row j hj).2⟩
theorem Disk.set2 (h : Disk K w d sb S pv P fuse down ops) (x : Int) : Disk K (w.setCell ⟨d, 2, none⟩ (.int .i64 x)) d sb S pv P x down ops :=
  ⟨h.c0.imp fun _ h0 => (other _ _ _ _ _ (by omega)).trans h0, (other _ _ _ _ _ (by omega)).trans h.c1, World.cell?_setCell_same _ _ _ h.c2, (other _ _ _ _ _ (by omega)).trans h.c3, (other _ _ _ _ _ (by omega)).trans h.c4,
    by simpa using h.f1, by simpa using h.f2, by simpa using h.f3, by simpa using h.f4, h.rset _, h.pset _, h.nd, h.ns, h.np, h.ne, by simpa using h.slt, fun k hk => by simpa using h.lt k hk⟩
theorem Disk.set3 (h : Disk K w d sb S pv P fuse down ops) (x : Bool) : Disk K (w.setCell ⟨d, 3, none⟩ (.bool x)) d sb S pv P fuse x ops :=
  ⟨h.c0.imp fun _ h0 => (other _ _ _ _ _ (by omega)).trans h0, (other _ _ _ _ _ (by omega)).trans h.c1, (other _ _ _ _ _ (by omega)).trans h.c2, World.cell?_setCell_same _ _ _ h.c3, (other _ _ _ _ _ (by omega)).trans h.c4,
    by simpa using h.f1, by simpa using h.f2, by simpa using h.f3, by simpa using h.f4, h.rset _, h.pset _, h.nd, h.ns, h.np, h.ne, by simpa using h.slt, fun k hk => by simpa using h.lt k hk⟩
theorem Disk.set4 (h : Disk K w d sb S pv P fuse down ops) (x : Int) : Disk K (w.setCell ⟨d, 4, none⟩ (.int .i64 x)) d sb S pv P fuse down x :=
  ⟨h.c0.imp fun _ h0 => (other _ _ _ _ _ (by omega)).trans h0, (other _ _ _ _ _ (by omega)).trans h.c1, (other _ _ _ _ _ (by omega)).trans h.c2, (other _ _ _ _ _ (by omega)).trans h.c3, World.cell?_setCell_same _ _ _ h.c4,
    by simpa using h.f1, by simpa using h.f2, by simpa using h.f3, by simpa using h.f4, h.rset _, h.pset _, h.nd, h.ns, h.np, h.ne, by simpa using h.slt, fun k hk => by simpa using h.lt k hk⟩
theorem Disk.clear (h : Disk K w d sb S pv P fuse down ops) : Disk K (w.setCell ⟨d, 1, none⟩ (.slice none 0 0)) d sb S (.slice none 0 0) [] fuse down ops :=
  ⟨h.c0.imp fun _ h0 => (other _ _ _ _ _ (by omega)).trans h0, World.cell?_setCell_same _ _ _ h.c1, (other _ _ _ _ _ (by omega)).trans h.c2, (other _ _ _ _ _ (by omega)).trans h.c3, (other _ _ _ _ _ (by omega)).trans h.c4,
    by simpa using h.f1, by simpa using h.f2, by simpa using h.f3, by simpa using h.f4, h.rset _, World.ownsRow_nil _ _ _ _, h.nd, h.ns, fun k hk => by simp [Value.ownBlock] at hk, h.ne, by simpa using h.slt, fun k hk => by simpa using h.lt k hk⟩
theorem Disk.put (h : Disk K w d sb S pv P fuse down ops) (i : Nat) (t : ByteArray) : Disk K (w.setCell ⟨sb, i, none⟩ (.string t)) d sb (S.set i t) pv P fuse down ops := by
  have o : ∀ j, (w.setCell ⟨sb, i, none⟩ (.string t)).cell? ⟨d, j, none⟩ = w.cell? ⟨d, j, none⟩ := fun j => World.cell?_setCell_other _ _ _ _ (fun e => h.ne (by injection e with e1 _ _; exact e1.symm))
  refine ⟨h.c0.imp fun _ h0 => by rw [o, h0]; simp, (o 1).trans h.c1, (o 2).trans h.c2, (o 3).trans h.c3, (o 4).trans h.c4, by simpa using h.f1, by simpa using h.f2, by simpa using h.f3, by simpa using h.f4, ?_, ⟨h.pend.1, ?_⟩, h.nd, h.ns, h.np, h.ne, by simpa using h.slt, fun k hk => by simpa using h.lt k hk⟩
  · intro j hj
    have hj' : j < S.length := by simpa using hj
    obtain ⟨h1, h2⟩ := h.row j hj'
    constructor
    · by_cases hij : i = j
      · subst hij
        rw [List.getElem_set_self]
        exact World.cell?_setCell_same _ _ _ h1
      · rw [List.getElem_set_ne hij, World.cell?_setCell_other _ _ _ _ (fun e => hij (by injection e))]
        exact h1
    · rw [World.frozen?_setCell]; exact h2
  · rcases h.pend.2 with hn | ⟨g, cap, cur, hv, h1, h2, h3⟩
    · exact .inl hn
    · exact .inr ⟨g, cap, cur, hv, h1, (Below.heap_setCell w ⟨sb, i, none⟩ _ g (h.np g (by rw [hv]; rfl)).2.2).trans h2, h3⟩
theorem len_any (h : Disk K w d sb S pv P fuse down ops) : Calls Try.prog 37 #[.pointer (some ⟨d, 0, none⟩)] w fun e w' => e = .returned (.int .i64 (S.length : Int)) ∧ w = w' := by
  obtain ⟨sc, c0⟩ := h.c0
  go_enter Try.func37, Try.ntmps37
  go_wp2
  go_ret
  exact ⟨rfl, rfl⟩
theorem len_nil (w : World) : Calls Try.prog 37 #[.pointer none] w fun e w' => e = .returned (.int .i64 0) ∧ w = w' := by
  go_enter Try.func37, Try.ntmps37
  go_wp2
  go_ret
  exact ⟨rfl, rfl⟩
theorem arm_nil (n : Int) (w : World) : Calls Try.prog 12 #[.pointer none, .int .i64 n] w fun e w' => e = .returned (.tuple #[]) ∧ w = w' := by
  go_enter Try.func12, Try.ntmps12
  go_wp2
  go_end0
  exact ⟨rfl, rfl⟩
theorem arm_any (h : Disk K w d sb S pv P fuse down ops) (n : Int) : Calls Try.prog 12 #[.pointer (some ⟨d, 0, none⟩), .int .i64 n] w fun e w' => e = .returned (.tuple #[]) ∧ Disk K w' d sb S pv P (max n 0) down ops ∧ Keep K w w' := by
  have c2 := h.c2
  have f2 := h.f2
  go_enter Try.func12, Try.ntmps12
  go_wp2
  go_end0
  exact ⟨rfl, h.set2 _, (Keep.refl _).setCell h.nd _⟩
theorem has_nil (i : Int) (w : World) : Calls Try.prog 51 #[.pointer none, .int .i64 i] w fun e w' => e = .returned (.bool false) ∧ w = w' := by
  by_cases h0 : 0 ≤ i
  · go_enter Try.func51, Try.ntmps51
    go_wp2_with (go_at_call 37; refine (len_nil _).mono ?_; rintro e w' ⟨rfl, rfl⟩)
    go_ret
    first | exact ⟨rfl, rfl⟩ | exact ⟨ret_bool (by simp; omega), rfl⟩
  · go_enter Try.func51, Try.ntmps51
    go_wp2_with (go_at_call 37; refine (len_nil _).mono ?_; rintro e w' ⟨rfl, rfl⟩)
    go_ret
    first | exact ⟨rfl, rfl⟩ | exact ⟨ret_bool (by simp; omega), rfl⟩
theorem has_yes (h : Disk K w d sb S pv P fuse down ops) (i : Nat) (hi : i < S.length) : Calls Try.prog 51 #[.pointer (some ⟨d, 0, none⟩), .int .i64 (i : Int)] w fun e w' => e = .returned (.bool true) ∧ w = w' := by
  go_enter Try.func51, Try.ntmps51
  go_wp2_with (go_at_call 37; refine (len_any h).mono ?_; rintro e w' ⟨rfl, rfl⟩)
  go_ret
  first | exact ⟨rfl, rfl⟩ | exact ⟨ret_bool (by simp; omega), rfl⟩
theorem has_no (h : Disk K w d sb S pv P fuse down ops) (i : Int) (hi : i < 0 ∨ (S.length : Int) ≤ i) : Calls Try.prog 51 #[.pointer (some ⟨d, 0, none⟩), .int .i64 i] w fun e w' => e = .returned (.bool false) ∧ w = w' := by
  by_cases h0 : 0 ≤ i
  · have h1 : (S.length : Int) ≤ i := by omega
    clear hi
    go_enter Try.func51, Try.ntmps51
    go_wp2_with (go_at_call 37; refine (len_any h).mono ?_; rintro e w' ⟨rfl, rfl⟩)
    go_ret
    first | exact ⟨rfl, rfl⟩ | exact ⟨ret_bool (by simp; omega), rfl⟩
  · clear hi
    go_enter Try.func51, Try.ntmps51
    go_wp2_with (go_at_call 37; refine (len_any h).mono ?_; rintro e w' ⟨rfl, rfl⟩)
    go_ret
    first | exact ⟨rfl, rfl⟩ | exact ⟨ret_bool (by simp; omega), rfl⟩
end
end Go.Proofs.Ytbhebkjadgajeaa
