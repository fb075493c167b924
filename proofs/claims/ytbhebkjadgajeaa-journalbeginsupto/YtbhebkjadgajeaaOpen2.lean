/- Arguments, opened: slices of bool, of puts, of slices of puts; how long they are at most. -/
import Derived.Test.YtbhebkjadgajeaaOpen
namespace Go.Proofs.Ytbhebkjadgajeaa
open Go.ChangeShapes Go.WideShapes Go.ChangeAt Go.RowKit Go.Joins Go.Deep
set_option maxRecDepth 100000
theorem bulk_pos {H : Type} (d : DataW H) : 1 ≤ Rows.uptoBulk d := by
  cases d with
  | lit l => cases l <;> simp [Rows.uptoBulk]
  | nil => simp [Rows.uptoBulk]
  | ptr d => simp [Rows.uptoBulk]
  | slice elems spare => simp [Rows.uptoBulk]
  | agg parts => simp [Rows.uptoBulk]
  | iface t d => simp [Rows.uptoBulk]
  | map entries => simp [Rows.uptoBulk]
  | held h => simp [Rows.uptoBulk]
theorem bulk_part {H : Type} {d : DataW H} {l : List (DataW H)} (h : d ∈ l) : Rows.uptoBulk d ≤ Rows.uptoBulkAll l := by
  induction l with
  | nil => cases h
  | cons x r ih =>
    simp only [Rows.uptoBulkAll]
    cases List.mem_cons.1 h with
    | inl e => subst e; omega
    | inr e => have := ih e; omega
theorem bulk_length {H : Type} (l : List (DataW H)) : l.length ≤ Rows.uptoBulkAll l := by
  induction l with
  | nil => simp [Rows.uptoBulkAll]
  | cons x r ih => have := bulk_pos x; simp only [Rows.uptoBulkAll, List.length_cons]; omega
section
variable {H : Type} {enc : TypeId × Value → H} {w : World} {base : Nat} {spare : Nat → Bool} {held : Bool} {r : Reach} {b0 : Nat}
theorem openBools {v : Value} {d : DataW H} {p : List MemPlace} (hv : Value.okWide Try.prog w r b0 23 v) (h : DataW.Trod enc Try.prog w base spare held 23 v d p) :
    ∃ (a : Option Addr) (n c : Nat) (ks : List Bool), Bools (fun k => k < w.heap.size) w a n ks ∧ v = .slice a n c := by
  obtain ⟨a0, len0, cap0, rfl⟩ := okWide_slice Try.underlying23 hv
  obtain ⟨fuel, hf⟩ := h
  rcases open_slice1 Try.underlying23 cells4 hf with ⟨hcs, _⟩ | ⟨x, len, cap, m, n, V, D, Pl, hcs, _, hl, hm, hmm, _, hi⟩
  · simp [Value.cells] at hcs
    obtain ⟨rfl, rfl, rfl⟩ := hcs
    exact ⟨none, 0, 0, [], ⟨rfl, .inl rfl⟩, rfl⟩
  · simp [Value.cells] at hcs
    obtain ⟨rfl, rfl, rfl⟩ := hcs
    have hlm : len0 ≤ m := by rw [hmm]; split <;> omega
    have hb : ∀ i, i < len0 → ∃ b : Bool, V i = .bool b := fun i hi' => by
      obtain ⟨_, t⟩ := hi i (by omega)
      obtain ⟨b, e, _⟩ := DataW.trod_bool Try.underlying4 t
      exact ⟨b, by simpa using e⟩
    obtain ⟨B, hB⟩ := choose_lt hb
    refine ⟨some x, len0, cap0, (List.range len0).map B, ⟨by simp, ?_⟩, rfl⟩
    by_cases h0 : len0 = 0
    · exact .inl h0
    · right
      obtain ⟨b, off, spot⟩ := x
      have hs : spot = none := by simpa [Addr.add] using World.cell?_spot (hi 0 (by omega)).1
      subst hs
      refine ⟨b, off, rfl, World.block_lt_of_cell? w ⟨b, off + 0, none⟩ (by have := (hi 0 (by omega)).1; rw [add_none] at this; exact this), fun j hj => ?_⟩
      have hj' : j < len0 := by simpa using hj
      have := (hi j (by omega)).1
      rw [add_none, hB j hj'] at this
      simpa using this
theorem putsOf {fuel : Nat} {cs : List Value} {y : DataW H × List MemPlace} (h : DataW.trod enc Try.prog w base spare held fuel 33 cs = some y) :
    ∃ (a : Option Addr) (n c : Nat) (l : List PutR), cs = [.slice a n c] ∧ Puts w a n l ∧ (∀ x ∈ l, (Lit.int .i64 x.page).wf = true) ∧ n ≤ Rows.uptoBulk y.1 := by
  rcases open_slice Try.underlying33 h with ⟨rfl, _⟩ | ⟨x, len0, cap0, m, n, D, Pl, rfl, _, hl, hm, hmm, hx, hi⟩
  · exact ⟨none, 0, 0, [], rfl, ⟨rfl, .inl rfl⟩, fun x hx => by simp at hx, Nat.zero_le _⟩
  · have hlm : len0 ≤ m := by rw [hmm]; split <;> omega
    have hb : ∀ i, i < len0 → ∃ q : PutR, w.cell? (x.add (i * 3)) = some (.int .i64 q.page) ∧ w.cell? (x.add (i * 3 + 1)) = some (.int .u8 (q.byte.toNat : Int)) ∧ w.cell? (x.add (i * 3 + 2)) = some (.bool q.short) ∧ (Lit.int .i64 q.page).wf = true := by
      intro i hi'
      obtain ⟨cs', h1, h2⟩ := hi i (by omega)
      rw [cells51] at h1
      obtain ⟨_, hlen, hcell⟩ := World.cells?_some h1
      obtain ⟨xs, k, hk, hxy, _, hxl, hfl⟩ := DataW.trod_struct Try.underlying51 h2
      match xs, hxl, cs', hlen with
      | [y0, y1, y2], _, [u0, u1, u2], _ =>
        have g0 := hfl 0 _ rfl
        have g1 := hfl 1 _ rfl
        have g2 := hfl 2 _ rfl
        obtain ⟨z0, q0, -, wf0⟩ := DataW.trod_int Try.underlying3 g0
        obtain ⟨z1, q1, -, wf1⟩ := DataW.trod_int Try.underlying5 g1
        obtain ⟨z2, q2, -⟩ := DataW.trod_bool Try.underlying4 g2
        simp [cells3] at q0
        simp [cells5] at q1
        simp [cells4] at q2
        subst q0 q1 q2
        have e0 := hcell 0 (by omega)
        have e1 := hcell 1 (by omega)
        have e2 := hcell 2 (by omega)
        rw [add_add] at e0 e1 e2
        have b1 := bounds_u8 wf1
        refine ⟨⟨z0, UInt8.ofNat z1.toNat, z2⟩, by simpa using e0, ?_, by simpa using e2, wf0⟩
        rw [e1]
        simp
        omega
    obtain ⟨q, hq⟩ := choose_lt hb
    refine ⟨some x, len0, cap0, (List.range len0).map q, rfl, ⟨by simp, ?_⟩, ?_, ?_⟩
    · by_cases h0 : len0 = 0
      · exact .inl h0
      · right
        obtain ⟨b, off, spot⟩ := x
        have hs : spot = none := by simpa [Addr.add] using World.cell?_spot (hq 0 (by omega)).1
        subst hs
        simp only [add_none] at hq
        refine ⟨b, off, rfl, World.block_lt_of_cell? w _ (hq 0 (by omega)).1, fun j hj => ?_⟩
        have hj' : j < len0 := by simpa using hj
        obtain ⟨k0, k1, k2, _⟩ := hq j hj'
        simp only [List.getElem_map, List.getElem_range]
        exact ⟨k0, by rw [Nat.add_assoc]; exact k1, by rw [Nat.add_assoc]; exact k2⟩
    · intro z hz
      obtain ⟨i, hi2, rfl⟩ := List.mem_map.1 hz
      exact (hq i (List.mem_range.1 hi2)).2.2.2
    · rw [hx]
      simp only [Rows.uptoBulk]
      have := bulk_length ((List.range len0).map D)
      simp only [List.length_map, List.length_range] at this
      omega
theorem openPutss {v : Value} {d : DataW H} {p : List MemPlace} (hv : Value.okWide Try.prog w r b0 22 v) (h : DataW.Trod enc Try.prog w base spare held 22 v d p) :
    ∃ (a : Option Addr) (n c : Nat) (l : List (List PutR)), Putss w a n l ∧ (∀ x ∈ l, x.length ≤ Rows.uptoBulk d) ∧ v = .slice a n c := by
  obtain ⟨a0, len0, cap0, rfl⟩ := okWide_slice Try.underlying22 hv
  obtain ⟨fuel, hf⟩ := h
  rcases open_slice1 Try.underlying22 cells33 hf with ⟨hcs, _⟩ | ⟨x, len, cap, m, n, V, D, Pl, hcs, _, hl, hm, hmm, hx, hi⟩
  · simp [Value.cells] at hcs
    obtain ⟨rfl, rfl, rfl⟩ := hcs
    exact ⟨none, 0, 0, [], ⟨rfl, .inl rfl⟩, fun x hx => by simp at hx, rfl⟩
  · simp [Value.cells] at hcs
    obtain ⟨rfl, rfl, rfl⟩ := hcs
    have hlm : len0 ≤ m := by rw [hmm]; split <;> omega
    have hb : ∀ i, i < len0 → ∃ q : List PutR, (∃ pa pn pc, V i = .slice pa pn pc ∧ Puts w pa pn q) ∧ (∀ x ∈ q, (Lit.int .i64 x.page).wf = true) ∧ q.length ≤ Rows.uptoBulk (D i) := fun i hi' => by
      obtain ⟨_, t⟩ := hi i (by omega)
      obtain ⟨pa, pn, pc, q, e, h1, h2, h3⟩ := putsOf t
      exact ⟨q, ⟨pa, pn, pc, by simpa using e, h1⟩, h2, by rw [h1.1]; exact h3⟩
    obtain ⟨B, hB⟩ := choose_lt hb
    refine ⟨some x, len0, cap0, (List.range len0).map B, ⟨by simp, ?_⟩, ?_, rfl⟩
    · by_cases h0 : len0 = 0
      · exact .inl h0
      · right
        obtain ⟨b, off, spot⟩ := x
        have hs : spot = none := by simpa [Addr.add] using World.cell?_spot (hi 0 (by omega)).1
        subst hs
        refine ⟨b, off, rfl, World.block_lt_of_cell? w ⟨b, off + 0, none⟩ (by have := (hi 0 (by omega)).1; rw [add_none] at this; exact this), fun j hj => ?_⟩
        have hj' : j < len0 := by simpa using hj
        obtain ⟨⟨pa, pn, pc, e, h1⟩, h2, _⟩ := hB j hj'
        have := (hi j (by omega)).1
        rw [add_none, e] at this
        simp only [List.getElem_map, List.getElem_range]
        exact ⟨pa, pn, pc, this, h1, h2⟩
    · intro z hz
      obtain ⟨i, hi2, rfl⟩ := List.mem_map.1 hz
      have hi3 := List.mem_range.1 hi2
      refine Nat.le_trans (hB i hi3).2.2 ?_
      have hd : d = .slice ((List.range len0).map D) ((List.range (m - len0)).map fun j => D (len0 + j)) := congrArg Prod.fst hx
      rw [hd]
      simp only [Rows.uptoBulk]
      have := bulk_part (List.mem_map.2 ⟨i, hi2, rfl⟩ : D i ∈ (List.range len0).map D)
      omega
end
end Go.Proofs.Ytbhebkjadgajeaa
