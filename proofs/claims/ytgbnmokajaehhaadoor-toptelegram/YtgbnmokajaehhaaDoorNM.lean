/- Arguments, opened: a slice of strings, and how long they are at most. -/
import Derived.Test.YtgbnmokajaehhaaDoorNL
import Derived.Test.YtgbnmokajaehhaaDoorND
import Derived.ProofKit
import Derived.OpenShut
import Derived.Lib.SmallJoins
import Derived.Laws.Cover2
import Derived.Deep.Slices
namespace Go.Proofs.YtgbnmokajaehhaaDoor
open Go.ChangeShapes Go.WideShapes Go.ChangeAt Go.RowKit Go.Joins Go.Deep
set_option linter.unusedVariables false
set_option maxRecDepth 100000
theorem add_none (b off n : Nat) : Addr.add ⟨b, off, none⟩ n = ⟨b, off + n, none⟩ := by
  unfold Addr.add
  by_cases h : n = 0
  · subst h; simp
  · simp [h]
theorem bulk_strs {H : Type} (D : Nat → DataW H) (S : Nat → ByteArray) (n : Nat) (h : ∀ i, i < n → D i = .lit (.string (S i).data.toList)) :
    Rows.uptoBulkAll ((List.range n).map D) = (((List.range n).map S).map (·.data.toList.length)).sum + n := by
  have key : ∀ l : List Nat, (∀ i ∈ l, i < n) → Rows.uptoBulkAll (l.map D) = ((l.map S).map (·.data.toList.length)).sum + l.length := by
    intro l
    induction l with
    | nil => intro _; rfl
    | cons i r ih =>
      intro hl
      simp only [List.map_cons, Rows.uptoBulkAll, List.sum_cons, List.length_cons]
      rw [ih (fun j hj => hl j (List.mem_cons_of_mem _ hj)), h i (hl i (List.mem_cons_self ..))]
      simp only [Rows.uptoBulk]
      omega
  have := key (List.range n) (fun i hi => List.mem_range.1 hi)
  rw [List.length_range] at this
  exact this
section
variable {H : Type} {enc : TypeId × Value → H} {w : World} {base : Nat} {spare : Nat → Bool} {held : Bool} {r : Reach} {b0 : Nat}
theorem openStrs {v : Value} {d : DataW H} {p : List MemPlace} (hv : Value.okWide Tryd.prog w r b0 22 v) (h : DataW.Trod enc Tryd.prog w base spare held 22 v d p) :
    ∃ (a : Option Addr) (len cap : Nat) (ps : List ByteArray), len ≤ 9223372036854775807 ∧ len ≤ cap ∧ Strs w a len ps ∧ (ps.map (·.data.toList.length)).sum + ps.length ≤ Rows.uptoBulk d ∧ v = .slice a len cap := by
  obtain ⟨a0, len0, cap0, rfl⟩ := okWide_slice Tryd.underlying22 hv
  obtain ⟨fuel, hf⟩ := h
  rcases open_slice1 Tryd.underlying22 cells9 hf with ⟨hcs, hx⟩ | ⟨x, l, c, m, n, V, D, Pl, hcs, _, hl, hm, hmm, hx, hi⟩
  · simp [Value.cells] at hcs
    obtain ⟨rfl, rfl, rfl⟩ := hcs
    exact ⟨none, 0, 0, [], by omega, Nat.le_refl _, ⟨rfl, .inl rfl⟩, Nat.zero_le _, rfl⟩
  · simp [Value.cells] at hcs
    obtain ⟨rfl, rfl, rfl⟩ := hcs
    have hlm : len0 ≤ m := by rw [hmm]; split <;> omega
    unfold maxLen at hm
    have hb : ∀ i, i < len0 → ∃ s : ByteArray, V i = .string s ∧ D i = .lit (.string s.data.toList) := fun i hi' => by
      obtain ⟨_, t⟩ := hi i (by omega)
      obtain ⟨s, e, e2, _⟩ := DataW.trod_string Tryd.underlying9 t
      exact ⟨s, by simpa using e, by simpa using congrArg Prod.fst e2⟩
    obtain ⟨S, hS⟩ := choose_lt (α := ByteArray) hb
    refine ⟨some x, len0, cap0, (List.range len0).map S, by omega, hl, ⟨by simp, ?_⟩, ?_, rfl⟩
    · by_cases h0 : len0 = 0
      · exact .inl h0
      · right
        obtain ⟨b, off, spot⟩ := x
        have hs : spot = none := by simpa [Addr.add] using World.cell?_spot (hi 0 (by omega)).1
        subst hs
        refine ⟨b, off, rfl, World.block_lt_of_cell? w ⟨b, off + 0, none⟩ (by have := (hi 0 (by omega)).1; rw [add_none] at this; exact this), fun j hj => ?_⟩
        have := (hi j (by omega)).1
        rw [add_none, (hS j hj).1] at this
        simpa [hj] using this
    · have hd : d = .slice ((List.range len0).map D) ((List.range (m - len0)).map fun j => D (len0 + j)) := congrArg Prod.fst hx
      rw [hd]
      simp only [Rows.uptoBulk]
      rw [bulk_strs D S len0 (fun i hi => (hS i hi).2)]
      simp only [List.length_map, List.length_range]
      omega
end
end Go.Proofs.YtgbnmokajaehhaaDoor
