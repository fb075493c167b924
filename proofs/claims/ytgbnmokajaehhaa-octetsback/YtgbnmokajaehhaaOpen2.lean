/- Arguments, opened: slices of acts, of strings, of uint64. -/
import Derived.Test.YtgbnmokajaehhaaOpen
import Derived.Test.YtgbnmokajaehhaaOH
import Derived.Deep.SlicePairs
import Derived.Deep.Slices
import Derived.SliceStrings
namespace Go.Proofs.Ytgbnmokajaehhaa
open Go.ChangeShapes Go.WideShapes Go.ChangeAt Go.RowKit Go.Joins Go.Deep
/-- A slice that reads as these numbers. -/
def Nums (w : World) (a : Option Addr) (n : Nat) (ns : List Nat) : Prop :=
  ns.length = n ∧ (∀ x ∈ ns, x < 18446744073709551616) ∧ (n = 0 ∨ ∃ b off, a = some ⟨b, off, none⟩ ∧ ∀ j, j < n → w.cell? ⟨b, off + j, none⟩ = some (.int .u64 (ns.getD j 0 : Nat)))
section
variable {H : Type} {enc : TypeId × Value → H} {w : World} {base : Nat} {spare : Nat → Bool} {held : Bool} {r : Reach} {b0 : Nat}
theorem add_none (b off n : Nat) : Addr.add ⟨b, off, none⟩ n = ⟨b, off + n, none⟩ := by
  unfold Addr.add
  by_cases h : n = 0
  · subst h; simp
  · simp [h]
theorem cells43 : Try.prog.cellsOf 43 = 2 := by kernel_rfl
theorem openActs {v : Value} {d : DataW H} {p : List MemPlace} (hv : Value.okWide Try.prog w r b0 37 v) (h : DataW.Trod enc Try.prog w base spare held 37 v d p) :
    ∃ (a : Option Addr) (len cap : Nat) (cs : List (Int × Int)), len ≤ 9223372036854775807 ∧ Acts w a len cs ∧ v = .slice a len cap := by
  obtain ⟨a0, len0, cap0, rfl⟩ := okWide_slice Try.underlying37 hv
  obtain ⟨fuel, hf⟩ := h
  rcases open_slice_pairs Try.underlying37 Try.underlying43 cells43 (by rfl) (by rfl) (by kernel_rfl) (by kernel_rfl) hf with ⟨hcs, _⟩ | ⟨x, l, c, m, n, V0, V1, D0, D1, P0, P1, hcs, _, hl, hm, hmm, _, hi⟩
  · simp [Value.cells] at hcs
    obtain ⟨rfl, rfl, rfl⟩ := hcs
    exact ⟨none, 0, 0, [], by omega, ⟨rfl, .inl rfl⟩, rfl⟩
  · simp [Value.cells] at hcs
    obtain ⟨rfl, rfl, rfl⟩ := hcs
    have hlm : len0 ≤ m := by rw [hmm]; split <;> omega
    unfold maxLen at hm
    refine ⟨some x, len0, cap0, (List.range len0).map fun i => (intOf (V0 i), intOf (V1 i)), by omega, ⟨by simp, ?_⟩, rfl⟩
    by_cases h0 : len0 = 0
    · exact .inl h0
    · right
      obtain ⟨b, off, spot⟩ := x
      have hs : spot = none := by simpa [Addr.add] using World.cell?_spot (hi 0 (by omega)).1
      subst hs
      refine ⟨b, off, rfl, fun j hj => ?_⟩
      obtain ⟨g0, g1, t0, t1⟩ := hi j (by omega)
      rw [add_none] at g0 g1
      obtain ⟨u, q0, _, _⟩ := DataW.trod_int Try.underlying3 t0
      obtain ⟨z, q1, _, _⟩ := DataW.trod_int Try.underlying3 t1
      simp at q0 q1
      rw [q0] at g0
      rw [q1] at g1
      refine ⟨?_, ?_⟩
      · simpa [hj, q0, intOf] using g0
      · simpa [hj, q1, intOf, Nat.add_assoc] using g1
theorem openStrs {v : Value} {d : DataW H} {p : List MemPlace} (hv : Value.okWide Try.prog w r b0 33 v) (h : DataW.Trod enc Try.prog w base spare held 33 v d p) :
    ∃ (a : Option Addr) (len cap : Nat) (ps : List ByteArray), len ≤ 9223372036854775807 ∧ Strs w a len ps ∧ (∀ p ∈ ps, p.size ≤ maxLen) ∧ v = .slice a len cap := by
  obtain ⟨a0, len0, cap0, rfl⟩ := okWide_slice Try.underlying33 hv
  obtain ⟨fuel, hf⟩ := h
  rcases open_strings Try.underlying33 Try.underlying9 (by kernel_rfl) hf with ⟨hcs, _⟩ | ⟨x, l, c, ss, hcs, _, hl, hm, hz, _, hcell, hws⟩
  · simp [Value.cells] at hcs
    obtain ⟨rfl, rfl, rfl⟩ := hcs
    exact ⟨none, 0, 0, [], by omega, ⟨rfl, .inl rfl⟩, by simp, rfl⟩
  · simp [Value.cells] at hcs
    obtain ⟨rfl, rfl, rfl⟩ := hcs
    have hlz : len0 ≤ ss.length := by rw [hz]; split <;> omega
    unfold maxLen at hm
    refine ⟨some x, len0, cap0, ss.take len0, by omega, ⟨by simp; omega, ?_⟩, ?_, rfl⟩
    · by_cases h0 : len0 = 0
      · exact .inl h0
      · right
        obtain ⟨b, off, spot⟩ := x
        have hs : spot = none := by simpa [Addr.add] using World.cell?_spot (hcell 0 (by omega))
        subst hs
        refine ⟨b, off, rfl, fun j hj => ?_⟩
        have := hcell j (by omega)
        rw [add_none] at this
        simpa [hj] using this
    · exact fun p hp => hws p (List.mem_of_mem_take hp)
theorem openNums {v : Value} {d : DataW H} {p : List MemPlace} (hv : Value.okWide Try.prog w r b0 53 v) (h : DataW.Trod enc Try.prog w base spare held 53 v d p) :
    ∃ (a : Option Addr) (len cap : Nat) (ns : List Nat), len ≤ 9223372036854775807 ∧ Nums w a len ns ∧ v = .slice a len cap := by
  obtain ⟨a0, len0, cap0, rfl⟩ := okWide_slice Try.underlying53 hv
  obtain ⟨fuel, hf⟩ := h
  rcases open_ints Try.underlying53 Try.underlying22 (by kernel_rfl) hf with ⟨hcs, _⟩ | ⟨x, l, c, zs, hcs, _, hl, hm, hz, _, hcell, hwz⟩
  · simp [Value.cells] at hcs
    obtain ⟨rfl, rfl, rfl⟩ := hcs
    exact ⟨none, 0, 0, [], by omega, ⟨rfl, by simp, .inl rfl⟩, rfl⟩
  · simp [Value.cells] at hcs
    obtain ⟨rfl, rfl, rfl⟩ := hcs
    have hlz : len0 ≤ zs.length := by rw [hz]; split <;> omega
    unfold maxLen at hm
    have hb : ∀ z ∈ zs, 0 ≤ z ∧ z < 18446744073709551616 := fun z hz => by have := bounds_u64 (hwz z hz); omega
    refine ⟨some x, len0, cap0, (zs.take len0).map Int.toNat, by omega, ⟨by simp; omega, ?_, ?_⟩, rfl⟩
    · intro y hy
      obtain ⟨z, hz, rfl⟩ := List.mem_map.1 hy
      have := hb z (List.mem_of_mem_take hz)
      omega
    · by_cases h0 : len0 = 0
      · exact .inl h0
      · right
        obtain ⟨b, off, spot⟩ := x
        have hs : spot = none := by simpa [Addr.add] using World.cell?_spot (hcell 0 (by omega))
        subst hs
        refine ⟨b, off, rfl, fun j hj => ?_⟩
        have := hcell j (by omega)
        rw [add_none] at this
        rw [this]
        have hj' : j < zs.length := by omega
        have e : zs.getD j 0 = zs[j] := by simp [hj']
        have hz0 := hb zs[j] (List.getElem_mem hj')
        rw [e]
        simp [hj, hj']
        omega
end
end Go.Proofs.Ytgbnmokajaehhaa
