/- A slice of float64, opened. -/
import Derived.Test.YtmhfbgcfagfmbaaOpen
import Derived.Test.YtmhfbgcfagfmbaaFF
import Derived.Deep.Slices
namespace Go.Proofs.Ytmhfbgcfagfmbaa
open Go.ChangeShapes Go.WideShapes Go.ChangeAt Go.RowKit Go.Joins Go.Deep
section
variable {H : Type} {enc : TypeId × Value → H} {w : World} {base : Nat} {spare : Nat → Bool} {held : Bool} {r : Reach} {b0 : Nat}
theorem cells45 : Try.prog.cellsOf 45 = 1 := by kernel_rfl
theorem trod_f64 {n : Nat} {v : Value} {y : DataW H × List MemPlace} (h : DataW.trod enc Try.prog w base spare held n 45 [v] = some y) : ∃ b : Nat, v = .float .f64 b ∧ Fit b := by
  cases n with
  | zero => simp [DataW.trod] at h
  | succ n =>
    simp only [DataW.trod, Try.underlying45] at h
    cases v with
    | float k b =>
      cases k with
      | f64 =>
        by_cases hw : (Lit.float .f64 b).wf = true
        · exact ⟨b, rfl, by simpa [Lit.wf, Fit] using hw⟩
        · simp [hw] at h
      | f32 => simp at h
    | _ => simp at h
def bitsOf : Value → Nat
  | .float _ b => b
  | _ => 0
theorem openFloats {v : Value} {d : DataW H} {p : List MemPlace} (hv : Value.okWide Try.prog w r b0 51 v) (h : DataW.Trod enc Try.prog w base spare held 51 v d p) :
    ∃ (a : Option Addr) (len cap : Nat) (zs : List Nat), len ≤ 9223372036854775807 ∧ Flts w a len zs ∧ v = .slice a len cap := by
  obtain ⟨a0, len0, cap0, rfl⟩ := okWide_slice Try.underlying51 hv
  obtain ⟨fuel, hf⟩ := h
  rcases open_slice Try.underlying51 hf with ⟨hcs, _⟩ | ⟨x, l, c, m, n, D, Pl, hcs, _, hl, hm, hmm, _, hi⟩
  · simp [Value.cells] at hcs
    obtain ⟨rfl, rfl, rfl⟩ := hcs
    exact ⟨none, 0, 0, [], by omega, ⟨rfl, by simp, .inl rfl⟩, rfl⟩
  · simp [Value.cells] at hcs
    obtain ⟨rfl, rfl, rfl⟩ := hcs
    have hlm : len0 ≤ m := by rw [hmm]; split <;> omega
    unfold maxLen at hm
    rw [cells45] at hi
    have each : ∀ i, i < m → ∃ b : Nat, w.cell? (x.add i) = some (.float .f64 b) ∧ Fit b := by
      intro i him
      obtain ⟨cs', hc, ht⟩ := hi i him
      obtain ⟨_, hcl, hat⟩ := World.cells?_some hc
      match cs', hcl with
      | [c0], _ =>
        obtain ⟨b, rfl, fb⟩ := trod_f64 ht
        have := hat 0 (by omega)
        rw [Nat.mul_one] at this
        refine ⟨b, ?_, fb⟩
        simpa [Addr.add] using this
    refine ⟨some x, len0, cap0, (List.range len0).map fun i => bitsOf ((w.cell? (x.add i)).getD .nilIface), by omega, ⟨by simp, ?_, ?_⟩, rfl⟩
    · intro z hz
      simp only [List.mem_map, List.mem_range] at hz
      obtain ⟨i, hi', rfl⟩ := hz
      obtain ⟨b, e, fb⟩ := each i (by omega)
      rw [e]; exact fb
    · by_cases h0 : len0 = 0
      · exact .inl h0
      · right
        obtain ⟨b, off, spot⟩ := x
        obtain ⟨v0, e0, _⟩ := each 0 (by omega)
        have hs : spot = none := by simpa [Addr.add] using World.cell?_spot e0
        subst hs
        refine ⟨b, off, rfl, fun j hj => ?_⟩
        obtain ⟨v1, e1, _⟩ := each j (by omega)
        have ea : Addr.add ⟨b, off, none⟩ j = ⟨b, off + j, none⟩ := by
          unfold Addr.add
          by_cases h : j = 0
          · subst h; simp
          · simp [h]
        rw [ea] at e1
        simp only [List.getD_eq_getElem?_getD, List.getElem?_map, List.getElem?_range hj, Option.map_some, Option.getD_some, ea, e1, bitsOf]
end
end Go.Proofs.Ytmhfbgcfagfmbaa
