/- A slice of int64, opened, with its size. -/
import Derived.Test.YtmhfbgcfagfmbaaOpen2
import Derived.SizedLaws
namespace Go.Proofs.Ytmhfbgcfagfmbaa
open Go.ChangeShapes Go.WideShapes Go.ChangeAt Go.RowKit Go.Joins Go.Deep
section
variable {H : Type} {enc : TypeId × Value → H} {w : World} {base : Nat} {held : Bool} {r : Reach} {b0 : Nat}
theorem bytes2 : Try.prog.bytesOf 2 = 8 := by kernel_rfl
theorem openIntsR {v : Value} {d : DataW H} {p : List MemPlace} (hv : Value.okWide Try.prog w r b0 28 v) (h : DataW.Trod enc Try.prog w base (fun _ => true) held 28 v d p)
    (hsz : ∀ el sp, d = .slice el sp → (el.length + sp.length) * 8 ≤ 140737488351232) :
    ∃ (a : Option Addr) (len cap : Nat) (zs : List Int), len * 8 ≤ 140737488351232 ∧ len ≤ cap ∧ Ints w a len zs ∧ v = .slice a len cap := by
  obtain ⟨a0, len0, cap0, rfl⟩ := okWide_slice Try.underlying28 hv
  have h' := h
  obtain ⟨fuel, hf⟩ := h
  rcases open_ints Try.underlying28 Try.underlying2 (by kernel_rfl) hf with ⟨hcs, _⟩ | ⟨x, l, c, zs, hcs, _, hl, hm, hz, hx, hcell, hwz⟩
  · simp [Value.cells] at hcs
    obtain ⟨rfl, rfl, rfl⟩ := hcs
    exact ⟨none, 0, 0, [], by omega, by omega, ⟨rfl, .inl rfl⟩, rfl⟩
  · simp [Value.cells] at hcs
    obtain ⟨rfl, rfl, rfl⟩ := hcs
    simp at hz
    simp only [Prod.mk.injEq] at hx
    have hs := hsz _ _ hx.1
    simp only [lits, List.length_map, List.length_take, List.length_drop] at hs
    obtain ⟨a, len, cap, zs', _, hI, e⟩ := openInts hv h'
    simp only [Value.slice.injEq] at e
    obtain ⟨rfl, rfl, rfl⟩ := e
    exact ⟨_, _, _, zs', by omega, hl, hI, rfl⟩
end
end Go.Proofs.Ytmhfbgcfagfmbaa
