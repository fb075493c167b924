/- Arguments, opened: slices of pages to be written. -/
import Derived.Test.YtplngodilalbhaaOpen2
import Derived.Test.YtplngodilalbhaaH5
namespace Go.Proofs.Ytplngodilalbhaa
open Go.ChangeShapes Go.WideShapes Go.ChangeAt Go.RowKit Go.Joins Go.Deep
set_option maxRecDepth 100000
section
variable {H : Type} {enc : TypeId × Value → H} {w : World} {base : Nat} {spare : Nat → Bool} {held : Bool} {r : Reach} {b0 : Nat}
theorem cells77 : Try.prog.cellsOf 77 = 3 := by kernel_rfl
theorem openHomes {v : Value} {d : DataW H} {p : List MemPlace} (hv : Value.okWide Try.prog w r b0 74 v) (h : DataW.Trod enc Try.prog w base spare held 74 v d p) :
    ∃ (a : Option Addr) (n c : Nat) (l : List HomeR), n ≤ maxLen ∧ Homes (fun k => k < w.heap.size) w a n l ∧ v = .slice a n c := by
  obtain ⟨a0, len0, cap0, rfl⟩ := okWide_slice Try.underlying74 hv
  obtain ⟨fuel, hf⟩ := h
  rcases open_slice Try.underlying74 hf with ⟨hcs, _⟩ | ⟨x, len, cap, m, n, D, Pl, hcs, _, hl, hm, hmm, _, hi⟩
  · simp [Value.cells] at hcs
    obtain ⟨rfl, rfl, rfl⟩ := hcs
    exact ⟨none, 0, 0, [], by unfold maxLen; omega, ⟨rfl, .inl rfl⟩, rfl⟩
  · simp [Value.cells] at hcs
    obtain ⟨rfl, rfl, rfl⟩ := hcs
    have hlm : len0 ≤ m := by rw [hmm]; split <;> omega
    have hb : ∀ i, i < len0 → ∃ q : HomeR, w.cell? (x.add (i * 3)) = some (.int .u8 (q.page.toNat : Int)) ∧ w.cell? (x.add (i * 3 + 1)) = some (.int .u8 (q.byte.toNat : Int)) ∧ w.cell? (x.add (i * 3 + 2)) = some (.bool q.fl) := by
      intro i hi'
      obtain ⟨cs', h1, h2⟩ := hi i (by omega)
      rw [cells77] at h1
      obtain ⟨_, hlen, hcell⟩ := World.cells?_some h1
      obtain ⟨xs, k, hk, hxy, _, hxl, hfl⟩ := DataW.trod_struct Try.underlying77 h2
      match xs, hxl, cs', hlen with
      | [y0, y1, y2], _, [u0, u1, u2], _ =>
        have g0 := hfl 0 _ rfl
        have g1 := hfl 1 _ rfl
        have g2 := hfl 2 _ rfl
        obtain ⟨z0, q0, -, wf0⟩ := DataW.trod_int Try.underlying5 g0
        obtain ⟨z1, q1, -, wf1⟩ := DataW.trod_int Try.underlying5 g1
        obtain ⟨z2, q2, -⟩ := DataW.trod_bool Try.underlying4 g2
        simp [cells5] at q0 q1
        simp [cells4] at q2
        subst q0 q1 q2
        have e0 := hcell 0 (by omega)
        have e1 := hcell 1 (by omega)
        have e2 := hcell 2 (by omega)
        rw [add_add] at e0 e1 e2
        have b0 := bounds_u8 wf0
        have b1 := bounds_u8 wf1
        refine ⟨⟨UInt8.ofNat z0.toNat, UInt8.ofNat z1.toNat, z2⟩, ?_, ?_, by simpa using e2⟩
        · rw [show i * 3 + 0 = i * 3 from rfl] at e0
          rw [e0]
          simp
          omega
        · rw [e1]
          simp
          omega
    obtain ⟨q, hq⟩ := choose_lt hb
    refine ⟨some x, len0, cap0, (List.range len0).map q, by omega, ⟨by simp, ?_⟩, rfl⟩
    by_cases h0 : len0 = 0
    · exact .inl h0
    · right
      obtain ⟨b, off, spot⟩ := x
      have hs : spot = none := by simpa [Addr.add] using World.cell?_spot (hq 0 (by omega)).1
      subst hs
      simp only [add_none] at hq
      refine ⟨b, off, rfl, World.block_lt_of_cell? w _ (hq 0 (by omega)).1, fun j hj => ?_⟩
      have hj' : j < len0 := by simpa using hj
      obtain ⟨k0, k1, k2⟩ := hq j hj'
      simp only [List.getElem_map, List.getElem_range]
      exact ⟨k0, by rw [Nat.add_assoc]; exact k1, by rw [Nat.add_assoc]; exact k2⟩
end
end Go.Proofs.Ytplngodilalbhaa
