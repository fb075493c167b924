/- Arguments, opened: an int, a string, an item, a node. -/
import Derived.Test.YtnjpijihjifkfaaRows
import Derived.Test.YtnjpijihjifkfaaT1
import Derived.WalkKit
import Derived.ProofKit
import Derived.OpenShut
import Derived.Lib.SmallJoins
import Derived.Laws.Cover2
import Derived.Deep.Slices
namespace Go.Proofs.Ytnjpijihjifkfaa
open Go.ChangeShapes Go.WideShapes Go.ChangeAt Go.RowKit Go.Joins Go.Deep
open Go.ChangeMaps (open_string)
set_option linter.unusedVariables false
set_option maxRecDepth 100000
section
variable {H : Type} {enc : TypeId × Value → H} {w : World} {base : Nat} {spare : Nat → Bool} {held : Bool} {r : Reach} {b0 : Nat}
theorem openI64 {t : TypeId} {v : Value} {d : DataW H} {p : List MemPlace} (ht : Try.prog.underlying t = some (.int .i64)) (hv : Value.okWide Try.prog w r b0 t v) (h : DataW.Trod enc Try.prog w base spare held t v d p) :
    ∃ a : Int, (-9223372036854775808 ≤ a ∧ a ≤ 9223372036854775807) ∧ v = .int .i64 a := by
  obtain ⟨a, rfl, rfl, rfl, wf⟩ := open_int ht hv h
  exact ⟨a, bounds_i64 wf, rfl⟩
theorem openStr {t : TypeId} {v : Value} {d : DataW H} {p : List MemPlace} (ht : Try.prog.underlying t = some .string) (hv : Value.okWide Try.prog w r b0 t v) (h : DataW.Trod enc Try.prog w base spare held t v d p) :
    ∃ s : ByteArray, s.size ≤ 9223372036854775807 ∧ v = .string s := by
  obtain ⟨s, rfl, rfl, rfl, hs⟩ := open_string ht hv h
  exact ⟨s, hs, rfl⟩
theorem cells3 : Try.prog.cellsOf 3 = 1 := by kernel_rfl
theorem cells9 : Try.prog.cellsOf 9 = 1 := by kernel_rfl
theorem cells22 : Try.prog.cellsOf 22 = 1 := by kernel_rfl
theorem cells23 : Try.prog.cellsOf 23 = 1 := by kernel_rfl
theorem cells44 : Try.prog.cellsOf 44 = 2 := by kernel_rfl
theorem cells25 : Try.prog.cellsOf 25 = 2 := by kernel_rfl
theorem add_none (b off n : Nat) : Addr.add ⟨b, off, none⟩ n = ⟨b, off + n, none⟩ := by
  unfold Addr.add
  by_cases h : n = 0
  · subst h; simp
  · simp [h]
theorem openItem {v : Value} {d : DataW H} {p : List MemPlace} (hv : Value.okWide Try.prog w r b0 44 v) (h : DataW.Trod enc Try.prog w base spare held 44 v d p) :
    ∃ a b : ByteArray, (a.size ≤ 9223372036854775807 ∧ b.size ≤ 9223372036854775807) ∧ v = .agg #[.string a, .string b] := by
  obtain ⟨cs, rfl, hsz⟩ := okWide_struct (show Try.prog.underlying 44 = _ from by first | exact Try.underlying44 | kernel_rfl) hv
  rw [cells44] at hsz
  obtain ⟨l⟩ := cs
  match l, hsz with
  | [c0, c1], _ =>
    obtain ⟨fuel, hf⟩ := h
    obtain ⟨xs, n, _, _, _, hlen, hx⟩ := DataW.trod_struct Try.underlying44 hf
    match xs, hlen with
    | [y0, y1], _ =>
      have g0 := hx 0 _ rfl
      have g1 := hx 1 _ rfl
      obtain ⟨a0, q0, -, w0⟩ := DataW.trod_string Try.underlying9 g0
      obtain ⟨a1, q1, -, w1⟩ := DataW.trod_string Try.underlying9 g1
      simp [cells9, Value.cells] at q0
      simp [cells9, Value.cells] at q1
      subst q0 q1
      exact ⟨a0, a1, ⟨w0, w1⟩, rfl⟩
theorem add_add2 (x : Addr) (i j : Nat) : (x.add i).add j = x.add (i + j) := by
  unfold Addr.add
  by_cases h : j = 0
  · subst h; simp
  · by_cases h2 : i = 0
    · subst h2; simp
    · have : i + j ≠ 0 := by omega
      simp [h, h2, Nat.add_assoc]
theorem itsOf {fuel : Nat} {cs : List Value} {y : DataW H × List MemPlace} (h : DataW.trod enc Try.prog w base spare held fuel 22 cs = some y) :
    ∃ (a : Option Addr) (n c : Nat) (I : List It), cs = [.slice a n c] ∧ n ≤ c ∧ n ≤ 9223372036854775807 ∧ Its w a n I ∧ ∀ k, k < n → (kq I k).size ≤ 9223372036854775807 ∧ (vq I k).size ≤ 9223372036854775807 := by
  rcases open_slice Try.underlying22 h with ⟨rfl, _⟩ | ⟨x, len0, cap0, m, n, D, Pl, rfl, _, hl, hm, hmm, hx, hi⟩
  · exact ⟨none, 0, 0, [], rfl, Nat.le_refl _, by omega, ⟨rfl, .inl rfl⟩, fun k hk => by omega⟩
  · have hlm : len0 ≤ m := by rw [hmm]; split <;> omega
    unfold maxLen at hm
    have hb : ∀ i, i < len0 → ∃ q : It, w.cell? (x.add (i * 2)) = some (.string q.1) ∧ w.cell? (x.add (i * 2 + 1)) = some (.string q.2) ∧ q.1.size ≤ 9223372036854775807 ∧ q.2.size ≤ 9223372036854775807 := by
      intro i hi'
      obtain ⟨cs', h1, h2⟩ := hi i (by omega)
      rw [cells44] at h1
      obtain ⟨_, hlen, hcell⟩ := World.cells?_some h1
      obtain ⟨xs, k, hk, hxy, _, hxl, hfl⟩ := DataW.trod_struct Try.underlying44 h2
      match xs, hxl, cs', hlen with
      | [y0, y1], _, [u0, u1], _ =>
        have g0 := hfl 0 _ rfl
        have g1 := hfl 1 _ rfl
        obtain ⟨z0, q0, -, w0⟩ := DataW.trod_string Try.underlying9 g0
        obtain ⟨z1, q1, -, w1⟩ := DataW.trod_string Try.underlying9 g1
        simp [cells9] at q0
        simp [cells9] at q1
        subst q0 q1
        have e0 := hcell 0 (by omega)
        have e1 := hcell 1 (by omega)
        rw [add_add2] at e0 e1
        exact ⟨(z0, z1), by simpa using e0, by simpa using e1, w0, w1⟩
    obtain ⟨q, hq⟩ := choose_lt hb
    have hk : ∀ j, j < len0 → kq ((List.range len0).map q) j = (q j).1 ∧ vq ((List.range len0).map q) j = (q j).2 := by
      intro j hj
      unfold kq vq
      rw [List.getD_eq_getElem?_getD]
      simp [hj]
    refine ⟨some x, len0, cap0, (List.range len0).map q, rfl, hl, by omega, ⟨by simp, ?_⟩, ?_⟩
    · by_cases h0 : len0 = 0
      · exact .inl h0
      · right
        obtain ⟨b, off, spot⟩ := x
        have hs : spot = none := by simpa [Addr.add] using World.cell?_spot (hq 0 (by omega)).1
        subst hs
        simp only [add_none] at hq
        refine ⟨b, off, rfl, World.block_lt_of_cell? w _ (hq 0 (by omega)).1, fun j hj => ?_⟩
        obtain ⟨k0, k1, _⟩ := hq j hj
        rw [(hk j hj).1, (hk j hj).2]
        exact ⟨k0, by rw [Nat.add_assoc]; exact k1⟩
    · intro j hj
      rw [(hk j hj).1, (hk j hj).2]
      exact (hq j hj).2.2
theorem kdsOf {fuel : Nat} {cs : List Value} {y : DataW H × List MemPlace} (h : DataW.trod enc Try.prog w base spare held fuel 23 cs = some y) :
    ∃ (a : Option Addr) (n c : Nat) (K : List Int), cs = [.slice a n c] ∧ n ≤ c ∧ n ≤ 9223372036854775807 ∧ Kds w a n K ∧ ∀ z ∈ K, -9223372036854775808 ≤ z ∧ z ≤ 9223372036854775807 := by
  rcases open_slice1 Try.underlying23 cells3 h with ⟨rfl, _⟩ | ⟨x, len0, cap0, m, n, V, D, Pl, rfl, _, hl, hm, hmm, hx, hi⟩
  · exact ⟨none, 0, 0, [], rfl, Nat.le_refl _, by omega, ⟨rfl, .inl rfl⟩, fun z hz => by cases hz⟩
  · have hlm : len0 ≤ m := by rw [hmm]; split <;> omega
    unfold maxLen at hm
    have hb : ∀ i, i < len0 → ∃ z : Int, V i = .int .i64 z ∧ (-9223372036854775808 ≤ z ∧ z ≤ 9223372036854775807) := fun i hi' => by
      obtain ⟨_, t⟩ := hi i (by omega)
      obtain ⟨z, e, _, wf⟩ := DataW.trod_int Try.underlying3 t
      exact ⟨z, by simpa using e, bounds_i64 wf⟩
    obtain ⟨Z, hZ⟩ := choose_lt hb
    refine ⟨some x, len0, cap0, (List.range len0).map Z, rfl, hl, by omega, ⟨by simp, ?_⟩, ?_⟩
    · by_cases h0 : len0 = 0
      · exact .inl h0
      · right
        obtain ⟨b, off, spot⟩ := x
        have hs : spot = none := by simpa [Addr.add] using World.cell?_spot (hi 0 (by omega)).1
        subst hs
        refine ⟨b, off, rfl, World.block_lt_of_cell? w ⟨b, off + 0, none⟩ (by have := (hi 0 (by omega)).1; rw [add_none] at this; exact this), fun j hj => ?_⟩
        have := (hi j (by omega)).1
        rw [add_none, (hZ j hj).1] at this
        rw [this, List.getD_eq_getElem?_getD]
        simp [hj]
    · intro z hz
      obtain ⟨i, hi2, rfl⟩ := List.mem_map.1 hz
      exact (hZ i (List.mem_range.1 hi2)).2
/-- A node that came in. -/
structure NodeIn (w : World) (a : Option Addr) (n c : Nat) (ka : Option Addr) (kn kc : Nat) (I : List It) (K : List Int) : Prop where
  its : Its w a n I
  kds : Kds w ka kn K
  nc : n ≤ c
  kc : kn ≤ kc
  hn : n ≤ 9223372036854775807
  hkn : kn ≤ 9223372036854775807
  hl : ∀ k, k < n → (kq I k).size ≤ 9223372036854775807 ∧ (vq I k).size ≤ 9223372036854775807
  hk : ∀ z ∈ K, -9223372036854775808 ≤ z ∧ z ≤ 9223372036854775807
theorem openNode {v : Value} {d : DataW H} {p : List MemPlace} (hv : Value.okWide Try.prog w r b0 25 v) (h : DataW.Trod enc Try.prog w base spare held 25 v d p) :
    ∃ (a : Option Addr) (n c : Nat) (ka : Option Addr) (kn kc : Nat) (I : List It) (K : List Int), NodeIn w a n c ka kn kc I K ∧ v = .agg #[.slice a n c, .slice ka kn kc] := by
  obtain ⟨cs, rfl, hsz⟩ := okWide_struct (show Try.prog.underlying 25 = _ from by first | exact Try.underlying25 | kernel_rfl) hv
  rw [cells25] at hsz
  obtain ⟨l⟩ := cs
  match l, hsz with
  | [c0, c1], _ =>
    obtain ⟨fuel, hf⟩ := h
    obtain ⟨xs, n, _, _, _, hlen, hx⟩ := DataW.trod_struct Try.underlying25 hf
    match xs, hlen with
    | [y0, y1], _ =>
      have g0 := hx 0 _ rfl
      have g1 := hx 1 _ rfl
      obtain ⟨a, n, c, I, q0, h1, h2, h3, h4⟩ := itsOf g0
      obtain ⟨ka, kn, kc, K, q1, k1, k2, k3, k4⟩ := kdsOf g1
      simp [cells22, Value.cells] at q0
      simp [cells23, Value.cells] at q1
      subst q0 q1
      exact ⟨a, n, c, ka, kn, kc, I, K, ⟨h3, k3, h1, k1, h2, k2, h4, k4⟩, rfl⟩
end
end Go.Proofs.Ytnjpijihjifkfaa
