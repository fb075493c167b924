/- Arguments, opened: slices of bool, of acts. -/
import Derived.Test.YtplngodilalbhaaOpen
import Derived.Test.YtplngodilalbhaaD4
import Derived.Deep.Slices
namespace Go.Proofs.Ytplngodilalbhaa
open Go.ChangeShapes Go.WideShapes Go.ChangeAt Go.RowKit Go.Joins Go.Deep
set_option maxRecDepth 100000
/-- An act. -/
structure ActR where
  kind : Int
  n : Int
  byte : UInt8
  short : Bool
  ka : Option Addr
  kn : Nat
  kc : Nat
  ks : List Bool
instance : Inhabited ActR := ⟨⟨0, 0, 0, false, none, 0, 0, []⟩⟩
/-- The act at block b. -/
structure ActAt (K : Nat → Prop) (w : World) (b off : Nat) (r : ActR) : Prop where
  c0 : w.cell? ⟨b, off, none⟩ = some (.int .i64 r.kind)
  c1 : w.cell? ⟨b, off + 1, none⟩ = some (.int .i64 r.n)
  c2 : w.cell? ⟨b, off + 2, none⟩ = some (.int .u8 (r.byte.toNat : Int))
  c3 : w.cell? ⟨b, off + 3, none⟩ = some (.bool r.short)
  c4 : w.cell? ⟨b, off + 4, none⟩ = some (.slice r.ka r.kn r.kc)
  keep : Bools K w r.ka r.kn r.ks
  hi : r.n ≤ 9223372036854775807
/-- Acts in memory. -/
def Acts (K : Nat → Prop) (w : World) (a : Option Addr) (n : Nat) (l : List ActR) : Prop :=
  l.length = n ∧ (n = 0 ∨ ∃ b off, a = some ⟨b, off, none⟩ ∧ K b ∧ ∀ j (hj : j < l.length), ActAt K w b (off + j * 5) l[j])
theorem ActAt.keep' {K : Nat → Prop} {w w1 : World} {b off : Nat} {r : ActR} (h : ActAt K w b off r) (hb : K b) (hk : Keep K w w1) : ActAt K w1 b off r :=
  ⟨(World.cell?_of_block (a := ⟨b, off, none⟩) (hk.block b hb)).trans h.c0, (World.cell?_of_block (a := ⟨b, off + 1, none⟩) (hk.block b hb)).trans h.c1, (World.cell?_of_block (a := ⟨b, off + 2, none⟩) (hk.block b hb)).trans h.c2,
    (World.cell?_of_block (a := ⟨b, off + 3, none⟩) (hk.block b hb)).trans h.c3, (World.cell?_of_block (a := ⟨b, off + 4, none⟩) (hk.block b hb)).trans h.c4, h.keep.keep hk, h.hi⟩
theorem Acts.keep {K : Nat → Prop} {w w1 : World} {a : Option Addr} {n : Nat} {l : List ActR} (h : Acts K w a n l) (hk : Keep K w w1) : Acts K w1 a n l :=
  ⟨h.1, h.2.imp id fun ⟨b, off, e, hb, hj⟩ => ⟨b, off, e, hb, fun j hj' => (hj j hj').keep' hb hk⟩⟩
section
variable {H : Type} {enc : TypeId × Value → H} {w : World} {base : Nat} {spare : Nat → Bool} {held : Bool} {r : Reach} {b0 : Nat}
theorem add_none (b off n : Nat) : Addr.add ⟨b, off, none⟩ n = ⟨b, off + n, none⟩ := by
  unfold Addr.add
  by_cases h : n = 0
  · subst h; simp
  · simp [h]
theorem cells4 : Try.prog.cellsOf 4 = 1 := by kernel_rfl
theorem cells5 : Try.prog.cellsOf 5 = 1 := by kernel_rfl
theorem cells55 : Try.prog.cellsOf 55 = 1 := by kernel_rfl
theorem cells57 : Try.prog.cellsOf 57 = 5 := by kernel_rfl
theorem boolsOf {fuel : Nat} {cs : List Value} {x : DataW H × List MemPlace} (h : DataW.trod enc Try.prog w base spare held fuel 55 cs = some x) :
    ∃ (a : Option Addr) (n c : Nat) (ks : List Bool), cs = [.slice a n c] ∧ n ≤ maxLen ∧ Bools (fun k => k < w.heap.size) w a n ks := by
  rcases open_slice1 Try.underlying55 cells4 h with ⟨rfl, _⟩ | ⟨x, len, cap, m, n, V, D, Pl, rfl, _, hl, hm, hmm, _, hi⟩
  · exact ⟨none, 0, 0, [], rfl, by unfold maxLen; omega, rfl, .inl rfl⟩
  · have hlm : len ≤ m := by rw [hmm]; split <;> omega
    have hb : ∀ i, i < len → ∃ b : Bool, V i = .bool b := fun i hi' => by
      obtain ⟨_, t⟩ := hi i (by omega)
      obtain ⟨b, e, _⟩ := DataW.trod_bool Try.underlying4 t
      exact ⟨b, by simpa using e⟩
    obtain ⟨B, hB⟩ := choose_lt hb
    refine ⟨some x, len, cap, (List.range len).map B, rfl, by omega, by simp, ?_⟩
    by_cases h0 : len = 0
    · exact .inl h0
    · right
      obtain ⟨b, off, spot⟩ := x
      have hs : spot = none := by simpa [Addr.add] using World.cell?_spot (hi 0 (by omega)).1
      subst hs
      refine ⟨b, off, rfl, World.block_lt_of_cell? w ⟨b, off + 0, none⟩ (by have := (hi 0 (by omega)).1; rw [add_none] at this; exact this), fun j hj => ?_⟩
      have hj' : j < len := by simpa using hj
      have := (hi j (by omega)).1
      rw [add_none, hB j hj'] at this
      simpa using this
theorem openBools {v : Value} {d : DataW H} {p : List MemPlace} (hv : Value.okWide Try.prog w r b0 55 v) (h : DataW.Trod enc Try.prog w base spare held 55 v d p) :
    ∃ (a : Option Addr) (n c : Nat) (ks : List Bool), n ≤ maxLen ∧ Bools (fun k => k < w.heap.size) w a n ks ∧ v = .slice a n c := by
  obtain ⟨a0, len0, cap0, rfl⟩ := okWide_slice Try.underlying55 hv
  obtain ⟨fuel, hf⟩ := h
  obtain ⟨a, n, c, ks, e, hn, hb⟩ := boolsOf hf
  exact ⟨a, n, c, ks, hn, hb, by simpa [Value.cells] using e⟩
theorem openActs {v : Value} {d : DataW H} {p : List MemPlace} (hv : Value.okWide Try.prog w r b0 45 v) (h : DataW.Trod enc Try.prog w base spare held 45 v d p) :
    ∃ (a : Option Addr) (n c : Nat) (l : List ActR), n ≤ maxLen ∧ Acts (fun k => k < w.heap.size) w a n l ∧ v = .slice a n c := by
  obtain ⟨a0, len0, cap0, rfl⟩ := okWide_slice Try.underlying45 hv
  obtain ⟨fuel, hf⟩ := h
  rcases open_slice Try.underlying45 hf with ⟨hcs, _⟩ | ⟨x, len, cap, m, n, D, Pl, hcs, _, hl, hm, hmm, _, hi⟩
  · simp [Value.cells] at hcs
    obtain ⟨rfl, rfl, rfl⟩ := hcs
    exact ⟨none, 0, 0, [], by unfold maxLen; omega, ⟨rfl, .inl rfl⟩, rfl⟩
  · simp [Value.cells] at hcs
    obtain ⟨rfl, rfl, rfl⟩ := hcs
    have hlm : len0 ≤ m := by rw [hmm]; split <;> omega
    have hb : ∀ i, i < len0 → ∃ q : ActR, w.cell? (x.add (i * 5)) = some (.int .i64 q.kind) ∧ w.cell? (x.add (i * 5 + 1)) = some (.int .i64 q.n) ∧ w.cell? (x.add (i * 5 + 2)) = some (.int .u8 (q.byte.toNat : Int)) ∧ w.cell? (x.add (i * 5 + 3)) = some (.bool q.short) ∧ w.cell? (x.add (i * 5 + 4)) = some (.slice q.ka q.kn q.kc) ∧ Bools (fun k => k < w.heap.size) w q.ka q.kn q.ks ∧ q.n ≤ 9223372036854775807 := by
      intro i hi'
      obtain ⟨cs', h1, h2⟩ := hi i (by omega)
      rw [cells57] at h1
      obtain ⟨_, hlen, hcell⟩ := World.cells?_some h1
      obtain ⟨xs, k, hk, hxy, _, hxl, hfl⟩ := DataW.trod_struct Try.underlying57 h2
      match xs, hxl, cs', hlen with
      | [y0, y1, y2, y3, y4], _, [u0, u1, u2, u3, u4], _ =>
        have g0 := hfl 0 _ rfl
        have g1 := hfl 1 _ rfl
        have g2 := hfl 2 _ rfl
        have g3 := hfl 3 _ rfl
        have g4 := hfl 4 _ rfl
        obtain ⟨z0, q0, -, -⟩ := DataW.trod_int Try.underlying3 g0
        obtain ⟨z1, q1, -, wf1⟩ := DataW.trod_int Try.underlying3 g1
        obtain ⟨z2, q2, -, wf2⟩ := DataW.trod_int Try.underlying5 g2
        obtain ⟨z3, q3, -⟩ := DataW.trod_bool Try.underlying4 g3
        obtain ⟨ka, kn, kc, ks, q4, _, hB⟩ := boolsOf g4
        simp [cells3] at q0 q1
        simp [cells5] at q2
        simp [cells4] at q3
        simp [cells55] at q4
        subst q0 q1 q2 q3 q4
        have e0 := hcell 0 (by omega)
        have e1 := hcell 1 (by omega)
        have e2 := hcell 2 (by omega)
        have e3 := hcell 3 (by omega)
        have e4 := hcell 4 (by omega)
        rw [add_add] at e0 e1 e2 e3 e4
        have b2 := bounds_u8 wf2
        have b1 := bounds_i64 wf1
        refine ⟨⟨z0, z1, UInt8.ofNat z2.toNat, z3, ka, kn, kc, ks⟩, by simpa using e0, by simpa using e1, ?_, by simpa using e3, by simpa using e4, hB, by show z1 ≤ _; omega⟩
        rw [e2]
        simp
        omega
    obtain ⟨q, hq⟩ := choose_lt hb
    refine ⟨some x, len0, cap0, (List.range len0).map q, by omega, ⟨by simp, ?_⟩, rfl⟩
    by_cases h0 : len0 = 0
    · exact .inl h0
    · right
      obtain ⟨b, off, spot⟩ := x
      have hs : spot = none := by simpa [Addr.add] using World.cell?_spot (hq 0 (by omega)).1
      subst hs
      simp only [add_none] at hq
      refine ⟨b, off, rfl, World.block_lt_of_cell? w _ (hq 0 (by omega)).1, fun j hj => ?_⟩
      have hj' : j < len0 := by simpa using hj
      obtain ⟨k0, k1, k2, k3, k4, k5, k6⟩ := hq j hj'
      simp only [List.getElem_map, List.getElem_range]
      exact ⟨k0, by rw [Nat.add_assoc]; exact k1, by rw [Nat.add_assoc]; exact k2, by rw [Nat.add_assoc]; exact k3, by rw [Nat.add_assoc]; exact k4, k5, k6⟩
end
end Go.Proofs.Ytplngodilalbhaa
