/- A change within four bytes is found. -/
import Derived.Test.YtgbnmokajaehhaaDoorXC5
import Derived.Laws.IdiomStrings
import Derived.RegionTactic
import Derived.BigRegion
import Derived.Deep.QuietTactic
import Derived.BigQuiet
import Derived.IntWalk
namespace Go.Proofs.YtgbnmokajaehhaaDoor.Oc
open Go.RowKit
/-- Block b holds the bytes l, and they may be written. -/
def BRow (w : World) (b : Nat) (l : List UInt8) : Prop := ∀ j (hj : j < l.length), w.cell? ⟨b, j, none⟩ = some (.int .u8 (l[j].toNat : Int)) ∧ w.frozen? ⟨b, j, none⟩ = false
theorem BRow.new (w : World) (s : ByteArray) (cap : Nat) (e : TypeId) : BRow (w.drew.alloc (.cells (bytesRow s cap) e ((bytesRow s cap).size, (bytesRow s cap).size + 1))) w.heap.size s.data.toList := by
  intro j hj
  have hj' : j < s.data.size := by simpa using hj
  have hsz : j < (bytesRow s cap).size := by
    have : (bytesRow s cap).size = s.data.size + (cap - s.size) := by simp [bytesRow]
    omega
  have hg : (w.drew.alloc (.cells (bytesRow s cap) e ((bytesRow s cap).size, (bytesRow s cap).size + 1))).heap[w.heap.size]? = some (.cells (bytesRow s cap) e ((bytesRow s cap).size, (bytesRow s cap).size + 1)) := by
    show (w.heap.push _)[w.heap.size]? = _
    simp
  constructor
  · rw [cell_of_row _ _ j _ _ _ hg]
    unfold bytesRow
    rw [Array.getElem?_append_left (by simpa using hj')]
    rw [Array.getElem?_map, Array.getElem?_eq_getElem hj']
    rfl
  · unfold World.frozen?
    simp only [hg]
    simp
    omega
theorem BRow.set {w : World} {b : Nat} {l : List UInt8} (h : BRow w b l) (i : Nat) (c : UInt8) : BRow (w.setCell ⟨b, i, none⟩ (.int .u8 (c.toNat : Int))) b (l.set i c) := by
  intro j hj
  have hj' : j < l.length := by simpa using hj
  obtain ⟨h1, h2⟩ := h j hj'
  constructor
  · by_cases hij : i = j
    · subst hij
      rw [List.getElem_set_self]
      exact World.cell?_setCell_same _ _ _ h1
    · rw [List.getElem_set_ne hij, World.cell?_setCell_other _ _ _ _ (fun e => hij (by injection e))]
      exact h1
  · rw [World.frozen?_setCell]; exact h2
theorem BRow.drew {w : World} {b : Nat} {l : List UInt8} (h : BRow w b l) : BRow w.drew b l := h
theorem BRow.drewN {w : World} {b : Nat} {l : List UInt8} (h : BRow w b l) (n : Nat) : BRow (w.drewN n) b l := h
/-- Bytes from a place on, changed one by one by a number's bytes. -/
def chg (l : List UInt8) (A y : Nat) : Nat → List UInt8
  | 0 => l
  | k + 1 => (chg l A y k).set (A + k) ((chg l A y k).getD (A + k) 0 ^^^ UInt8.ofNat (y / 2 ^ (8 * k) % 256))
theorem chg_length (l : List UInt8) (A y k : Nat) : (chg l A y k).length = l.length := by
  induction k with
  | zero => rfl
  | succ k ih => simp [chg, ih]
theorem chg_four (l : List UInt8) (A y : Nat) (h : A + 4 ≤ l.length) (hy : y < 4294967296) : (sumN (chg l A y 4) == sumN l) = (y == 0) := by
  obtain ⟨p, m, q, hl, hp, hm⟩ : ∃ p m q, l = p ++ (m ++ q) ∧ p.length = A ∧ m.length = 4 := ⟨l.take A, (l.drop A).take 4, (l.drop A).drop 4, by rw [List.take_append_drop, List.take_append_drop], by simp; omega, by simp; omega⟩
  subst hl
  obtain ⟨c0, c1, c2, c3, rfl⟩ : ∃ c0 c1 c2 c3, m = [c0, c1, c2, c3] := by
    match m, hm with
    | [a, b, c, d], _ => exact ⟨a, b, c, d, rfl⟩
  have e : chg (p ++ ([c0, c1, c2, c3] ++ q)) A y 4 = p ++ (xb [c0, c1, c2, c3] y ++ q) := by
    subst hp
    simp [chg, xb, Nat.div_div_eq_div_mul]
  rw [e, Bool.eq_iff_iff]
  simp only [beq_iff_eq]
  exact found p _ q y (by simpa using hy) rfl
theorem xor_u8 (c : UInt8) (v : Nat) (hv : v < 256) : bits .xor .u8 (c.toNat : Int) (v : Int) = ((c ^^^ UInt8.ofNat v).toNat : Int) := by
  rw [xor8 _ _ c.toNat_lt hv, UInt8.toNat_xor]
  simp
  rw [Nat.mod_eq_of_lt hv]
end Go.Proofs.YtgbnmokajaehhaaDoor.Oc
