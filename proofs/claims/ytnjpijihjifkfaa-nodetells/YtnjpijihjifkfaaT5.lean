/- Contracts: a builder; short texts; Encode's parts. -/
import Derived.Test.YtnjpijihjifkfaaT4
import Derived.Test.YtnjpijihjifkfaaO7
import Derived.Shelf.Strings.BuilderK
namespace Go.Proofs.Ytnjpijihjifkfaa
open Go.RowKit Go.Shelf
set_option linter.unusedVariables false
theorem ret_str {a b : ByteArray} (h : a = b) : Ending.returned (.string a) = .returned (.string b) := by rw [h]
/-- A builder at block b that holds these bytes; what it holds lies at B or above. -/
def Bld (B b : Nat) (l : List UInt8) (w : World) : Prop := Lib.IsBuilderF 87 5 B b (Lib.byteCells l) w
theorem write_any (B b : Nat) (l : List UInt8) (s : ByteArray) (w : World) (h : Bld B b l w) (hlen : l.length + s.size ≤ 140737488355328) (hBw : B ≤ w.heap.size) :
    Calls Try.prog 52 #[.pointer (some ⟨b, 0, none⟩), .string s] w fun e w' => (∃ v, e = .returned v) ∧ Bld B b (l ++ s.data.toList) w' ∧ Below B w w' ∧ Lib.OthersKept 5 (some b) w w' := by
  refine (Any.Builder_WriteString_k { Try.lays105 with } Try.Builder_Extra_105 B b (Lib.byteCells l) s w h (by rw [Lib.byteCells_length]; exact hlen) hBw).mono ?_
  rintro e w' ⟨rfl, h1, h2, h3⟩
  exact ⟨⟨_, rfl⟩, by unfold Bld; rw [Lib.byteCells_append]; exact .inr h1, h2, h3⟩
theorem string_any (B b : Nat) (l : List UInt8) (w : World) (h : Bld B b l w) (hBw : B ≤ w.heap.size) :
    Calls Try.prog 55 #[.pointer (some ⟨b, 0, none⟩)] w fun e w' => e = .returned (.string (bs l)) ∧ Below B w w' :=
  (Any.Builder_String_any_k { Try.lays105 with } Try.Builder_Extra_105 B b l w h hBw).mono fun e w' ⟨he, _, hb, _⟩ => ⟨he, hb⟩
theorem Bld.new (w : World) (b : Nat) (hb : b = w.heap.size) : Bld b b [] (w.alloc (.cells #[.pointer none, .slice none 0 0] 87)) := by
  subst hb
  refine Lib.IsBuilderF.of (.inl ⟨Nat.le_refl _, .slice none 0 0, ?_, World.ownsRow_nil _ _ _ _, by simp [Value.ownBlock]⟩)
  show (w.heap.push _)[w.heap.size]? = _
  simp
theorem Bld.below {B b : Nat} {l : List UInt8} {w w1 : World} (h : Bld B b l w) (H : Below w.heap.size w w1) : Bld B b l w1 := by
  have key : ∀ p, Lib.BuilderAtF 87 5 B b p (Lib.byteCells l) w → Lib.BuilderAtF 87 5 B b p (Lib.byteCells l) w1 := by
    rintro p ⟨hB, v, hb, hown, hne⟩
    refine ⟨hB, v, (H.block b (Array.getElem?_eq_some_iff.1 hb).1).trans hb, ?_, hne⟩
    refine ⟨hown.1, ?_⟩
    rcases hown.2 with hn | ⟨g, cap, cur, fz, hv, h1, h2, h3⟩
    · exact .inl hn
    · exact .inr ⟨g, cap, cur, fz, hv, h1, (H.block g (Array.getElem?_eq_some_iff.1 h2).1).trans h2, h3⟩
  exact h.elim (fun x => .inl (key _ x)) (fun x => .inr (key _ x))
/-- An item's block, kept by what is written. -/
def ItB (w : World) (g : Nat) (p q : ByteArray) : Prop := w.heap[g]? = some (.cells #[.string p, .string q] 44 (0, 0))
theorem ItB.new (w : World) (p q : ByteArray) : ItB (w.alloc (.cells #[.string p, .string q] 44)) w.heap.size p q := by
  show (w.heap.push _)[w.heap.size]? = _
  simp
theorem ItB.below {w w1 : World} {g : Nat} {p q : ByteArray} (h : ItB w g p q) (H : Below w.heap.size w w1) : ItB w1 g p q := (H.block g (Array.getElem?_eq_some_iff.1 h).1).trans h
theorem ItB.kept {w w1 : World} {g b : Nat} {p q : ByteArray} (h : ItB w g p q) (H : Lib.OthersKept 5 (some b) w w1) (hb : g ≠ b) : ItB w1 g p q :=
  H g _ h (by simpa using hb) (by intro c fz e; cases e)
theorem ItB.cells {w : World} {g : Nat} {p q : ByteArray} (h : ItB w g p q) : w.cell? ⟨g, 0, none⟩ = some (.string p) ∧ w.cell? ⟨g, 1, none⟩ = some (.string q) := by
  unfold ItB at h
  exact ⟨by simp [World.cell?, h], by simp [World.cell?, h]⟩
theorem count_any (n : Nat) (t : ByteArray) (h : bs (numL 1 n) = t) (hn : n < 18446744073709551616) (hn2 : n ≤ 9223372036854775807) (w : World) : Calls Try.prog 53 #[.int .i64 (n : Int)] w fun e w' => e = .returned (.string t) ∧ Below w.heap.size w w' := by
  subst h
  have H := Lib.hid (fun w => num_ok 1 n w (by omega) (by omega) hn)
  go_enter Try.func53, Try.ntmps53
  go_wp2_with fail
  refine (H.out _).mono ?_
  rintro e w1 ⟨rfl, hb⟩
  go_wp2_with fail
  go_ret
  exact ⟨rfl, hb⟩
theorem kidText_any (z : Int) (t : ByteArray) (h : bs (numL 2 z.toNat) = t) (h0 : 0 ≤ z) (hz : z < 65536) (w : World) : Calls Try.prog 56 #[.int .i64 z] w fun e w' => e = .returned (.string t) ∧ Below w.heap.size w w' := by
  obtain ⟨n, rfl⟩ := Int.eq_ofNat_of_zero_le h0
  rw [Int.toNat_natCast] at h
  subst h
  have H := Lib.hid (fun w => num_ok 2 n w (by omega) (by omega) (by omega))
  go_enter Try.func56, Try.ntmps56
  go_wp2_with fail
  refine (H.out _).mono ?_
  rintro e w1 ⟨rfl, hb⟩
  go_wp2_with fail
  go_ret
  exact ⟨rfl, hb⟩
/-- A short text's bytes. -/
def shortB (s : ByteArray) : ByteArray := bs (numL 1 s.size) ++ s
theorem short_any (s t : ByteArray) (h : shortB s = t) (hs : s.size ≤ 1000) (w : World) : Calls Try.prog 54 #[.string s] w fun e w' => e = .returned (.string t) ∧ Below w.heap.size w w' := by
  obtain ⟨x, hx⟩ : ∃ x, bs (numL 1 s.size) = x := ⟨_, rfl⟩
  have hxs : x.size = 1 := by rw [← hx, bs_size, numL_length]
  have HT := Lib.hid (show x ++ s = t by rw [← h, ← hx]; rfl)
  have HX := Lib.hid hx
  clear h hx
  go_enter Try.func54, Try.ntmps54
  go_wp2_with fail
  refine (count_any s.size x HX.out (by omega) (by omega) _).mono ?_
  rintro e w1 ⟨rfl, hb⟩
  go_wp2_with fail
  go_ret
  exact ⟨ret_str HT.out, hb⟩
end Go.Proofs.Ytnjpijihjifkfaa
