/- NameBack: words of any string, numbers there and back. -/
import Derived.Test.YtgbnmokajaehhaaDoorNJ
import Derived.Test.YtgbnmokajaehhaaDoorNC
namespace Go.Proofs.YtgbnmokajaehhaaDoor
open Go.RowKit Go.Sort
set_option linter.unusedVariables false
def wordS (l : List UInt8) : List UInt8 := match l with | [] => [37] | c :: r => wordL (c :: r)
theorem word_all (s : ByteArray) (hs : s.size ≤ 1048576) (w : World) : Calls Tryd.prog 11 #[.string s] w fun e w' => e = .returned (.string (bs (wordS s.data.toList))) ∧ Below w.heap.size w w' := by
  by_cases h0 : 0 < s.size
  · have : wordS s.data.toList = wordL s.data.toList := by
      cases h : s.data.toList with
      | nil => rw [blen, h] at h0; simp at h0
      | cons c r => rfl
    rw [this]
    exact word_any s h0 hs w
  · have e : s.data.toList = [] := by
      have : s.data.toList.length = 0 := by rw [← blen]; omega
      exact List.eq_nil_of_length_eq_zero this
    obtain rfl : s = ByteArray.empty := str_eq e
    refine (word_nil w).mono ?_
    rintro e w' ⟨rfl, rfl⟩
    exact ⟨rfl, Below.refl _ _⟩
/-- What Unword answers. -/
def unwS (l : List UInt8) : List UInt8 × Int := if l = [37] then ([], 0) else if l = [] then ([], 19) else if wordL (unescL l) = l then (unescL l, 0) else ([], 19)
theorem toList_37 (s : ByteArray) (h : s.data.toList ≠ [37]) : (s.toList == [37]) = false := by
  rw [ByteArray.toList_eq, beq_eq_false_iff_ne]; exact h
theorem unword_all (s : ByteArray) (hs : s.size ≤ 1048576) (w : World) : Calls Tryd.prog 8 #[.string s] w fun e w' => e = .returned (.tuple #[.string (bs (unwS s.data.toList).1), .int .i64 (unwS s.data.toList).2]) ∧ Below w.heap.size w w' := by
  by_cases h37 : s.data.toList = [37]
  · obtain rfl : s = ⟨#[37]⟩ := str_eq h37
    exact unword_37 w
  · by_cases h0 : s.data.toList = []
    · obtain rfl : s = ⟨#[]⟩ := str_eq h0
      exact unword_nil w
    · have hp : 0 < s.size := by
        rw [blen]; exact List.length_pos_iff.2 h0
      unfold unwS
      rw [if_neg h37, if_neg h0]
      by_cases hw : wordL (unescL s.data.toList) = s.data.toList
      · rw [if_pos hw]; exact unword_yes s hp hs (toList_37 s h37) hw w
      · rw [if_neg hw]; exact unword_no s hp hs (toList_37 s h37) hw w
theorem unw_back (l : List UInt8) : unwS (wordS l) = (l, 0) := by
  cases l with
  | nil => rfl
  | cons c r =>
    show unwS (wordL (c :: r)) = _
    unfold unwS
    rw [if_neg (word_not37 c r), if_neg (by have := (wordL_le (c :: r)).1; intro h; rw [h] at this; simp at this), unesc_word, if_pos rfl]
theorem unw_word (l : List UInt8) (h : (unwS l).2 = 0) : wordS (unwS l).1 = l := by
  unfold unwS at h ⊢
  split
  · next h37 => rw [h37]; rfl
  · next h37 =>
    rw [if_neg h37] at h
    split
    · next h0 => rw [if_pos h0] at h; cases h
    · next h0 =>
      rw [if_neg h0] at h
      split
      · next hw =>
        have hp : 0 < (unescL l).length := unescL_pos l (List.length_pos_iff.2 h0)
        show wordS (unescL l) = l
        cases hu : unescL l with
        | nil => rw [hu] at hp; simp at hp
        | cons c r => show wordL (c :: r) = l; rw [← hu]; exact hw
      · next hw => rw [if_neg hw] at h; cases h
theorem unw_len (l : List UInt8) : (unwS l).1.length ≤ l.length := by
  unfold unwS
  split
  · simp
  · split
    · simp
    · split
      · exact unescL_le l
      · simp
theorem wordS_le (l : List UInt8) : (wordS l).length ≤ 3 * l.length + 1 := by
  cases l with
  | nil => decide
  | cons c r => have := (wordL_le (c :: r)).2; show (wordL (c :: r)).length ≤ _; omega
theorem wordS_clean (l : List UInt8) : ∀ c ∈ wordS l, c ≠ 32 ∧ c ≠ 10 := by
  cases l with
  | nil => intro c hc; rw [List.mem_singleton.1 hc]; decide
  | cons c r => exact word_clean (c :: r)
theorem num_back (n : Nat) (hn : n < 18446744073709551616) : numN (Lib.decDigits n) = some n := by
  unfold numN; rw [parseB_digits n hn]; simp
theorem int_back (i : Int) (h0 : -9223372036854775808 ≤ i) (h1 : i ≤ 9223372036854775807) : intN (Lib.itoa i) = some i := by
  unfold intN; rw [parseI_itoa i h0 h1]; simp
theorem itoa_len (i : Int) (h0 : -9223372036854775808 ≤ i) (h1 : i ≤ 9223372036854775807) : (Lib.itoa i).length ≤ 21 := by
  unfold Lib.itoa
  split
  · have := nDigits_le i.natAbs (by omega); simp; omega
  · have := nDigits_le i.toNat (by omega); omega
/-- Block b holds the bytes l. -/
def BRd (w : World) (b : Nat) (l : List UInt8) : Prop := ∀ j (hj : j < l.length), w.cell? ⟨b, j, none⟩ = some (.int .u8 (l[j].toNat : Int))
theorem BRd.new (w : World) (s : ByteArray) (cap : Nat) (e : TypeId) : BRd (w.drew.alloc (.cells (bytesRow s cap) e ((bytesRow s cap).size, (bytesRow s cap).size + 1))) w.heap.size s.data.toList := by
  intro j hj
  have hj' : j < s.data.size := by simpa using hj
  have hg : (w.drew.alloc (.cells (bytesRow s cap) e ((bytesRow s cap).size, (bytesRow s cap).size + 1))).heap[w.heap.size]? = some (.cells (bytesRow s cap) e ((bytesRow s cap).size, (bytesRow s cap).size + 1)) := by
    show (w.heap.push _)[w.heap.size]? = _
    simp
  rw [cell_of_row _ _ j _ _ _ hg]
  unfold bytesRow
  rw [Array.getElem?_append_left (by simpa using hj')]
  rw [Array.getElem?_map, Array.getElem?_eq_getElem hj']
  rfl
end Go.Proofs.YtgbnmokajaehhaaDoor
