/- Contracts: record's encoded, isBlob; PutTenant. -/
import Derived.Test.YteekjndhehnpaaaSB
namespace Go.Proofs.Yteekjndhehnpaaa
open Go.RowKit
set_option maxRecDepth 100000
set_option linter.unusedVariables false
set_option linter.unusedSimpArgs false
set_option maxHeartbeats 8000000
/-- May a blob be? -/
def okBl (f s : Int) : Bool := decide (f = 0 ∧ s = 0) || decide (2 ≤ f ∧ f < 3840 ∧ 1 ≤ s ∧ s ≤ 4096)
/-- Strings in one. -/
def joinB (xs : List ByteArray) : ByteArray := bs (xs.map (·.data.toList)).flatten
theorem join_bs (xs : List ByteArray) : (⟨(Lib.join (xs.map (·.data.toList)) (⟨#[]⟩ : ByteArray).data.toList).toArray⟩ : ByteArray) = joinB xs := by
  unfold joinB
  cases xs with
  | nil => rfl
  | cons x r =>
    have : ∀ l : List (List UInt8), (l.map (([] : List UInt8) ++ ·)).flatten = l.flatten := fun l => by simp
    show bs (Lib.join (x.data.toList :: r.map (·.data.toList)) []) = _
    rw [Lib.join_cons]
    unfold Lib.joinTail
    rw [this]
    rfl
theorem encoded_no (x : Value) (w : World) : Calls Try.prog 62 #[.bool false, x] w fun e w' => e = strErr ⟨#[]⟩ 18 ∧ Below w.heap.size w w' := by
  go_enter Try.func62, Try.ntmps62
  go_wp2_with fail
  go_ret2
  exact ⟨rfl, Below.refl _ _⟩
/-- A slice of strings that a call has made. -/
def RowP (xs : List ByteArray) (w : World) (v : Value) : Prop := ∃ B, v = .slice (some ⟨B, 0, none⟩) xs.length xs.length ∧ B < w.heap.size ∧ ∀ (j : Nat) x, xs[j]? = some x → w.cell? ⟨B, 0 + j, none⟩ = some (.string x)
theorem RowP.below {xs : List ByteArray} {w w1 : World} {v : Value} (h : RowP xs w v) (hb : Below w.heap.size w w1) : RowP xs w1 v := by
  obtain ⟨B, e, hl, hc⟩ := h
  exact ⟨B, e, Nat.lt_of_lt_of_le hl hb.size, fun j x hx => (hb.cell (p := ⟨B, 0 + j, none⟩) hl).trans (hc j x hx)⟩
theorem RowP.at {xs : List ByteArray} {w : World} {B : Nat} (h : B < w.heap.size ∧ ∀ (j : Nat) x, xs[j]? = some x → w.cell? ⟨B, 0 + j, none⟩ = some (.string x)) : RowP xs w (.slice (some ⟨B, 0, none⟩) xs.length xs.length) := ⟨B, rfl, h⟩
theorem RowP.new (w : World) (xs : List ByteArray) (T : TypeId) : RowP xs (w.alloc (.cells (xs.map Value.string).toArray T)) (.slice (some ⟨w.heap.size, 0, none⟩) xs.length xs.length) := by
  refine ⟨_, rfl, by simp, fun j x hx => ?_⟩
  have hg : (w.alloc (.cells (xs.map Value.string).toArray T)).heap[w.heap.size]? = some (.cells (xs.map Value.string).toArray T (0, 0)) := by
    show (w.heap.push _)[w.heap.size]? = _
    simp
  rw [cell_of_row _ _ (0 + j) _ _ _ hg]
  simp [hx]
theorem cond_fact2 {D P : Nat → Bool} {f V : Nat → Value} {j : Nat} {v : Value} (h : ∀ k, P k = false → D k = true → f k = V k) (hv : v = V j) : ∀ k, P k = false → D k = true → cond (Nat.beq k j) v (f k) = V k := by
  intro k hp hk
  by_cases e : k = j
  · subst e; rw [Nat.beq_refl]; exact hv
  · have : Nat.beq k j = false := by
      cases h2 : Nat.beq k j with
      | false => rfl
      | true => exact absurd (Nat.eq_of_beq_eq_true h2) e
    rw [this]; exact h k hp hk
theorem upd_fact2 {D P : Nat → Bool} {f V : Nat → Value} {i : Nat} {v : Value} (h : ∀ k, P k = false → D k = true → f k = V k) (hv : v = V i) : ∀ k, P k = false → upd D i k = true → cond (Nat.beq k i) v (f k) = V k := by
  intro k hp hk
  by_cases e : k = i
  · subst e; rw [Nat.beq_refl]; exact hv
  · have : Nat.beq k i = false := by
      cases h2 : Nat.beq k i with
      | false => rfl
      | true => exact absurd (Nat.eq_of_beq_eq_true h2) e
    rw [this]
    refine h k hp ?_
    unfold upd at hk
    rwa [if_neg e] at hk
theorem cond_row {D : Nat → Bool} {f V : Nat → Value} {r : Nat} {v : Value} (h : ∀ k, Nat.beq k r = false → D k = true → f k = V k) : ∀ k, Nat.beq k r = false → D k = true → cond (Nat.beq k r) v (f k) = V k := by
  intro k hp hk; rw [hp]; exact h k hp hk
theorem upd_row {D : Nat → Bool} {f V : Nat → Value} {r : Nat} {v : Value} (h : ∀ k, Nat.beq k r = false → D k = true → f k = V k) : ∀ k, Nat.beq k r = false → upd D r k = true → cond (Nat.beq k r) v (f k) = V k := by
  intro k hp hk
  rw [hp]
  refine h k hp ?_
  unfold upd at hk
  by_cases e : k = r
  · subst e; rw [Nat.beq_refl] at hp; cases hp
  · rwa [if_neg e] at hk
theorem encoded_yes (xs : List ByteArray) (B : Nat) (w : World) (h : B < w.heap.size ∧ ∀ (j : Nat) x, xs[j]? = some x → w.cell? ⟨B, 0 + j, none⟩ = some (.string x)) (hn : xs.length ≤ 100) (hl : (joinB xs).size ≤ 100000) :
    Calls Try.prog 62 #[.bool true, .slice (some ⟨B, 0, none⟩) xs.length xs.length] w fun e w' => e = strErr (joinB xs) 0 ∧ Below w.heap.size w w' := by
  have HJ : Hid (Calls Try.prog 108 #[.slice (some ⟨B, 0, none⟩) xs.length xs.length, .string ⟨#[]⟩] w fun e w' => e = .returned (.string (joinB xs)) ∧ Below w.heap.size w w') := Lib.hid (by
    have := Try.strings_Join B 0 xs.length xs ⟨#[]⟩ w h.2 h.1 (by omega) (Nat.le_refl _) (by
      have e := congrArg ByteArray.size (join_bs xs)
      rw [show (⟨(Lib.join (xs.map (·.data.toList)) (⟨#[]⟩ : ByteArray).data.toList).toArray⟩ : ByteArray).size = (Lib.join (xs.map (·.data.toList)) (⟨#[]⟩ : ByteArray).data.toList).length from by simp [ByteArray.size]] at e
      omega)
    rw [join_bs] at this
    exact this)
  generalize joinB xs = J at HJ hl
  generalize xs.length = m at HJ hn
  clear h
  go_enter Try.func62, Try.ntmps62
  go_wp2_with fail
  refine HJ.out.mono ?_
  rintro e w2 ⟨rfl, hb⟩
  go_wp2_with fail
  go_ret2
  exact ⟨rfl, hb⟩
/-- What encoded answers. -/
def encS (v : Bool) (xs : List ByteArray) : ByteArray := match v with | true => joinB xs | false => ⟨#[]⟩
theorem encoded_any (v : Bool) (xs : List ByteArray) (B : Nat) (w : World) (h : B < w.heap.size ∧ ∀ (j : Nat) x, xs[j]? = some x → w.cell? ⟨B, 0 + j, none⟩ = some (.string x)) (hn : xs.length ≤ 100) (hl : (joinB xs).size ≤ 100000) :
    Calls Try.prog 62 #[.bool v, .slice (some ⟨B, 0, none⟩) xs.length xs.length] w fun e w' => e = .returned (.tuple #[.string (encS v xs), .int .i64 (argE v)]) ∧ Below w.heap.size w w' := by
  cases v
  · exact encoded_no _ w
  · exact encoded_yes xs B w h hn hl
end Go.Proofs.Yteekjndhehnpaaa
