/- The stable sort by blocks, the plain side. -/
import Derived.Test.YtmhfbgcfagfmbaaS1
namespace Go.Proofs.Ytmhfbgcfagfmbaa
open Go.Sort
variable {α : Type} [Inhabited α] {lt : α → α → Bool}

/-- Below a: whole blocks, each in order. -/
def Done (lt : α → α → Bool) (bs a : Nat) (d : Array α) : Prop := ∃ k, a = k * bs ∧ ∀ q, q < k → SortedIn lt (q * bs) (q * bs + bs) d
/-- Each block is in order. -/
def AllB (lt : α → α → Bool) (bs n : Nat) (d : Array α) : Prop := ∀ q, SortedIn lt (q * bs) (min (q * bs + bs) n) d
/-- From a on, each block is in order. -/
def Rest (lt : α → α → Bool) (bs a n : Nat) (d : Array α) : Prop := ∃ k, a = (2 * k) * bs ∧ ∀ q, 2 * k ≤ q → SortedIn lt (q * bs) (min (q * bs + bs) n) d

theorem sorted_out {a b x y : Nat} {d d' : Array α} (p : PermIn a b d d') (h : SortedIn lt x y d) (hxy : y ≤ a ∨ b ≤ x) : SortedIn lt x y d' := fun i j h1 h2 h3 => by
  rw [p.2.1 i (by omega), p.2.1 j (by omega)]
  exact h i j h1 h2 h3
theorem sorted_cut {x y y' : Nat} {d : Array α} (h : SortedIn lt x y d) (hy : y' ≤ y) : SortedIn lt x y' d := fun i j h1 h2 h3 => h i j h1 h2 (by omega)

theorem Done.zero (bs : Nat) (d : Array α) : Done lt bs 0 d := ⟨0, by simp, fun q hq => by omega⟩
theorem blk_le {q k bs : Nat} (h : q < k) : q * bs + bs ≤ k * bs := by
  have := Nat.mul_le_mul_right bs (show q + 1 ≤ k from h)
  rw [Nat.add_mul, Nat.one_mul] at this
  exact this
theorem Done.step {bs a b : Nat} {d d' : Array α} (h : Done lt bs a d) (hb : b = a + bs) (p : PermIn a b d d') (s : SortedIn lt a b d') : Done lt bs b d' := by
  obtain ⟨k, hk, hq⟩ := h
  refine ⟨k + 1, by rw [Nat.add_mul, Nat.one_mul]; omega, fun q hqk => ?_⟩
  by_cases e : q < k
  · exact sorted_out p (hq q e) (Or.inl (by have := blk_le (bs := bs) e; omega))
  · have e' : q = k := by omega
    subst e'
    rw [← hk, ← hb]; exact s
theorem Done.all {bs a n : Nat} {d d' : Array α} (h : Done lt bs a d) (h2 : n ≤ a + bs) (p : PermIn a n d d') (s : SortedIn lt a n d') : AllB lt bs n d' := by
  obtain ⟨k, hk, hq⟩ := h
  intro q
  by_cases e : q < k
  · have := blk_le (bs := bs) e
    exact sorted_cut (sorted_out p (hq q e) (Or.inl (by omega))) (Nat.min_le_left _ _)
  · by_cases e' : q = k
    · subst e'
      rw [← hk, Nat.min_eq_right h2]; exact s
    · have := blk_le (bs := bs) (show k < q by omega)
      intro i j h1 h2 h3
      omega
theorem AllB.rest {bs n : Nat} {d : Array α} (h : AllB lt bs n d) : Rest lt bs 0 n d := ⟨0, by simp, fun q _ => h q⟩
theorem Rest.left {bs a n : Nat} {d : Array α} (h : Rest lt bs a n d) : SortedIn lt a (min (a + bs) n) d := by
  obtain ⟨k, hk, hq⟩ := h
  have := hq (2 * k) (Nat.le_refl _)
  rwa [← hk] at this
theorem Rest.right {bs a n : Nat} {d : Array α} (h : Rest lt bs a n d) : SortedIn lt (a + bs) (min (a + bs + bs) n) d := by
  obtain ⟨k, hk, hq⟩ := h
  have := hq (2 * k + 1) (by omega)
  rwa [Nat.add_mul, Nat.one_mul, ← hk] at this
theorem Rest.step {bs a b n : Nat} {d d' : Array α} (h : Rest lt bs a n d) (hb : b = a + bs + bs) (p : PermIn a b d d') : Rest lt bs b n d' := by
  obtain ⟨k, hk, hq⟩ := h
  refine ⟨k + 1, by rw [Nat.mul_add, Nat.add_mul]; omega, fun q hqk => ?_⟩
  refine sorted_out p (hq q (by omega)) (Or.inr ?_)
  have := Nat.mul_le_mul_right bs hqk
  rw [show 2 * (k + 1) = 2 * k + 1 + 1 by omega, Nat.add_mul, Nat.add_mul, Nat.one_mul] at this
  omega
theorem AllB.end {bs n : Nat} {d : Array α} (h : AllB lt bs n d) (hn : n ≤ bs) : SortedIn lt 0 n d := by
  have := h 0
  rwa [Nat.zero_mul, Nat.zero_add, Nat.min_eq_right hn] at this

end Go.Proofs.Ytmhfbgcfagfmbaa
