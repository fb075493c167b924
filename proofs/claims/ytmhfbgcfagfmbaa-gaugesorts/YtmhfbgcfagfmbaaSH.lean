/- Sorting by insertion, plain; two ascending permutations. -/
import Derived.Test.YtmhfbgcfagfmbaaSE
namespace Go.Proofs.Ytmhfbgcfagfmbaa
/-- Ascending. -/
def Asc (l : List Nat) : Prop := l.Pairwise fun x y => tk x ≤ tk y
theorem Asc.of {l : List Nat} (h : ∀ i j, i < j → j < l.length → tk (l.getD i 0) ≤ tk (l.getD j 0)) : Asc l := by
  unfold Asc
  rw [List.pairwise_iff_getElem]
  intro i j hi hj hij
  have := h i j hij hj
  rwa [List.getD_eq_getElem?_getD, List.getElem?_eq_getElem hi, List.getD_eq_getElem?_getD, List.getElem?_eq_getElem hj] at this
theorem Asc.get {l : List Nat} (h : Asc l) (i j : Nat) (hij : i < j) (hj : j < l.length) : tk (l.getD i 0) ≤ tk (l.getD j 0) := by
  unfold Asc at h
  rw [List.pairwise_iff_getElem] at h
  have := h i j (by omega) hj hij
  rwa [List.getD_eq_getElem?_getD, List.getElem?_eq_getElem (by omega), List.getD_eq_getElem?_getD, List.getElem?_eq_getElem hj]
theorem asc_alike {l m : List Nat} (hl : Asc l) (hm : Asc m) (hp : l.Perm m) (j : Nat) (hj : j < l.length) : tk (l.getD j 0) = tk (m.getD j 0) := by
  have h1 : (l.map tk).Pairwise (· ≤ ·) := by rw [List.pairwise_map]; exact hl
  have h2 : (m.map tk).Pairwise (· ≤ ·) := by rw [List.pairwise_map]; exact hm
  have he : l.map tk = m.map tk := List.Perm.eq_of_pairwise (fun a b _ _ h1 h2 => by omega) h1 h2 (hp.map tk)
  have hj2 : j < m.length := by rw [← hp.length_eq]; exact hj
  have := congrArg (fun x => x[j]?) he
  simp only [List.getElem?_map, List.getElem?_eq_getElem hj, List.getElem?_eq_getElem hj2, Option.map_some, Option.some.injEq] at this
  rw [List.getD_eq_getElem?_getD, List.getElem?_eq_getElem hj, List.getD_eq_getElem?_getD, List.getElem?_eq_getElem hj2]
  exact this
/-- One number more. -/
def insL (l : List Nat) (at' x : Nat) : List Nat := l.take at' ++ ([x] ++ l.drop at')
theorem insL_perm (l m : List Nat) (at' x : Nat) (h : l.Perm m) : (insL l at' x).Perm (m ++ [x]) := by
  unfold insL
  refine (List.perm_append_comm_assoc _ _ _).trans ?_
  rw [List.take_append_drop]
  exact (List.perm_append_comm).trans (h.append (List.Perm.refl _))
theorem insL_length (l : List Nat) (at' x : Nat) (h : at' ≤ l.length) : (insL l at' x).length = l.length + 1 := by
  unfold insL; simp; omega
theorem insL_asc (l : List Nat) (at' x : Nat) (h : Asc l) (hat : at' ≤ l.length) (h1 : ∀ j, at' ≤ j → j < l.length → tk x < tk (l.getD j 0)) (h2 : at' = 0 ∨ tk (l.getD (at' - 1) 0) ≤ tk x) : Asc (insL l at' x) := by
  unfold insL Asc
  rw [List.pairwise_append]
  have hlow : ∀ y ∈ l.take at', tk y ≤ tk x := by
    intro y hy
    obtain ⟨i, hi, rfl⟩ := List.mem_iff_getElem.1 hy
    rw [List.length_take] at hi
    rw [List.getElem_take]
    rcases h2 with h0 | h2
    · omega
    · by_cases he : i = at' - 1
      · subst he
        rwa [List.getD_eq_getElem?_getD, List.getElem?_eq_getElem (by omega)] at h2
      · have := h.get i (at' - 1) (by omega) (by omega)
        rw [List.getD_eq_getElem?_getD, List.getElem?_eq_getElem (by omega)] at this
        have e : (some l[i]).getD 0 = l[i] := rfl
        rw [e] at this
        omega
  have hhigh : ∀ y ∈ l.drop at', tk x < tk y := by
    intro y hy
    obtain ⟨i, hi, rfl⟩ := List.mem_iff_getElem.1 hy
    rw [List.length_drop] at hi
    rw [List.getElem_drop]
    have := h1 (at' + i) (by omega) (by omega)
    rwa [List.getD_eq_getElem?_getD, List.getElem?_eq_getElem (by omega)] at this
  refine ⟨List.Pairwise.sublist (List.take_sublist _ _) h, ?_, fun y hy z hz => ?_⟩
  · rw [List.singleton_append, List.pairwise_cons]
    exact ⟨fun y hy => Int.le_of_lt (hhigh y hy), List.Pairwise.sublist (List.drop_sublist _ _) h⟩
  · rcases List.mem_append.1 hz with hz | hz
    · rw [List.mem_singleton.1 hz]; exact hlow y hy
    · have h3 := hlow y hy
      have h4 := hhigh z hz
      omega
theorem Asc.nil : Asc [] := List.Pairwise.nil
end Go.Proofs.Ytmhfbgcfagfmbaa
