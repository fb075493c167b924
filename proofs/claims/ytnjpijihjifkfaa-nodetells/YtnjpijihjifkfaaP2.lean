/- Put, sizes, cuts: the plain mathematics. -/
import Derived.Test.YtnjpijihjifkfaaP1
namespace Go.Proofs.Ytnjpijihjifkfaa
theorem filter_take {α : Type} (p : α → Bool) (l : List α) (m : Nat) (h1 : ∀ j (h : j < l.length), j < m → p l[j] = true) (h2 : ∀ j (h : j < l.length), m ≤ j → p l[j] = false) : l.filter p = l.take m := by
  conv => lhs; rw [← List.take_append_drop m l]
  rw [List.filter_append, List.filter_eq_self.2, List.filter_eq_nil_iff.2, List.append_nil]
  · intro x hx
    obtain ⟨j, hj, rfl⟩ := List.getElem_of_mem hx
    rw [List.getElem_drop, h2 _ _ (by omega)]
    simp
  · intro x hx
    obtain ⟨j, hj, rfl⟩ := List.getElem_of_mem hx
    rw [List.getElem_take]
    exact h1 _ _ (by rw [List.length_take] at hj; omega)
theorem filter_drop {α : Type} (p : α → Bool) (l : List α) (m : Nat) (h1 : ∀ j (h : j < l.length), j < m → p l[j] = false) (h2 : ∀ j (h : j < l.length), m ≤ j → p l[j] = true) : l.filter p = l.drop m := by
  conv => lhs; rw [← List.take_append_drop m l]
  rw [List.filter_append, List.filter_eq_nil_iff.2, List.filter_eq_self.2, List.nil_append]
  · intro x hx
    obtain ⟨j, hj, rfl⟩ := List.getElem_of_mem hx
    rw [List.getElem_drop, h2 _ _ (by omega)]
  · intro x hx
    obtain ⟨j, hj, rfl⟩ := List.getElem_of_mem hx
    rw [List.getElem_take, h1 _ _ (by rw [List.length_take] at hj; omega)]
    simp
theorem kq_at (I : List It) (i : Nat) (h : i < I.length) : kq I i = I[i].1 := by unfold kq; rw [getD_at _ _ _ h]
/-- An item put among others. -/
def putL (I : List It) (x : It) : List It := I.filter (fun y => ltB y.1 x.1) ++ [x] ++ I.filter (fun y => ltB x.1 y.1)
theorem put_low {I : List It} {x : It} (h : RiseTo I I.length) : I.filter (fun y => ltB y.1 x.1) = I.take (findN true I x.1).1 := by
  have hp := posN_pos I x.1 h
  have ha := hasN_at h hp
  apply filter_take
  · intro j hj hjm
    rw [← kq_at I j hj]
    have hn : ltB x.1 (kq I j) = false := hp.2.1 j (by unfold findN at hjm; dsimp only at hjm; split at hjm <;> omega)
    rcases ltB_tri (kq I j) x.1 with h1 | h1 | h1
    · exact h1
    · exfalso
      have hjp : j < posN I x.1 := by unfold findN at hjm; dsimp only at hjm; split at hjm <;> omega
      have hh : hasN I x.1 = true := by
        unfold hasN; rw [List.any_eq_true]; exact ⟨I[j], List.getElem_mem hj, by rw [kq_at I j hj] at h1; exact decide_eq_true h1⟩
      unfold findN at hjm; rw [hh] at hjm; simp only [Bool.and_self, if_true] at hjm
      rw [hh] at ha; unfold atB at ha
      have h2 := of_decide_eq_true ha.symm
      have h3 := h.lt (i := j) (j := posN I x.1 - 1) hjm (by have := hp.1; omega)
      rw [h1, h2.2, ltB_irr] at h3; cases h3
    · rw [h1] at hn; cases hn
  · intro j hj hjm
    rw [← kq_at I j hj]
    rcases Nat.lt_or_ge j (posN I x.1) with h1 | h1
    · have hh : hasN I x.1 = true := by
        unfold findN at hjm; dsimp only at hjm
        cases hx : hasN I x.1 with
        | true => rfl
        | false => rw [hx] at hjm; simp at hjm; omega
      rw [hh] at ha; unfold atB at ha
      have h2 := of_decide_eq_true ha.symm
      unfold findN at hjm; rw [hh] at hjm; simp only [Bool.and_self, if_true] at hjm
      rw [show j = posN I x.1 - 1 by omega, h2.2, ltB_irr]
    · exact ltB_asymm (hp.2.2 j h1 hj)
theorem put_high {I : List It} {x : It} (h : RiseTo I I.length) : I.filter (fun y => ltB x.1 y.1) = I.drop (posN I x.1) := by
  have hp := posN_pos I x.1 h
  apply filter_drop
  · intro j hj hjm; rw [← kq_at I j hj]; exact hp.2.1 j hjm
  · intro j hj hjm; rw [← kq_at I j hj]; exact hp.2.2 j hjm hj
theorem find_rest {I : List It} {key : ByteArray} (h : RiseTo I I.length) : (findN true I key).1 + (if hasN I key then 1 else 0) = posN I key ∧ (findN true I key).1 ≤ I.length := by
  have hp := posN_pos I key h
  have ha := hasN_at h hp
  unfold findN
  cases hx : hasN I key with
  | true =>
    rw [hx] at ha; unfold atB at ha
    have h2 := of_decide_eq_true ha.symm
    have := hp.1
    simp; omega
  | false => have := hp.1; simp; omega
theorem put_eq {I : List It} {x : It} (h : RiseTo I I.length) : putL I x = I.take (findN true I x.1).1 ++ [x] ++ I.drop (posN I x.1) := by unfold putL; rw [put_low h, put_high h]
theorem rise_iff (I : List It) : RiseTo I I.length ↔ I.Pairwise fun a b => ltB a.1 b.1 = true := by
  rw [List.pairwise_iff_getElem]
  constructor
  · intro h i j hi hj hij
    have := h.lt hij hj
    rwa [kq_at I i hi, kq_at I j hj] at this
  · intro h i hi
    rw [kq_at I i (by omega), kq_at I (i + 1) (by omega)]
    exact h i (i + 1) (by omega) (by omega) (by omega)
theorem rise_take {I : List It} (h : RiseTo I I.length) (c : Nat) : RiseTo (I.take c) (I.take c).length := by rw [rise_iff] at *; exact h.sublist (List.take_sublist c I)
theorem rise_drop {I : List It} (h : RiseTo I I.length) (c : Nat) : RiseTo (I.drop c) (I.drop c).length := by rw [rise_iff] at *; exact h.sublist (List.drop_sublist c I)
theorem rise_put {I : List It} {x : It} (h : RiseTo I I.length) : RiseTo (putL I x) (putL I x).length := by
  rw [rise_iff] at *
  unfold putL
  rw [List.append_assoc, List.pairwise_append]
  refine ⟨h.sublist List.filter_sublist, ?_, ?_⟩
  · rw [List.singleton_append, List.pairwise_cons]
    exact ⟨fun y hy => (List.mem_filter.1 hy).2, h.sublist List.filter_sublist⟩
  · intro a ha b hb
    have h1 := (List.mem_filter.1 ha).2
    rcases List.mem_append.1 hb with hb | hb
    · rw [List.mem_singleton] at hb; subst hb; exact h1
    · exact ltB_trans h1 (List.mem_filter.1 hb).2
/-- The bytes of an item, of all, and of a node. -/
def wt (leaf : Bool) (x : It) : Nat := if leaf then 2 + x.1.size + x.2.size else 3 + x.1.size
def bytesN (leaf : Bool) (I : List It) : Nat := (I.map (wt leaf)).sum
def sizeN (leaf : Bool) (I : List It) : Nat := (if leaf then 2 else 4) + bytesN leaf I
theorem bytesN_append (b : Bool) (I J : List It) : bytesN b (I ++ J) = bytesN b I + bytesN b J := by unfold bytesN; rw [List.map_append, List.sum_append]
theorem bytesN_take_succ (b : Bool) (I : List It) (k : Nat) (h : k < I.length) : bytesN b (I.take (k + 1)) = bytesN b (I.take k) + wt b I[k] := by
  rw [List.take_succ_eq_append_getElem h, bytesN_append]; simp [bytesN]
theorem bytesN_split (b : Bool) (I : List It) (c : Nat) : bytesN b I = bytesN b (I.take c) + bytesN b (I.drop c) := by
  conv => lhs; rw [← List.take_append_drop c I]
  exact bytesN_append _ _ _
theorem bytesN_sub (b : Bool) {I J : List It} (h : I.Sublist J) : bytesN b I ≤ bytesN b J := by
  induction h with
  | slnil => exact Nat.le_refl _
  | cons a _ ih => simp only [bytesN, List.map_cons, List.sum_cons] at *; omega
  | cons_cons a _ ih => simp only [bytesN, List.map_cons, List.sum_cons] at *; omega
theorem wt_pos (b : Bool) (x : It) : 2 ≤ wt b x := by unfold wt; split <;> omega
theorem bytesN_pos (b : Bool) : ∀ I : List It, 2 * I.length ≤ bytesN b I
  | [] => by simp [bytesN]
  | a :: l => by have := bytesN_pos b l; have := wt_pos b a; simp only [bytesN, List.map_cons, List.sum_cons, List.length_cons] at *; omega
/-- Where a node is cut. -/
def HalfAt (b : Bool) (I : List It) (c : Nat) : Prop := c ≤ I.length - 1 ∧ (∀ j, j < c → 2 * bytesN b (I.take j) < bytesN b I) ∧ (c < I.length - 1 → bytesN b I ≤ 2 * bytesN b (I.take c))
def halfG (b : Bool) (I : List It) : Nat → Nat → Nat
  | 0, c => c
  | f + 1, c => if bytesN b I ≤ 2 * bytesN b (I.take c) then c else halfG b I f (c + 1)
def halfN (b : Bool) (I : List It) : Nat := halfG b I (I.length - 1) 0
theorem halfG_at (b : Bool) (I : List It) : ∀ f c, f + c = I.length - 1 → (∀ j, j < c → 2 * bytesN b (I.take j) < bytesN b I) → HalfAt b I (halfG b I f c)
  | 0, c, h, hj => ⟨by simp only [halfG]; omega, hj, by simp only [halfG]; omega⟩
  | f + 1, c, h, hj => by
    unfold halfG
    split
    · rename_i h1; exact ⟨by omega, hj, fun _ => h1⟩
    · rename_i h1
      refine halfG_at b I f (c + 1) (by omega) (fun j hjc => ?_)
      rcases Nat.lt_or_ge j c with h2 | h2
      · exact hj j h2
      · obtain rfl : j = c := by omega
        omega
theorem halfN_at (b : Bool) (I : List It) : HalfAt b I (halfN b I) := halfG_at b I _ 0 (by omega) (by intro j hj; omega)
theorem HalfAt.eq {b : Bool} {I : List It} {c d : Nat} (h : HalfAt b I c) (h2 : HalfAt b I d) : c = d := by
  rcases Nat.lt_trichotomy c d with h1 | h1 | h1
  · have a := h.2.2 (by have := h2.1; omega); have := h2.2.1 c h1; omega
  · exact h1
  · have a := h2.2.2 (by have := h.1; omega); have := h.2.1 d h1; omega
theorem HalfAt.pos {b : Bool} {I : List It} {c : Nat} (h : HalfAt b I c) (h2 : 2 ≤ I.length) : 0 < c := by
  rcases Nat.eq_zero_or_pos c with rfl | h1
  · have a := h.2.2 (by omega)
    have := bytesN_pos b I
    simp [bytesN] at a this; omega
  · exact h1
/-- May an item, a kid, a node be? -/
def okIt (leaf : Bool) (x : It) : Bool := decide (1 ≤ x.1.size ∧ x.1.size ≤ 64 ∧ x.2.size ≤ if leaf then 64 else 0)
def okKid (z : Int) : Bool := decide (2 ≤ z ∧ z < 3840)
def leafK (K : List Int) : Bool := K.length == 0
def numB (I : List It) (K : List Int) : Bool := if leafK K then decide (0 < I.length) else decide (I.length + 1 = K.length)
def RightP (I : List It) (K : List Int) : Prop := numB I K = true ∧ (I.all (okIt (leafK K)) = true ∧ RiseTo I I.length) ∧ K.all okKid = true ∧ sizeN (leafK K) I ≤ 480
instance (I : List It) (K : List Int) : Decidable (RightP I K) := inferInstanceAs (Decidable (_ ∧ (_ ∧ _) ∧ _ ∧ _))
theorem wt_le {b : Bool} {x : It} (h : okIt b x = true) : wt b x ≤ if b then 130 else 67 := by
  unfold okIt at h; have h := of_decide_eq_true h
  unfold wt; cases b <;> simp at * <;> omega
theorem all_sub {α : Type} {p : α → Bool} {I J : List α} (h : I.Sublist J) (hj : J.all p = true) : I.all p = true := by
  rw [List.all_eq_true] at *; exact fun x hx => hj x (h.subset hx)
/-- The two parts of a cut: the bounds. -/
theorem half_bounds {b : Bool} {I : List It} {c M : Nat} (h : HalfAt b I c) (hM : ∀ x ∈ I, wt b x ≤ M) (h2 : 2 ≤ I.length) :
    2 * bytesN b (I.take c) ≤ bytesN b I + 2 * M ∧ 2 * bytesN b (I.drop c) ≤ bytesN b I + 2 * M ∧ bytesN b I ≤ 2 * bytesN b (I.drop c) + 2 * M ∧ bytesN b I ≤ 2 * bytesN b (I.take c) + 2 * M := by
  have hc := h.pos h2
  have h3 := h.2.1 (c - 1) (by omega)
  have hcl : c - 1 < I.length := by have := h.1; omega
  have h4 := bytesN_take_succ b I (c - 1) hcl
  rw [show c - 1 + 1 = c by omega] at h4
  have h5 := hM _ (List.getElem_mem hcl)
  have h6 := bytesN_split b I c
  rcases Nat.lt_or_ge c (I.length - 1) with h7 | h7
  · have := h.2.2 h7; omega
  · have hce : c = I.length - 1 := by have := h.1; omega
    have hcl2 : c < I.length := by omega
    have h8 := bytesN_take_succ b I c hcl2
    have h9 := hM _ (List.getElem_mem hcl2)
    rw [show I.take (c + 1) = I from List.take_of_length_le (by omega)] at h8
    omega
end Go.Proofs.Ytnjpijihjifkfaa
