/- A rule for a region that draws its order: a condition on which operations have come up, the act and the world. -/
import Derived.Test.YtnjpijihjifkfaaTK
import Derived.Deep.RegionHeld3
namespace Go.Proofs.Ytnjpijihjifkfaa
open Go.RowKit
set_option linter.unusedVariables false
/-- One more operation has come up. -/
def upd (D : Nat → Bool) (i : Nat) : Nat → Bool := fun j => if j = i then true else D j
/-- What is asked of one operation: behind it the condition holds anew. -/
def StepI (P : Program) (ops : Array Oper) (Q : Exit → Act → World → Prop) (Inv : (Nat → Bool) → Act → World → Prop) (i : Nat) (o : Oper) : Prop :=
  ∀ (D : Nat → Bool) (a : Act) (w : World), Inv D a w → D i = false → (o.after.toList.all fun e => !Region.binds .any e || D e.on) = true →
    ∀ K : Act → World → Prop, (∀ a' w', Inv (upd D i) a' w' → K a' w') → if Region.wanted o (yielded ops a.tmps) = true then Oper.wp P o a w K Q else K (a.put o.dst undef) w
def AllI (P : Program) (ops : Array Oper) (Q : Exit → Act → World → Prop) (Inv : (Nat → Bool) → Act → World → Prop) : List Oper → Nat → Prop
  | [], _ => True
  | o :: os, i => StepI P ops Q Inv i o ∧ AllI P ops Q Inv os (i + 1)
theorem AllI.cons {P : Program} {ops : Array Oper} {Q : Exit → Act → World → Prop} {Inv : (Nat → Bool) → Act → World → Prop} {o : Oper} {os : List Oper} {i : Nat}
    (h : StepI P ops Q Inv i o) (hs : AllI P ops Q Inv os (i + 1)) : AllI P ops Q Inv (o :: os) i := ⟨h, hs⟩
theorem AllI.nil {P : Program} {ops : Array Oper} {Q : Exit → Act → World → Prop} {Inv : (Nat → Bool) → Act → World → Prop} {i : Nat} : AllI P ops Q Inv [] i := trivial
theorem AllI.at {P : Program} {ops : Array Oper} {Q : Exit → Act → World → Prop} {Inv : (Nat → Bool) → Act → World → Prop} : ∀ {l : List Oper} {k : Nat}, AllI P ops Q Inv l k → ∀ {j : Nat} {o : Oper}, l[j]? = some o → StepI P ops Q Inv (k + j) o
  | [], _, _, _, _, h => by simp at h
  | o :: os, k, h, 0, _, h0 => by simp at h0; subst h0; exact h.1
  | o :: os, k, h, j + 1, _, h0 => by
    have := AllI.at h.2 (j := j) (by simpa using h0)
    rw [show k + (j + 1) = k + 1 + j by omega]; exact this
/-- Every edge leads back. -/
def backI (l : List Oper) : Bool := (l.zipIdx).all fun p => p.1.after.toList.all fun e => !Region.binds .any e || decide (e.on < p.2)
theorem backI_at {l : List Oper} (h : backI l = true) {i : Nat} {o : Oper} (hi : l[i]? = some o) : ∀ e ∈ o.after, Region.binds .any e = true → e.on < i := by
  intro e he hbd
  unfold backI at h
  rw [List.all_eq_true] at h
  have h1 := h (o, i) (by rw [List.mem_zipIdx_iff_getElem?]; exact hi)
  rw [List.all_eq_true] at h1
  have h2 := h1 e (by simpa using he)
  rw [hbd] at h2
  simpa using h2
theorem wpAny_inv {P : Program} {l : List Oper} {Q : Exit → Act → World → Prop} {Inv : (Nat → Bool) → Act → World → Prop} (hb : backI l = true)
    (hs : AllI P l.toArray Q Inv l 0) (hd : ∀ D a w, Inv D a w → (∀ i, i < l.length → D i = true) → Q .normal a w) :
    ∀ (fuel : Nat) (listed : Array Bool) (a : Act) (w : World), listed.size = l.length → (∃ U : List Nat, U.length ≤ fuel ∧ ∀ i, i < l.length → listed.getD i false = false → i ∈ U) → Inv (fun i => listed.getD i false) a w →
      wpAny P .any l.toArray Q fuel listed a w := by
  have hdone : ∀ (listed : Array Bool) (a : Act) (w : World), listed.size = l.length → Inv (fun i => listed.getD i false) a w → Region.ready .any l.toArray listed = [] → Q .normal a w := by
    intro listed a w hsz hI hr
    refine hd _ a w hI ?_
    intro i
    induction i using Nat.strongRecOn with
    | ind i ih =>
      intro hi
      cases hc : listed.getD i false with
      | true => rfl
      | false =>
        exfalso
        have hm : i ∈ Region.ready .any l.toArray listed := by
          rw [mem_ready]
          have hlt : i < listed.size := by omega
          refine ⟨?_, l[i], by simp [hi], fun e he hbd => ?_⟩
          · have h1 : listed.getD i false = listed[i] := by simp [hlt]
            have h2 : listed.getD i true = listed[i] := by simp [hlt]
            rw [h2, ← h1]; exact hc
          · have := backI_at hb (show l[i]? = some l[i] by simp [hi]) e he hbd
            exact ih e.on this (by omega)
        rw [hr] at hm
        cases hm
  intro fuel
  induction fuel with
  | zero =>
    intro listed a w hsz hU hI
    obtain ⟨U, hU, hall⟩ := hU
    have hr : Region.ready .any l.toArray listed = [] := by
      rw [List.eq_nil_iff_forall_not_mem]
      intro i hi
      obtain ⟨h0, o, ho, _⟩ := mem_ready.1 hi
      have hil : i < l.length := by simpa using (Array.getElem?_eq_some_iff.1 ho).1
      have h1 : listed.getD i false = false := by
        have hlt : i < listed.size := by omega
        have h1 : listed.getD i false = listed[i] := by simp [hlt]
        have h2 : listed.getD i true = listed[i] := by simp [hlt]
        rw [h1, ← h2]; exact h0
      have := hall i hil h1
      have hn : U = [] := List.length_eq_zero_iff.1 (by omega)
      rw [hn] at this
      cases this
    exact ⟨hr, hdone listed a w hsz hI hr⟩
  | succ fuel ih =>
    intro listed a w hsz hU hI
    refine ⟨fun hr => hdone listed a w hsz hI hr, fun i hi => ?_⟩
    obtain ⟨h0, o, ho, hall⟩ := mem_ready.1 hi
    have ho' : l[i]? = some o := by simpa using ho
    have hil : i < l.length := (List.getElem?_eq_some_iff.1 ho').1
    have hlt : i < listed.size := by omega
    have h1 : listed.getD i false = false := by
      have h1 : listed.getD i false = listed[i] := by simp [hlt]
      have h2 : listed.getD i true = listed[i] := by simp [hlt]
      rw [h1, ← h2]; exact h0
    have hst := AllI.at hs ho'
    rw [Nat.zero_add] at hst
    refine wpOp_step ho (fun K' hK => hst _ a w hI h1 ?_ K' (fun a' w' hI' => hK a' w' (ih _ a' w' (by simpa using hsz) ?_ ?_)))
    · rw [List.all_eq_true]
      intro e he
      have he' : e ∈ o.after := by simpa using he
      cases hbd : Region.binds .any e with
      | false => rfl
      | true => simpa using hall e he' hbd
    · obtain ⟨U, hU, hall⟩ := hU
      refine ⟨U.erase i, ?_, fun j hj hf => ?_⟩
      · rw [List.length_erase_of_mem (hall i hil h1)]; omega
      · by_cases hij : i = j
        · subst hij
          exfalso
          have : (listed.setIfInBounds i true).getD i false = true := by simp [hlt]
          rw [this] at hf; cases hf
        · rw [getD_set_ne false hij] at hf
          exact (List.mem_erase_of_ne (Ne.symm hij)).2 (hall j hj hf)
    · have : (fun j => (listed.setIfInBounds i true).getD j false) = upd (fun i => listed.getD i false) i := by
        funext j
        unfold upd
        by_cases hij : j = i
        · subst hij; simp [hlt]
        · rw [if_neg hij, getD_set_ne false (Ne.symm hij)]
      rw [this]; exact hI'
/-- The rule: the condition holds at first; each operation, once those that it waits for have come up, keeps it; behind all it gives what follows. -/
theorem wp_region_inv {P : Program} {id : Nat} {l : List Oper} {Q : Exit → Act → World → Prop} {a : Act} {w : World} (Inv : (Nat → Bool) → Act → World → Prop) (hm : P.follows .mixedOrders = true) (hb : backI l = true)
    (h0 : Inv (fun _ => false) a w.drew) (hs : AllI P l.toArray Q Inv l 0) (hd : ∀ D a w, Inv D a w → (∀ i, i < l.length → D i = true) → Q .normal a w) : (Code.region id l.toArray true).wp P Q a w := by
  refine wp_region_any hm ?_
  refine wpAny_inv hb hs hd _ _ a _ (by simp) ⟨List.range l.length, by simp, fun i hi _ => by simpa using hi⟩ ?_
  have : (fun i => (Array.replicate l.toArray.size false).getD i false) = fun _ => false := by
    funext i
    simp only [Array.getD_eq_getD_getElem?, Array.getElem?_replicate]
    split <;> rfl
  rw [this]
  exact h0
theorem wp_region_inv0 {P : Program} {id : Nat} {l : List Oper} {Q : Exit → Act → World → Prop} {a : Act} {w : World} (Inv : Act → (Nat → Bool) → Act → World → Prop) (hm : P.follows .mixedOrders = true) (hb : backI l = true)
    (h0 : Inv a (fun _ => false) a w.drew) (hs : AllI P l.toArray Q (Inv a) l 0) (hd : ∀ D a1 w, Inv a D a1 w → (∀ i, i < l.length → D i = true) → Q .normal a1 w) : (Code.region id l.toArray true).wp P Q a w :=
  wp_region_inv (Inv a) hm hb h0 hs hd
end Go.Proofs.Ytnjpijihjifkfaa
