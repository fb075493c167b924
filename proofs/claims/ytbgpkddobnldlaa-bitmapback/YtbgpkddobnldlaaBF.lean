/- Bitmaps, plain: what Take takes. -/
import Derived.Test.YtbgpkddobnldlaaB1
namespace Go.Proofs.Ytbgpkddobnldlaa
def usedN (l : List UInt8) (a b : Nat) : Nat := ((List.range' a (b - a)).filter fun i => bitL l i).length
theorem usedN_nil (l : List UInt8) (a : Nat) : usedN l a a = 0 := by simp [usedN]
theorem usedN_succ (l : List UInt8) (a i : Nat) (h : a ≤ i) : usedN l a (i + 1) = usedN l a i + if bitL l i then 1 else 0 := by
  unfold usedN
  rw [range_snoc a i h, List.filter_append, List.length_append]
  congr 1
  cases hb : bitL l i <;> simp [hb]
theorem usedN_split (l : List UInt8) (a i b : Nat) (h : a ≤ i) (h2 : i ≤ b) : usedN l a b = usedN l a i + usedN l i b := by
  unfold usedN
  rw [← List.length_append, ← List.filter_append]
  congr 2
  rw [show b - a = (i - a) + (b - i) by omega]
  have := List.range'_append (s := a) (m := i - a) (n := b - i) (step := 1)
  rw [← this]
  congr 2
  omega
theorem usedN_congr (l m : List UInt8) (a b : Nat) (h : ∀ x, a ≤ x → x < b → bitL l x = bitL m x) : usedN l a b = usedN m a b := by
  unfold usedN
  congr 1
  apply List.filter_congr
  intro x hx
  rw [List.mem_range'_1] at hx
  exact h x hx.1 (by omega)
theorem filter_two (p : Nat → Bool) : ∀ L : List Nat, (L.filter p).length + (L.filter fun i => !p i).length = L.length
  | [] => rfl
  | x :: L => by
    have := filter_two p L
    cases h : p x <;> simp [h] <;> omega
theorem used_free (l : List UInt8) (a b : Nat) : usedN l a b + (freeN l a b).length = b - a := by
  unfold usedN freeN
  rw [filter_two]; simp
theorem usedN_all (l : List UInt8) (a b : Nat) (h : ∀ x, a ≤ x → x < b → bitL l x = true) : usedN l a b = b - a := by
  unfold usedN
  rw [List.filter_eq_self.2]
  · simp
  · intro x hx
    rw [List.mem_range'_1] at hx
    exact h x hx.1 (by omega)
theorem many_used (l : List UInt8) (a b : Nat) (h : l.length = 480) (hab : a ≤ b) (hb : b ≤ 3840) : manyL l (a : Int) (b : Int) = usedN l a b := by
  have key : ∀ d, a + d ≤ b → manyTo l (a : Int) (b : Int) (a + d) = usedN l a (a + d) := by
    intro d
    induction d with
    | zero => intro _; rw [Nat.add_zero, usedN_nil, manyTo_zero]; intro j hj; omega
    | succ d ih =>
      intro hd
      rw [← Nat.add_assoc, manyTo_succ, usedN_succ _ _ _ (by omega), ih (by omega), used_bit l h (a + d) (by omega)]
      have h1 : decide ((a : Int) ≤ ((a + d : Nat) : Int)) = true := by rw [decide_eq_true_iff]; omega
      have h2 : decide (((a + d : Nat) : Int) < (b : Int)) = true := by rw [decide_eq_true_iff]; omega
      rw [h1, h2]
      rfl
  have := key (b - a) (by omega)
  rw [show a + (b - a) = b by omega] at this
  unfold manyL
  rw [manyTo_end l _ _ b 3840 hb (fun j h1 h2 => by omega), this]
theorem usedN_set (l : List UInt8) (a b i : Nat) (hi : i / 8 < l.length) (ha : a ≤ i) (hb : i < b) (hf : bitL l i = false) : usedN (setL l i true) a b = usedN l a b + 1 := by
  have h1 := usedN_split (setL l i true) a i b ha (by omega)
  have h2 := usedN_split (setL l i true) i (i + 1) b (by omega) (by omega)
  have h3 := usedN_split l a i b ha (by omega)
  have h4 := usedN_split l i (i + 1) b (by omega) (by omega)
  have e1 := usedN_congr (setL l i true) l a i (fun x _ hx => by rw [setL_bit _ _ _ _ hi, if_neg (by omega)])
  have e2 := usedN_congr (setL l i true) l (i + 1) b (fun x hx _ => by rw [setL_bit _ _ _ _ hi, if_neg (by omega)])
  have e3 := usedN_succ (setL l i true) i i (Nat.le_refl _)
  have e4 := usedN_succ l i i (Nat.le_refl _)
  rw [usedN_nil, setL_bit _ _ _ _ hi, if_pos rfl] at e3
  rw [usedN_nil, hf] at e4
  simp at e3 e4
  omega
theorem usedN_sets (a b : Nat) (fl : List Nat) : ∀ l : List UInt8, (∀ i ∈ fl, i / 8 < l.length ∧ a ≤ i ∧ i < b ∧ bitL l i = false) → fl.Nodup → usedN (setsL l true fl) a b = usedN l a b + fl.length := by
  induction fl with
  | nil => intro l _ _; rfl
  | cons i r ih =>
    intro l h hn
    obtain ⟨h1, h2, h3, h4⟩ := h i (List.mem_cons_self ..)
    have hn := List.nodup_cons.1 hn
    show usedN (setsL (setL l i true) true r) a b = _
    rw [ih _ (fun j hj => ?_) hn.2, usedN_set l a b i h1 h2 h3 h4, List.length_cons]
    · omega
    · obtain ⟨k1, k2, k3, k4⟩ := h j (List.mem_cons_of_mem _ hj)
      refine ⟨by rw [setL_length]; exact k1, k2, k3, ?_⟩
      rw [setL_bit _ _ _ _ h1, if_neg (by intro e; subst e; exact hn.1 hj)]
      exact k4
/-- What is known of pages that were taken. -/
structure Took (l : List UInt8) (a b : Nat) (fl : List Nat) : Prop where
  len : l.length = 480
  hb : b ≤ 3840
  mem : ∀ x ∈ fl, a ≤ x ∧ x < b ∧ bitL l x = false
  up : fl.Pairwise (· < ·)
  low : ∀ x y, x ∈ fl → a ≤ y → y ≤ x → bitL l y = false → y ∈ fl
theorem took_of (l : List UInt8) (a b k : Nat) (h : l.length = 480) (hb : b ≤ 3840) : Took l a b ((freeN l a b).take k) := by
  refine ⟨h, hb, fun x hx => (freeN_mem l a b x).1 (List.mem_of_mem_take hx), ?_, ?_⟩
  · exact List.Pairwise.sublist (List.take_sublist _ _) (freeN_sorted l a b)
  · intro x y hx hy hyx hf
    have hxm := (freeN_mem l a b x).1 (List.mem_of_mem_take hx)
    have hym : y ∈ freeN l a b := (freeN_mem l a b y).2 ⟨hy, by omega, hf⟩
    obtain ⟨i, hi, hix⟩ := List.mem_iff_getElem.1 hx
    obtain ⟨j, hj, hjy⟩ := List.mem_iff_getElem.1 hym
    rw [List.length_take] at hi
    rw [List.getElem_take] at hix
    have hji : j ≤ i := by
      by_cases hh : j ≤ i
      · exact hh
      · have := List.pairwise_iff_getElem.1 (freeN_sorted l a b) i j (by omega) hj (by omega)
        omega
    rw [List.mem_iff_getElem]
    exact ⟨j, by rw [List.length_take]; omega, by rw [List.getElem_take]; exact hjy⟩
section
variable {l : List UInt8} {a b : Nat} {fl : List Nat}
theorem Took.nodup (h : Took l a b fl) : fl.Nodup := by
  have := h.up
  unfold List.Nodup
  exact this.imp (fun h => by omega)
theorem Took.in (h : Took l a b fl) : ∀ i ∈ fl, i / 8 < l.length := fun i hi => by have := (h.mem i hi).2.1; have := h.hb; rw [h.len]; omega
theorem Took.bits (h : Took l a b fl) (j : Nat) : bitL (setsL l true fl) j = if j ∈ fl then true else bitL l j := setsL_bit true fl j l h.in
theorem Took.many (h : Took l a b fl) : manyL (setsL l true fl) 0 3840 = manyL l 0 3840 + fl.length := by
  have e1 := many_used (setsL l true fl) 0 3840 (by rw [setsL_length]; exact h.len) (by omega) (by omega)
  have e2 := many_used l 0 3840 h.len (by omega) (by omega)
  have := usedN_sets 0 3840 fl l (fun i hi => ⟨h.in i hi, by omega, by have := (h.mem i hi).2.1; have := h.hb; omega, (h.mem i hi).2.2⟩) h.nodup
  rw [← e1, ← e2] at this
  exact this
theorem Took.upto (h : Took l a b fl) (x : Nat) (hx : x ∈ fl) : manyL (setsL l true fl) (a : Int) ((x : Int) + 1) = x + 1 - a := by
  have hm := h.mem x hx
  have hb := h.hb
  have e1 := many_used (setsL l true fl) a (x + 1) (by rw [setsL_length]; exact h.len) (by omega) (by omega)
  rw [show ((x + 1 : Nat) : Int) = (x : Int) + 1 by omega] at e1
  rw [e1]
  apply usedN_all
  intro y hy hyx
  rw [h.bits]
  split
  · rfl
  · next hn =>
    cases hf : bitL l y with
    | true => rfl
    | false => exact absurd (h.low x y hx hy (by omega) hf) hn
theorem Took.used_old (h : Took l a b fl) (x : Nat) (hx : x ∈ fl) : usedL l (x : Int) = false := by
  have hm := h.mem x hx
  have hb := h.hb
  rw [used_bit l h.len x (by omega)]; exact hm.2.2
theorem Took.used_new (h : Took l a b fl) (x : Nat) (hx : x ∈ fl) : usedL (setsL l true fl) (x : Int) = true := by
  have hm := h.mem x hx
  have hb := h.hb
  rw [used_bit _ (by rw [setsL_length]; exact h.len) x (by omega), h.bits, if_pos hx]
theorem Took.gives (h : Took l a b fl) : Gives (setsL l true fl) (fl.map Int.ofNat) := by
  refine ⟨fun z hz => ?_, ?_⟩
  · obtain ⟨x, hx, rfl⟩ := List.mem_map.1 hz
    exact h.used_new x hx
  · have := h.up
    unfold List.Nodup
    rw [List.pairwise_map]
    exact this.imp (fun hxy he => by have : (_ : Int) = _ := he; simp at this; omega)
theorem map_back (fl : List Nat) : (fl.map Int.ofNat).map Int.toNat = fl := by
  rw [List.map_map]; conv => rhs; rw [← List.map_id fl]
  congr 1
theorem Took.back (h : Took l a b fl) : giveS (setsL l true fl) (fl.map Int.ofNat) = l ∧ giveE (setsL l true fl) (fl.map Int.ofNat) = 0 := by
  unfold giveS giveE
  rw [giveF_yes _ _ h.gives, if_pos (by rw [setsL_length]; exact h.len), if_pos (by rw [setsL_length]; exact h.len)]
  refine ⟨?_, rfl⟩
  show setsL (setsL l true fl) false ((fl.map Int.ofNat).map Int.toNat) = l
  rw [map_back]
  apply bit_ext
  · rw [setsL_length, setsL_length]
  · intro j _
    rw [setsL_bit false fl j _ (fun i hi => by rw [setsL_length]; exact h.in i hi), h.bits]
    split
    · next hj => exact (h.mem j hj).2.2.symm
    · rfl
theorem Took.twice (h : Took l a b fl) (hk : 0 < fl.length) : giveE (setsL l true fl) (fl.map Int.ofNat ++ fl.map Int.ofNat) = 18 := by
  unfold giveE
  rw [giveF_no, if_pos (by rw [setsL_length]; exact h.len)]
  intro hg
  have := (List.nodup_append.1 hg.2).2.2
  obtain ⟨x, r, rfl⟩ : ∃ x r, fl = x :: r := by cases fl with | nil => simp at hk | cons x r => exact ⟨x, r, rfl⟩
  exact this (Int.ofNat x) (by simp) (Int.ofNat x) (by simp) rfl
end
end Go.Proofs.Ytbgpkddobnldlaa
