/- What Scan finds, in plain words: a beginning of the transactions that were appended. -/
import Derived.Test.YtbhebkjadgajeaaJ9
namespace Go.Proofs.Ytbhebkjadgajeaa
/-- The sectors of transactions, one behind the other. -/
def secsFrom (e : Nat) (z : ByteArray) : Nat → List Tx → List Sct
  | _, [] => []
  | c, t :: r => txS e (c + 1) t z ++ secsFrom e z (c + 1) r
theorem secsFrom_append (e : Nat) (z : ByteArray) : ∀ (c : Nat) (A B : List Tx), secsFrom e z c (A ++ B) = secsFrom e z c A ++ secsFrom e z (c + A.length) B
  | c, [], B => by simp [secsFrom]
  | c, t :: r, B => by
    rw [List.cons_append, secsFrom, secsFrom, secsFrom_append e z (c + 1) r B, List.append_assoc, List.length_cons]
    congr 3
    omega
theorem least (P : Nat → Prop) : ∀ n, (∀ i, i < n → P i) ∨ ∃ j, j < n ∧ ¬ P j ∧ ∀ i, i < j → P i
  | 0 => .inl (fun i hi => by omega)
  | n + 1 => by
    rcases least P n with h | ⟨j, hj, h1, h2⟩
    · by_cases hn : P n
      · exact .inl (fun i hi => by rcases Nat.lt_succ_iff_lt_or_eq.1 hi with h3 | h3; exact h i h3; rw [h3]; exact hn)
      · exact .inr ⟨n, by omega, hn, h⟩
    · exact .inr ⟨j, by omega, h1, h2⟩
theorem txS_get_im {e n : Nat} {t : Tx} {z : ByteArray} {i : Nat} (hi : i < t.length) : (txS e n t z)[i]? = some (imS e n i t[i]) := by
  unfold txS imgsS
  rw [List.getElem?_append_left (by simpa using hi), List.getElem?_mapIdx, List.getElem?_eq_getElem hi]
  rfl
theorem txS_get_co {e n : Nat} {t : Tx} {z : ByteArray} : (txS e n t z)[t.length]? = some (coS e n t.length z) := by
  unfold txS
  rw [List.getElem?_append_right (by rw [imgsS_length]; exact Nat.le_refl _), imgsS_length]
  simp
theorem txS_e {e n : Nat} {t : Tx} {z : ByteArray} : ∀ s ∈ txS e n t z, s.e = e := by
  intro s hs
  unfold txS at hs
  rcases List.mem_append.1 hs with hs | hs
  · unfold imgsS at hs
    obtain ⟨i, hi, rfl⟩ := List.mem_mapIdx.1 hs
    rfl
  · rw [List.mem_singleton.1 hs]; rfl
theorem nextG_run {e n : Nat} {z : ByteArray} {L : List Sct} {t : Tx} (ht : okI t) : ∀ j, j ≤ t.length → (∀ i, (hi : i < j) → ∃ h : i < t.length, L[i]? = some (imS e n i t[i])) → nextG e n z L [] = nextG e n z (L.drop j) (t.take j)
  | 0, _, _ => by simp
  | j + 1, hj, hL => by
    rw [nextG_run ht j (by omega) (fun i hi => hL i (by omega))]
    obtain ⟨h1, h2⟩ := hL j (by omega)
    obtain ⟨hjl, hje⟩ := List.getElem?_eq_some_iff.1 h2
    have hx := ht.2.1 _ (List.getElem_mem h1)
    have ha : (((t[j].1.toNat : Nat) : Int), t[j].2) = t[j] := by
      have : ((t[j].1.toNat : Nat) : Int) = t[j].1 := Int.toNat_of_nonneg hx.1
      rw [this]
    have hlen : (t.take j).length = j := by simp; omega
    have := nextG_im (e := e) (n := n) (z := z) hjl (acc := t.take j) hlen (by rw [hje]; show t[j].1.toNat < 3840; have := hx.2.1; omega) (by rw [hje]; simp only [imS, Int.toNat_natCast])
    rw [this, hje]
    show nextG e n z (L.drop (j + 1)) (t.take j ++ [(((t[j].1.toNat : Nat) : Int), t[j].2)]) = _
    rw [ha, List.take_add_one, List.getElem?_eq_getElem h1]
    rfl
theorem nextG_full {e n : Nat} {z : ByteArray} {L : List Sct} {t : Tx} (ht : okI t) (h : ∀ i, i ≤ t.length → L[i]? = (txS e n t z)[i]?) : nextG e n z L [] = t := by
  rw [nextG_run ht t.length (Nat.le_refl _) (fun i hi => ⟨hi, (h i (by omega)).trans (txS_get_im hi)⟩), List.take_length]
  have hc := (h t.length (Nat.le_refl _)).trans txS_get_co
  obtain ⟨hl, he⟩ := List.getElem?_eq_some_iff.1 hc
  exact nextG_co hl rfl (List.length_pos_iff.2 ht.1) he
theorem nextG_other {e n : Nat} {z : ByteArray} {L : List Sct} {k : Nat} {acc : Tx} (ha : acc.length = k) (h : L.length ≤ k ∨ ∃ hk : k < L.length, L[k].e ≠ e) : nextG e n z (L.drop k) acc = [] := by
  rcases h with h | ⟨hk, h⟩
  · exact nextG_end e n z L k h acc
  · exact nextG_no hk ha (fun h2 => h (by rw [h2.2]; rfl)) (fun h2 => h (by rw [h2.2]; rfl))
theorem nextG_part {e n : Nat} {z : ByteArray} {L : List Sct} {t : Tx} (ht : okI t) {j : Nat} (hj : j ≤ t.length) (h1 : ∀ i, i < j → L[i]? = (txS e n t z)[i]?) (h2 : L.length ≤ j ∨ ∃ hk : j < L.length, L[j].e ≠ e) : nextG e n z L [] = [] := by
  rw [nextG_run ht j hj (fun i hi => ⟨by omega, (h1 i hi).trans (txS_get_im (by omega))⟩)]
  exact nextG_other (by simp; omega) h2
/-- Each place holds what was appended there, or what is of another epoch. -/
def Mixed (e : Nat) (L X : List Sct) : Prop := ∀ i (hi : i < L.length), L[i]? = X[i]? ∨ L[i].e ≠ e
theorem scan_prefix (e : Nat) (z : ByteArray) : ∀ (txs : List Tx) (c f : Nat) (L : List Sct), (∀ t ∈ txs, okI t) → L.length < f → Mixed e L (secsFrom e z c txs) →
    ∃ m, m ≤ txs.length ∧ scanG e z f L c = txs.take m ∧ ∀ s, s ≤ txs.length → (∀ i, i < (secsFrom e z c (txs.take s)).length → L[i]? = (secsFrom e z c txs)[i]?) → s ≤ m := by
  intro txs
  induction txs with
  | nil =>
    intro c f L _ hf hM
    refine ⟨0, Nat.le_refl _, ?_, fun s hs _ => by simpa using hs⟩
    obtain ⟨f, rfl⟩ : ∃ f', f = f' + 1 := ⟨f - 1, by omega⟩
    have : nextG e (c + 1) z L [] = [] := by
      have := nextG_other (e := e) (n := c + 1) (z := z) (L := L) (k := 0) (acc := []) rfl (by
        by_cases h0 : L.length ≤ 0
        · exact .inl h0
        · refine .inr ⟨by omega, ?_⟩
          rcases hM 0 (by omega) with h | h
          · rw [List.getElem?_eq_getElem (by omega)] at h
            simp [secsFrom] at h
          · exact h)
      simpa using this
    rw [scanG, if_pos this]
    rfl
  | cons t r ih =>
    intro c f L hok hf hM
    have ht := hok t (List.mem_cons_self ..)
    obtain ⟨f, rfl⟩ : ∃ f', f = f' + 1 := ⟨f - 1, by omega⟩
    have hX : secsFrom e z c (t :: r) = txS e (c + 1) t z ++ secsFrom e z (c + 1) r := rfl
    rw [hX] at hM ⊢
    have hXl : (txS e (c + 1) t z).length = t.length + 1 := txS_length ..
    rcases least (fun i => L[i]? = (txS e (c + 1) t z)[i]?) (t.length + 1) with hall | ⟨j, hj, hbad, hgood⟩
    · have hn : nextG e (c + 1) z L [] = t := nextG_full ht (fun i hi => hall i (by omega))
      have hLl : t.length + 1 ≤ L.length := by
        have := (hall t.length (by omega)).trans txS_get_co
        have := (List.getElem?_eq_some_iff.1 this).1
        omega
      obtain ⟨m, hm1, hm2, hm3⟩ := ih (c + 1) f (L.drop (t.length + 1)) (fun x hx => hok x (List.mem_cons_of_mem _ hx)) (by rw [List.length_drop]; omega) (by
        intro i hi
        have hi' : t.length + 1 + i < L.length := by rw [List.length_drop] at hi; omega
        rcases hM (t.length + 1 + i) hi' with h | h
        · left
          rw [List.getElem?_drop, h, List.getElem?_append_right (by omega), hXl]
          congr 1
          omega
        · right
          rw [List.getElem_drop]
          exact h)
      refine ⟨m + 1, by simp; omega, ?_, ?_⟩
      · rw [scanG, if_neg (by rw [hn]; exact ht.1), hn, hm2]
        rfl
      · intro s hs hsi
        cases s with
        | zero => omega
        | succ s =>
          have := hm3 s (by simpa using hs) (by
            intro i hi
            have h2 := hsi (t.length + 1 + i) (by
              rw [List.take_succ_cons, secsFrom, List.length_append, hXl]; omega)
            rw [List.getElem?_append_right (by omega), hXl, show t.length + 1 + i - (t.length + 1) = i by omega] at h2
            rw [List.getElem?_drop]
            exact h2)
          omega
    · have hbad2 : L.length ≤ j ∨ ∃ hk : j < L.length, L[j].e ≠ e := by
        by_cases hjl : j < L.length
        · rcases hM j hjl with h | h
          · rw [List.getElem?_append_left (by omega)] at h
            exact absurd h hbad
          · exact .inr ⟨hjl, h⟩
        · exact .inl (by omega)
      have hn : nextG e (c + 1) z L [] = [] := nextG_part ht (by omega) (fun i hi => hgood i hi) hbad2
      refine ⟨0, Nat.zero_le _, by rw [scanG, if_pos hn]; rfl, ?_⟩
      intro s hs hsi
      cases s with
      | zero => omega
      | succ s =>
        have h2 := hsi j (by rw [List.take_succ_cons, secsFrom, List.length_append, hXl]; omega)
        rw [List.getElem?_append_left (by omega)] at h2
        exact absurd h2 hbad
end Go.Proofs.Ytbhebkjadgajeaa
