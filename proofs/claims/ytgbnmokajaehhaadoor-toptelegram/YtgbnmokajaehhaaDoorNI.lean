/- There and back, plain: words and lines. -/
import Derived.Test.YtgbnmokajaehhaaDoorN9
import Derived.Lib.SplitLaws
import Derived.Lib.Join
namespace Go.Proofs.YtgbnmokajaehhaaDoor
theorem esc_all : ∀ c : Fin 256, plainB c.val = false → escB (hexB (c.val / 16)) (hexB (c.val % 16)) = UInt8.ofNat c.val := by decide +kernel
theorem plain_all : ∀ c : Fin 256, plainB c.val = true → UInt8.ofNat c.val ≠ 37 ∧ UInt8.ofNat c.val ≠ 32 ∧ UInt8.ofNat c.val ≠ 10 := by decide +kernel
theorem hex_all : ∀ d : Fin 16, hexB d.val ≠ 32 ∧ hexB d.val ≠ 10 := by decide +kernel
theorem plain_not (c : UInt8) (h : plainB c.toNat = true) : c ≠ 37 ∧ c ≠ 32 ∧ c ≠ 10 := by
  have := plain_all ⟨c.toNat, c.toNat_lt⟩ h
  simpa using this
theorem esc_back (c : UInt8) (h : plainB c.toNat = false) : escB (hexB (c.toNat / 16)) (hexB (c.toNat % 16)) = c := by
  have := esc_all ⟨c.toNat, c.toNat_lt⟩ h
  simpa using this
theorem unesc_word : ∀ l : List UInt8, unescL (wordL l) = l
  | [] => rfl
  | c :: l => by
    have ih := unesc_word l
    show unescL (wordC c ++ wordL l) = _
    unfold wordC
    cases h : plainB c.toNat with
    | true =>
      simp only [if_true, List.singleton_append]
      rw [unescL_plain c _ (.inl (plain_not c h).1), ih]
    | false =>
      simp only [Bool.false_eq_true, if_false, List.cons_append, List.nil_append]
      rw [unescL_esc, ih, esc_back c h]
theorem word_clean (l : List UInt8) : ∀ c ∈ wordL l, c ≠ 32 ∧ c ≠ 10 := by
  intro c hc
  unfold wordL at hc
  obtain ⟨x, _, hx⟩ := List.mem_flatMap.1 hc
  unfold wordC at hx
  split at hx
  · next h =>
    rw [List.mem_singleton.1 hx]
    exact ⟨(plain_not x h).2.1, (plain_not x h).2.2⟩
  · have h16 : x.toNat / 16 < 16 := by have := x.toNat_lt; omega
    have h17 : x.toNat % 16 < 16 := by omega
    simp only [List.mem_cons, List.not_mem_nil, or_false] at hx
    rcases hx with rfl | rfl | rfl
    · decide
    · exact hex_all ⟨_, h16⟩
    · exact hex_all ⟨_, h17⟩
theorem word_not37 (c : UInt8) (l : List UInt8) : wordL (c :: l) ≠ [37] := by
  show wordC c ++ wordL l ≠ [37]
  unfold wordC
  cases h : plainB c.toNat with
  | true =>
    simp only [if_true, List.singleton_append]
    intro e
    injection e with e1 _
    exact (plain_not c h).1 e1
  | false =>
    simp only [Bool.false_eq_true, if_false, List.cons_append, List.nil_append]
    intro e
    injection e with _ e2
    cases e2
/-- Strings without spaces, joined by spaces and split again. -/
theorem index_free : ∀ (l : List UInt8), (32 : UInt8) ∉ l → Lib.indexByte l 32 = -1
  | [], _ => rfl
  | c :: l, h => by
    have h1 : (c == 32) = false := by rw [beq_eq_false_iff_ne]; intro e; exact h (by rw [e]; exact List.mem_cons_self ..)
    unfold Lib.indexByte
    rw [h1, index_free l (fun x => h (List.mem_cons_of_mem _ x))]
    rfl
theorem index_first : ∀ (x r : List UInt8), (32 : UInt8) ∉ x → Lib.indexByte (x ++ 32 :: r) 32 = (x.length : Int)
  | [], r, _ => by unfold Lib.indexByte; rfl
  | c :: l, r, h => by
    have h1 : (c == 32) = false := by rw [beq_eq_false_iff_ne]; intro e; exact h (by rw [e]; exact List.mem_cons_self ..)
    have ih := index_first l r (fun x => h (List.mem_cons_of_mem _ x))
    show Lib.indexByte (c :: (l ++ 32 :: r)) 32 = _
    unfold Lib.indexByte
    rw [h1, ih]
    simp only [Bool.false_eq_true, if_false]
    rw [if_neg (by intro e; have := beq_iff_eq.1 e; omega)]
    simp
theorem split_join : ∀ (r : List (List UInt8)) (x : List UInt8), (∀ y ∈ x :: r, (32 : UInt8) ∉ y) → Lib.splitK [32] 0 r.length (Lib.join (x :: r) [32]) = x :: r
  | [], x, _ => by rw [Lib.join_one]; rfl
  | y :: r, x, h => by
    have ih := split_join r y (fun z hz => h z (List.mem_cons_of_mem _ hz))
    have hx := h x (List.mem_cons_self ..)
    have hj : Lib.join (x :: y :: r) [32] = x ++ 32 :: Lib.join (y :: r) [32] := by
      rw [Lib.join_cons, Lib.join_cons]
      simp [Lib.joinTail]
    have hi : Lib.index (x ++ 32 :: Lib.join (y :: r) [32]) [32] = (x.length : Int) := by rw [Lib.index_one]; exact index_first x _ hx
    rw [hj, List.length_cons, Lib.splitK, hi, if_neg (by intro e; have := beq_iff_eq.1 e; omega)]
    simp only [Int.toNat_natCast, Nat.add_zero, List.length_singleton]
    rw [List.take_left, show (x ++ 32 :: Lib.join (y :: r) [32]).drop (x.length + 1) = Lib.join (y :: r) [32] by rw [← List.drop_drop, List.drop_left]; rfl, ih]
theorem count_join : ∀ (r : List (List UInt8)) (x : List UInt8), (∀ y ∈ x :: r, (32 : UInt8) ∉ y) → (Lib.join (x :: r) [32]).count 32 = r.length
  | [], x, h => by rw [Lib.join_one]; exact List.count_eq_zero.2 (h x (List.mem_cons_self ..))
  | y :: r, x, h => by
    have ih := count_join r y (fun z hz => h z (List.mem_cons_of_mem _ hz))
    have hj : Lib.join (x :: y :: r) [32] = x ++ 32 :: Lib.join (y :: r) [32] := by
      rw [Lib.join_cons, Lib.join_cons]
      simp [Lib.joinTail]
    rw [hj, List.count_append, List.count_cons_self, ih, List.count_eq_zero.2 (h x (List.mem_cons_self ..)), List.length_cons]
    omega
theorem join_len (xs : List (List UInt8)) : (Lib.join xs [32]).length ≤ (xs.map List.length).sum + xs.length := by
  cases xs with
  | nil => simp [Lib.join, List.intercalate]
  | cons x r =>
    rw [Lib.join_cons]
    have : (Lib.joinTail [32] r).length = (r.map List.length).sum + r.length := by
      unfold Lib.joinTail
      induction r with
      | nil => rfl
      | cons y r ih => simp at ih ⊢; omega
    simp; omega
end Go.Proofs.YtgbnmokajaehhaaDoor
