/- Sectors compared; what Open answers, as one word. -/
import Derived.Test.YtbhebkjadgajeaaJ4
namespace Go.Proofs.Ytbhebkjadgajeaa
open Go.RowKit
theorem nat_beq (x y : Nat) : ((x : Int) == (y : Int)) = decide (x = y) := by
  by_cases h : x = y
  · subst h; simp
  · rw [decide_eq_false h, beq_eq_false_iff_ne]; omega
theorem str_beq (a b : ByteArray) : (a.toList == b.toList) = decide (a = b) := by
  by_cases h : a = b
  · subst h; simp
  · rw [decide_eq_false h, str_nbeq h]
/-- Are two sectors one? -/
def sameS (s t : Sct) : Bool := decide (s = t)
theorem eql70 (s t : Sct) (w : World) : (binOp .eql 70 s.val t.val).run Try.prog w = .ok (.bool (sameS s t)) w := by
  obtain ⟨k, e, n, a, m, p⟩ := s
  obtain ⟨k', e', n', a', m', p'⟩ := t
  unfold Sct.val sameS
  simp only [Sct.mk.injEq]
  by_cases h1 : k = k'
  · by_cases h2 : e = e'
    · by_cases h3 : n = n'
      · by_cases h4 : a = a'
        · by_cases h5 : m = m'
          · by_cases h6 : p = p' <;> simp [go_sem, h1, h2, h3, h4, h5, h6, str_beq]
          · simp [go_sem, h1, h2, h3, h4, h5, nat_beq]
        · simp [go_sem, h1, h2, h3, h4, nat_beq]
      · simp [go_sem, h1, h2, h3, nat_beq]
    · simp [go_sem, h1, h2, nat_beq]
  · simp [go_sem, h1, nat_beq]
theorem numL_inj {w m n : Nat} (h : numL w m = numL w n) (hm : m < 256 ^ w) (hn : n < 256 ^ w) : m = n := by
  have h1 := ofL_num w m
  rw [h, ofL_num, Nat.mod_eq_of_lt hm, Nat.mod_eq_of_lt hn] at h1
  exact h1.symm
theorem seal_inj {k e n a m k' e' n' a' m' : Nat} {p p' : ByteArray} (h : sealB k e n a m p = sealB k' e' n' a' m' p') (ok : okS k a m p.size) (ok' : okS k' a' m' p'.size) (he : e < 18446744073709551616) (he' : e' < 18446744073709551616) (hn : n < 18446744073709551616) (hn' : n' < 18446744073709551616) :
    k = k' ∧ e = e' ∧ n = n' ∧ a = a' ∧ m = m' ∧ p = p' := by
  obtain ⟨o1, o2, o3, o4, o5, o6, o7⟩ := ok
  obtain ⟨q1, q2, q3, q4, q5, q6, q7⟩ := ok'
  have hl : (sealB k e n a m p).data.toList = (sealB k' e' n' a' m' p').data.toList := by rw [h]
  rw [seal_list, seal_list] at hl
  obtain ⟨hk, hl⟩ := List.append_inj hl (by rw [numL_length, numL_length])
  unfold tl1 at hl
  replace hl := (List.append_inj hl rfl).2
  unfold tl2 at hl
  obtain ⟨ha, hl⟩ := List.append_inj hl (by rw [numL_length, numL_length])
  unfold tl3 at hl
  obtain ⟨hm, hl⟩ := List.append_inj hl (by rw [numL_length, numL_length])
  unfold tl4 at hl
  replace hl := (List.append_inj hl rfl).2
  unfold tl5 at hl
  obtain ⟨hE, hl⟩ := List.append_inj hl (by rw [numL_length, numL_length])
  unfold tl6 at hl
  obtain ⟨hN, hl⟩ := List.append_inj hl (by rw [numL_length, numL_length])
  unfold tl7 at hl
  replace hl := (List.append_inj hl (by simp [numL_length])).2
  exact ⟨numL_inj hk (by omega) (by omega), numL_inj hE (by omega) (by omega), numL_inj hN (by omega) (by omega), numL_inj ha (by omega) (by omega), numL_inj hm (by omega) (by omega), ByteArray.ext (Array.toList_inj.1 hl)⟩
/-- No sector. -/
def zeroS : Sct := ⟨0, 0, 0, 0, 0, ByteArray.empty⟩
/-- b is this sector's encoding. -/
def Sct.opens (s : Sct) (b : ByteArray) : Prop := s.ok ∧ b = s.bytes
theorem Sct.opens_one {s t : Sct} {b : ByteArray} (h : s.opens b) (h' : t.opens b) : s = t := by
  obtain ⟨k, e, n, a, m, p⟩ := s
  obtain ⟨k', e', n', a', m', p'⟩ := t
  have := seal_inj (h.2.symm.trans h'.2) h.1.1 h'.1.1 h.1.2.1 h'.1.2.1 h.1.2.2 h'.1.2.2
  obtain ⟨rfl, rfl, rfl, rfl, rfl, rfl⟩ := this
  rfl
open Classical in
/-- What Open makes of bytes. -/
noncomputable def openT (b : ByteArray) : Sct := if h : ∃ s : Sct, s.opens b then h.choose else zeroS
theorem openT_of {s : Sct} {b : ByteArray} (h : s.opens b) : openT b = s := by
  unfold openT
  rw [dif_pos ⟨s, h⟩]
  exact Sct.opens_one (Exists.choose_spec (⟨s, h⟩ : ∃ s : Sct, s.opens b)) h
theorem openT_none {b : ByteArray} (h : ∀ s : Sct, ¬ s.opens b) : openT b = zeroS := by
  unfold openT
  rw [dif_neg (fun ⟨s, hs⟩ => h s hs)]
theorem openT_seal {s : Sct} (h : s.ok) : openT s.bytes = s := openT_of ⟨h, rfl⟩
theorem openT_cases (b : ByteArray) : (openT b).opens b ∨ openT b = zeroS := by
  by_cases h : ∃ s : Sct, s.opens b
  · obtain ⟨s, hs⟩ := h
    exact .inl ((openT_of hs).symm ▸ hs)
  · exact .inr (openT_none (fun s hs => h ⟨s, hs⟩))
theorem open_sct (b : ByteArray) (hb : b.size ≤ maxLen) (s : Sct) (hs : openT b = s) (w : World) : Calls Try.prog 43 #[.string b] w fun x w' => (∃ y, x = .returned (.tuple #[s.val, .int .i64 y])) ∧ Below w.heap.size w w' := by
  by_cases h : ∃ s : Sct, s.opens b
  · obtain ⟨t, ht⟩ := h
    rw [openT_of ht] at hs
    subst hs
    exact (open_is (k := t.k) (e := t.e) (n := t.n) (a := t.a) (m := t.m) (p := t.p) ⟨ht.1.1, ht.1.2.1, ht.1.2.2, ht.2⟩ w).mono fun x w' ⟨hx, hB⟩ => ⟨⟨0, hx⟩, hB⟩
  · rw [openT_none (fun s hs => h ⟨s, hs⟩)] at hs
    subst hs
    exact (open_none hb (fun k e n a m p ho => h ⟨⟨k, e, n, a, m, p⟩, ⟨⟨ho.ok, ho.he, ho.hn⟩, ho.hb⟩⟩) w).mono fun x w' ⟨hx, hB⟩ => ⟨⟨19, hx⟩, hB⟩
end Go.Proofs.Ytbhebkjadgajeaa
