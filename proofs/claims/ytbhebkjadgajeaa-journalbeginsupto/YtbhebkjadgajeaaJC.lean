/- The examples of the journal hold. -/
import Derived.Test.YtbhebkjadgajeaaJB
namespace Go.Proofs.Ytbhebkjadgajeaa
open Go.RowKit
theorem apF_ok {n size used ep num : Nat} {l : Tx} {z : ByteArray} {P : List (Int × ByteArray)} {o : Int} (hok : okI l) (hl : l.length ≤ 65535) (he : ep < 18446744073709551616) (hn : num + 1 < 18446744073709551616) (hz : z.size = 480) (h1 : used + (l.length + 1) ≤ size) (h2 : 1 + used + (l.length + 1) ≤ n) :
    apF n size used ep num l z (P, 0, false, o) = (0, (P ++ wrL (1 + used) ((txS ep (num + 1) l z).map Sct.bytes), 0, false, o + (l.length + 1 : Nat)), used + (l.length + 1), num + 1) := by
  have hw := wrsF_ok n ((txS ep (num + 1) l z).map Sct.bytes) (1 + used) P o (by rw [List.length_map, txS_length]; exact h2) (fun b hb => by
    obtain ⟨s, hs, rfl⟩ := List.mem_map.1 hb
    exact bytes_size (txS_ok hok hl he hn hz s hs))
  unfold apF
  rw [if_neg (by simpa using hok), if_neg (by omega), hw, if_pos rfl, List.length_map, txS_length]
theorem apF_full {n size used ep num : Nat} {l : Tx} {z : ByteArray} {s : DS} (hok : okI l) (h1 : size < used + (l.length + 1)) : apF n size used ep num l z s = (14, s, used, num) := by
  unfold apF
  rw [if_neg (by simpa using hok), if_pos h1]
theorem fits_append {P Q : List (Int × ByteArray)} {n : Nat} (h : Fits P n) (h' : Fits Q n) : Fits (P ++ Q) n := by
  intro k hk
  by_cases hk2 : k < P.length
  · obtain ⟨a, ha, he⟩ := h k hk2
    exact ⟨a, ha, by rw [List.getElem_append_left hk2]; exact he⟩
  · obtain ⟨a, ha, he⟩ := h' (k - P.length) (by simp at hk; omega)
    exact ⟨a, ha, by rw [List.getElem_append_right (by omega)]; exact he⟩
theorem readS_at (S : List ByteArray) (P : List (Int × ByteArray)) (size : Nat) (X : List Sct) (hX : ∀ s ∈ X, s.ok) (i : Nat) (hi : i < size) :
    (readS S (P ++ wrL 1 (X.map Sct.bytes)) size)[i]'(by rw [readS_length]; exact hi) = if h : i < X.length then X[i] else openT (readT S P (1 + i)) := by
  rw [readS_get _ _ _ _ hi, readT_wrL]
  by_cases h : i < X.length
  · rw [dif_pos (by simp; omega), dif_pos h]
    simp only [Nat.add_sub_cancel_left, List.getElem_map]
    exact openT_bytes hX h
  · rw [dif_neg (by simp; omega), dif_neg h]
theorem secsFrom_ok {e : Nat} {z : ByteArray} (he : e < 18446744073709551616) (hz : z.size = 480) : ∀ (c : Nat) (txs : List Tx), (∀ t ∈ txs, okI t ∧ t.length ≤ 65535) → c + txs.length < 18446744073709551616 → ∀ s ∈ secsFrom e z c txs, s.ok
  | _, [], _, _, s, hs => by simp [secsFrom] at hs
  | c, t :: r, h, hc, s, hs => by
    rw [secsFrom] at hs
    simp only [List.length_cons] at hc
    rcases List.mem_append.1 hs with hs | hs
    · exact txS_ok (h t (List.mem_cons_self ..)).1 (h t (List.mem_cons_self ..)).2 he (by omega) hz s hs
    · exact secsFrom_ok he hz (c + 1) r (fun x hx => h x (List.mem_cons_of_mem _ hx)) (by omega) s hs
theorem secsFrom_e {e : Nat} {z : ByteArray} : ∀ (c : Nat) (txs : List Tx), ∀ s ∈ secsFrom e z c txs, s.e = e
  | _, [], s, hs => by simp [secsFrom] at hs
  | c, t :: r, s, hs => by
    rw [secsFrom] at hs
    rcases List.mem_append.1 hs with hs | hs
    · exact txS_e s hs
    · exact secsFrom_e (c + 1) r s hs
def ex1 : Tx := [(3, pageB 7)]
def ex2 : Tx := [(1, pageB 1), (2, pageB 2)]
def ex3 : Tx := [(1, pageB 1)]
theorem ok1 : okI ex1 := by simp [ex1, okI, okImg, pageB_size]
theorem ok2 : okI ex2 := by simp [ex2, okI, okImg, pageB_size]
theorem ok3 : okI ex3 := by simp [ex3, okI, okImg, pageB_size]
def exX (z : ByteArray) : List Sct := secsFrom 5 z 0 [ex1, ex2]
theorem exX_length (z : ByteArray) : (exX z).length = 5 := by simp [exX, secsFrom, txS_length, ex1, ex2]
theorem exX_ok : ∀ s ∈ exX z480, s.ok := secsFrom_ok (by omega) z480_size 0 _ (fun t ht => by
  simp only [List.mem_cons, List.not_mem_nil, or_false] at ht
  rcases ht with rfl | rfl
  · exact ⟨ok1, by simp [ex1]⟩
  · exact ⟨ok2, by simp [ex2]⟩) (by simp)
def exP : List (Int × ByteArray) := wrL 1 ((exX z480).map Sct.bytes)
theorem exP_eq : ([] ++ wrL (1 + 0) ((txS 5 (0 + 1) ex1 z480).map Sct.bytes)) ++ wrL (1 + (0 + (ex1.length + 1))) ((txS 5 (0 + 1 + 1) ex2 z480).map Sct.bytes) = exP := by
  unfold exP exX
  simp only [secsFrom, List.append_nil, List.map_append]
  rw [wrL_append, List.length_map, txS_length]
  rfl
theorem ex_read (i : Nat) (hi : i < 6) : (readS (List.replicate 9 z512) exP 6)[i]'(by rw [readS_length]; exact hi) = if h : i < (exX z480).length then (exX z480)[i] else zeroS := by
  have := readS_at (List.replicate 9 z512) [] 6 (exX z480) exX_ok i hi
  simp only [List.nil_append] at this
  unfold exP
  rw [this]
  split
  · rfl
  · have : readT (List.replicate 9 z512) [] (1 + i) = z512 := by
      unfold readT
      simp only [List.foldl_nil, List.getD_eq_getElem?_getD]
      rw [List.getElem?_replicate, if_pos (by omega)]
      rfl
    rw [this, openT_blank]
theorem ex_scan5 : scanG 5 z480 (6 + 1) (readS (List.replicate 9 z512) exP 6) 0 = [ex1, ex2] := by
  obtain ⟨m, hm, he, hs⟩ := scan_prefix 5 z480 [ex1, ex2] 0 (6 + 1) (readS (List.replicate 9 z512) exP 6) (fun t ht => by
    simp only [List.mem_cons, List.not_mem_nil, or_false] at ht
    rcases ht with rfl | rfl
    · exact ok1
    · exact ok2) (by rw [readS_length]; omega) (by
    intro i hi
    rw [readS_length] at hi
    have hr := ex_read i hi
    by_cases h : i < (exX z480).length
    · rw [dif_pos h] at hr
      left
      rw [List.getElem?_eq_getElem (by rw [readS_length]; exact hi), hr]
      exact (List.getElem?_eq_getElem h).symm
    · rw [dif_neg h] at hr
      right
      rw [hr]; decide)
  have := hs 2 (by simp) (by
    intro i hi
    have hX : secsFrom 5 z480 0 ([ex1, ex2].take 2) = exX z480 := rfl
    rw [hX] at hi
    have hi6 : i < 6 := by rw [exX_length] at hi; omega
    have hr := ex_read i hi6
    rw [dif_pos hi] at hr
    rw [List.getElem?_eq_getElem (by rw [readS_length]; exact hi6), hr]
    exact (List.getElem?_eq_getElem hi).symm)
  have hm2 : m = 2 := by simp at hm; omega
  rw [he, hm2]
  rfl
theorem ex_scan4 : scanG 4 z480 (6 + 1) (readS (List.replicate 9 z512) exP 6) 0 = [] := by
  obtain ⟨m, hm, he, hs⟩ := scan_prefix 4 z480 [] 0 (6 + 1) (readS (List.replicate 9 z512) exP 6) (fun t ht => by simp at ht) (by rw [readS_length]; omega) (by
    intro i hi
    rw [readS_length] at hi
    have hr := ex_read i hi
    right
    rw [hr]
    split
    · next h =>
      have := secsFrom_e 0 [ex1, ex2] _ (List.getElem_mem h)
      intro h2
      rw [h2] at this
      simp at this
    · decide)
  rw [he, List.take_nil]
end Go.Proofs.Ytbhebkjadgajeaa
