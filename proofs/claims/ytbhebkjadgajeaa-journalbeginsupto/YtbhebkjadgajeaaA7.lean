/- What Open answers, in plain words. -/
import Derived.Test.YtbhebkjadgajeaaA6
namespace Go.Proofs.Ytbhebkjadgajeaa
open Go.RowKit
theorem ext0 (q : ByteArray) (L R : List UInt8) (h : q.data.toList = L ++ R) : q.extract 0 L.length = bs L := by
  apply ByteArray.ext; apply Array.toList_inj.1
  simp [bs, h]
theorem ext1 (q : ByteArray) (L R : List UInt8) (h : q.data.toList = L ++ R) : q.extract L.length q.size = bs R := by
  have hs : q.data.size = (L ++ R).length := by rw [← h]; simp
  apply ByteArray.ext; apply Array.toList_inj.1
  simp [bs, h, ByteArray.size, hs]
theorem ext1n (q : ByteArray) (L R : List UInt8) (j : Nat) (h : q.data.toList = L ++ R) (hj : L.length = j) : q.extract j q.size = bs R := by
  subst hj; exact ext1 q L R h
theorem len_le (q : ByteArray) (L R : List UInt8) (h : q.data.toList = L ++ R) : L.length ≤ q.size := by rw [blen, h]; simp
theorem raw_read (q : ByteArray) (L R : List UInt8) (n : Nat) (h : q.data.toList = L ++ R) (hn : L.length = n) : rawS q 0 n = (bs R, 0, bs L) := by
  subst hn
  rw [rawS_ok (len_le q L R h), ext0 q L R h, ext1 q L R h]
theorem num_read (q : ByteArray) (w n : Nat) (R : List UInt8) (h : q.data.toList = numL w n ++ R) (h1 : 1 ≤ w) (h2 : w ≤ 8) (hn : n < 256 ^ w) : numS q 0 w = (bs R, 0, n) := by
  rw [numS_good (by omega) (by omega), raw_read q _ R w h (numL_length w n)]
  show (_, _, ofL (bs (numL w n)).data.toList) = _
  rw [bs_toList, ofL_num, Nat.mod_eq_of_lt hn]
/-- b is the encoding of this sector. -/
structure Opens (b : ByteArray) (k e n a m : Nat) (p : ByteArray) : Prop where
  ok : okS k a m p.size
  he : e < 18446744073709551616
  hn : n < 18446744073709551616
  hb : b = sealB k e n a m p
/-- What lies behind the fields, one by one. -/
def tl8 (_k _e _n _a _m : Nat) (p : ByteArray) : List UInt8 := p.data.toList
def tl7 (k e n a m : Nat) (p : ByteArray) : List UInt8 := (List.replicate 4 0 ++ numL 4 (sumN (frontB k e n a m ++ p).data.toList)) ++ p.data.toList
def tl6 (k e n a m : Nat) (p : ByteArray) : List UInt8 := numL 8 n ++ tl7 k e n a m p
def tl5 (k e n a m : Nat) (p : ByteArray) : List UInt8 := numL 8 e ++ tl6 k e n a m p
def tl4 (k e n a m : Nat) (p : ByteArray) : List UInt8 := List.replicate 2 0 ++ tl5 k e n a m p
def tl3 (k e n a m : Nat) (p : ByteArray) : List UInt8 := numL 2 m ++ tl4 k e n a m p
def tl2 (k e n a m : Nat) (p : ByteArray) : List UInt8 := numL 2 a ++ tl3 k e n a m p
def tl1 (k e n a m : Nat) (p : ByteArray) : List UInt8 := List.replicate 1 0 ++ tl2 k e n a m p
theorem seal_list (k e n a m : Nat) (p : ByteArray) : (sealB k e n a m p).data.toList = numL 1 k ++ tl1 k e n a m p := by
  unfold sealB tl1 tl2 tl3 tl4 tl5 tl6 tl7
  generalize numL 4 _ = z
  unfold frontB
  simp [bs_toList]
theorem bsr (l : List UInt8) : (bs l).data.toList = l := bs_toList l
theorem open_is {b : ByteArray} {k e n a m : Nat} {p : ByteArray} (h : Opens b k e n a m p) (w : World) : Calls Try.prog 43 #[.string b] w fun x w' => x = secErr k e n a m p 0 ∧ Below w.heap.size w w' := by
  obtain ⟨h1, h2, h3, h4, h5, h6, h7⟩ := h.ok
  have hbl := seal_list k e n a m p
  rw [← h.hb] at hbl
  have hbs : b.size ≤ maxLen := by rw [h.hb, sealB_size, h7]; decide
  refine open_yes b k a m e n p w (fun w => fields_any b w hbs (bs (tl1 k e n a m p)) (bs (tl2 k e n a m p)) (bs (tl3 k e n a m p)) (bs (tl4 k e n a m p)) (bs (tl5 k e n a m p)) (bs (tl6 k e n a m p)) (bs (tl7 k e n a m p)) (bs (tl8 k e n a m p)) (bs []) 0 0 0 0 0 0 0 0 0 k a m e n (bs (List.replicate 1 0)) (bs (List.replicate 2 0)) (bs (List.replicate 4 0 ++ numL 4 (sumN (frontB k e n a m ++ p).data.toList))) p
    ⟨num_read _ _ _ _ hbl (by omega) (by omega) (by omega)⟩ ⟨raw_read _ _ _ _ (bsr _) rfl⟩ ⟨num_read _ _ _ _ (bsr _) (by omega) (by omega) (by omega)⟩ ⟨num_read _ _ _ _ (bsr _) (by omega) (by omega) (by omega)⟩ ⟨raw_read _ _ _ _ (bsr _) rfl⟩
    ⟨num_read _ _ _ _ (bsr _) (by omega) (by omega) (by have := h.he; omega)⟩ ⟨num_read _ _ _ _ (bsr _) (by omega) (by omega) (by have := h.hn; omega)⟩ ⟨raw_read _ _ _ _ (bsr _) (by simp [numL_length])⟩ ⟨?_⟩) (fun w => ?_)
  · have := raw_read (bs (tl8 k e n a m p)) p.data.toList [] 480 (by rw [bsr]; simp [tl8]) (by rw [← blen, h7])
    rw [bs_of] at this; exact this
  · have := seal_ok k e n a m p w h.ok h.he h.hn
    rwa [← h.hb] at this
theorem open_none {b : ByteArray} (hbs : b.size ≤ maxLen) (h : ∀ k e n a m p, ¬ Opens b k e n a m p) (w : World) : Calls Try.prog 43 #[.string b] w fun x w' => x = secErr 0 0 0 0 0 ByteArray.empty 19 ∧ Below w.heap.size w w' := by
  obtain ⟨t1, y1, k, h1⟩ : ∃ t y o, NumStep b 0 1 t y o := ⟨_, _, _, ⟨rfl⟩⟩
  obtain ⟨t2, y2, o2, h2⟩ : ∃ t y o, RawStep t1 y1 1 t y o := ⟨_, _, _, ⟨rfl⟩⟩
  obtain ⟨t3, y3, a, h3⟩ : ∃ t y o, NumStep t2 y2 2 t y o := ⟨_, _, _, ⟨rfl⟩⟩
  obtain ⟨t4, y4, m, h4⟩ : ∃ t y o, NumStep t3 y3 2 t y o := ⟨_, _, _, ⟨rfl⟩⟩
  obtain ⟨t5, y5, o5, h5⟩ : ∃ t y o, RawStep t4 y4 2 t y o := ⟨_, _, _, ⟨rfl⟩⟩
  obtain ⟨t6, y6, e, h6⟩ : ∃ t y o, NumStep t5 y5 8 t y o := ⟨_, _, _, ⟨rfl⟩⟩
  obtain ⟨t7, y7, n, h7⟩ : ∃ t y o, NumStep t6 y6 8 t y o := ⟨_, _, _, ⟨rfl⟩⟩
  obtain ⟨t8, y8, o8, h8⟩ : ∃ t y o, RawStep t7 y7 8 t y o := ⟨_, _, _, ⟨rfl⟩⟩
  obtain ⟨t9, y9, p, h9⟩ : ∃ t y o, RawStep t8 y8 480 t y o := ⟨_, _, _, ⟨rfl⟩⟩
  have be : e < 18446744073709551616 := h6.lt (by omega) (by omega)
  have bn : n < 18446744073709551616 := h7.lt (by omega) (by omega)
  have HF := fun w => fields_any b w hbs t1 t2 t3 t4 t5 t6 t7 t8 t9 y1 y2 y3 y4 y5 y6 y7 y8 y9 k a m e n o2 o5 o8 p h1 h2 h3 h4 h5 h6 h7 h8 h9
  by_cases hok : okS k a m p.size
  · exact open_other b k a m e n p w (sealB k e n a m p) (fun hc => h k e n a m p ⟨hok, be, bn, hc.symm⟩) HF (fun w => seal_ok k e n a m p w hok be bn)
  · exact open_bad b k a m e n p w HF (fun w => seal_no k e n a m p w hok)
end Go.Proofs.Ytbhebkjadgajeaa
