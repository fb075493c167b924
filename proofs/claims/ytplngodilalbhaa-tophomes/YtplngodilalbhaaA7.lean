/- What Open answers, in plain words. -/
import Derived.Test.YtplngodilalbhaaA6
namespace Go.Proofs.Ytplngodilalbhaa
open Go.RowKit
theorem ext0 (q : ByteArray) (L R : List UInt8) (h : q.data.toList = L ++ R) : q.extract 0 L.length = bs L := by
  apply ByteArray.ext; apply Array.toList_inj.1
  simp [bs, h]
theorem ext1 (q : ByteArray) (L R : List UInt8) (h : q.data.toList = L ++ R) : q.extract L.length q.size = bs R := by
  have hs : q.data.size = (L ++ R).length := by rw [← h]; simp
  apply ByteArray.ext; apply Array.toList_inj.1
  simp [bs, h, ByteArray.size, hs]
theorem ext1n (q : ByteArray) (L R : List UInt8) (j : Nat) (h : q.data.toList = L ++ R) (hj : L.length = j) : q.extract j q.size = bs R := by
  subst hj; exact ext1 q L R h
theorem len_le (q : ByteArray) (L R : List UInt8) (h : q.data.toList = L ++ R) : L.length ≤ q.size := by rw [blen, h]; simp
theorem raw_read (q : ByteArray) (L R : List UInt8) (n : Nat) (h : q.data.toList = L ++ R) (hn : L.length = n) : rawS q 0 n = (bs R, 0, bs L) := by
  subst hn
  rw [rawS_ok (len_le q L R h), ext0 q L R h, ext1 q L R h]
theorem num_read (q : ByteArray) (w n : Nat) (R : List UInt8) (h : q.data.toList = numL w n ++ R) (h1 : 1 ≤ w) (h2 : w ≤ 8) (hn : n < 256 ^ w) : numS q 0 w = (bs R, 0, n) := by
  rw [numS_good (by omega) (by omega), raw_read q _ R w h (numL_length w n)]
  show (_, _, ofL (bs (numL w n)).data.toList) = _
  rw [bs_toList, ofL_num, Nat.mod_eq_of_lt hn]
/-- b is the encoding of this sector. -/
structure Opens (b : ByteArray) (k e n a m : Nat) (p : ByteArray) : Prop where
  ok : okS k a m p.size
  he : e < 18446744073709551616
  hn : n < 18446744073709551616
  hb : b = sealB k e n a m p
/-- What lies behind the fields, one by one. -/
def tl8 (_k _e _n _a _m : Nat) (p : ByteArray) : List UInt8 := p.data.toList
def tl7 (k e n a m : Nat) (p : ByteArray) : List UInt8 := (List.replicate 4 0 ++ numL 4 (sumN (frontB k e n a m ++ p).data.toList)) ++ p.data.toList
def tl6 (k e n a m : Nat) (p : ByteArray) : List UInt8 := numL 8 n ++ tl7 k e n a m p
def tl5 (k e n a m : Nat) (p : ByteArray) : List UInt8 := numL 8 e ++ tl6 k e n a m p
def tl4 (k e n a m : Nat) (p : ByteArray) : List UInt8 := List.replicate 2 0 ++ tl5 k e n a m p
def tl3 (k e n a m : Nat) (p : ByteArray) : List UInt8 := numL 2 m ++ tl4 k e n a m p
def tl2 (k e n a m : Nat) (p : ByteArray) : List UInt8 := numL 2 a ++ tl3 k e n a m p
def tl1 (k e n a m : Nat) (p : ByteArray) : List UInt8 := List.replicate 1 0 ++ tl2 k e n a m p
theorem seal_list (k e n a m : Nat) (p : ByteArray) : (sealB k e n a m p).data.toList = numL 1 k ++ tl1 k e n a m p := by
  unfold sealB tl1 tl2 tl3 tl4 tl5 tl6 tl7
  generalize numL 4 _ = z
  unfold frontB
  simp [bs_toList]
theorem bsr (l : List UInt8) : (bs l).data.toList = l := bs_toList l
theorem open_is {b : ByteArray} {k e n a m : Nat} {p : ByteArray} (h : Opens b k e n a m p) (w : World) : Calls Try.prog 14 #[.string b] w fun x w' => x = secErr k e n a m p 0 ∧ Below w.heap.size w w' := by
  obtain ⟨h1, h2, h3, h4, h5, h6, h7⟩ := h.ok
  have hbl := seal_list k e n a m p
  rw [← h.hb] at hbl
  have hbs : b.size ≤ maxLen := by rw [h.hb, sealB_size, h7]; decide
  refine open_yes b k a m e n p w (fun w => fields_any b w hbs (bs (tl1 k e n a m p)) (bs (tl2 k e n a m p)) (bs (tl3 k e n a m p)) (bs (tl4 k e n a m p)) (bs (tl5 k e n a m p)) (bs (tl6 k e n a m p)) (bs (tl7 k e n a m p)) (bs (tl8 k e n a m p)) (bs []) 0 0 0 0 0 0 0 0 0 k a m e n (bs (List.replicate 1 0)) (bs (List.replicate 2 0)) (bs (List.replicate 4 0 ++ numL 4 (sumN (frontB k e n a m ++ p).data.toList))) p
    ⟨num_read _ _ _ _ hbl (by omega) (by omega) (by omega)⟩ ⟨raw_read _ _ _ _ (bsr _) rfl⟩ ⟨num_read _ _ _ _ (bsr _) (by omega) (by omega) (by omega)⟩ ⟨num_read _ _ _ _ (bsr _) (by omega) (by omega) (by omega)⟩ ⟨raw_read _ _ _ _ (bsr _) rfl⟩
    ⟨num_read _ _ _ _ (bsr _) (by omega) (by omega) (by have := h.he; omega)⟩ ⟨num_read _ _ _ _ (bsr _) (by omega) (by omega) (by have := h.hn; omega)⟩ ⟨raw_read _ _ _ _ (bsr _) (by simp [numL_length])⟩ ⟨?_⟩) (fun w => ?_)
  · have := raw_read (bs (tl8 k e n a m p)) p.data.toList [] 480 (by rw [bsr]; simp [tl8]) (by rw [← blen, h7])
    rw [bs_of] at this; exact this
  · have := seal_ok k e n a m p w h.ok h.he h.hn
    rwa [← h.hb] at this
theorem open_none {b : ByteArray} (hbs : b.size ≤ maxLen) (h : ∀ k e n a m p, ¬ Opens b k e n a m p) (w : World) : Calls Try.prog 14 #[.string b] w fun x w' => x = secErr 0 0 0 0 0 ByteArray.empty 19 ∧ Below w.heap.size w w' := by
  obtain ⟨t1, y1, k, h1⟩ : ∃ t y o, NumStep b 0 1 t y o := ⟨_, _, _, ⟨rfl⟩⟩
  obtain ⟨t2, y2, o2, h2⟩ : ∃ t y o, RawStep t1 y1 1 t y o := ⟨_, _, _, ⟨rfl⟩⟩
  obtain ⟨t3, y3, a, h3⟩ : ∃ t y o, NumStep t2 y2 2 t y o := ⟨_, _, _, ⟨rfl⟩⟩
  obtain ⟨t4, y4, m, h4⟩ : ∃ t y o, NumStep t3 y3 2 t y o := ⟨_, _, _, ⟨rfl⟩⟩
  obtain ⟨t5, y5, o5, h5⟩ : ∃ t y o, RawStep t4 y4 2 t y o := ⟨_, _, _, ⟨rfl⟩⟩
  obtain ⟨t6, y6, e, h6⟩ : ∃ t y o, NumStep t5 y5 8 t y o := ⟨_, _, _, ⟨rfl⟩⟩
  obtain ⟨t7, y7, n, h7⟩ : ∃ t y o, NumStep t6 y6 8 t y o := ⟨_, _, _, ⟨rfl⟩⟩
  obtain ⟨t8, y8, o8, h8⟩ : ∃ t y o, RawStep t7 y7 8 t y o := ⟨_, _, _, ⟨rfl⟩⟩
  obtain ⟨t9, y9, p, h9⟩ : ∃ t y o, RawStep t8 y8 480 t y o := ⟨_, _, _, ⟨rfl⟩⟩
  have be : e < 18446744073709551616 := h6.lt (by omega) (by omega)
  have bn : n < 18446744073709551616 := h7.lt (by omega) (by omega)
  have HF := fun w => fields_any b w hbs t1 t2 t3 t4 t5 t6 t7 t8 t9 y1 y2 y3 y4 y5 y6 y7 y8 y9 k a m e n o2 o5 o8 p h1 h2 h3 h4 h5 h6 h7 h8 h9
  by_cases hok : okS k a m p.size
  · exact open_other b k a m e n p w (sealB k e n a m p) (fun hc => h k e n a m p ⟨hok, be, bn, hc.symm⟩) HF (fun w => seal_ok k e n a m p w hok be bn)
  · exact open_bad b k a m e n p w HF (fun w => seal_no k e n a m p w hok)
theorem ropen_is {b : ByteArray} {k e n a m : Nat} {p : ByteArray} (h : Opens b k e n a m p) (w : World) : Calls Try.prog 15 #[.string b] w fun x w' => x = secErr k e n a m p 0 ∧ Below w.heap.size w w' := by
  obtain ⟨h1, h2, h3, h4, h5, h6, h7⟩ := h.ok
  have hbl := seal_list k e n a m p
  rw [← h.hb] at hbl
  have hbs : b.size = 512 := by rw [h.hb, sealB_size, h7]
  have h0 : 0 < b.size := by omega
  have e2 : b.extract 2 b.size = bs (tl2 k e n a m p) := ext1n b (numL 1 k ++ List.replicate 1 0) _ _ (by rw [hbl]; simp [tl1]) (by simp [numL_length])
  have e4 : b.extract 4 b.size = bs (tl3 k e n a m p) := ext1n b (numL 1 k ++ (List.replicate 1 0 ++ numL 2 a)) _ _ (by rw [hbl]; simp [tl1, tl2]) (by simp [numL_length])
  have e8 : b.extract 8 b.size = bs (tl5 k e n a m p) := ext1n b (numL 1 k ++ (List.replicate 1 0 ++ (numL 2 a ++ (numL 2 m ++ List.replicate 2 0)))) _ _ (by rw [hbl]; simp [tl1, tl2, tl3, tl4]) (by simp [numL_length])
  have e16 : b.extract 16 b.size = bs (tl6 k e n a m p) := ext1n b (numL 1 k ++ (List.replicate 1 0 ++ (numL 2 a ++ (numL 2 m ++ (List.replicate 2 0 ++ numL 8 e))))) _ _ (by rw [hbl]; simp [tl1, tl2, tl3, tl4, tl5]) (by simp [numL_length])
  have e32 : b.extract 32 b.size = p := (ext1n b (numL 1 k ++ (List.replicate 1 0 ++ (numL 2 a ++ (numL 2 m ++ (List.replicate 2 0 ++ (numL 8 e ++ (numL 8 n ++ (List.replicate 4 0 ++ numL 4 (sumN (frontB k e n a m ++ p).data.toList))))))))) p.data.toList _ (by rw [hbl]; simp [tl1, tl2, tl3, tl4, tl5, tl6, tl7]) (by simp [numL_length])).trans (bs_of p)
  have hk : b[0]'h0 = UInt8.ofNat k := by
    have hl : b.data.toList = UInt8.ofNat k :: tl1 k e n a m p := by
      rw [hbl, show numL 1 k = [UInt8.ofNat (k % 256)] by simp [numL], Nat.mod_eq_of_lt (by omega)]; rfl
    have q : b.data.toList[0]? = some (UInt8.ofNat k) := by rw [hl]; rfl
    have q2 : b.data.toList[0]? = some (b[0]'h0) := by
      rw [Array.getElem?_toList, Array.getElem?_eq_getElem (by exact h0)]; rfl
    rw [q2] at q
    exact Option.some.inj q
  refine ropen_yes b k a m e n p w (bs (tl3 k e n a m p)) (bs (tl4 k e n a m p)) (bs (tl6 k e n a m p)) (bs (tl7 k e n a m p)) 0 0 0 0 hbs h0 hk (by omega) e32 ⟨?_⟩ ⟨?_⟩ ⟨?_⟩ ⟨?_⟩ (fun w => ?_)
  · rw [e2]; exact num_read _ _ _ _ (bsr _) (by omega) (by omega) (by omega)
  · rw [e4]; exact num_read _ _ _ _ (bsr _) (by omega) (by omega) (by omega)
  · rw [e8]; exact num_read _ _ _ _ (bsr _) (by omega) (by omega) (by have := h.he; omega)
  · rw [e16]; exact num_read _ _ _ _ (bsr _) (by omega) (by omega) (by have := h.hn; omega)
  · have := rseal_ok k e n a m p w h.ok h.he h.hn
    rwa [← h.hb] at this
theorem ropen_none {b : ByteArray} (h : ∀ k e n a m p, ¬ Opens b k e n a m p) (w : World) : Calls Try.prog 15 #[.string b] w fun x w' => x = secErr 0 0 0 0 0 ByteArray.empty 19 ∧ Below w.heap.size w w' := by
  by_cases h512 : b.size = 512
  · have h0 : 0 < b.size := by omega
    obtain ⟨t1, y1, a, h1⟩ : ∃ t y o, NumStep (b.extract 2 b.size) 0 2 t y o := ⟨_, _, _, ⟨rfl⟩⟩
    obtain ⟨t2, y2, m, h2⟩ : ∃ t y o, NumStep (b.extract 4 b.size) 0 2 t y o := ⟨_, _, _, ⟨rfl⟩⟩
    obtain ⟨t3, y3, e, h3⟩ : ∃ t y o, NumStep (b.extract 8 b.size) 0 8 t y o := ⟨_, _, _, ⟨rfl⟩⟩
    obtain ⟨t4, y4, n, h4⟩ : ∃ t y o, NumStep (b.extract 16 b.size) 0 8 t y o := ⟨_, _, _, ⟨rfl⟩⟩
    have be : e < 18446744073709551616 := h3.lt (by omega) (by omega)
    have bn : n < 18446744073709551616 := h4.lt (by omega) (by omega)
    obtain ⟨k, hk, hk2⟩ : ∃ k : Nat, b[0]'h0 = UInt8.ofNat k ∧ k < 256 := ⟨(b[0]'h0).toNat, by simp, (b[0]'h0).toNat_lt⟩
    by_cases hok : okS k a m (b.extract 32 b.size).size
    · exact ropen_other b k a m e n _ w t1 t2 t3 t4 y1 y2 y3 y4 _ (fun hc => h k e n a m _ ⟨hok, be, bn, hc.symm⟩) h512 h0 hk hk2 rfl h1 h2 h3 h4 (fun w => rseal_ok k e n a m _ w hok be bn)
    · exact ropen_bad b k a m e n _ w t1 t2 t3 t4 y1 y2 y3 y4 h512 h0 hk hk2 rfl h1 h2 h3 h4 (fun w => rseal_no k e n a m _ w hok)
  · exact ropen_short b w h512
end Go.Proofs.Ytplngodilalbhaa
