/- Texts and numbers written, and read again: the plain mathematics. -/
import Derived.Test.YtgbnmokajaehhaaOF
import Derived.Test.YtgbnmokajaehhaaOpen2
namespace Go.Proofs.Ytgbnmokajaehhaa
open Go.RowKit
set_option linter.unusedVariables false
/-- Texts, one behind the other. -/
def encT : List ByteArray → List UInt8
  | [] => []
  | p :: r => numL 2 p.size ++ (p.data.toList ++ encT r)
theorem encT_snoc (l : List ByteArray) (p : ByteArray) : encT (l ++ [p]) = encT l ++ (numL 2 p.size ++ p.data.toList) := by
  induction l with
  | nil => simp [encT]
  | cons a l ih => simp only [List.cons_append, encT, ih, List.append_assoc]
/-- Numbers, one behind the other, each in three ways. -/
def encN : Nat → List Nat → List UInt8
  | _, [] => []
  | i, n :: r => numL (i % 8 + 1) n ++ (numL 8 n ++ (numL 8 (18446744073709551615 - n) ++ encN (i + 1) r))
theorem encN_snoc (i : Nat) (l : List Nat) (n : Nat) : encN i (l ++ [n]) = encN i l ++ (numL ((i + l.length) % 8 + 1) n ++ (numL 8 n ++ numL 8 (18446744073709551615 - n))) := by
  induction l generalizing i with
  | nil => simp [encN]
  | cons a l ih => simp only [List.cons_append, encN, ih, List.append_assoc, List.length_cons]; rw [show i + 1 + l.length = i + (l.length + 1) by omega]
theorem ext0 (q : ByteArray) (L R : List UInt8) (h : q.data.toList = L ++ R) : q.extract 0 L.length = bs L := by
  apply ByteArray.ext; apply Array.toList_inj.1
  rw [ext_take, h, bs_toList]; simp
theorem ext1 (q : ByteArray) (L R : List UInt8) (h : q.data.toList = L ++ R) : q.extract L.length q.size = bs R := by
  apply ByteArray.ext; apply Array.toList_inj.1
  rw [ext_drop, h, bs_toList]; simp
theorem len_le (q : ByteArray) (L R : List UInt8) (h : q.data.toList = L ++ R) : L.length ≤ q.size := by rw [blen, h]; simp
theorem raw_read (q : ByteArray) (L R : List UInt8) (n : Nat) (h : q.data.toList = L ++ R) (hn : L.length = n) : rawS q 0 n = (bs R, 0, bs L) := by
  subst hn
  rw [rawS_ok (len_le q L R h), ext0 q L R h, ext1 q L R h]
theorem num_read (q : ByteArray) (w n : Nat) (R : List UInt8) (h : q.data.toList = numL w n ++ R) (h1 : 1 ≤ w) (h2 : w ≤ 8) : numS q 0 w = (bs R, 0, n % 256 ^ w) := by
  rw [numS_good (by omega) (by omega), raw_read q _ R w h (numL_length w n)]
  simp only
  rw [bs_toList, ofL_num]
theorem text_read (q p : ByteArray) (R : List UInt8) (h : q.data.toList = numL 2 p.size ++ (p.data.toList ++ R)) (hp : p.size ≤ 4096) : textS q 0 4096 = (bs R, 0, p) := by
  have h2 : numS q 0 2 = _ := num_read q 2 p.size _ h (by omega) (by omega)
  unfold textS
  rw [h2]
  simp only
  rw [show p.size % 256 ^ 2 = p.size from Nat.mod_eq_of_lt (by omega), if_neg (by simp), if_neg (by omega)]
  rw [raw_read (bs (p.data.toList ++ R)) p.data.toList R p.size (by rw [bs_toList]) (by rw [← blen]), bs_of]
theorem take_snoc_str (ps : List ByteArray) (k : Nat) (h : k < ps.length) : ps.take (k + 1) = ps.take k ++ [ps.getD k ByteArray.empty] := by
  rw [List.take_succ_eq_append_getElem h]; simp [h]
theorem drop_cons_str (ps : List ByteArray) (k : Nat) (h : k < ps.length) : ps.drop k = ps.getD k ByteArray.empty :: ps.drop (k + 1) := by
  rw [List.drop_eq_getElem_cons h]; simp [h]
theorem take_snoc_num (ps : List Nat) (k : Nat) (h : k < ps.length) : ps.take (k + 1) = ps.take k ++ [ps.getD k 0] := by
  rw [List.take_succ_eq_append_getElem h]; simp [h]
theorem drop_cons_num (ps : List Nat) (k : Nat) (h : k < ps.length) : ps.drop k = ps.getD k 0 :: ps.drop (k + 1) := by
  rw [List.drop_eq_getElem_cons h]; simp [h]
/-- The texts so far are written. -/
def TxtAt (ps : List ByteArray) (k : Nat) (q : ByteArray) : Prop := q.data.toList = encT (ps.take k) ∧ ∀ p ∈ ps.take k, p.size ≤ 4096
theorem TxtAt.next {ps : List ByteArray} {k : Nat} {q p : ByteArray} (h : TxtAt ps k q) (hk : k < ps.length) (hp : ps.getD k ByteArray.empty = p) (hs : p.size ≤ 4096) : TxtAt ps (k + 1) (q ++ textB p) := by
  unfold TxtAt at h ⊢
  rw [take_snoc_str ps k hk, hp]
  refine ⟨?_, ?_⟩
  · rw [toList_append, encT_snoc, h.1]; unfold textB; rw [toList_append, bs_toList]
  · intro x hx
    rcases List.mem_append.1 hx with hx | hx
    · exact h.2 x hx
    · rw [List.mem_singleton] at hx; subst hx; exact hs
/-- The numbers so far are written. -/
def NumAt (ps : List ByteArray) (ns : List Nat) (k : Nat) (q : ByteArray) : Prop := q.data.toList = encT ps ++ encN 0 (ns.take k)
theorem NumAt.next {ps : List ByteArray} {ns : List Nat} {k : Nat} {q : ByteArray} {n f : Nat} (h : NumAt ps ns k q) (hk : k < ns.length) (hn : ns.getD k 0 = n) (hf : n + f = 18446744073709551615) :
    NumAt ps ns (k + 1) (q ++ (bs (numL (k % 8 + 1) n) ++ bs (numL 8 n) ++ bs (numL 8 f))) := by
  unfold NumAt at h ⊢
  have hl : (ns.take k).length = k := by simp; omega
  rw [take_snoc_num ns k hk, hn, encN_snoc, hl, Nat.zero_add, toList_append, toList_append, toList_append, bs_toList, bs_toList, bs_toList, h]
  rw [show 18446744073709551615 - n = f by omega]
  simp only [List.append_assoc]
/-- What is left to be read: texts from here on, and the numbers. -/
def TxtLeft (ps : List ByteArray) (ns : List Nat) (k : Nat) (q : ByteArray) : Prop := q.data.toList = encT (ps.drop k) ++ encN 0 ns
theorem TxtLeft.step {ps : List ByteArray} {ns : List Nat} {k : Nat} {q p : ByteArray} (h : TxtLeft ps ns k q) (hk : k < ps.length) (hp : ps.getD k ByteArray.empty = p) (hs : p.size ≤ 4096) :
    ∃ q', textS q 0 4096 = (q', 0, p) ∧ TxtLeft ps ns (k + 1) q' := by
  unfold TxtLeft at h
  rw [drop_cons_str ps k hk, hp] at h
  refine ⟨bs (encT (ps.drop (k + 1)) ++ encN 0 ns), text_read q p _ ?_ hs, ?_⟩
  · rw [h]; simp only [encT, List.append_assoc]
  · unfold TxtLeft; rw [bs_toList]
def NumLeft (ns : List Nat) (k : Nat) (q : ByteArray) : Prop := q.data.toList = encN k (ns.drop k)
theorem NumLeft.step {ns : List Nat} {k : Nat} {q : ByteArray} {n f : Nat} (h : NumLeft ns k q) (hk : k < ns.length) (hn : ns.getD k 0 = n) (hf : n + f = 18446744073709551615) :
    ∃ q1 q2 q3, numS q 0 ((k % 8 + 1 : Nat) : Int) = (q1, 0, n % 256 ^ (k % 8 + 1)) ∧ rawS q1 0 8 = (q2, 0, bs (numL 8 n)) ∧ rawS q2 0 8 = (q3, 0, bs (numL 8 f)) ∧ NumLeft ns (k + 1) q3 ∧ q1.size ≤ q.size ∧ q2.size ≤ q.size ∧ q3.size ≤ q.size := by
  unfold NumLeft at h
  rw [drop_cons_num ns k hk, hn] at h
  unfold encN at h
  rw [show 18446744073709551615 - n = f by omega] at h
  have e := blen q
  rw [h] at e
  simp only [List.length_append] at e
  refine ⟨bs (numL 8 n ++ (numL 8 f ++ encN (k + 1) (ns.drop (k + 1)))), bs (numL 8 f ++ encN (k + 1) (ns.drop (k + 1))), bs (encN (k + 1) (ns.drop (k + 1))), num_read q _ n _ h (by omega) (by omega), ?_, ?_, ?_, ?_, ?_, ?_⟩
  · exact raw_read _ (numL 8 n) _ 8 (by rw [bs_toList]) (numL_length 8 n)
  · exact raw_read _ (numL 8 f) _ 8 (by rw [bs_toList]) (numL_length 8 f)
  · unfold NumLeft; rw [bs_toList]
  · rw [bs_size]; simp only [List.length_append]; omega
  · rw [bs_size]; simp only [List.length_append]; omega
  · rw [bs_size]; omega
theorem NumLeft.done {ns : List Nat} {k : Nat} {q : ByteArray} (h : NumLeft ns k q) (hk : ns.length ≤ k) : q.size = 0 := by
  unfold NumLeft at h
  rw [List.drop_of_length_le hk] at h
  rw [blen, h]; rfl
/-- The whole of the parts so far. -/
theorem cut_join (m : Nat) (s : ByteArray) (hm : 1 ≤ m) : ((cutB m s).map (·.data.toList)).flatten = s.data.toList := by
  have key : ∀ f (l : List UInt8), l.length ≤ f → (chunksF m f l).flatten = l := by
    intro f
    induction f with
    | zero => intro l hl; have : l = [] := List.eq_nil_of_length_eq_zero (by omega); subst this; rfl
    | succ f ih =>
      intro l hl
      by_cases h : l = []
      · subst h; rw [chunksF_nil]; rfl
      · rw [chunksF_cons _ _ _ h, List.flatten_cons, ih _ (by rw [List.length_drop]; have : 0 < l.length := List.length_pos_iff.2 h; omega), List.take_append_drop]
  unfold cutB
  rw [List.map_map]
  have e : ((fun x : ByteArray => x.data.toList) ∘ bs) = id := by funext x; exact bs_toList x
  rw [e, List.map_id]
  exact key _ _ (by rw [← blen]; exact Nat.le_refl _)
theorem cut_sizes (m : Nat) (s : ByteArray) (hm : 1 ≤ m) (j : Nat) (hj : j < (cutB m s).length) : 0 < ((cutB m s).getD j ByteArray.empty).size ∧ ((cutB m s).getD j ByteArray.empty).size ≤ m ∧ (j + 1 < (cutB m s).length → ((cutB m s).getD j ByteArray.empty).size = m) := by
  have key : ∀ f (l : List UInt8) (j : Nat) (hj : j < (chunksF m f l).length), 0 < (chunksF m f l)[j].length ∧ (chunksF m f l)[j].length ≤ m ∧ (j + 1 < (chunksF m f l).length → (chunksF m f l)[j].length = m) := by
    intro f
    induction f with
    | zero => intro l j hj; simp [chunksF] at hj
    | succ f ih =>
      intro l j hj
      by_cases h : l = []
      · subst h; simp [chunksF_nil] at hj
      · have hpos : 0 < l.length := List.length_pos_iff.2 h
        simp only [chunksF_cons m f l h] at hj ⊢
        cases j with
        | zero =>
          simp only [List.getElem_cons_zero, List.length_take, List.length_cons]
          refine ⟨by omega, by omega, fun hlt => ?_⟩
          by_cases hd : l.drop m = []
          · rw [hd, chunksF_nil] at hlt; simp at hlt
          · have := List.length_pos_iff.2 hd
            rw [List.length_drop] at this
            omega
        | succ j =>
          simp only [List.getElem_cons_succ, List.length_cons] at hj ⊢
          obtain ⟨a, b, c⟩ := ih (l.drop m) j (by omega)
          exact ⟨a, b, fun hlt => c (by omega)⟩
  have hj' : j < (chunksF m s.size s.data.toList).length := by unfold cutB at hj; simpa using hj
  have e : (cutB m s).getD j ByteArray.empty = bs (chunksF m s.size s.data.toList)[j] := by unfold cutB; simp [hj']
  have el : (cutB m s).length = (chunksF m s.size s.data.toList).length := by unfold cutB; simp
  rw [e, el, bs_size]
  exact key _ _ j hj'
end Go.Proofs.Ytgbnmokajaehhaa
