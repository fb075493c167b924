/- Keys and their bytes: the plain mathematics. -/
import Derived.Test.YteekjndhehnpaaaO2
import Derived.Test.YteekjndhehnpaaaP1
import Derived.Lib.Bytealg
namespace Go.Proofs.Yteekjndhehnpaaa
/-- What stands ahead of the first nought, and behind it. -/
def cutL : List UInt8 → List UInt8 × List UInt8
  | [] => ([], [])
  | c :: l => if c == 0 then ([], l) else (c :: (cutL l).1, (cutL l).2)
theorem cut_idx : ∀ l : List UInt8, (Lib.indexByte l 0 = -1 ∧ cutL l = (l, [])) ∨ ∃ k : Nat, Lib.indexByte l 0 = k ∧ k < l.length ∧ cutL l = (l.take k, l.drop (k + 1))
  | [] => .inl ⟨rfl, rfl⟩
  | c :: l => by
    by_cases h : c = 0
    · subst h
      exact .inr ⟨0, by simp [Lib.indexByte], by simp, by simp [cutL]⟩
    · have hb : (c == 0) = false := by simp [h]
      rcases cut_idx l with ⟨h1, h2⟩ | ⟨k, h1, h2, h3⟩
      · left
        constructor
        · simp [Lib.indexByte, hb, h1]
        · simp [cutL, hb, h2]
      · right
        refine ⟨k + 1, ?_, by simp; omega, by simp [cutL, hb, h3]⟩
        simp only [Lib.indexByte, hb, h1]
        rw [if_neg (by simp), if_neg (by simp)]
        omega
/-- No nought among them. -/
def noZ (l : List UInt8) : Prop := ∀ c ∈ l, c ≠ 0
theorem cut_app (a b : List UInt8) (h : noZ a) : cutL (a ++ 0 :: b) = (a, b) := by
  induction a with
  | nil => rfl
  | cons c l ih =>
    have hc : (c == 0) = false := by simp [h c (by simp)]
    have := ih (fun d hd => h d (by simp [hd]))
    simp [cutL, hc, this]
theorem cut_none (a : List UInt8) (h : noZ a) : cutL a = (a, []) := by
  induction a with
  | nil => rfl
  | cons c l ih =>
    have hc : (c == 0) = false := by simp [h c (by simp)]
    have := ih (fun d hd => h d (by simp [hd]))
    simp [cutL, hc, this]
/-- The letter of a kind, the kind of a letter. -/
def letter (k : Int) : UInt8 := if k = 1 then 84 else if k = 2 then 66 else if k = 3 then 86 else if k = 4 then 85 else 80
def kd (c : UInt8) : Int := if c = 84 then 1 else if c = 66 then 2 else if c = 86 then 3 else if c = 85 then 4 else if c = 80 then 5 else 0
theorem kd_letter {k : Int} (h1 : 1 ≤ k) (h2 : k ≤ 5) : kd (letter k) = k := by
  have : k = 1 ∨ k = 2 ∨ k = 3 ∨ k = 4 ∨ k = 5 := by omega
  rcases this with rfl | rfl | rfl | rfl | rfl <;> rfl
theorem kd_idx (c : UInt8) : Lib.indexByte [84, 66, 86, 85, 80] c + 1 = kd c := by
  unfold kd
  by_cases h1 : c = 84
  · subst h1; rfl
  by_cases h2 : c = 66
  · subst h2; rfl
  by_cases h3 : c = 86
  · subst h3; rfl
  by_cases h4 : c = 85
  · subst h4; rfl
  by_cases h5 : c = 80
  · subst h5; rfl
  simp [Lib.indexByte, h1, h2, h3, h4, h5, Ne.symm h1, Ne.symm h2, Ne.symm h3, Ne.symm h4, Ne.symm h5]
  try simp [beq_false_of_ne (Ne.symm h1), beq_false_of_ne (Ne.symm h2), beq_false_of_ne (Ne.symm h3), beq_false_of_ne (Ne.symm h4), beq_false_of_ne (Ne.symm h5)]
/-- A key. -/
structure K where
  kind : Int
  ten : Int
  buc : ByteArray
  nam : ByteArray
  num : Nat
  part : Int
deriving DecidableEq
def k0 : K := ⟨0, 0, ByteArray.empty, ByteArray.empty, 0, 0⟩
/-- May a byte be in a bucket's name? -/
def lowB (c : Nat) : Bool := decide (97 ≤ c) && decide (c ≤ 122)
def digB (c : Nat) : Bool := decide (48 ≤ c) && decide (c ≤ 57)
/-- All of the first ones. -/
def allB (q : Nat → Bool) (n : Nat) : Bool := (List.range n).all q
theorem all_snoc (q : Nat → Bool) (k : Nat) : allB q (k + 1) = (allB q k && q k) := by unfold allB; rw [List.range_succ, List.all_append]; simp
theorem all_not (q : Nat → Bool) (k n : Nat) (h : k < n) (hq : q k = false) : allB q n = false := by
  unfold allB; rw [List.all_eq_false]; exact ⟨k, by simpa using h, by simp [hq]⟩
theorem allB_iff (q : Nat → Bool) (n : Nat) : allB q n = true ↔ ∀ i, i < n → q i = true := by unfold allB; rw [List.all_eq_true]; simp
def bkB (s : ByteArray) (i : Nat) : Bool := if h : i < s.size then lowB s[i].toNat || digB s[i].toNat || (s[i].toNat == 45 && (decide (0 < i) && decide (i + 1 < s.size))) else false
def keyB (s : ByteArray) (i : Nat) : Bool := if h : i < s.size then !(s[i].toNat == 0) else false
def bucketB (s : ByteArray) : Bool := decide (0 < s.size ∧ s.size ≤ 12) && allB (bkB s) s.size
def nameB (s : ByteArray) : Bool := decide (0 < s.size ∧ s.size ≤ 24) && allB (keyB s) s.size
theorem nameB_noZ {s : ByteArray} (h : nameB s = true) : noZ s.data.toList ∧ 0 < s.size ∧ s.size ≤ 24 := by
  unfold nameB at h
  rw [Bool.and_eq_true, decide_eq_true_eq, allB_iff] at h
  refine ⟨fun c hc => ?_, h.1⟩
  obtain ⟨i, hi, rfl⟩ := List.getElem_of_mem hc
  have hi' : i < s.size := by simpa using hi
  have := h.2 i hi'
  unfold keyB at this
  rw [dif_pos hi'] at this
  intro h0
  have e : s[i] = s.data.toList[i] := by simp [ByteArray.getElem_eq_getElem_data]
  rw [e, h0] at this
  simp at this
theorem bucketB_noZ {s : ByteArray} (h : bucketB s = true) : noZ s.data.toList ∧ 0 < s.size ∧ s.size ≤ 12 := by
  unfold bucketB at h
  rw [Bool.and_eq_true, decide_eq_true_eq, allB_iff] at h
  refine ⟨fun c hc => ?_, h.1⟩
  obtain ⟨i, hi, rfl⟩ := List.getElem_of_mem hc
  have hi' : i < s.size := by simpa using hi
  have := h.2 i hi'
  unfold bkB at this
  rw [dif_pos hi'] at this
  intro h0
  have e : s[i] = s.data.toList[i] := by simp [ByteArray.getElem_eq_getElem_data]
  rw [e, h0] at this
  simp [lowB, digB] at this
def tenB (t : Int) : Bool := decide (0 ≤ t ∧ t < 8)
/-- May a key be? -/
def okK (k : K) : Bool := decide (1 ≤ k.kind ∧ k.kind ≤ 5) && tenB k.ten &&
  (if k.kind = 1 then decide (k.buc = ByteArray.empty ∧ k.nam = ByteArray.empty ∧ k.num = 0 ∧ k.part = 0)
   else bucketB k.buc && (if k.kind = 3 then nameB k.nam && decide (k.part = 0) else if k.kind = 5 then decide (1 ≤ k.part ∧ k.part ≤ 16) && decide (k.nam = ByteArray.empty) else decide (k.nam = ByteArray.empty ∧ k.part = 0 ∧ (k.kind = 4 ∨ k.num = 0))))
/-- How keys begin. -/
def begL (kind t : Int) : List UInt8 := [letter kind, UInt8.ofNat t.toNat]
def allL (kind t : Int) (b : ByteArray) : List UInt8 := begL kind t ++ b.data.toList ++ [0]
def chainL (t : Int) (b n : ByteArray) : List UInt8 := allL 3 t b ++ n.data.toList ++ [0]
def piecesL (t : Int) (b : ByteArray) (u : Nat) : List UInt8 := allL 5 t b ++ numL 8 u
/-- A key's bytes. -/
def encL (k : K) : List UInt8 :=
  if k.kind = 2 then begL 2 k.ten ++ k.buc.data.toList
  else if k.kind = 3 then chainL k.ten k.buc k.nam ++ numL 8 (18446744073709551615 - k.num)
  else if k.kind = 4 then allL 4 k.ten k.buc ++ numL 8 k.num
  else if k.kind = 5 then piecesL k.ten k.buc k.num ++ numL 1 k.part.toNat
  else begL 1 k.ten
/-- The key that bytes are read as: by the program (w), or by the reference. -/
def restL (l : List UInt8) : List UInt8 := (cutL (l.drop 2)).2
def fallN (w : Bool) (r : List UInt8) : Nat :=
  if w then (if r.length = 8 then 18446744073709551615 - ofL r else 0) else 18446744073709551615 - (if 8 ≤ r.length then ofL (r.take 8) else 0)
def riseN (w : Bool) (r : List UInt8) : Nat :=
  if w then (if r.length = 8 then ofL r else 0) else (if 8 ≤ r.length then ofL (r.take 8) else 0)
def partN (r : List UInt8) : Nat := (r.getD 8 0).toNat
def parseK (w : Bool) (l : List UInt8) : K :=
  let kind := kd (l.getD 0 0)
  let r := restL l
  { kind := kind, ten := ((l.getD 1 0).toNat : Int), buc := bs (cutL (l.drop 2)).1,
    nam := if kind = 3 then bs (cutL r).1 else ByteArray.empty,
    num := if kind = 3 then fallN w (cutL r).2 else if kind = 4 then riseN w r else if kind = 5 then riseN false r else 0,
    part := if kind = 5 then (partN r : Int) else 0 }
theorem bs_inj {a b : List UInt8} (h : bs a = bs b) : a = b := by
  have := congrArg (fun s => s.data.toList) h
  simpa [bs] using this
theorem ten_byte {t : Int} (h : tenB t = true) : ((UInt8.ofNat t.toNat).toNat : Int) = t := by
  unfold tenB at h
  rw [decide_eq_true_eq] at h
  have : t.toNat < 8 := by omega
  simp
  omega
theorem num1 (n : Nat) : numL 1 n = [UInt8.ofNat (n % 256)] := by simp [numL]
theorem empty_bs : ByteArray.empty = bs [] := rfl
/-- Read back: a key's bytes are its own. -/
theorem parse_enc (w : Bool) (k : K) (h : okK k = true) (hn : k.num < 18446744073709551616) : parseK w (encL k) = k := by
  obtain ⟨kind, t, b, n, u, p⟩ := k
  unfold okK at h
  simp only [Bool.and_eq_true, decide_eq_true_eq] at h
  obtain ⟨⟨hk, ht⟩, h⟩ := h
  simp only at hk ht h hn
  have hl8 : ∀ m, (numL 8 m).length = 8 := numL_length 8
  have ht2 : 0 ≤ t ∧ t < 8 := by unfold tenB at ht; exact of_decide_eq_true ht
  have : kind = 1 ∨ kind = 2 ∨ kind = 3 ∨ kind = 4 ∨ kind = 5 := by omega
  rcases this with rfl | rfl | rfl | rfl | rfl
  · obtain ⟨rfl, rfl, rfl, rfl⟩ := of_decide_eq_true h
    simp only [encL, begL, parseK, restL]
    simp [letter, kd, cutL, empty_bs]
    omega
  · rw [if_neg (by omega), if_neg (by omega), if_neg (by omega)] at h
    simp only [Bool.and_eq_true, decide_eq_true_eq] at h
    obtain ⟨hb, rfl, rfl, h4⟩ := h
    obtain rfl : u = 0 := by omega
    obtain ⟨hz, _⟩ := bucketB_noZ hb
    simp only [encL, begL, parseK, restL]
    simp [letter, kd, cut_none _ hz, bs_of]
    omega
  · rw [if_neg (by omega), if_pos rfl] at h
    simp only [Bool.and_eq_true, decide_eq_true_eq] at h
    obtain ⟨hb, hnm, rfl⟩ := h
    obtain ⟨hz, _⟩ := bucketB_noZ hb
    obtain ⟨hz2, _⟩ := nameB_noZ hnm
    have e : encL ⟨3, t, b, n, u, 0⟩ = letter 3 :: UInt8.ofNat t.toNat :: (b.data.toList ++ 0 :: (n.data.toList ++ 0 :: numL 8 (18446744073709551615 - u))) := by simp [encL, begL, chainL, allL]
    rw [e]
    simp only [parseK, restL, List.drop_succ_cons, List.drop_zero, cut_app _ _ hz, cut_app _ _ hz2]
    have ho := ofL_num8 (18446744073709551615 - u) (by omega)
    simp [letter, kd, bs_of, fallN, hl8, ho, List.take_of_length_le]
    omega
  · rw [if_neg (by omega), if_neg (by omega), if_neg (by omega)] at h
    simp only [Bool.and_eq_true, decide_eq_true_eq] at h
    obtain ⟨hb, rfl, rfl, _⟩ := h
    obtain ⟨hz, _⟩ := bucketB_noZ hb
    have e : encL ⟨4, t, b, ByteArray.empty, u, 0⟩ = letter 4 :: UInt8.ofNat t.toNat :: (b.data.toList ++ 0 :: numL 8 u) := by simp [encL, begL, allL]
    rw [e]
    simp only [parseK, restL, List.drop_succ_cons, List.drop_zero, cut_app _ _ hz]
    have ho := ofL_num8 u hn
    simp [letter, kd, bs_of, riseN, hl8, ho, List.take_of_length_le]
    omega
  · rw [if_neg (by omega), if_neg (by omega), if_pos rfl] at h
    simp only [Bool.and_eq_true, decide_eq_true_eq] at h
    obtain ⟨hb, hp, rfl⟩ := h
    obtain ⟨hz, _⟩ := bucketB_noZ hb
    have e : encL ⟨5, t, b, ByteArray.empty, u, p⟩ = letter 5 :: UInt8.ofNat t.toNat :: (b.data.toList ++ 0 :: (numL 8 u ++ numL 1 p.toNat)) := by simp [encL, begL, allL, piecesL]
    rw [e]
    simp only [parseK, restL, List.drop_succ_cons, List.drop_zero, cut_app _ _ hz]
    have ho := ofL_num8 u hn
    have h8 : (numL 8 u ++ numL 1 p.toNat).take 8 = numL 8 u := by rw [List.take_append_of_le_length (by rw [hl8]; omega), List.take_of_length_le (by rw [hl8]; omega)]
    have hlen : (numL 8 u ++ numL 1 p.toNat).length = 9 := by simp [numL_length]
    have h9 : (numL 8 u ++ numL 1 p.toNat).getD 8 0 = UInt8.ofNat (p.toNat % 256) := by
      rw [List.getD_eq_getElem?_getD, List.getElem?_append_right (by rw [hl8]; omega), hl8, num1]; rfl
    simp only [letter, kd, bs_of, riseN, partN, h8, h9, hlen, ho, List.getD_cons_zero, List.getD_cons_succ]
    have : p.toNat % 256 = p.toNat := by omega
    simp [this]
    omega
end Go.Proofs.Yteekjndhehnpaaa
