/- What is read of what was written: a tenant, a bucket, a version, a part. -/
import Derived.Test.YteekjndhehnpaaaSG
import Derived.Test.YteekjndhehnpaaaSE
namespace Go.Proofs.Yteekjndhehnpaaa
open Go.RowKit
set_option maxRecDepth 100000
set_option linter.unusedVariables false
set_option linter.unusedSimpArgs false
set_option maxHeartbeats 4000000
theorem numAt_mid (A B : List UInt8) (k n p : Nat) (hp : A.length = p) : numAt (bs (A ++ (numL k n ++ B))) p k = n % 256 ^ k := by
  subst hp
  unfold numAt
  rw [if_pos (by rw [bs_size]; simp [numL_length]), bs_toList]
  rw [List.drop_left]
  rw [List.take_append_of_le_length (by rw [numL_length]; exact Nat.le_refl _), List.take_of_length_le (by rw [numL_length]; exact Nat.le_refl _), ofL_num]
theorem joinB_list (xs : List ByteArray) : joinB xs = bs (xs.map (·.data.toList)).flatten := rfl
theorem pairS_list (k : Nat) (x y : Int) : (pairS k x y).data.toList = numL k (u64N x) ++ numL k (u64N y) := by
  unfold pairS; rw [ByteArray.data_append, Array.toList_append, bs_toList, bs_toList]
theorem u64N_of {x : Int} (h : 0 ≤ x) (h2 : x < 18446744073709551616) : (u64N x : Int) = x := by
  rw [← u64N_wrap, IntKind.wrap_u64]; omega
theorem i64_of {x : Int} (h : -9223372036854775808 ≤ x) (h2 : x < 9223372036854775808) : IntKind.i64.wrap x = x := IntWalk.i64_in _ (by omega)
theorem cAt_of {s : ByteArray} {k : Nat} {x : Int} (h : numAt s k 8 = u64N x) (h0 : inRB x = true) : cAt s k = x := by
  rw [inRB_true] at h0
  unfold cAt; rw [h, u64N_of h0.1 (by omega), i64_of (by omega) (by omega)]
theorem lAt_of {s : ByteArray} {k : Nat} {x : Int} (h : numAt s k 8 = u64N (IntKind.i64.wrap (x + 1))) (h0 : -1 ≤ x) (h1 : x ≤ 1125899906842624) : lAt s k = x := by
  unfold lAt
  rw [h, i64_of (x := x + 1) (by omega) (by omega), u64N_of (by omega) (by omega), i64_of (x := x + 1) (by omega) (by omega), i64_of (by omega) (by omega)]
  omega
theorem mod8 (x : Int) : u64N x % 256 ^ 8 = u64N x := Nat.mod_eq_of_lt (u64N_lt x)
theorem limB_true {a b : Int} : limB a b = true ↔ (-1 ≤ a ∧ a ≤ 1125899906842624) ∧ (-1 ≤ b ∧ b ≤ 1125899906842624) := by simp [limB]
theorem okB_true {a b : Int} : okB a b = true ↔ inRB a = true ∧ inRB b = true := by simp [okB]
theorem tenant_back (a b c d : Int) (h : (limB a b && okB c d) = true) :
    lAt (tenantS a b c d) 0 = a ∧ lAt (tenantS a b c d) 8 = b ∧ cAt (tenantS a b c d) 16 = c ∧ cAt (tenantS a b c d) 24 = d := by
  have h' := h
  rw [Bool.and_eq_true, limB_true, okB_true] at h'
  obtain ⟨⟨⟨a1, a2⟩, b1, b2⟩, c1, d1⟩ := h'
  have e : tenantS a b c d = bs (numL 8 (u64N (IntKind.i64.wrap (a + 1))) ++ (numL 8 (u64N (IntKind.i64.wrap (b + 1))) ++ (numL 8 (u64N c) ++ numL 8 (u64N d)))) := by
    unfold tenantS; rw [h]; show joinB _ = _; rw [joinB_list]; simp [pairS_list]
  rw [e]
  have n1 := fun x y z => numAt_mid [] (numL 8 y ++ z) 8 x 0 rfl
  refine ⟨lAt_of ?_ a1 a2, lAt_of ?_ b1 b2, cAt_of ?_ c1, cAt_of ?_ d1⟩
  · exact (numAt_mid [] _ 8 _ 0 rfl).trans (mod8 _)
  · exact (numAt_mid (numL 8 _) _ 8 _ 8 (numL_length _ _)).trans (mod8 _)
  · rw [← List.append_assoc]; exact (numAt_mid _ _ 8 _ 16 (by simp [numL_length])).trans (mod8 _)
  · rw [← List.append_assoc, ← List.append_assoc, ← List.append_nil (numL 8 (u64N d))]; exact (numAt_mid _ _ 8 _ 24 (by simp [numL_length])).trans (mod8 _)
theorem tenant_size (a b c d : Int) : (tenantS a b c d).size ≤ 64 := by
  unfold tenantS
  cases limB a b && okB c d with
  | false => exact Nat.zero_le _
  | true => show (joinB _).size ≤ 64; rw [joinB_size]; simp [pairS_size]
/-- A bucket's bytes. -/
def okBu (m a b c d : Int) : Bool := decide (0 ≤ m) && decide (m < 3) && (limB a b && okB c d)
def bucketS (m a b c d : Int) (n : Nat) : ByteArray := encS (okBu m a b c d) [bs (numL 1 (u64N m)), pairS 8 (IntKind.i64.wrap (a + 1)) (IntKind.i64.wrap (b + 1)), pairS 8 c d, bs (numL 8 n)]
theorem bucket_back (m a b c d : Int) (n : Nat) (hn : n < 18446744073709551616) (h : okBu m a b c d = true) :
    mAt (bucketS m a b c d n) 0 1 = m ∧ lAt (bucketS m a b c d n) 1 = a ∧ lAt (bucketS m a b c d n) 9 = b ∧ cAt (bucketS m a b c d n) 17 = c ∧ cAt (bucketS m a b c d n) 25 = d ∧ numAt (bucketS m a b c d n) 33 8 = n := by
  have h' := h
  unfold okBu at h'
  rw [Bool.and_eq_true, Bool.and_eq_true, Bool.and_eq_true, limB_true, okB_true, decide_eq_true_eq, decide_eq_true_eq] at h'
  obtain ⟨⟨m1, m2⟩, ⟨⟨a1, a2⟩, b1, b2⟩, c1, d1⟩ := h'
  have e : bucketS m a b c d n = bs (numL 1 (u64N m) ++ (numL 8 (u64N (IntKind.i64.wrap (a + 1))) ++ (numL 8 (u64N (IntKind.i64.wrap (b + 1))) ++ (numL 8 (u64N c) ++ (numL 8 (u64N d) ++ (numL 8 n ++ [])))))) := by
    unfold bucketS; rw [h]; show joinB _ = _; rw [joinB_list]; simp [pairS_list, bs_toList]
  rw [e]
  refine ⟨?_, lAt_of ?_ a1 a2, lAt_of ?_ b1 b2, cAt_of ?_ c1, cAt_of ?_ d1, ?_⟩
  · unfold mAt
    have h0 := fun z => numAt_mid [] z 1 (u64N m) 0 rfl
    simp only [List.nil_append] at h0
    rw [h0]
    have := u64N_of (x := m) (by omega) (by omega)
    rw [Nat.mod_eq_of_lt (by omega), this, i64_of (by omega) (by omega)]
  · exact (numAt_mid (numL 1 _) _ 8 _ 1 (numL_length _ _)).trans (mod8 _)
  · rw [← List.append_assoc]; exact (numAt_mid _ _ 8 _ 9 (by simp [numL_length])).trans (mod8 _)
  · rw [← List.append_assoc, ← List.append_assoc]; exact (numAt_mid _ _ 8 _ 17 (by simp [numL_length])).trans (mod8 _)
  · rw [← List.append_assoc, ← List.append_assoc, ← List.append_assoc]; exact (numAt_mid _ _ 8 _ 25 (by simp [numL_length])).trans (mod8 _)
  · rw [← List.append_assoc, ← List.append_assoc, ← List.append_assoc, ← List.append_assoc]; exact (numAt_mid _ _ 8 _ 33 (by simp [numL_length])).trans (Nat.mod_eq_of_lt hn)
theorem bucket_size (m a b c d : Int) (n : Nat) : (bucketS m a b c d n).size ≤ 64 := by
  unfold bucketS
  cases okBu m a b c d with
  | false => exact Nat.zero_le _
  | true => show (joinB _).size ≤ 64; rw [joinB_size]; simp [pairS_size, bs_size, numL_length]
/-- A version's bytes. -/
def okVer (mk : Bool) (n : Nat) (f s : Int) : Bool := match mk with | true => decide (n = 0) && decide (f = 0 ∧ s = 0) | false => okBl f s
def verS (i : Nat) (mk : Bool) (n : Nat) (f s : Int) : ByteArray := encS (okVer mk n f s) [bs (numL 8 i), bs (numL 1 (cond mk 1 0)), bs (numL 4 n), pairS 2 f s]
theorem okBl_range {f s : Int} (h : okBl f s = true) : 0 ≤ f ∧ f < 65536 ∧ 0 ≤ s ∧ s < 65536 := by
  unfold okBl at h
  simp only [Bool.or_eq_true, decide_eq_true_eq] at h
  omega
theorem okVer_range {mk : Bool} {n : Nat} {f s : Int} (h : okVer mk n f s = true) : 0 ≤ f ∧ f < 65536 ∧ 0 ≤ s ∧ s < 65536 := by
  cases mk with
  | false => exact okBl_range h
  | true =>
    unfold okVer at h
    simp only [Bool.and_eq_true, decide_eq_true_eq] at h
    omega
theorem mod2 {x : Int} (h : 0 ≤ x) (h2 : x < 65536) : ((u64N x % 256 ^ 2 : Nat) : Int) = x := by
  have := u64N_of h (by omega)
  rw [Nat.mod_eq_of_lt (by omega)]; exact this
theorem mAt_of {s : ByteArray} {k : Nat} {x : Int} (h : numAt s k 2 = u64N x % 256 ^ 2) (h0 : 0 ≤ x) (h1 : x < 65536) : mAt s k 2 = x := by
  unfold mAt; rw [h, mod2 h0 h1, i64_of (by omega) (by omega)]
theorem version_back (i : Nat) (hi : i < 18446744073709551616) (mk : Bool) (n : Nat) (hn : n < 4294967296) (f s : Int) (h : okVer mk n f s = true) :
    numAt (verS i mk n f s) 0 8 = i ∧ numAt (verS i mk n f s) 8 1 = cond mk 1 0 ∧ numAt (verS i mk n f s) 9 4 = n ∧ mAt (verS i mk n f s) 13 2 = f ∧ mAt (verS i mk n f s) 15 2 = s := by
  obtain ⟨f1, f2, s1, s2⟩ := okVer_range h
  have e : verS i mk n f s = bs (numL 8 i ++ (numL 1 (cond mk 1 0) ++ (numL 4 n ++ (numL 2 (u64N f) ++ (numL 2 (u64N s) ++ []))))) := by
    unfold verS; rw [h]; show joinB _ = _; rw [joinB_list]; simp [pairS_list, bs_toList]
  rw [e]
  refine ⟨?_, ?_, ?_, mAt_of ?_ f1 f2, mAt_of ?_ s1 s2⟩
  · exact (numAt_mid [] _ 8 _ 0 rfl).trans (Nat.mod_eq_of_lt hi)
  · exact (numAt_mid (numL 8 _) _ 1 _ 8 (numL_length _ _)).trans (Nat.mod_eq_of_lt (by cases mk <;> decide))
  · rw [← List.append_assoc]; exact (numAt_mid _ _ 4 _ 9 (by simp [numL_length])).trans (Nat.mod_eq_of_lt hn)
  · rw [← List.append_assoc, ← List.append_assoc]; exact numAt_mid _ _ 2 _ 13 (by simp [numL_length])
  · rw [← List.append_assoc, ← List.append_assoc, ← List.append_assoc]; exact numAt_mid _ _ 2 _ 15 (by simp [numL_length])
theorem version_size (i : Nat) (mk : Bool) (n : Nat) (f s : Int) : (verS i mk n f s).size ≤ 64 := by
  unfold verS
  cases okVer mk n f s with
  | false => exact Nat.zero_le _
  | true => show (joinB _).size ≤ 64; rw [joinB_size]; simp [pairS_size, bs_size, numL_length]
end Go.Proofs.Yteekjndhehnpaaa
