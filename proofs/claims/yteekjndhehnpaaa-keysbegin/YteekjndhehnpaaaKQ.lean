/- KeysBegin: the whole walk. -/
import Derived.Test.YteekjndhehnpaaaKY
import Derived.Test.YteekjndhehnpaaaKZ1
import Derived.Test.YteekjndhehnpaaaKZ2
import Derived.Test.YteekjndhehnpaaaKZ3
import Derived.Test.YteekjndhehnpaaaKZ4
import Derived.Test.YteekjndhehnpaaaKZ5
namespace Go.Proofs.Yteekjndhehnpaaa
open Go.RowKit
set_option maxRecDepth 100000
set_option linter.unusedVariables false
theorem makeS_le (k : K) : (makeS k).size ≤ maxLen := by
  unfold makeS
  cases h : okK k with
  | true => rw [if_pos rfl, bs_size]; exact Nat.le_trans (enc_size h) (by decide)
  | false => exact Nat.zero_le _
theorem bucketsS_le (t : Int) : (bucketsS t).size ≤ maxLen := by
  unfold bucketsS; rw [bs_size]; split <;> simp [begL] <;> decide
theorem allS_le' (k t : Int) (b : ByteArray) : (allS k t b).size ≤ maxLen := by
  unfold allS
  cases h : (inB k && (tenB t && bucketB b)) with
  | true =>
    rw [Bool.and_eq_true, Bool.and_eq_true] at h
    have := allS_le h.1 h.2.1 h.2.2
    unfold allS at this
    rw [h.1, h.2.1, h.2.2] at this
    exact Nat.le_trans this (by decide)
  | false => exact Nat.zero_le _
theorem chainS_le (t : Int) (b n : ByteArray) : (chainS t b n).size ≤ maxLen := by
  unfold chainS
  cases h : (tenB t && (bucketB b && nameB n)) with
  | true =>
    rw [Bool.and_eq_true, Bool.and_eq_true] at h
    have h1 := (bucketB_noZ h.2.1).2.2
    have h2 := (nameB_noZ h.2.2).2.2
    refine Nat.le_trans ?_ (show 100 ≤ maxLen by decide)
    rw [if_pos rfl, bs_size]
    simp [chainL, allL, begL]
    omega
  | false => exact Nat.zero_le _
theorem piecesS_le (t : Int) (b : ByteArray) (u : Nat) : (piecesS t b u).size ≤ maxLen := by
  unfold piecesS
  cases h : (tenB t && bucketB b) with
  | true =>
    rw [Bool.and_eq_true] at h
    have h1 := (bucketB_noZ h.2).2.2
    refine Nat.le_trans ?_ (show 100 ≤ maxLen by decide)
    rw [if_pos rfl, bs_size]
    simp [piecesL, allL, begL, numL_length]
    omega
  | false => exact Nat.zero_le _
set_option maxHeartbeats 4000000 in
theorem keysBegin_not (kind t : Int) (b n : ByteArray) (u : Nat) (p : Int) (k2 t2 : Int) (b2 n2 : ByteArray) (u2 : Nat) (A : ByteArray) (ea : Int) (ha : ¬ ea = 0)
    (HA : Hid (∀ w, Calls Try.prog 11 #[.agg #[.int .i64 kind, .int .i64 t, .string b, .string n, .int .u64 (u : Int), .int .i64 p]] w fun x w' => x = .returned (.tuple #[.string A, .int .i64 ea]) ∧ Below w.heap.size w w')) (w : World) :
    Calls Try.prog 6 #[.agg #[.int .i64 kind, .int .i64 t, .string b, .string n, .int .u64 (u : Int), .int .i64 p], .int .i64 k2, .int .i64 t2, .string b2, .string n2, .int .u64 (u2 : Int)] w fun e w' => e = .returned (.bool true) ∧ Below w.heap.size w w' := by
  have hno2 : (ea != 0) = true := bne_iff_ne.2 ha
  go_enter Try.func6, Try.ntmps6
  go_wp2_with fail
  have S := Six.new w (.int .i64 kind) (.int .i64 t) (.string b) (.string n) (.int .u64 (u : Int)) (.int .i64 p) 24
  have BB := below_box w (.cells #[.int .i64 kind, .int .i64 t, .string b, .string n, .int .u64 (u : Int), .int .i64 p] 24)
  refine (lives_any _).mono ?_
  rintro e wn ⟨rfl, hb⟩
  replace S := S.below hb
  replace BB := below_to BB hb
  clear hb
  have c0 := S.c0
  have c1 := S.c1
  have c2 := S.c2
  have c3 := S.c3
  have c4 := S.c4
  have c5 := S.c5
  go_wp2_with fail
  clear c0 c1 c2 c3 c4 c5
  refine (ours_any _ _ _ _ _ _ _).mono ?_
  rintro e wn ⟨rfl, hb⟩
  replace S := S.below hb
  replace BB := below_to BB hb
  clear hb
  go_wp2_with fail
  refine (HA.out _).mono ?_
  rintro e wn ⟨rfl, hb⟩
  replace S := S.below hb
  replace BB := below_to BB hb
  clear hb
  go_wp2_with fail
  go_ret
  exact ⟨rfl, BB⟩
theorem keysBegin_walk (k : K) (hk : KeyIn k) (k2 : Int) (_ : -9223372036854775808 ≤ k2 ∧ k2 ≤ 9223372036854775807) (t2 : Int) (_ : -9223372036854775808 ≤ t2 ∧ t2 ≤ 9223372036854775807) (b2 : ByteArray) (hb2 : b2.size ≤ maxLen) (n2 : ByteArray) (hn2 : n2.size ≤ maxLen) (u2 : Nat) (hu2 : u2 < 18446744073709551616) (w : World) :
    Calls Try.prog 6 #[kV k, .int .i64 k2, .int .i64 t2, .string b2, .string n2, .int .u64 (u2 : Int)] w fun e w' => e = .returned (.bool true) ∧ Below w.heap.size w w' := by
  have HA := Lib.hid (make_any k hk.b hk.n hk.u)
  have H18 := Lib.hid (buckets_any t2)
  have H20 := Lib.hid (all_any k2 t2 b2 hb2)
  have H22 := Lib.hid (chain_any t2 b2 n2 hb2 hn2)
  have H24 := Lib.hid (fun w => pieces_any t2 b2 u2 hb2 hu2 w)
  have g1 := fun w => beg_any (makeS k) (bucketsS t2) (makeS_le k) (bucketsS_le _) w
  have g2 := fun w => beg_any (makeS k) (allS k2 t2 b2) (makeS_le k) (allS_le' _ _ _) w
  have g3 := fun w => beg_any (makeS k) (chainS t2 b2 n2) (makeS_le k) (chainS_le _ _ _) w
  have g4 := fun w => beg_any (makeS k) (piecesS t2 b2 u2) (makeS_le k) (piecesS_le _ _ _) w
  have f1 : argE (okK k) = 0 → begB (makeS k) (bucketsS t2) = decide (k.kind = 2 ∧ k.ten = t2) := fun h => beg1 (argE_zero h) t2
  have f2 : argE (okK k) = 0 → 3 ≤ k2 → k2 ≤ 5 → begB (makeS k) (allS k2 t2 b2) = decide (k.kind = k2 ∧ k.ten = t2 ∧ k.buc = b2) := fun h r1 r2 => beg2 (argE_zero h) k2 t2 b2 ⟨r1, r2⟩
  have f3 : argE (okK k) = 0 → begB (makeS k) (chainS t2 b2 n2) = decide (k.kind = 3 ∧ k.ten = t2 ∧ k.buc = b2 ∧ k.nam = n2) := fun h => beg3 (argE_zero h) t2 b2 n2
  have f4 : argE (okK k) = 0 → begB (makeS k) (piecesS t2 b2 u2) = decide (k.kind = 5 ∧ k.ten = t2 ∧ k.buc = b2 ∧ k.num = u2) := fun h => beg4 (argE_zero h) hk.u t2 b2 u2 hu2
  have hkk : argE (okK k) = 0 → k.kind = 1 ∨ k.kind = 2 ∨ k.kind = 3 ∨ k.kind = 4 ∨ k.kind = 5 := fun h => by have := ok_kindB (argE_zero h); omega
  obtain ⟨kind, t, b, n, u, p⟩ := k
  simp only at f1 f2 f3 f4 hkk
  have et : decide (t = t2) = (t == t2) := by rw [Bool.eq_iff_iff]; simp
  have eb : decide (b = b2) = (b.toList == b2.toList) := (str_beq b b2).symm
  have en : decide (n = n2) = (n.toList == n2.toList) := (str_beq n n2).symm
  have eu : decide (u = u2) = ((u : Int) == (u2 : Int)) := (nat_beq u u2).symm
  by_cases ha : argE (okK ⟨kind, t, b, n, u, p⟩) = 0
  · rcases hkk ha with rfl | rfl | rfl | rfl | rfl
    · refine keysBegin1 t b n u p k2 t2 b2 n2 u2 _ _ _ _ _ _ ha (t == t2) (b.toList == b2.toList) false rfl rfl HA H18 H20 H22 H24 (Lib.hid fun h w => ?_) (Lib.hid fun h r1 r2 w => ?_) (Lib.hid fun h w => ?_) (Lib.hid fun h w => ?_) w
      · have := g1 w; rw [f1 h] at this; exact this
      · have := g2 w; rw [f2 h r1 r2] at this
        have e : decide ((1 : Int) = k2 ∧ t = t2 ∧ b = b2) = (if k2 = 1 then (t == t2) && (b.toList == b2.toList) else false) := by
          rw [if_neg (by omega), decide_eq_false (fun h => by omega)]
        rw [e] at this; exact this
      · have := g3 w; rw [f3 h] at this; exact this
      · have := g4 w; rw [f4 h] at this; exact this
    · refine keysBegin2 t b n u p k2 t2 b2 n2 u2 _ _ _ _ _ _ ha (t == t2) (b.toList == b2.toList) false rfl rfl HA H18 H20 H22 H24 (Lib.hid fun h w => ?_) (Lib.hid fun h r1 r2 w => ?_) (Lib.hid fun h w => ?_) (Lib.hid fun h w => ?_) w
      · have := g1 w; rw [f1 h] at this
        have e : decide ((2 : Int) = 2 ∧ t = t2) = (t == t2) := by rw [← et, decide_eq_decide]; simp
        rw [e] at this; exact this
      · have := g2 w; rw [f2 h r1 r2] at this
        have e : decide ((2 : Int) = k2 ∧ t = t2 ∧ b = b2) = (if k2 = 2 then (t == t2) && (b.toList == b2.toList) else false) := by
          rw [if_neg (by omega), decide_eq_false (fun h => by omega)]
        rw [e] at this; exact this
      · have := g3 w; rw [f3 h] at this; exact this
      · have := g4 w; rw [f4 h] at this; exact this
    · refine keysBegin3 t b n u p k2 t2 b2 n2 u2 _ _ _ _ _ _ ha (t == t2) (b.toList == b2.toList) (n.toList == n2.toList) rfl rfl rfl HA H18 H20 H22 H24 (Lib.hid fun h w => ?_) (Lib.hid fun h r1 r2 w => ?_) (Lib.hid fun h w => ?_) (Lib.hid fun h w => ?_) w
      · have := g1 w; rw [f1 h] at this; exact this
      · have := g2 w; rw [f2 h r1 r2] at this
        have e : decide ((3 : Int) = k2 ∧ t = t2 ∧ b = b2) = (if k2 = 3 then (t == t2) && (b.toList == b2.toList) else false) := by
          by_cases q : k2 = 3
          · subst q; rw [if_pos rfl, ← et, ← eb, ← Bool.decide_and, decide_eq_decide]; simp
          · rw [if_neg q, decide_eq_false (fun h => q h.1.symm)]
        rw [e] at this; exact this
      · have := g3 w; rw [f3 h] at this
        have e : decide ((3 : Int) = 3 ∧ t = t2 ∧ b = b2 ∧ n = n2) = ((t == t2) && ((b.toList == b2.toList) && (n.toList == n2.toList))) := by
          rw [← et, ← eb, ← en, ← Bool.decide_and, ← Bool.decide_and, decide_eq_decide]; simp
        rw [e] at this; exact this
      · have := g4 w; rw [f4 h] at this; exact this
    · refine keysBegin4 t b n u p k2 t2 b2 n2 u2 _ _ _ _ _ _ ha (t == t2) (b.toList == b2.toList) false rfl rfl HA H18 H20 H22 H24 (Lib.hid fun h w => ?_) (Lib.hid fun h r1 r2 w => ?_) (Lib.hid fun h w => ?_) (Lib.hid fun h w => ?_) w
      · have := g1 w; rw [f1 h] at this; exact this
      · have := g2 w; rw [f2 h r1 r2] at this
        have e : decide ((4 : Int) = k2 ∧ t = t2 ∧ b = b2) = (if k2 = 4 then (t == t2) && (b.toList == b2.toList) else false) := by
          by_cases q : k2 = 4
          · subst q; rw [if_pos rfl, ← et, ← eb, ← Bool.decide_and, decide_eq_decide]; simp
          · rw [if_neg q, decide_eq_false (fun h => q h.1.symm)]
        rw [e] at this; exact this
      · have := g3 w; rw [f3 h] at this; exact this
      · have := g4 w; rw [f4 h] at this; exact this
    · refine keysBegin5 t b n u p k2 t2 b2 n2 u2 _ _ _ _ _ _ ha (t == t2) (b.toList == b2.toList) ((u : Int) == (u2 : Int)) rfl rfl rfl HA H18 H20 H22 H24 (Lib.hid fun h w => ?_) (Lib.hid fun h r1 r2 w => ?_) (Lib.hid fun h w => ?_) (Lib.hid fun h w => ?_) w
      · have := g1 w; rw [f1 h] at this; exact this
      · have := g2 w; rw [f2 h r1 r2] at this
        have e : decide ((5 : Int) = k2 ∧ t = t2 ∧ b = b2) = (if k2 = 5 then (t == t2) && (b.toList == b2.toList) else false) := by
          by_cases q : k2 = 5
          · subst q; rw [if_pos rfl, ← et, ← eb, ← Bool.decide_and, decide_eq_decide]; simp
          · rw [if_neg q, decide_eq_false (fun h => q h.1.symm)]
        rw [e] at this; exact this
      · have := g3 w; rw [f3 h] at this; exact this
      · have := g4 w; rw [f4 h] at this
        have e : decide ((5 : Int) = 5 ∧ t = t2 ∧ b = b2 ∧ u = u2) = ((t == t2) && ((b.toList == b2.toList) && ((u : Int) == (u2 : Int)))) := by
          rw [← et, ← eb, ← eu, ← Bool.decide_and, ← Bool.decide_and, decide_eq_decide]; simp
        rw [e] at this; exact this
  · exact keysBegin_not kind t b n u p k2 t2 b2 n2 u2 _ _ ha HA w
end Go.Proofs.Yteekjndhehnpaaa
