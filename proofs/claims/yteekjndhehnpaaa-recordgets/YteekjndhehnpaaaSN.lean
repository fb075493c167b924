/- Contracts: GetTenant, GetBucket, GetVersion, GetUpload, GetPart. -/
import Derived.Test.YteekjndhehnpaaaSL
import Derived.Test.YteekjndhehnpaaaSF
import Derived.Test.YteekjndhehnpaaaSP
import Derived.Test.YteekjndhehnpaaaSM
namespace Go.Proofs.Yteekjndhehnpaaa
open Go.RowKit
set_option maxRecDepth 100000
set_option linter.unusedVariables false
set_option linter.unusedSimpArgs false
set_option maxHeartbeats 4000000
theorem getTenant_main (s : ByteArray) (a b c d : Int) (E : Int)
    (HD : Hid (∀ w, Calls Try.prog 74 #[.string s, .func (.func 28) #[] #[], .func (.func 75) #[] #[]] w fun e w' => e = .returned (.tuple #[.agg #[.int .i64 a, .int .i64 b, .int .i64 c, .int .i64 d], .int .i64 E]) ∧ Below w.heap.size w w')) (w : World) :
    Calls Try.prog 38 #[.string s] w fun e w' => e = .returned (.tuple #[.agg #[.int .i64 a, .int .i64 b, .int .i64 c, .int .i64 d], .int .i64 E]) ∧ Below w.heap.size w w' := by
  go_enter Try.func38, Try.ntmps38
  go_wp2_with fail
  refine (HD.out _).mono ?_
  rintro e w1 ⟨rfl, hb⟩
  have K := (Blk.new w [.int .i64 0, .int .i64 0, .int .i64 0, .int .i64 0] 60).below hb
  have BB := below_to (below_box w (.cells #[.int .i64 0, .int .i64 0, .int .i64 0, .int .i64 0] 60)) hb
  clear hb
  have x0 := K.cell 0 _ rfl
  have y0 := K.froz 0 _ rfl
  have x1 := K.cell 1 _ rfl
  have y1 := K.froz 1 _ rfl
  have x2 := K.cell 2 _ rfl
  have y2 := K.froz 2 _ rfl
  have x3 := K.cell 3 _ rfl
  have y3 := K.froz 3 _ rfl
  go_wp2_with fail
  have KK := ((((K.put 0 (.int .i64 a) (by simp)).put 1 (.int .i64 b) (by simp)).put 2 (.int .i64 c) (by simp)).put 3 (.int .i64 d) (by simp))
  have z0 := KK.cell 0 _ rfl
  have z1 := KK.cell 1 _ rfl
  have z2 := KK.cell 2 _ rfl
  have z3 := KK.cell 3 _ rfl
  refine bodyPost_ret (v := .tuple #[.agg #[.int .i64 a, .int .i64 b, .int .i64 c, .int .i64 d], .int .i64 E]) (by simp [results, Try.results38, go_sem, z0, z1, z2, z3]) rfl ?_
  exact ⟨rfl, ((((BB.setCell (p := ⟨w.heap.size, 0, none⟩) (Nat.le_refl _) (.int .i64 a)).setCell (p := ⟨w.heap.size, 1, none⟩) (Nat.le_refl _) (.int .i64 b)).setCell (p := ⟨w.heap.size, 2, none⟩) (Nat.le_refl _) (.int .i64 c)).setCell (p := ⟨w.heap.size, 3, none⟩) (Nat.le_refl _) (.int .i64 d))⟩
theorem getBucket_main (s : ByteArray) (m a b c d : Int) (n : Nat) (E : Int)
    (HD : Hid (∀ w, Calls Try.prog 79 #[.string s, .func (.func 30) #[] #[], .func (.func 80) #[] #[]] w fun e w' => e = .returned (.tuple #[.agg #[.int .i64 m, .int .i64 a, .int .i64 b, .int .i64 c, .int .i64 d, .int .u64 (n : Int)], .int .i64 E]) ∧ Below w.heap.size w w')) (w : World) :
    Calls Try.prog 40 #[.string s] w fun e w' => e = .returned (.tuple #[.agg #[.int .i64 m, .int .i64 a, .int .i64 b, .int .i64 c, .int .i64 d, .int .u64 (n : Int)], .int .i64 E]) ∧ Below w.heap.size w w' := by
  go_enter Try.func40, Try.ntmps40
  go_wp2_with fail
  refine (HD.out _).mono ?_
  rintro e w1 ⟨rfl, hb⟩
  have K := (Blk.new w [.int .i64 0, .int .i64 0, .int .i64 0, .int .i64 0, .int .i64 0, .int .u64 0] 51).below hb
  have BB := below_to (below_box w (.cells #[.int .i64 0, .int .i64 0, .int .i64 0, .int .i64 0, .int .i64 0, .int .u64 0] 51)) hb
  clear hb
  have x0 := K.cell 0 _ rfl
  have y0 := K.froz 0 _ rfl
  have x1 := K.cell 1 _ rfl
  have y1 := K.froz 1 _ rfl
  have x2 := K.cell 2 _ rfl
  have y2 := K.froz 2 _ rfl
  have x3 := K.cell 3 _ rfl
  have y3 := K.froz 3 _ rfl
  have x4 := K.cell 4 _ rfl
  have y4 := K.froz 4 _ rfl
  have x5 := K.cell 5 _ rfl
  have y5 := K.froz 5 _ rfl
  go_wp2_with fail
  have KK := ((((((K.put 0 (.int .i64 m) (by simp)).put 1 (.int .i64 a) (by simp)).put 2 (.int .i64 b) (by simp)).put 3 (.int .i64 c) (by simp)).put 4 (.int .i64 d) (by simp)).put 5 (.int .u64 (n : Int)) (by simp))
  have z0 := KK.cell 0 _ rfl
  have z1 := KK.cell 1 _ rfl
  have z2 := KK.cell 2 _ rfl
  have z3 := KK.cell 3 _ rfl
  have z4 := KK.cell 4 _ rfl
  have z5 := KK.cell 5 _ rfl
  refine bodyPost_ret (v := .tuple #[.agg #[.int .i64 m, .int .i64 a, .int .i64 b, .int .i64 c, .int .i64 d, .int .u64 (n : Int)], .int .i64 E]) (by simp [results, Try.results40, go_sem, z0, z1, z2, z3, z4, z5]) rfl ?_
  exact ⟨rfl, ((((((BB.setCell (p := ⟨w.heap.size, 0, none⟩) (Nat.le_refl _) (.int .i64 m)).setCell (p := ⟨w.heap.size, 1, none⟩) (Nat.le_refl _) (.int .i64 a)).setCell (p := ⟨w.heap.size, 2, none⟩) (Nat.le_refl _) (.int .i64 b)).setCell (p := ⟨w.heap.size, 3, none⟩) (Nat.le_refl _) (.int .i64 c)).setCell (p := ⟨w.heap.size, 4, none⟩) (Nat.le_refl _) (.int .i64 d)).setCell (p := ⟨w.heap.size, 5, none⟩) (Nat.le_refl _) (.int .u64 (n : Int)))⟩
theorem getVersion_main (s : ByteArray) (i : Nat) (q : Bool) (n : Nat) (f z : Int) (E : Int)
    (HD : Hid (∀ w, Calls Try.prog 83 #[.string s, .func (.func 32) #[] #[], .func (.func 84) #[] #[]] w fun e w' => e = .returned (.tuple #[.agg #[.int .u64 (i : Int), .bool q, .int .u32 (n : Int), .int .i64 f, .int .i64 z], .int .i64 E]) ∧ Below w.heap.size w w')) (w : World) :
    Calls Try.prog 42 #[.string s] w fun e w' => e = .returned (.tuple #[.agg #[.int .u64 (i : Int), .bool q, .int .u32 (n : Int), .int .i64 f, .int .i64 z], .int .i64 E]) ∧ Below w.heap.size w w' := by
  go_enter Try.func42, Try.ntmps42
  go_wp2_with fail
  refine (HD.out _).mono ?_
  rintro e w1 ⟨rfl, hb⟩
  have K := (Blk.new w [.int .u64 0, .bool false, .int .u32 0, .int .i64 0, .int .i64 0] 56).below hb
  have BB := below_to (below_box w (.cells #[.int .u64 0, .bool false, .int .u32 0, .int .i64 0, .int .i64 0] 56)) hb
  clear hb
  have x0 := K.cell 0 _ rfl
  have y0 := K.froz 0 _ rfl
  have x1 := K.cell 1 _ rfl
  have y1 := K.froz 1 _ rfl
  have x2 := K.cell 2 _ rfl
  have y2 := K.froz 2 _ rfl
  have x3 := K.cell 3 _ rfl
  have y3 := K.froz 3 _ rfl
  have x4 := K.cell 4 _ rfl
  have y4 := K.froz 4 _ rfl
  go_wp2_with fail
  have KK := (((((K.put 0 (.int .u64 (i : Int)) (by simp)).put 1 (.bool q) (by simp)).put 2 (.int .u32 (n : Int)) (by simp)).put 3 (.int .i64 f) (by simp)).put 4 (.int .i64 z) (by simp))
  have z0 := KK.cell 0 _ rfl
  have z1 := KK.cell 1 _ rfl
  have z2 := KK.cell 2 _ rfl
  have z3 := KK.cell 3 _ rfl
  have z4 := KK.cell 4 _ rfl
  refine bodyPost_ret (v := .tuple #[.agg #[.int .u64 (i : Int), .bool q, .int .u32 (n : Int), .int .i64 f, .int .i64 z], .int .i64 E]) (by simp [results, Try.results42, go_sem, z0, z1, z2, z3, z4]) rfl ?_
  exact ⟨rfl, (((((BB.setCell (p := ⟨w.heap.size, 0, none⟩) (Nat.le_refl _) (.int .u64 (i : Int))).setCell (p := ⟨w.heap.size, 1, none⟩) (Nat.le_refl _) (.bool q)).setCell (p := ⟨w.heap.size, 2, none⟩) (Nat.le_refl _) (.int .u32 (n : Int))).setCell (p := ⟨w.heap.size, 3, none⟩) (Nat.le_refl _) (.int .i64 f)).setCell (p := ⟨w.heap.size, 4, none⟩) (Nat.le_refl _) (.int .i64 z))⟩
theorem getUpload_main (s : ByteArray) (k : ByteArray) (E : Int)
    (HD : Hid (∀ w, Calls Try.prog 87 #[.string s, .func (.func 34) #[] #[], .func (.func 88) #[] #[]] w fun e w' => e = .returned (.tuple #[.agg #[.string k], .int .i64 E]) ∧ Below w.heap.size w w')) (w : World) :
    Calls Try.prog 44 #[.string s] w fun e w' => e = .returned (.tuple #[.agg #[.string k], .int .i64 E]) ∧ Below w.heap.size w w' := by
  go_enter Try.func44, Try.ntmps44
  go_wp2_with fail
  refine (HD.out _).mono ?_
  rintro e w1 ⟨rfl, hb⟩
  have K := (Blk.new w [.string ⟨#[]⟩] 66).below hb
  have BB := below_to (below_box w (.cells #[.string ⟨#[]⟩] 66)) hb
  clear hb
  have x0 := K.cell 0 _ rfl
  have y0 := K.froz 0 _ rfl
  go_wp2_with fail
  have KK := (K.put 0 (.string k) (by simp))
  have z0 := KK.cell 0 _ rfl
  refine bodyPost_ret (v := .tuple #[.agg #[.string k], .int .i64 E]) (by simp [results, Try.results44, go_sem, z0]) rfl ?_
  exact ⟨rfl, (BB.setCell (p := ⟨w.heap.size, 0, none⟩) (Nat.le_refl _) (.string k))⟩
theorem getPart_main (s : ByteArray) (n : Nat) (f z : Int) (E : Int)
    (HD : Hid (∀ w, Calls Try.prog 91 #[.string s, .func (.func 36) #[] #[], .func (.func 92) #[] #[]] w fun e w' => e = .returned (.tuple #[.agg #[.int .u32 (n : Int), .int .i64 f, .int .i64 z], .int .i64 E]) ∧ Below w.heap.size w w')) (w : World) :
    Calls Try.prog 46 #[.string s] w fun e w' => e = .returned (.tuple #[.agg #[.int .u32 (n : Int), .int .i64 f, .int .i64 z], .int .i64 E]) ∧ Below w.heap.size w w' := by
  go_enter Try.func46, Try.ntmps46
  go_wp2_with fail
  refine (HD.out _).mono ?_
  rintro e w1 ⟨rfl, hb⟩
  have K := (Blk.new w [.int .u32 0, .int .i64 0, .int .i64 0] 69).below hb
  have BB := below_to (below_box w (.cells #[.int .u32 0, .int .i64 0, .int .i64 0] 69)) hb
  clear hb
  have x0 := K.cell 0 _ rfl
  have y0 := K.froz 0 _ rfl
  have x1 := K.cell 1 _ rfl
  have y1 := K.froz 1 _ rfl
  have x2 := K.cell 2 _ rfl
  have y2 := K.froz 2 _ rfl
  go_wp2_with fail
  have KK := (((K.put 0 (.int .u32 (n : Int)) (by simp)).put 1 (.int .i64 f) (by simp)).put 2 (.int .i64 z) (by simp))
  have z0 := KK.cell 0 _ rfl
  have z1 := KK.cell 1 _ rfl
  have z2 := KK.cell 2 _ rfl
  refine bodyPost_ret (v := .tuple #[.agg #[.int .u32 (n : Int), .int .i64 f, .int .i64 z], .int .i64 E]) (by simp [results, Try.results46, go_sem, z0, z1, z2]) rfl ?_
  exact ⟨rfl, (((BB.setCell (p := ⟨w.heap.size, 0, none⟩) (Nat.le_refl _) (.int .u32 (n : Int))).setCell (p := ⟨w.heap.size, 1, none⟩) (Nat.le_refl _) (.int .i64 f)).setCell (p := ⟨w.heap.size, 2, none⟩) (Nat.le_refl _) (.int .i64 z))⟩
/-- Is a text that of a tenant? -/
def okGTenant (s : ByteArray) : Bool := (limB (lAt s 0) (lAt s 8) && okB (cAt s 16) (cAt s 24)) && decide (tenantS (lAt s 0) (lAt s 8) (cAt s 16) (cAt s 24) = s)
/-- The tenant that a text is read as. -/
def vTenant (s : ByteArray) : Value := .agg #[.int .i64 (lAt s 0), .int .i64 (lAt s 8), .int .i64 (cAt s 16), .int .i64 (cAt s 24)]
def zTenant : Value := .agg #[.int .i64 0, .int .i64 0, .int .i64 0, .int .i64 0]
theorem getTenant_any (s : ByteArray) (hs : s.size ≤ 1000) (w : World) :
    Calls Try.prog 38 #[.string s] w fun e w' => e = .returned (.tuple #[pickV (okGTenant s) (vTenant s) zTenant, .int .i64 (errF (okGTenant s))]) ∧ Below w.heap.size w w' := by
  have HD := Lib.hid (fun w => decTenant s (tenantS (lAt s 0) (lAt s 8) (cAt s 16) (cAt s 24)) (lAt s 0) (lAt s 8) (cAt s 16) (cAt s 24) (limB (lAt s 0) (lAt s 8) && okB (cAt s 16) (cAt s 24)) (Lib.hid (fun w b h => (cTenant_any b s hs w h).mono fun e w' h => ⟨h.1, h.2.2⟩)) (Lib.hid (fun w => putTenant_any _ _ _ _ w)) w)
  have e : ((limB (lAt s 0) (lAt s 8) && okB (cAt s 16) (cAt s 24)) && decide (tenantS (lAt s 0) (lAt s 8) (cAt s 16) (cAt s 24) = s)) = okGTenant s := rfl
  rw [e] at HD
  cases h : okGTenant s with
  | true => rw [h] at HD; exact getTenant_main s (lAt s 0) (lAt s 8) (cAt s 16) (cAt s 24) 0 HD w
  | false => rw [h] at HD; exact getTenant_main s 0 0 0 0 19 HD w
/-- Is a text that of a bucket? -/
def okGBucket (s : ByteArray) : Bool := (okBu (mAt s 0 1) (lAt s 1) (lAt s 9) (cAt s 17) (cAt s 25)) && decide (bucketS (mAt s 0 1) (lAt s 1) (lAt s 9) (cAt s 17) (cAt s 25) (numAt s 33 8) = s)
/-- The bucket that a text is read as. -/
def vBucket (s : ByteArray) : Value := .agg #[.int .i64 (mAt s 0 1), .int .i64 (lAt s 1), .int .i64 (lAt s 9), .int .i64 (cAt s 17), .int .i64 (cAt s 25), .int .u64 ((numAt s 33 8) : Int)]
def zBucket : Value := .agg #[.int .i64 0, .int .i64 0, .int .i64 0, .int .i64 0, .int .i64 0, .int .u64 0]
theorem getBucket_any (s : ByteArray) (hs : s.size ≤ 1000) (w : World) :
    Calls Try.prog 40 #[.string s] w fun e w' => e = .returned (.tuple #[pickV (okGBucket s) (vBucket s) zBucket, .int .i64 (errF (okGBucket s))]) ∧ Below w.heap.size w w' := by
  have HD := Lib.hid (fun w => decBucket s (bucketS (mAt s 0 1) (lAt s 1) (lAt s 9) (cAt s 17) (cAt s 25) (numAt s 33 8)) (mAt s 0 1) (lAt s 1) (lAt s 9) (cAt s 17) (cAt s 25) (numAt s 33 8) (okBu (mAt s 0 1) (lAt s 1) (lAt s 9) (cAt s 17) (cAt s 25)) (Lib.hid (fun w b h => (cBucket_any b s hs w h).mono fun e w' h => ⟨h.1, h.2.2⟩)) (Lib.hid (fun w => putBucket_any _ _ _ _ _ _ (Nat.lt_of_lt_of_eq (numAt_lt s 33 8) (by decide)) w)) w)
  have e : ((okBu (mAt s 0 1) (lAt s 1) (lAt s 9) (cAt s 17) (cAt s 25)) && decide (bucketS (mAt s 0 1) (lAt s 1) (lAt s 9) (cAt s 17) (cAt s 25) (numAt s 33 8) = s)) = okGBucket s := rfl
  rw [e] at HD
  cases h : okGBucket s with
  | true => rw [h] at HD; exact getBucket_main s (mAt s 0 1) (lAt s 1) (lAt s 9) (cAt s 17) (cAt s 25) (numAt s 33 8) 0 HD w
  | false => rw [h] at HD; exact getBucket_main s 0 0 0 0 0 0 19 HD w
/-- Is a text that of a version? -/
def okGVersion (s : ByteArray) : Bool := (okVer ((numAt s 8 1 : Int) == 1) (numAt s 9 4) (mAt s 13 2) (mAt s 15 2)) && decide (verS (numAt s 0 8) ((numAt s 8 1 : Int) == 1) (numAt s 9 4) (mAt s 13 2) (mAt s 15 2) = s)
/-- The version that a text is read as. -/
def vVersion (s : ByteArray) : Value := .agg #[.int .u64 ((numAt s 0 8) : Int), .bool ((numAt s 8 1 : Int) == 1), .int .u32 ((numAt s 9 4) : Int), .int .i64 (mAt s 13 2), .int .i64 (mAt s 15 2)]
def zVersion : Value := .agg #[.int .u64 0, .bool false, .int .u32 0, .int .i64 0, .int .i64 0]
theorem getVersion_any (s : ByteArray) (hs : s.size ≤ 1000) (w : World) :
    Calls Try.prog 42 #[.string s] w fun e w' => e = .returned (.tuple #[pickV (okGVersion s) (vVersion s) zVersion, .int .i64 (errF (okGVersion s))]) ∧ Below w.heap.size w w' := by
  have HD := Lib.hid (fun w => decVersion s (verS (numAt s 0 8) ((numAt s 8 1 : Int) == 1) (numAt s 9 4) (mAt s 13 2) (mAt s 15 2)) (numAt s 0 8) ((numAt s 8 1 : Int) == 1) (numAt s 9 4) (mAt s 13 2) (mAt s 15 2) (okVer ((numAt s 8 1 : Int) == 1) (numAt s 9 4) (mAt s 13 2) (mAt s 15 2)) (Lib.hid (fun w b h => (cVersion_any b s hs w h).mono fun e w' h => ⟨h.1, h.2.2⟩)) (Lib.hid (fun w => putVersion_any _ (Nat.lt_of_lt_of_eq (numAt_lt s 0 8) (by decide)) _ _ (Nat.lt_of_lt_of_eq (numAt_lt s 9 4) (by decide)) _ _ w)) w)
  have e : ((okVer ((numAt s 8 1 : Int) == 1) (numAt s 9 4) (mAt s 13 2) (mAt s 15 2)) && decide (verS (numAt s 0 8) ((numAt s 8 1 : Int) == 1) (numAt s 9 4) (mAt s 13 2) (mAt s 15 2) = s)) = okGVersion s := rfl
  rw [e] at HD
  cases h : okGVersion s with
  | true => rw [h] at HD; exact getVersion_main s (numAt s 0 8) ((numAt s 8 1 : Int) == 1) (numAt s 9 4) (mAt s 13 2) (mAt s 15 2) 0 HD w
  | false => rw [h] at HD; exact getVersion_main s 0 false 0 0 0 19 HD w
/-- Is a text that of a upload? -/
def okGUpload (s : ByteArray) : Bool := (nameB s) && decide (encS (nameB s) [s] = s)
/-- The upload that a text is read as. -/
def vUpload (s : ByteArray) : Value := .agg #[.string s]
def zUpload : Value := .agg #[.string ⟨#[]⟩]
theorem getUpload_any (s : ByteArray) (hs : s.size ≤ 1000) (w : World) :
    Calls Try.prog 44 #[.string s] w fun e w' => e = .returned (.tuple #[pickV (okGUpload s) (vUpload s) zUpload, .int .i64 (errF (okGUpload s))]) ∧ Below w.heap.size w w' := by
  have HD := Lib.hid (fun w => decUpload s (encS (nameB s) [s]) s (nameB s) (Lib.hid (fun w b h => (cUpload_any b s hs w h).mono fun e w' h => ⟨h.1, h.2.2⟩)) (Lib.hid (fun w => putUpload_any s hs w)) w)
  have e : ((nameB s) && decide (encS (nameB s) [s] = s)) = okGUpload s := rfl
  rw [e] at HD
  cases h : okGUpload s with
  | true => rw [h] at HD; exact getUpload_main s s 0 HD w
  | false => rw [h] at HD; exact getUpload_main s ⟨#[]⟩ 19 HD w
/-- Is a text that of a part? -/
def okGPart (s : ByteArray) : Bool := (okBl (mAt s 4 2) (mAt s 6 2)) && decide (partS (numAt s 0 4) (mAt s 4 2) (mAt s 6 2) = s)
/-- The part that a text is read as. -/
def vPart (s : ByteArray) : Value := .agg #[.int .u32 ((numAt s 0 4) : Int), .int .i64 (mAt s 4 2), .int .i64 (mAt s 6 2)]
def zPart : Value := .agg #[.int .u32 0, .int .i64 0, .int .i64 0]
theorem getPart_any (s : ByteArray) (hs : s.size ≤ 1000) (w : World) :
    Calls Try.prog 46 #[.string s] w fun e w' => e = .returned (.tuple #[pickV (okGPart s) (vPart s) zPart, .int .i64 (errF (okGPart s))]) ∧ Below w.heap.size w w' := by
  have HD := Lib.hid (fun w => decPart s (partS (numAt s 0 4) (mAt s 4 2) (mAt s 6 2)) (numAt s 0 4) (mAt s 4 2) (mAt s 6 2) (okBl (mAt s 4 2) (mAt s 6 2)) (Lib.hid (fun w b h => (cPart_any b s hs w h).mono fun e w' h => ⟨h.1, h.2.2⟩)) (Lib.hid (fun w => putPart_any _ (Nat.lt_of_lt_of_eq (numAt_lt s 0 4) (by decide)) _ _ w)) w)
  have e : ((okBl (mAt s 4 2) (mAt s 6 2)) && decide (partS (numAt s 0 4) (mAt s 4 2) (mAt s 6 2) = s)) = okGPart s := rfl
  rw [e] at HD
  cases h : okGPart s with
  | true => rw [h] at HD; exact getPart_main s (numAt s 0 4) (mAt s 4 2) (mAt s 6 2) 0 HD w
  | false => rw [h] at HD; exact getPart_main s 0 0 0 19 HD w
end Go.Proofs.Yteekjndhehnpaaa
