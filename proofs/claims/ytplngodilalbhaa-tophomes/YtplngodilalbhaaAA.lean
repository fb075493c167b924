/- Contracts: OfHome, the program's and the reference's. -/
import Derived.Test.YtplngodilalbhaaA9
namespace Go.Proofs.Ytplngodilalbhaa
open Go.RowKit
theorem ofHome_blank (a : Int) (b z : ByteArray) (w : World) (hb : z512 = b) (hz : z480 = z) :
    Calls Try.prog 20 #[.string b, .int .i64 a] w fun x w' => x = strErr z 0 ∧ Below w.heap.size w w' := by
  have n1 := Lib.hid (fun w => blank_any b hb w)
  have n2 := Lib.hid (fun w => zeros_lit 480 480 z rfl hz w (by omega) (by omega))
  clear hb hz
  go_enter Try.func20, Try.ntmps20
  go_wp2_with fail
  refine (n1.out _).mono ?_
  rintro x w1 ⟨rfl, B⟩
  go_wp2_with fail
  refine (n2.out _).mono ?_
  rintro x w2 ⟨rfl, hb⟩
  replace B := below_to B hb
  go_wp2_with fail
  go_ret2
  exact ⟨rfl, B⟩
theorem rofHome_blank (a : Int) (b z : ByteArray) (w : World) (hb : z512 = b) (hz : z480 = z) :
    Calls Try.prog 21 #[.string b, .int .i64 a] w fun x w' => x = strErr z 0 ∧ Below w.heap.size w w' := by
  have n1 := Lib.hid (fun w => rzeros_lit 512 512 b rfl hb w (by omega) (by omega))
  have n2 := Lib.hid (fun w => rzeros_lit 480 480 z rfl hz w (by omega) (by omega))
  clear hb hz
  go_enter Try.func21, Try.ntmps21
  go_wp2_with fail
  refine (n1.out _).mono ?_
  rintro x w1 ⟨rfl, B⟩
  go_wp2_with fail
  refine (n2.out _).mono ?_
  rintro x w2 ⟨rfl, hb⟩
  replace B := below_to B hb
  go_wp2_with fail
  go_ret2
  exact ⟨rfl, B⟩
set_option maxHeartbeats 400000 in
theorem ofHome_none (a : Int) (b : ByteArray) (w : World) (hb : b ≠ z512) (HO : ∀ w, Calls Try.prog 14 #[.string b] w fun x w' => x = secErr 0 0 0 0 0 ByteArray.empty 19 ∧ Below w.heap.size w w') :
    Calls Try.prog 20 #[.string b, .int .i64 a] w fun x w' => x = strErr ByteArray.empty 19 ∧ Below w.heap.size w w' := by
  obtain ⟨q, hq⟩ : ∃ q, z512 = q := ⟨_, rfl⟩
  have n1 := Lib.hid (fun w => blank_any q hq w)
  rw [hq] at hb
  have hd := str_nbeq hb
  have n2 := Lib.hid HO
  clear hb hq HO
  go_enter Try.func20, Try.ntmps20
  go_wp2_with fail
  refine (n1.out _).mono ?_
  rintro x w1 ⟨rfl, B⟩
  go_wp2_with fail
  refine (n2.out _).mono ?_
  rintro x w2 ⟨rfl, hb⟩
  replace B := below_to B hb
  clear hb
  unfold secErr
  go_wp2_with fail
  replace B := below_to B ((Below.refl _ _).alloc (Nat.le_refl _) (.cells #[.int .i64 0, .int .u64 0, .int .u64 0, .int .i64 0, .int .i64 0, .string ByteArray.empty] 29))
  generalize w2.alloc (.cells #[.int .i64 0, .int .u64 0, .int .u64 0, .int .i64 0, .int .i64 0, .string ByteArray.empty] 29) = W at B ⊢
  have hne : Nonempty (Bw W) := ⟨⟨W, Below.refl _ _⟩⟩
  refine wp_region_below (by kernel_rfl) (by kernel_rfl) ?_
  repeat (go_big_quiet_step (fail))
  refine wpQuiet_nil ?_
  rintro _ ⟨q, rfl⟩
  go_wp2_with fail
  go_ret2
  exact ⟨rfl, below_to B q.h⟩
/-- The sector is this page's at home. -/
def isHome (k e n a m : Nat) (pg : Int) : Prop := k = 4 ∧ e = 0 ∧ n = 0 ∧ (a : Int) = pg ∧ m = 0
set_option maxHeartbeats 400000 in
theorem ofHome_yes (pg : Int) (b : ByteArray) (k e n a m : Nat) (p : ByteArray) (w : World) (hb : b ≠ z512) (hh : isHome k e n a m pg) (HO : ∀ w, Calls Try.prog 14 #[.string b] w fun x w' => x = secErr k e n a m p 0 ∧ Below w.heap.size w w') :
    Calls Try.prog 20 #[.string b, .int .i64 pg] w fun x w' => x = strErr p 0 ∧ Below w.heap.size w w' := by
  obtain ⟨rfl, rfl, rfl, rfl, rfl⟩ := hh
  obtain ⟨q, hq⟩ : ∃ q, z512 = q := ⟨_, rfl⟩
  have n1 := Lib.hid (fun w => blank_any q hq w)
  rw [hq] at hb
  have hd := str_nbeq hb
  have n2 := Lib.hid HO
  clear hb hq HO
  go_enter Try.func20, Try.ntmps20
  go_wp2_with fail
  refine (n1.out _).mono ?_
  rintro x w1 ⟨rfl, B⟩
  go_wp2_with fail
  refine (n2.out _).mono ?_
  rintro x w2 ⟨rfl, hb⟩
  replace B := below_to B hb
  clear hb
  unfold secErr
  go_wp2_with fail
  have S := SecW.new w2 4 0 0 a 0 p 29
  replace B := below_to B ((Below.refl _ _).alloc (Nat.le_refl _) (.cells #[.int .i64 4, .int .u64 0, .int .u64 0, .int .i64 (a : Int), .int .i64 0, .string p] 29))
  generalize w2.alloc (.cells #[.int .i64 4, .int .u64 0, .int .u64 0, .int .i64 (a : Int), .int .i64 0, .string p] 29) = W at B S ⊢
  have c0 := S.c.q0
  have c1 := S.c.q1
  have c2 := S.c.q2
  have c3 := S.c.q3
  have c4 := S.c.q4
  have c5 := S.c.q5
  have hne : Nonempty (Bw W) := ⟨⟨W, Below.refl _ _⟩⟩
  refine wp_region_below (by kernel_rfl) (by kernel_rfl) ?_
  repeat (go_big_quiet_step (fail))
  go_big_quiet_step (exact Calls.bw_of (home_any _ _ _))
  repeat (go_big_quiet_step (fail))
  refine wpQuiet_nil ?_
  rintro _ ⟨q, rfl⟩
  have d5 := c5 q
  clear c0 c1 c2 c3 c4 c5
  go_wp2_with fail
  go_ret2
  exact ⟨rfl, below_to B q.h⟩
set_option maxHeartbeats 400000 in
theorem ofHome_k (b : ByteArray) (pg : Int) (k e n a m : Nat) (p : ByteArray) (w : World) (hb : b ≠ z512) (hx : ((k : Int) == 4) = false) (HO : ∀ w, Calls Try.prog 14 #[.string b] w fun x w' => x = secErr k e n a m p 0 ∧ Below w.heap.size w w') :
    Calls Try.prog 20 #[.string b, .int .i64 pg] w fun x w' => x = strErr ByteArray.empty 19 ∧ Below w.heap.size w w' := by
  obtain ⟨q, hq⟩ : ∃ q, z512 = q := ⟨_, rfl⟩
  have n1 := Lib.hid (fun w => blank_any q hq w)
  rw [hq] at hb
  have hd := str_nbeq hb
  have n2 := Lib.hid HO
  clear hb hq HO
  go_enter Try.func20, Try.ntmps20
  go_wp2_with fail
  refine (n1.out _).mono ?_
  rintro x w1 ⟨rfl, B⟩
  go_wp2_with fail
  refine (n2.out _).mono ?_
  rintro x w2 ⟨rfl, hb⟩
  replace B := below_to B hb
  clear hb
  unfold secErr
  go_wp2_with fail
  have S := SecW.new w2 k e n a m p 29
  replace B := below_to B ((Below.refl _ _).alloc (Nat.le_refl _) (.cells #[.int .i64 (k : Int), .int .u64 (e : Int), .int .u64 (n : Int), .int .i64 (a : Int), .int .i64 (m : Int), .string p] 29))
  generalize w2.alloc (.cells #[.int .i64 (k : Int), .int .u64 (e : Int), .int .u64 (n : Int), .int .i64 (a : Int), .int .i64 (m : Int), .string p] 29) = W at B S ⊢
  have c0 := S.c.q0
  have c1 := S.c.q1
  have c2 := S.c.q2
  have c3 := S.c.q3
  have c4 := S.c.q4
  have c5 := S.c.q5
  have hne : Nonempty (Bw W) := ⟨⟨W, Below.refl _ _⟩⟩
  refine wp_region_below (by kernel_rfl) (by kernel_rfl) ?_
  repeat (go_big_quiet_step (fail))
  go_big_quiet_step (exact Calls.bw_of (home_any _ _ _))
  repeat (go_big_quiet_step (fail))
  refine wpQuiet_nil ?_
  rintro _ ⟨q, rfl⟩
  clear c0 c1 c2 c3 c4 c5
  go_wp2_with fail
  go_ret2
  exact ⟨rfl, below_to B q.h⟩
set_option maxHeartbeats 400000 in
theorem ofHome_e (b : ByteArray) (pg : Int) (e n a m : Nat) (p : ByteArray) (w : World) (hb : b ≠ z512) (hx : ((e : Int) == 0) = false) (HO : ∀ w, Calls Try.prog 14 #[.string b] w fun x w' => x = secErr 4 e n a m p 0 ∧ Below w.heap.size w w') :
    Calls Try.prog 20 #[.string b, .int .i64 pg] w fun x w' => x = strErr ByteArray.empty 19 ∧ Below w.heap.size w w' := by
  obtain ⟨q, hq⟩ : ∃ q, z512 = q := ⟨_, rfl⟩
  have n1 := Lib.hid (fun w => blank_any q hq w)
  rw [hq] at hb
  have hd := str_nbeq hb
  have n2 := Lib.hid HO
  clear hb hq HO
  go_enter Try.func20, Try.ntmps20
  go_wp2_with fail
  refine (n1.out _).mono ?_
  rintro x w1 ⟨rfl, B⟩
  go_wp2_with fail
  refine (n2.out _).mono ?_
  rintro x w2 ⟨rfl, hb⟩
  replace B := below_to B hb
  clear hb
  unfold secErr
  go_wp2_with fail
  have S := SecW.new w2 4 e n a m p 29
  replace B := below_to B ((Below.refl _ _).alloc (Nat.le_refl _) (.cells #[.int .i64 (4 : Int), .int .u64 (e : Int), .int .u64 (n : Int), .int .i64 (a : Int), .int .i64 (m : Int), .string p] 29))
  generalize w2.alloc (.cells #[.int .i64 (4 : Int), .int .u64 (e : Int), .int .u64 (n : Int), .int .i64 (a : Int), .int .i64 (m : Int), .string p] 29) = W at B S ⊢
  have c0 := S.c.q0
  have c1 := S.c.q1
  have c2 := S.c.q2
  have c3 := S.c.q3
  have c4 := S.c.q4
  have c5 := S.c.q5
  have hne : Nonempty (Bw W) := ⟨⟨W, Below.refl _ _⟩⟩
  refine wp_region_below (by kernel_rfl) (by kernel_rfl) ?_
  repeat (go_big_quiet_step (fail))
  go_big_quiet_step (exact Calls.bw_of (home_any _ _ _))
  repeat (go_big_quiet_step (fail))
  refine wpQuiet_nil ?_
  rintro _ ⟨q, rfl⟩
  clear c0 c1 c2 c3 c4 c5
  go_wp2_with fail
  go_ret2
  exact ⟨rfl, below_to B q.h⟩
set_option maxHeartbeats 400000 in
theorem ofHome_n (b : ByteArray) (pg : Int) (n a m : Nat) (p : ByteArray) (w : World) (hb : b ≠ z512) (hx : ((n : Int) == 0) = false) (HO : ∀ w, Calls Try.prog 14 #[.string b] w fun x w' => x = secErr 4 0 n a m p 0 ∧ Below w.heap.size w w') :
    Calls Try.prog 20 #[.string b, .int .i64 pg] w fun x w' => x = strErr ByteArray.empty 19 ∧ Below w.heap.size w w' := by
  obtain ⟨q, hq⟩ : ∃ q, z512 = q := ⟨_, rfl⟩
  have n1 := Lib.hid (fun w => blank_any q hq w)
  rw [hq] at hb
  have hd := str_nbeq hb
  have n2 := Lib.hid HO
  clear hb hq HO
  go_enter Try.func20, Try.ntmps20
  go_wp2_with fail
  refine (n1.out _).mono ?_
  rintro x w1 ⟨rfl, B⟩
  go_wp2_with fail
  refine (n2.out _).mono ?_
  rintro x w2 ⟨rfl, hb⟩
  replace B := below_to B hb
  clear hb
  unfold secErr
  go_wp2_with fail
  have S := SecW.new w2 4 0 n a m p 29
  replace B := below_to B ((Below.refl _ _).alloc (Nat.le_refl _) (.cells #[.int .i64 (4 : Int), .int .u64 (0 : Int), .int .u64 (n : Int), .int .i64 (a : Int), .int .i64 (m : Int), .string p] 29))
  generalize w2.alloc (.cells #[.int .i64 (4 : Int), .int .u64 (0 : Int), .int .u64 (n : Int), .int .i64 (a : Int), .int .i64 (m : Int), .string p] 29) = W at B S ⊢
  have c0 := S.c.q0
  have c1 := S.c.q1
  have c2 := S.c.q2
  have c3 := S.c.q3
  have c4 := S.c.q4
  have c5 := S.c.q5
  have hne : Nonempty (Bw W) := ⟨⟨W, Below.refl _ _⟩⟩
  refine wp_region_below (by kernel_rfl) (by kernel_rfl) ?_
  repeat (go_big_quiet_step (fail))
  go_big_quiet_step (exact Calls.bw_of (home_any _ _ _))
  repeat (go_big_quiet_step (fail))
  refine wpQuiet_nil ?_
  rintro _ ⟨q, rfl⟩
  clear c0 c1 c2 c3 c4 c5
  go_wp2_with fail
  go_ret2
  exact ⟨rfl, below_to B q.h⟩
set_option maxHeartbeats 400000 in
theorem ofHome_a (b : ByteArray) (pg : Int) (a m : Nat) (p : ByteArray) (w : World) (hb : b ≠ z512) (hx : ((a : Int) == pg) = false) (HO : ∀ w, Calls Try.prog 14 #[.string b] w fun x w' => x = secErr 4 0 0 a m p 0 ∧ Below w.heap.size w w') :
    Calls Try.prog 20 #[.string b, .int .i64 pg] w fun x w' => x = strErr ByteArray.empty 19 ∧ Below w.heap.size w w' := by
  obtain ⟨q, hq⟩ : ∃ q, z512 = q := ⟨_, rfl⟩
  have n1 := Lib.hid (fun w => blank_any q hq w)
  rw [hq] at hb
  have hd := str_nbeq hb
  have n2 := Lib.hid HO
  clear hb hq HO
  go_enter Try.func20, Try.ntmps20
  go_wp2_with fail
  refine (n1.out _).mono ?_
  rintro x w1 ⟨rfl, B⟩
  go_wp2_with fail
  refine (n2.out _).mono ?_
  rintro x w2 ⟨rfl, hb⟩
  replace B := below_to B hb
  clear hb
  unfold secErr
  go_wp2_with fail
  have S := SecW.new w2 4 0 0 a m p 29
  replace B := below_to B ((Below.refl _ _).alloc (Nat.le_refl _) (.cells #[.int .i64 (4 : Int), .int .u64 (0 : Int), .int .u64 (0 : Int), .int .i64 (a : Int), .int .i64 (m : Int), .string p] 29))
  generalize w2.alloc (.cells #[.int .i64 (4 : Int), .int .u64 (0 : Int), .int .u64 (0 : Int), .int .i64 (a : Int), .int .i64 (m : Int), .string p] 29) = W at B S ⊢
  have c0 := S.c.q0
  have c1 := S.c.q1
  have c2 := S.c.q2
  have c3 := S.c.q3
  have c4 := S.c.q4
  have c5 := S.c.q5
  have hne : Nonempty (Bw W) := ⟨⟨W, Below.refl _ _⟩⟩
  refine wp_region_below (by kernel_rfl) (by kernel_rfl) ?_
  repeat (go_big_quiet_step (fail))
  go_big_quiet_step (exact Calls.bw_of (home_any _ _ _))
  repeat (go_big_quiet_step (fail))
  refine wpQuiet_nil ?_
  rintro _ ⟨q, rfl⟩
  clear c0 c1 c2 c3 c4 c5
  go_wp2_with fail
  go_ret2
  exact ⟨rfl, below_to B q.h⟩
set_option maxHeartbeats 400000 in
theorem ofHome_m (b : ByteArray) (m a : Nat) (p : ByteArray) (w : World) (hb : b ≠ z512) (hx : ((m : Int) == 0) = false) (HO : ∀ w, Calls Try.prog 14 #[.string b] w fun x w' => x = secErr 4 0 0 a m p 0 ∧ Below w.heap.size w w') :
    Calls Try.prog 20 #[.string b, .int .i64 (a : Int)] w fun x w' => x = strErr ByteArray.empty 19 ∧ Below w.heap.size w w' := by
  obtain ⟨q, hq⟩ : ∃ q, z512 = q := ⟨_, rfl⟩
  have n1 := Lib.hid (fun w => blank_any q hq w)
  rw [hq] at hb
  have hd := str_nbeq hb
  have n2 := Lib.hid HO
  clear hb hq HO
  go_enter Try.func20, Try.ntmps20
  go_wp2_with fail
  refine (n1.out _).mono ?_
  rintro x w1 ⟨rfl, B⟩
  go_wp2_with fail
  refine (n2.out _).mono ?_
  rintro x w2 ⟨rfl, hb⟩
  replace B := below_to B hb
  clear hb
  unfold secErr
  go_wp2_with fail
  have S := SecW.new w2 4 0 0 a m p 29
  replace B := below_to B ((Below.refl _ _).alloc (Nat.le_refl _) (.cells #[.int .i64 (4 : Int), .int .u64 (0 : Int), .int .u64 (0 : Int), .int .i64 (a : Int), .int .i64 (m : Int), .string p] 29))
  generalize w2.alloc (.cells #[.int .i64 (4 : Int), .int .u64 (0 : Int), .int .u64 (0 : Int), .int .i64 (a : Int), .int .i64 (m : Int), .string p] 29) = W at B S ⊢
  have c0 := S.c.q0
  have c1 := S.c.q1
  have c2 := S.c.q2
  have c3 := S.c.q3
  have c4 := S.c.q4
  have c5 := S.c.q5
  have hne : Nonempty (Bw W) := ⟨⟨W, Below.refl _ _⟩⟩
  refine wp_region_below (by kernel_rfl) (by kernel_rfl) ?_
  repeat (go_big_quiet_step (fail))
  go_big_quiet_step (exact Calls.bw_of (home_any _ _ _))
  repeat (go_big_quiet_step (fail))
  refine wpQuiet_nil ?_
  rintro _ ⟨q, rfl⟩
  clear c0 c1 c2 c3 c4 c5
  go_wp2_with fail
  go_ret2
  exact ⟨rfl, below_to B q.h⟩
theorem bne_of {α : Type} [BEq α] {x y : α} (h : (x == y) = false) : (x != y) = true := by simp [bne, h]
set_option maxHeartbeats 400000 in
theorem rofHome_k (b : ByteArray) (pg : Int) (k e n a m : Nat) (p : ByteArray) (w : World) (hb : b ≠ z512) (hx : ((k : Int) == 4) = false) (HO : ∀ w, Calls Try.prog 15 #[.string b] w fun x w' => x = secErr k e n a m p 0 ∧ Below w.heap.size w w') :
    Calls Try.prog 21 #[.string b, .int .i64 pg] w fun x w' => x = strErr ByteArray.empty 19 ∧ Below w.heap.size w w' := by
  obtain ⟨q, hq⟩ : ∃ q, z512 = q := ⟨_, rfl⟩
  have n1 := Lib.hid (fun w => rzeros_lit 512 512 q rfl hq w (by omega) (by omega))
  rw [hq] at hb
  have hd := str_nbeq hb
  have n2 := Lib.hid HO
  clear hb hq HO
  go_enter Try.func21, Try.ntmps21
  go_wp2_with fail
  refine (n1.out _).mono ?_
  rintro x w1 ⟨rfl, B⟩
  go_wp2_with fail
  refine (n2.out _).mono ?_
  rintro x w2 ⟨rfl, hb⟩
  replace B := below_to B hb
  clear hb
  unfold secErr
  have hx2 := bne_of hx
  go_wp2_with fail
  go_ret2
  exact ⟨rfl, below_to B ((Below.refl _ _).alloc (Nat.le_refl _) _)⟩
set_option maxHeartbeats 400000 in
theorem rofHome_a (b : ByteArray) (pg : Int) (e n a m : Nat) (p : ByteArray) (w : World) (hb : b ≠ z512) (hx : ((a : Int) == pg) = false) (HO : ∀ w, Calls Try.prog 15 #[.string b] w fun x w' => x = secErr 4 e n a m p 0 ∧ Below w.heap.size w w') :
    Calls Try.prog 21 #[.string b, .int .i64 pg] w fun x w' => x = strErr ByteArray.empty 19 ∧ Below w.heap.size w w' := by
  obtain ⟨q, hq⟩ : ∃ q, z512 = q := ⟨_, rfl⟩
  have n1 := Lib.hid (fun w => rzeros_lit 512 512 q rfl hq w (by omega) (by omega))
  rw [hq] at hb
  have hd := str_nbeq hb
  have n2 := Lib.hid HO
  clear hb hq HO
  go_enter Try.func21, Try.ntmps21
  go_wp2_with fail
  refine (n1.out _).mono ?_
  rintro x w1 ⟨rfl, B⟩
  go_wp2_with fail
  refine (n2.out _).mono ?_
  rintro x w2 ⟨rfl, hb⟩
  replace B := below_to B hb
  clear hb
  unfold secErr
  have hx2 := bne_of hx
  go_wp2_with fail
  go_ret2
  exact ⟨rfl, below_to B ((Below.refl _ _).alloc (Nat.le_refl _) _)⟩
set_option maxHeartbeats 400000 in
theorem rofHome_m (b : ByteArray) (e n m a : Nat) (p : ByteArray) (w : World) (hb : b ≠ z512) (hx : ((m : Int) == 0) = false) (HO : ∀ w, Calls Try.prog 15 #[.string b] w fun x w' => x = secErr 4 e n a m p 0 ∧ Below w.heap.size w w') :
    Calls Try.prog 21 #[.string b, .int .i64 (a : Int)] w fun x w' => x = strErr ByteArray.empty 19 ∧ Below w.heap.size w w' := by
  obtain ⟨q, hq⟩ : ∃ q, z512 = q := ⟨_, rfl⟩
  have n1 := Lib.hid (fun w => rzeros_lit 512 512 q rfl hq w (by omega) (by omega))
  rw [hq] at hb
  have hd := str_nbeq hb
  have n2 := Lib.hid HO
  clear hb hq HO
  go_enter Try.func21, Try.ntmps21
  go_wp2_with fail
  refine (n1.out _).mono ?_
  rintro x w1 ⟨rfl, B⟩
  go_wp2_with fail
  refine (n2.out _).mono ?_
  rintro x w2 ⟨rfl, hb⟩
  replace B := below_to B hb
  clear hb
  unfold secErr
  have hx2 := bne_of hx
  go_wp2_with fail
  go_ret2
  exact ⟨rfl, below_to B ((Below.refl _ _).alloc (Nat.le_refl _) _)⟩
set_option maxHeartbeats 400000 in
theorem rofHome_e (b : ByteArray) (e n a : Nat) (p : ByteArray) (w : World) (hb : b ≠ z512) (hx : ((e : Int) == 0) = false) (HO : ∀ w, Calls Try.prog 15 #[.string b] w fun x w' => x = secErr 4 e n a 0 p 0 ∧ Below w.heap.size w w') :
    Calls Try.prog 21 #[.string b, .int .i64 (a : Int)] w fun x w' => x = strErr ByteArray.empty 19 ∧ Below w.heap.size w w' := by
  obtain ⟨q, hq⟩ : ∃ q, z512 = q := ⟨_, rfl⟩
  have n1 := Lib.hid (fun w => rzeros_lit 512 512 q rfl hq w (by omega) (by omega))
  rw [hq] at hb
  have hd := str_nbeq hb
  have n2 := Lib.hid HO
  clear hb hq HO
  go_enter Try.func21, Try.ntmps21
  go_wp2_with fail
  refine (n1.out _).mono ?_
  rintro x w1 ⟨rfl, B⟩
  go_wp2_with fail
  refine (n2.out _).mono ?_
  rintro x w2 ⟨rfl, hb⟩
  replace B := below_to B hb
  clear hb
  unfold secErr
  have hx2 := bne_of hx
  go_wp2_with fail
  go_ret2
  exact ⟨rfl, below_to B ((Below.refl _ _).alloc (Nat.le_refl _) _)⟩
set_option maxHeartbeats 400000 in
theorem rofHome_n (b : ByteArray) (n a : Nat) (p : ByteArray) (w : World) (hb : b ≠ z512) (hx : ((n : Int) == 0) = false) (HO : ∀ w, Calls Try.prog 15 #[.string b] w fun x w' => x = secErr 4 0 n a 0 p 0 ∧ Below w.heap.size w w') :
    Calls Try.prog 21 #[.string b, .int .i64 (a : Int)] w fun x w' => x = strErr ByteArray.empty 19 ∧ Below w.heap.size w w' := by
  obtain ⟨q, hq⟩ : ∃ q, z512 = q := ⟨_, rfl⟩
  have n1 := Lib.hid (fun w => rzeros_lit 512 512 q rfl hq w (by omega) (by omega))
  rw [hq] at hb
  have hd := str_nbeq hb
  have n2 := Lib.hid HO
  clear hb hq HO
  go_enter Try.func21, Try.ntmps21
  go_wp2_with fail
  refine (n1.out _).mono ?_
  rintro x w1 ⟨rfl, B⟩
  go_wp2_with fail
  refine (n2.out _).mono ?_
  rintro x w2 ⟨rfl, hb⟩
  replace B := below_to B hb
  clear hb
  unfold secErr
  have hx2 := bne_of hx
  go_wp2_with fail
  go_ret2
  exact ⟨rfl, below_to B ((Below.refl _ _).alloc (Nat.le_refl _) _)⟩
end Go.Proofs.Ytplngodilalbhaa
