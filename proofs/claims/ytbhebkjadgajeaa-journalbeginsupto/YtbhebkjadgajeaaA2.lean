/- Contracts: the bytes of a sector ahead of its checksum. -/
import Derived.Test.YtbhebkjadgajeaaA1
import Derived.Test.YtbhebkjadgajeaaO7
namespace Go.Proofs.Ytbhebkjadgajeaa
open Go.RowKit
theorem empty_append (s : ByteArray) : (ByteArray.mk #[]) ++ s = s := by
  apply ByteArray.ext; simp
theorem zeros_any (n : Nat) (w : World) (h1 : 1 ≤ n) (h2 : n ≤ 65536) : Calls Try.prog 36 #[.int .i64 (n : Int)] w fun e w' => e = .returned (.string (bs (List.replicate n 0))) ∧ Below w.heap.size w w' := by
  have h3 : (((ByteArray.mk #[]).size : Nat) : Int) < (n : Int) := by show ((0 : Nat) : Int) < _; omega
  have hp := fun w => pad_more ⟨#[]⟩ n w (by omega) h3
  rw [empty_append, show ((n : Int) - ((ByteArray.mk #[]).size : Nat)).toNat = n by show ((n : Int) - ((0 : Nat) : Int)).toNat = n; omega] at hp
  have HP := Lib.hid hp
  clear hp h3
  go_enter Try.func36, Try.ntmps36
  go_wp2_with fail
  refine (HP.out _).mono ?_
  rintro e w1 ⟨rfl, hb⟩
  go_wp2_with fail
  go_ret
  exact ⟨rfl, hb⟩
/-- The bytes ahead of the checksum. -/
def frontB (k e n a m : Nat) : ByteArray := bs (numL 1 k) ++ bs (List.replicate 1 0) ++ bs (numL 2 a) ++ bs (numL 2 m) ++ bs (List.replicate 2 0) ++ bs (numL 8 e) ++ bs (numL 8 n) ++ bs (List.replicate 4 0)
theorem num_lit (m n : Nat) (t : ByteArray) (M : Int) (hM : M = m) (h : bs (numL m n) = t) (w : World) (h1 : 1 ≤ m) (h2 : m ≤ 8) (hn : n < 18446744073709551616) :
    Calls Try.prog 50 #[.int .i64 M, .int .u64 (n : Int)] w fun e w' => e = .returned (.string t) ∧ Below w.heap.size w w' := by
  subst hM h; exact num_ok m n w h1 h2 hn
theorem zeros_lit (n : Nat) (N : Int) (t : ByteArray) (hN : N = n) (h : bs (List.replicate n 0) = t) (w : World) (h1 : 1 ≤ n) (h2 : n ≤ 65536) : Calls Try.prog 36 #[.int .i64 N] w fun e w' => e = .returned (.string t) ∧ Below w.heap.size w w' := by
  subst hN h; exact zeros_any n w h1 h2
/-- Block b is a sector. -/
structure Sec (w : World) (b : Nat) (k : Int) (e n : Nat) (a m : Int) (p : ByteArray) : Prop where
  c0 : w.cell? ⟨b, 0, none⟩ = some (.int .i64 k)
  c1 : w.cell? ⟨b, 1, none⟩ = some (.int .u64 (e : Int))
  c2 : w.cell? ⟨b, 2, none⟩ = some (.int .u64 (n : Int))
  c3 : w.cell? ⟨b, 3, none⟩ = some (.int .i64 a)
  c4 : w.cell? ⟨b, 4, none⟩ = some (.int .i64 m)
  c5 : w.cell? ⟨b, 5, none⟩ = some (.string p)
theorem Sec.lt {w : World} {b : Nat} {k : Int} {e n : Nat} {a m : Int} {p : ByteArray} (h : Sec w b k e n a m p) : b < w.heap.size := World.block_lt_of_cell? w _ h.c0
theorem Sec.new (w : World) (k : Int) (e n : Nat) (a m : Int) (p : ByteArray) (t : TypeId) :
    Sec (w.alloc (.cells #[.int .i64 k, .int .u64 (e : Int), .int .u64 (n : Int), .int .i64 a, .int .i64 m, .string p] t)) w.heap.size k e n a m p ∧ Below w.heap.size w (w.alloc (.cells #[.int .i64 k, .int .u64 (e : Int), .int .u64 (n : Int), .int .i64 a, .int .i64 m, .string p] t)) :=
  ⟨⟨by simp [go_sem], by simp [go_sem], by simp [go_sem], by simp [go_sem], by simp [go_sem], by simp [go_sem]⟩, (Below.refl _ _).alloc (Nat.le_refl _) _⟩
theorem Sec.below {w w1 : World} {b : Nat} {k : Int} {e n : Nat} {a m : Int} {p : ByteArray} (h : Sec w b k e n a m p) (B : Below w.heap.size w w1) : Sec w1 b k e n a m p :=
  ⟨(B.cell (p := ⟨b, 0, none⟩) h.lt).trans h.c0, (B.cell (p := ⟨b, 1, none⟩) h.lt).trans h.c1, (B.cell (p := ⟨b, 2, none⟩) h.lt).trans h.c2, (B.cell (p := ⟨b, 3, none⟩) h.lt).trans h.c3, (B.cell (p := ⟨b, 4, none⟩) h.lt).trans h.c4, (B.cell (p := ⟨b, 5, none⟩) h.lt).trans h.c5⟩
section
variable {w : World} {b : Nat} {k : Int} {e n : Nat} {a m : Int} {p : ByteArray} (h : Sec w b k e n a m p)
include h
theorem Sec.q0 : ∀ q : Bw w, q.w.cell? ⟨b, 0, none⟩ = some (.int .i64 k) := fun q => (h.below q.h).c0
theorem Sec.q1 : ∀ q : Bw w, q.w.cell? ⟨b, 1, none⟩ = some (.int .u64 (e : Int)) := fun q => (h.below q.h).c1
theorem Sec.q2 : ∀ q : Bw w, q.w.cell? ⟨b, 2, none⟩ = some (.int .u64 (n : Int)) := fun q => (h.below q.h).c2
theorem Sec.q3 : ∀ q : Bw w, q.w.cell? ⟨b, 3, none⟩ = some (.int .i64 a) := fun q => (h.below q.h).c3
theorem Sec.q4 : ∀ q : Bw w, q.w.cell? ⟨b, 4, none⟩ = some (.int .i64 m) := fun q => (h.below q.h).c4
theorem Sec.q5 : ∀ q : Bw w, q.w.cell? ⟨b, 5, none⟩ = some (.string p) := fun q => (h.below q.h).c5
end
theorem front_any (k e n a m : Nat) (p : ByteArray) (w : World) (hk : k ≤ 255) (ha : a ≤ 65535) (hm : m ≤ 65535) (he : e < 18446744073709551616) (hn : n < 18446744073709551616) :
    Calls Try.prog 48 #[.agg #[.int .i64 (k : Int), .int .u64 (e : Int), .int .u64 (n : Int), .int .i64 (a : Int), .int .i64 (m : Int), .string p]] w fun x w' => x = .returned (.string (frontB k e n a m)) ∧ Below w.heap.size w w' := by
  obtain ⟨t1, ht1, s1⟩ : ∃ t, bs (numL 1 k) = t ∧ t.size = 1 := ⟨_, rfl, by rw [bs_size, numL_length]⟩
  obtain ⟨t2, ht2, s2⟩ : ∃ t, bs (List.replicate 1 0) = t ∧ t.size = 1 := ⟨_, rfl, by rw [bs_size, List.length_replicate]⟩
  obtain ⟨t3, ht3, s3⟩ : ∃ t, bs (numL 2 a) = t ∧ t.size = 2 := ⟨_, rfl, by rw [bs_size, numL_length]⟩
  obtain ⟨t4, ht4, s4⟩ : ∃ t, bs (numL 2 m) = t ∧ t.size = 2 := ⟨_, rfl, by rw [bs_size, numL_length]⟩
  obtain ⟨t5, ht5, s5⟩ : ∃ t, bs (List.replicate 2 0) = t ∧ t.size = 2 := ⟨_, rfl, by rw [bs_size, List.length_replicate]⟩
  obtain ⟨t6, ht6, s6⟩ : ∃ t, bs (numL 8 e) = t ∧ t.size = 8 := ⟨_, rfl, by rw [bs_size, numL_length]⟩
  obtain ⟨t7, ht7, s7⟩ : ∃ t, bs (numL 8 n) = t ∧ t.size = 8 := ⟨_, rfl, by rw [bs_size, numL_length]⟩
  obtain ⟨t8, ht8, s8⟩ : ∃ t, bs (List.replicate 4 0) = t ∧ t.size = 4 := ⟨_, rfl, by rw [bs_size, List.length_replicate]⟩
  have HF := Lib.hid (show frontB k e n a m = t1 ++ t2 ++ t3 ++ t4 ++ t5 ++ t6 ++ t7 ++ t8 by subst ht1 ht2 ht3 ht4 ht5 ht6 ht7 ht8; rfl)
  have n1 := Lib.hid (fun w => num_lit 1 k t1 1 rfl ht1 w (by omega) (by omega) (by omega))
  have n2 := Lib.hid (fun w => zeros_lit 1 1 t2 rfl ht2 w (by omega) (by omega))
  have n3 := Lib.hid (fun w => num_lit 2 a t3 2 rfl ht3 w (by omega) (by omega) (by omega))
  have n4 := Lib.hid (fun w => num_lit 2 m t4 2 rfl ht4 w (by omega) (by omega) (by omega))
  have n5 := Lib.hid (fun w => zeros_lit 2 2 t5 rfl ht5 w (by omega) (by omega))
  have n6 := Lib.hid (fun w => num_lit 8 e t6 8 rfl ht6 w (by omega) (by omega) he)
  have n7 := Lib.hid (fun w => num_lit 8 n t7 8 rfl ht7 w (by omega) (by omega) hn)
  have n8 := Lib.hid (fun w => zeros_lit 4 4 t8 rfl ht8 w (by omega) (by omega))
  clear ht1 ht2 ht3 ht4 ht5 ht6 ht7 ht8
  go_enter Try.func48, Try.ntmps48
  go_wp2_with fail
  have F := Sec.new w k e n a m p 70
  generalize w.alloc (.cells #[.int .i64 (k : Int), .int .u64 (e : Int), .int .u64 (n : Int), .int .i64 (a : Int), .int .i64 (m : Int), .string p] 70) = W at F ⊢
  obtain ⟨F1, F2⟩ := F
  have c0 := F1.q0
  have c1 := F1.q1
  have c2 := F1.q2
  have c3 := F1.q3
  have c4 := F1.q4
  have hne : Nonempty (Bw W) := ⟨⟨W, Below.refl _ _⟩⟩
  refine wp_region_below (by kernel_rfl) (by kernel_rfl) ?_
  repeat (go_big_quiet_step (fail))
  go_big_quiet_step (exact Calls.bw_of (n1.out _))
  go_big_quiet_step (exact Calls.bw_of (n2.out _))
  repeat (go_big_quiet_step (fail))
  go_big_quiet_step (exact Calls.bw_of (n3.out _))
  repeat (go_big_quiet_step (fail))
  go_big_quiet_step (exact Calls.bw_of (n4.out _))
  repeat (go_big_quiet_step (fail))
  go_big_quiet_step (exact Calls.bw_of (n5.out _))
  repeat (go_big_quiet_step (fail))
  go_big_quiet_step (exact Calls.bw_of (n6.out _))
  repeat (go_big_quiet_step (fail))
  go_big_quiet_step (exact Calls.bw_of (n7.out _))
  repeat (go_big_quiet_step (fail))
  go_big_quiet_step (exact Calls.bw_of (n8.out _))
  repeat (go_big_quiet_step (fail))
  refine wpQuiet_nil ?_
  rintro _ ⟨q, rfl⟩
  go_wp2_with fail
  go_ret
  exact ⟨by rw [HF.out]; rfl, below_to F2 q.h⟩
theorem bs_append (l m : List UInt8) : bs l ++ bs m = bs (l ++ m) := by
  apply ByteArray.ext; apply Array.toList_inj.1; simp [bs]
theorem frontB_size (k e n a m : Nat) : (frontB k e n a m).size = 28 := by
  unfold frontB; simp only [ByteArray.size_append, bs_size, numL_length, List.length_replicate]
/-- A sector's bytes. -/
def sealB (k e n a m : Nat) (p : ByteArray) : ByteArray := frontB k e n a m ++ bs (numL 4 (sumN (frontB k e n a m ++ p).data.toList)) ++ p
theorem sealB_size (k e n a m : Nat) (p : ByteArray) : (sealB k e n a m p).size = 32 + p.size := by
  unfold sealB; simp only [ByteArray.size_append, frontB_size, bs_size, numL_length]
theorem load29 (w : World) (b : Nat) (k : Int) (e n : Nat) (a m : Int) (p : ByteArray) (h : Sec w b k e n a m p) :
    (loadVar 70 ⟨b, 0, none⟩).run Try.prog w = .ok (.agg #[.int .i64 k, .int .u64 (e : Int), .int .u64 (n : Int), .int .i64 a, .int .i64 m, .string p]) w := by
  obtain ⟨c0, c1, c2, c3, c4, c5⟩ := h
  simp [go_sem, c0, c1, c2, c3, c4, c5]
set_option maxHeartbeats 400000 in
theorem seal_ok (k e n a m : Nat) (p : ByteArray) (w : World) (h : okS k a m p.size) (he : e < 18446744073709551616) (hn : n < 18446744073709551616) :
    Calls Try.prog 40 #[.agg #[.int .i64 (k : Int), .int .u64 (e : Int), .int .u64 (n : Int), .int .i64 (a : Int), .int .i64 (m : Int), .string p]] w fun x w' => x = strErr (sealB k e n a m p) 0 ∧ Below w.heap.size w w' := by
  have hp : p.size = 480 := h.2.2.2.2.2.2
  have hk : k ≤ 255 := by have := h.2.1; omega
  have ha : a ≤ 65535 := by have := h.2.2.2.1; omega
  have hm : m ≤ 65535 := by have := h.2.2.2.2.2.1; omega
  have H := Lib.hid h
  clear h
  obtain ⟨f, hf⟩ : ∃ f, frontB k e n a m = f := ⟨_, rfl⟩
  have hfs : f.size = 28 := by rw [← hf, frontB_size]
  obtain ⟨u, hu⟩ : ∃ u, sumN (f ++ p).data.toList = u := ⟨_, rfl⟩
  have hul : u < 4294967296 := by rw [← hu]; exact sumN_lt _
  obtain ⟨t, ht⟩ : ∃ t, bs (numL 4 u) = t := ⟨_, rfl⟩
  have hts : t.size = 4 := by rw [← ht, bs_size, numL_length]
  have HS := Lib.hid (show sealB k e n a m p = f ++ t ++ p by unfold sealB; rw [hf, hu, ht])
  have n1 := Lib.hid (fun w => front_any k e n a m p w hk ha hm he hn)
  rw [hf] at n1
  have n2 := Lib.hid (fun w => sum_lit (f ++ p) u hu (by rw [ByteArray.size_append, hfs, hp]; decide) w)
  have n3 := Lib.hid (fun w => num_lit 4 u t 4 rfl ht w (by omega) (by omega) (by omega))
  clear hf hu ht hk ha hm
  go_enter Try.func40, Try.ntmps40
  go_wp2_with fail
  refine (check_ok k e n a m p _ H.out).mono ?_
  rintro x w1 ⟨rfl, hb⟩
  have F := (Sec.new w k e n a m p 70).1.below hb
  have B := below_to (Sec.new w k e n a m p 70).2 hb
  clear hb
  have G := F
  obtain ⟨c0, c1, c2, c3, c4, c5⟩ := F
  go_wp2_with fail
  refine (n1.out _).mono ?_
  rintro x w2 ⟨rfl, hb⟩
  replace G := G.below hb
  replace B := below_to B hb
  clear hb c0 c1 c2 c3 c4 c5
  have c5 := G.c5
  go_wp2_with fail
  refine (n2.out _).mono ?_
  rintro x w3 ⟨rfl, hb⟩
  replace G := G.below hb
  replace B := below_to B hb
  clear hb c5
  go_wp2_with fail
  have c5 := G.q5
  have hne : Nonempty (Bw w3) := ⟨⟨w3, Below.refl _ _⟩⟩
  refine wp_region_below (by kernel_rfl) (by kernel_rfl) ?_
  repeat (go_big_quiet_step (fail))
  go_big_quiet_step (exact Calls.bw_of (n3.out _))
  repeat (go_big_quiet_step (fail))
  refine wpQuiet_nil ?_
  rintro _ ⟨q, rfl⟩
  go_wp2_with fail
  go_ret2
  exact ⟨by unfold strErr; rw [HS.out]; rfl, below_to B q.h⟩
theorem seal_no (k : Int) (e n : Nat) (a m : Int) (p : ByteArray) (w : World) (h : ¬ okS k a m p.size) :
    Calls Try.prog 40 #[.agg #[.int .i64 k, .int .u64 (e : Int), .int .u64 (n : Int), .int .i64 a, .int .i64 m, .string p]] w fun x w' => x = strErr ByteArray.empty 18 ∧ Below w.heap.size w w' := by
  have H := Lib.hid h
  clear h
  go_enter Try.func40, Try.ntmps40
  go_wp2_with fail
  refine (check_no k e n a m p _ H.out).mono ?_
  rintro x w1 ⟨rfl, hb⟩
  have B := below_to (Sec.new w k e n a m p 70).2 hb
  clear hb
  go_wp2_with fail
  go_ret2
  exact ⟨rfl, B⟩
end Go.Proofs.Ytbhebkjadgajeaa
