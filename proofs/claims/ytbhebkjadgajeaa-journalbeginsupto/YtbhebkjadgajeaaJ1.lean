/- Contracts: a journal's small functions. -/
import Derived.Test.YtbhebkjadgajeaaD9
namespace Go.Proofs.Ytbhebkjadgajeaa
open Go.RowKit
theorem isPage_yes (n : Int) (w : World) (h1 : 0 ≤ n) (h2 : n < 3840) : Calls Try.prog 34 #[.int .i64 n] w fun e w' => e = .returned (.bool true) ∧ w = w' := by
  go_enter Try.func34, Try.ntmps34
  go_wp2
  go_ret
  first | exact ⟨rfl, rfl⟩ | exact ⟨ret_bool (by first | (simp; done) | (simp; omega)), rfl⟩
theorem isPage_no (n : Int) (w : World) (h : n < 0 ∨ 3840 ≤ n) : Calls Try.prog 34 #[.int .i64 n] w fun e w' => e = .returned (.bool false) ∧ w = w' := by
  by_cases h1 : 0 ≤ n
  · have h2 : 3840 ≤ n := by omega
    clear h
    go_enter Try.func34, Try.ntmps34
    go_wp2
    go_ret
    first | exact ⟨rfl, rfl⟩ | exact ⟨ret_bool (by first | (simp; done) | (simp; omega)), rfl⟩
  · clear h
    go_enter Try.func34, Try.ntmps34
    go_wp2
    go_ret
    first | exact ⟨rfl, rfl⟩ | exact ⟨ret_bool (by first | (simp; done) | (simp; omega)), rfl⟩
theorem fits_nil (size : Int) (w : World) : Calls Try.prog 25 #[.pointer none, .int .i64 size] w fun e w' => e = .returned (.bool false) ∧ w = w' := by
  go_enter Try.func25, Try.ntmps25
  go_wp2
  go_ret
  exact ⟨rfl, rfl⟩
/-- Block j is a journal. -/
structure Jour (w : World) (j d : Nat) (size used : Nat) (ep num : Nat) : Prop where
  c0 : w.cell? ⟨j, 0, none⟩ = some (.pointer (some ⟨d, 0, none⟩))
  c1 : w.cell? ⟨j, 1, none⟩ = some (.int .i64 (size : Int))
  c2 : w.cell? ⟨j, 2, none⟩ = some (.int .i64 (used : Int))
  c3 : w.cell? ⟨j, 3, none⟩ = some (.int .u64 (ep : Int))
  c4 : w.cell? ⟨j, 4, none⟩ = some (.int .u64 (num : Int))
  f2 : w.frozen? ⟨j, 2, none⟩ = false
  f4 : w.frozen? ⟨j, 4, none⟩ = false
section
variable {K : Nat → Prop} {w w1 : World} {d sb : Nat} {S : List ByteArray} {pv : Value} {P : List (Int × ByteArray)} {fuse : Int} {down : Bool} {ops : Int} {j size used ep num : Nat}
theorem Jour.lt (h : Jour w j d size used ep num) : j < w.heap.size := World.block_lt_of_cell? w _ h.c0
theorem Jour.block (h : Jour w j d size used ep num) (hb : w1.heap[j]? = w.heap[j]?) : Jour w1 j d size used ep num :=
  ⟨(World.cell?_of_block (a := ⟨j, 0, none⟩) hb).trans h.c0, (World.cell?_of_block (a := ⟨j, 1, none⟩) hb).trans h.c1, (World.cell?_of_block (a := ⟨j, 2, none⟩) hb).trans h.c2, (World.cell?_of_block (a := ⟨j, 3, none⟩) hb).trans h.c3, (World.cell?_of_block (a := ⟨j, 4, none⟩) hb).trans h.c4,
    (World.frozen?_of_block (a := ⟨j, 2, none⟩) hb).trans h.f2, (World.frozen?_of_block (a := ⟨j, 4, none⟩) hb).trans h.f4⟩
theorem Jour.below (h : Jour w j d size used ep num) (B : Below w.heap.size w w1) : Jour w1 j d size used ep num := h.block (B.block j h.lt)
theorem Jour.keep (h : Jour w j d size used ep num) (hk : K j) (B : Keep K w w1) : Jour w1 j d size used ep num := h.block (B.block j hk)
theorem Jour.new (w : World) (d size ep : Nat) (t : TypeId) : Jour (w.alloc (.cells #[.pointer (some ⟨d, 0, none⟩), .int .i64 (size : Int), .int .i64 0, .int .u64 (ep : Int), .int .u64 0] t)) w.heap.size d size 0 ep 0 :=
  ⟨by simp [go_sem], by simp [go_sem], by simp [go_sem], by simp [go_sem], by simp [go_sem], by simp [go_sem], by simp [go_sem]⟩
theorem fits_yes (h : Disk K w d sb S pv P fuse down ops) (size : Nat) (h1 : 4 ≤ size) (h2 : size ≤ 1024) (h3 : size < S.length) : Calls Try.prog 25 #[.pointer (some ⟨d, 0, none⟩), .int .i64 (size : Int)] w fun e w' => e = .returned (.bool true) ∧ w = w' := by
  go_enter Try.func25, Try.ntmps25
  go_wp2_with (go_at_call 37; refine (len_any h).mono ?_; rintro e w' ⟨rfl, rfl⟩)
  go_ret
  first | exact ⟨rfl, rfl⟩ | exact ⟨ret_bool (by first | (simp; done) | (simp; omega)), rfl⟩
theorem fits_no (h : Disk K w d sb S pv P fuse down ops) (size : Int) (hn : size < 4 ∨ 1024 < size ∨ (S.length : Int) ≤ size) : Calls Try.prog 25 #[.pointer (some ⟨d, 0, none⟩), .int .i64 size] w fun e w' => e = .returned (.bool false) ∧ w = w' := by
  by_cases h1 : 4 ≤ size
  · by_cases h2 : size ≤ 1024
    · have h3 : (S.length : Int) ≤ size := by omega
      clear hn
      go_enter Try.func25, Try.ntmps25
      go_wp2_with (go_at_call 37; refine (len_any h).mono ?_; rintro e w' ⟨rfl, rfl⟩)
      go_ret
      first | exact ⟨rfl, rfl⟩ | exact ⟨ret_bool (by first | (simp; done) | (simp; omega)), rfl⟩
    · clear hn
      go_enter Try.func25, Try.ntmps25
      go_wp2_with (go_at_call 37; refine (len_any h).mono ?_; rintro e w' ⟨rfl, rfl⟩)
      go_ret
      first | exact ⟨rfl, rfl⟩ | exact ⟨ret_bool (by first | (simp; done) | (simp; omega)), rfl⟩
  · clear hn
    go_enter Try.func25, Try.ntmps25
    go_wp2_with (go_at_call 37; refine (len_any h).mono ?_; rintro e w' ⟨rfl, rfl⟩)
    go_ret
    first | exact ⟨rfl, rfl⟩ | exact ⟨ret_bool (by first | (simp; done) | (simp; omega)), rfl⟩
theorem jopen_nil (size : Int) (ep : Nat) (w : World) : Calls Try.prog 7 #[.pointer none, .int .i64 size, .int .u64 (ep : Int)] w fun e w' => e = .returned (.tuple #[.pointer none, .int .i64 18]) ∧ w = w' := by
  go_enter Try.func7, Try.ntmps7
  go_wp2_with (go_at_call 25; refine (fits_nil _ _).mono ?_; rintro e w' ⟨rfl, rfl⟩)
  go_ret2
  exact ⟨rfl, rfl⟩
theorem jopen_no (h : Disk K w d sb S pv P fuse down ops) (size : Int) (ep : Nat) (hn : size < 4 ∨ 1024 < size ∨ (S.length : Int) ≤ size) : Calls Try.prog 7 #[.pointer (some ⟨d, 0, none⟩), .int .i64 size, .int .u64 (ep : Int)] w fun e w' => e = .returned (.tuple #[.pointer none, .int .i64 18]) ∧ w = w' := by
  have HN := Lib.hid hn
  clear hn
  go_enter Try.func7, Try.ntmps7
  go_wp2_with (go_at_call 25; refine (fits_no h _ HN.out).mono ?_; rintro e w' ⟨rfl, rfl⟩)
  go_ret2
  exact ⟨rfl, rfl⟩
theorem jopen_yes (h : Disk K w d sb S pv P fuse down ops) (size ep : Nat) (h1 : 4 ≤ size) (h2 : size ≤ 1024) (h3 : size < S.length) : Calls Try.prog 7 #[.pointer (some ⟨d, 0, none⟩), .int .i64 (size : Int), .int .u64 (ep : Int)] w fun e w' =>
    e = .returned (.tuple #[.pointer (some ⟨w.heap.size, 0, none⟩), .int .i64 0]) ∧ Jour w' w.heap.size d size 0 ep 0 ∧ Below w.heap.size w w' := by
  go_enter Try.func7, Try.ntmps7
  go_wp2_with (go_at_call 25; refine (fits_yes h _ h1 h2 h3).mono ?_; rintro e w' ⟨rfl, rfl⟩)
  go_ret2
  exact ⟨rfl, Jour.new _ _ _ _ _, (Below.refl _ _).alloc (Nat.le_refl _) _⟩
theorem room_nil (w : World) : Calls Try.prog 18 #[.pointer none] w fun e w' => e = .returned (.int .i64 0) ∧ w = w' := by
  go_enter Try.func18, Try.ntmps18
  go_wp2
  go_ret
  exact ⟨rfl, rfl⟩
theorem number_nil (w : World) : Calls Try.prog 19 #[.pointer none] w fun e w' => e = .returned (.int .u64 0) ∧ w = w' := by
  go_enter Try.func19, Try.ntmps19
  go_wp2
  go_ret
  exact ⟨rfl, rfl⟩
theorem epoch_nil (w : World) : Calls Try.prog 20 #[.pointer none] w fun e w' => e = .returned (.int .u64 0) ∧ w = w' := by
  go_enter Try.func20, Try.ntmps20
  go_wp2
  go_ret
  exact ⟨rfl, rfl⟩
theorem jnumber_any (h : Jour w j d size used ep num) : Calls Try.prog 19 #[.pointer (some ⟨j, 0, none⟩)] w fun e w' => e = .returned (.int .u64 (num : Int)) ∧ w = w' := by
  have c4 := h.c4
  go_enter Try.func19, Try.ntmps19
  go_wp2
  go_ret
  exact ⟨rfl, rfl⟩
theorem epoch_any (h : Jour w j d size used ep num) : Calls Try.prog 20 #[.pointer (some ⟨j, 0, none⟩)] w fun e w' => e = .returned (.int .u64 (ep : Int)) ∧ w = w' := by
  have c3 := h.c3
  go_enter Try.func20, Try.ntmps20
  go_wp2
  go_ret
  exact ⟨rfl, rfl⟩
theorem room_any (h : Jour w j d size used ep num) (hs : size ≤ 1024) (hu : used ≤ size) : Calls Try.prog 18 #[.pointer (some ⟨j, 0, none⟩)] w fun e w' => e = .returned (.int .i64 ((size : Int) - used)) ∧ w.drew = w' := by
  have c1 := h.c1
  have c2 := h.c2
  go_enter Try.func18, Try.ntmps18
  go_wp2
  go_region
  go_wp2
  go_ret
  exact ⟨by first | rfl | go_num, rfl⟩
theorem image_any (e n : Nat) (i : Int) (pg : Int) (t : ByteArray) (w : World) : Calls Try.prog 38 #[.int .u64 (e : Int), .int .u64 (n : Int), .int .i64 i, .agg #[.int .i64 pg, .string t]] w fun x w' =>
    x = .returned (.agg #[.int .i64 2, .int .u64 (e : Int), .int .u64 (n : Int), .int .i64 pg, .int .i64 i, .string t]) ∧ Below w.heap.size w w' := by
  go_enter Try.func38, Try.ntmps38
  go_wp2
  refine bodyPost_ret (v := .agg #[.int .i64 2, .int .u64 (e : Int), .int .u64 (n : Int), .int .i64 pg, .int .i64 i, .string t]) (by simp [results, Try.results38, go_sem]) rfl ⟨rfl, ?_⟩
  exact ((Below.refl _ _).alloc (Nat.le_refl _) _).alloc (by simp) _
theorem pad480 (z : ByteArray) (hz : bs (List.replicate 480 0) = z) (w : World) : Calls Try.prog 46 #[.string ⟨#[]⟩, .int .i64 480] w fun e w' => e = .returned (.string z) ∧ Below w.heap.size w w' := by
  have h3 : (((ByteArray.mk #[]).size : Nat) : Int) < (480 : Int) := by show ((0 : Nat) : Int) < _; omega
  have hp := fun w => pad_more ⟨#[]⟩ 480 w (by omega) h3
  rw [empty_append, show ((480 : Int) - ((ByteArray.mk #[]).size : Nat)).toNat = 480 by show ((480 : Int) - ((0 : Nat) : Int)).toNat = 480; omega] at hp
  rw [← hz]; exact hp w
theorem commit_any (e n : Nat) (i : Int) (z : ByteArray) (hz : bs (List.replicate 480 0) = z) (w : World) : Calls Try.prog 39 #[.int .u64 (e : Int), .int .u64 (n : Int), .int .i64 i] w fun x w' =>
    x = .returned (.agg #[.int .i64 3, .int .u64 (e : Int), .int .u64 (n : Int), .int .i64 0, .int .i64 i, .string z]) ∧ Below w.heap.size w w' := by
  have n1 := Lib.hid (fun w => pad480 z hz w)
  clear hz
  go_enter Try.func39, Try.ntmps39
  have B := (Below.refl w.heap.size w).alloc (Nat.le_refl _) (.cells #[.int .i64 0, .int .u64 0, .int .u64 0, .int .i64 0, .int .i64 0, .string ⟨#[]⟩] 70)
  have E := SecW.zero w 70
  go_wp2_with fail
  refine (n1.out _).mono ?_
  rintro x w1 ⟨rfl, hb⟩
  replace B := below_to B hb
  replace E := E.below hb
  clear hb
  have F := ((((((E.set0 3).set1 e).set2 n).set3 0).set4 i).set5 z)
  obtain ⟨⟨c0, c1, c2, c3, c4, c5⟩, f0, f1, f2, f3, f4, f5⟩ := E
  go_wp2_with fail
  refine bodyPost_ret (results_sec Try.results39 _ _ _ _ _ _ _ _ _ F.c rfl) rfl ⟨rfl, ?_⟩
  exact ((((((B.setCell (Nat.le_refl _) _).setCell (Nat.le_refl _) _).setCell (Nat.le_refl _) _).setCell (Nat.le_refl _) _).setCell (Nat.le_refl _) _).setCell (Nat.le_refl _) _)
theorem jwrite_any (h : Disk K w d sb S pv P fuse down ops) (i : Int) (k e n a m : Nat) (p : ByteArray) (hs : okS k a m p.size) (he : e < 18446744073709551616) (hn : n < 18446744073709551616) (hP : P.length ≤ 1000000) (hf2 : fuse ≤ 9223372036854775807) (ho : 0 ≤ ops) (ho2 : ops < 4611686018427387904) (y : Int) (P' : List (Int × ByteArray)) (f' : Int) (d' : Bool) (o' : Int) (hq : wrF S.length P fuse down ops i (sealB k e n a m p) = (y, P', f', d', o')) :
    Calls Try.prog 27 #[.pointer (some ⟨d, 0, none⟩), .int .i64 i, .agg #[.int .i64 (k : Int), .int .u64 (e : Int), .int .u64 (n : Int), .int .i64 (a : Int), .int .i64 (m : Int), .string p]] w fun x w' => x = .returned (.int .i64 y) ∧ (∃ pv', Disk K w' d sb S pv' P' f' d' o') ∧ Keep K w w' := by
  obtain ⟨b, hb⟩ : ∃ b, sealB k e n a m p = b := ⟨_, rfl⟩
  have n1 := fun w => seal_ok k e n a m p w hs he hn
  rw [hb] at n1 hq
  have N1 := Lib.hid n1
  have HQ := Lib.hid hq
  clear n1 hq hb hs
  have B := (Below.refl w.heap.size w).alloc (Nat.le_refl _) (.cells #[.int .i64 (k : Int), .int .u64 (e : Int), .int .u64 (n : Int), .int .i64 (a : Int), .int .i64 (m : Int), .string p] 70)
  go_enter Try.func27, Try.ntmps27
  go_wp2_with fail
  refine (N1.out _).mono ?_
  rintro x w1 ⟨rfl, hb⟩
  replace B := below_to B hb
  clear hb
  unfold strErr
  go_wp2_with fail
  refine (write_any (h.below B) i b hP hf2 ho ho2 y P' f' d' o' HQ.out).mono ?_
  rintro x w2 ⟨rfl, hD, hk⟩
  go_wp2_with fail
  go_ret
  exact ⟨rfl, hD, ((Keep.refl w).below h.lt B).trans hk⟩
end
end Go.Proofs.Ytbhebkjadgajeaa
