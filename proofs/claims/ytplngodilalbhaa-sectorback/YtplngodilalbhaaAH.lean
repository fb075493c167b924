/- SectorBack, walked. -/
import Derived.Test.YtplngodilalbhaaAG
namespace Go.Proofs.Ytplngodilalbhaa
open Go.RowKit
set_option maxHeartbeats 1000000 in
theorem back_no (k : Int) (e n : Nat) (a m : Int) (p : ByteArray) (at' : Int) (y c : Nat) (w : World) (h : ¬ okS k a m p.size) :
    Calls Try.prog 5 #[.agg #[.int .i64 k, .int .u64 (e : Int), .int .u64 (n : Int), .int .i64 a, .int .i64 m, .string p], .int .i64 at', .int .u32 (y : Int), .int .u8 (c : Int)] w fun r w' => r = .returned (.bool true) ∧ Below w.heap.size w w' := by
  have n1 := Lib.hid (fun w => seal_no k e n a m p w h)
  have n2 := Lib.hid (fun w => check_no k e n a m p w h)
  clear h
  go_enter Try.func5, Try.ntmps5
  have S := (Sec.new w k e n a m p 24).1
  have B := (Sec.new w k e n a m p 24).2
  go_wp2_with fail
  refine (lives6 _).mono ?_
  rintro r w1 ⟨rfl, hb⟩
  replace S := S.below hb
  replace B := below_to B hb
  clear hb
  have G := S
  obtain ⟨c0, c1, c2, c3, c4, c5⟩ := S
  go_wp2_with fail
  refine (sealed_any _ _ _ _ _ _ _).mono ?_
  rintro r w2 ⟨rfl, hb⟩
  replace G := G.below hb
  replace B := below_to B hb
  clear hb c0 c1 c2 c3 c4 c5
  go_wp2_with fail
  refine (n1.out _).mono ?_
  rintro r w3 ⟨rfl, hb⟩
  replace G := G.below hb
  replace B := below_to B hb
  clear hb
  unfold strErr
  obtain ⟨c0, c1, c2, c3, c4, c5⟩ := G
  go_wp2_with fail
  refine (sealed_any _ _ _ _ _ _ _).mono ?_
  rintro r w4 ⟨rfl, hb⟩
  replace B := below_to B hb
  clear hb c0 c1 c2 c3 c4 c5
  go_wp2_with fail
  refine (n2.out _).mono ?_
  rintro r w5 ⟨rfl, hb⟩
  replace B := below_to B hb
  clear hb
  go_wp2_with fail
  go_ret
  exact ⟨rfl, B⟩
theorem one_str (w5 : World) (o : Obj) (c : UInt8) (t : ByteArray) (h : bs [c] = t) : (convert 43 9 (.slice (some ⟨w5.heap.size + 1, 0, none⟩) 1 1)).run Try.prog ((w5.alloc o).alloc (.cells #[.int .u8 (c.toNat : Int)] 5)) = .ok (.string t) ((w5.alloc o).alloc (.cells #[.int .u8 (c.toNat : Int)] 5)) := by
  subst h
  have hB := BRow.cells (w5.alloc o) #[.int .u8 (c.toNat : Int)] [c] rfl
  rw [show (w5.alloc o).heap.size = w5.heap.size + 1 by simp] at hB
  exact toStr' _ (w5.heap.size + 1) 1 1 [c] hB rfl
set_option maxRecDepth 100000 in
set_option maxHeartbeats 2000000 in
theorem back_ok (k e n a m : Nat) (p b : ByteArray) (at' : Int) (y : Nat) (c : UInt8) (w : World) (hy : y < 4294967296) (h : Opens b k e n a m p) (hat : (Lit.int .i64 at').wf = true) :
    Calls Try.prog 5 #[.agg #[.int .i64 (k : Int), .int .u64 (e : Int), .int .u64 (n : Int), .int .i64 (a : Int), .int .i64 (m : Int), .string p], .int .i64 at', .int .u32 (y : Int), .int .u8 (c.toNat : Int)] w fun r w' => r = .returned (.bool true) ∧ Below w.heap.size w w' := by
  have hs := opens_size h
  have n1 : ∀ w, Calls Try.prog 11 #[.agg #[.int .i64 (k : Int), .int .u64 (e : Int), .int .u64 (n : Int), .int .i64 (a : Int), .int .i64 (m : Int), .string p]] w fun x w' => x = strErr b 0 ∧ Below w.heap.size w w' := fun w => by
    have := seal_ok k e n a m p w h.ok h.he h.hn
    rwa [← h.hb] at this
  have m1 := Lib.hid n1
  have n2 := Lib.hid (fun w => open_is h w)
  have H := Lib.hid h
  have HS := Lib.hid hs
  have n3 := Lib.hid (fun w => open_size_no (c := b.extract 0 511) (by rw [ByteArray.size_extract, hs]; decide) (by rw [ByteArray.size_extract, hs]; decide) w)
  obtain ⟨t, ht, hts⟩ : ∃ t, bs [c] = t ∧ t.size = 1 := ⟨_, rfl, by rw [bs_size]; rfl⟩
  have n4 := Lib.hid (fun w => open_size_no (c := b ++ t) (by rw [ByteArray.size_append, hs, hts]; decide) (by rw [ByteArray.size_append, hs, hts]; decide) w)
  have HT := Lib.hid ht
  have hd : (b.size : Int) = 512 := by omega
  clear ht
  clear h hs n1
  go_enter Try.func5, Try.ntmps5
  have S := (Sec.new w k e n a m p 24).1
  have B := (Sec.new w k e n a m p 24).2
  go_wp2_with fail
  refine (lives6 _).mono ?_
  rintro r w1 ⟨rfl, hb⟩
  replace S := S.below hb
  replace B := below_to B hb
  clear hb
  have G := S
  obtain ⟨c0, c1, c2, c3, c4, c5⟩ := S
  go_wp2_with fail
  refine (sealed_any _ _ _ _ _ _ _).mono ?_
  rintro r w2 ⟨rfl, hb⟩
  replace G := G.below hb
  replace B := below_to B hb
  clear hb c0 c1 c2 c3 c4 c5
  go_wp2_with fail
  refine (m1.out _).mono ?_
  rintro r w3 ⟨rfl, hb⟩
  replace G := G.below hb
  replace B := below_to B hb
  clear hb
  unfold strErr
  go_wp2_with fail
  refine (n2.out _).mono ?_
  rintro r w4 ⟨rfl, hb⟩
  replace G := G.below hb
  replace B := below_to B hb
  clear hb
  unfold secErr
  go_wp2_with fail
  have T := (Sec.new w4 k e n a m p 29).1
  replace G := G.below (Sec.new w4 k e n a m p 29).2
  replace B := below_to B (Sec.new w4 k e n a m p 29).2
  refine (n3.out _).mono ?_
  rintro r w5 ⟨rfl, hb⟩
  replace G := G.below hb
  replace T := T.below hb
  replace B := below_to B hb
  clear hb
  unfold secErr
  have kb := one_str w5 (.cells #[.int .i64 0, .int .u64 0, .int .u64 0, .int .i64 0, .int .i64 0, .string ByteArray.empty] 29) c t HT.out
  go_wp2_with fail
  clear kb
  replace G := G.below (below_two w5 (.cells #[.int .i64 0, .int .u64 0, .int .u64 0, .int .i64 0, .int .i64 0, .string ByteArray.empty] 29) (.cells #[.int .u8 (c.toNat : Int)] 5))
  replace T := T.below (below_two w5 (.cells #[.int .i64 0, .int .u64 0, .int .u64 0, .int .i64 0, .int .i64 0, .string ByteArray.empty] 29) (.cells #[.int .u8 (c.toNat : Int)] 5))
  replace B := below_to B (below_two w5 (.cells #[.int .i64 0, .int .u64 0, .int .u64 0, .int .i64 0, .int .i64 0, .string ByteArray.empty] 29) (.cells #[.int .u8 (c.toNat : Int)] 5))
  refine (n4.out _).mono ?_
  rintro r w6 ⟨rfl, hb⟩
  replace G := G.below hb
  replace T := T.below hb
  replace B := below_to B hb
  clear hb
  unfold secErr
  go_wp2_with fail
  replace G := G.below ((Below.refl _ _).alloc (Nat.le_refl _) (.cells #[.int .i64 0, .int .u64 0, .int .u64 0, .int .i64 0, .int .i64 0, .string ByteArray.empty] 29))
  replace T := T.below ((Below.refl _ _).alloc (Nat.le_refl _) (.cells #[.int .i64 0, .int .u64 0, .int .u64 0, .int .i64 0, .int .i64 0, .string ByteArray.empty] 29))
  replace B := below_to B ((Below.refl _ _).alloc (Nat.le_refl _) (.cells #[.int .i64 0, .int .u64 0, .int .u64 0, .int .i64 0, .int .i64 0, .string ByteArray.empty] 29))
  generalize w6.alloc (.cells #[.int .i64 0, .int .u64 0, .int .u64 0, .int .i64 0, .int .i64 0, .string ByteArray.empty] 29) = W at G T B ⊢
  have c0 := G.q0
  have c1 := G.q1
  have c2 := G.q2
  have c3 := G.q3
  have c4 := G.q4
  have c5 := G.q5
  have d0 := T.q0
  have d1 := T.q1
  have d2 := T.q2
  have d3 := T.q3
  have d4 := T.q4
  have d5 := T.q5
  have hne : Nonempty (Bw W) := ⟨⟨W, Below.refl _ _⟩⟩
  refine wp_region_below (by kernel_rfl) (by kernel_rfl) ?_
  repeat (go_big_quiet_step (fail))
  go_big_quiet_step (exact Calls.bw_of (sealed_any _ _ _ _ _ _ _))
  repeat (go_big_quiet_step (fail))
  refine wpQuiet_nil ?_
  rintro _ ⟨q, rfl⟩
  obtain ⟨w7, hb⟩ := q
  show Exit.then _ _ Exit.normal _ w7
  replace B := below_to B hb
  clear hb c0 c1 c2 c3 c4 c5 d0 d1 d2 d3 d4 d5 hne G T m1 n2 n3 n4 HT
  by_cases g0 : at' < 0
  · go_wp2_with fail
    go_ret
    exact ⟨rfl, B⟩
  by_cases g1 : 508 < at'
  · go_wp2_with fail
    go_ret
    exact ⟨rfl, B⟩
  by_cases g2 : 24 < at' ∧ at' < 32 ∧ at' ≠ 28
  · obtain ⟨g3, g4, g5⟩ := g2
    have g6 : (at' != 28) = true := bne_iff_ne.2 g5
    clear g5
    go_wp2_with fail
    go_ret
    exact ⟨rfl, B⟩
  obtain ⟨A, rfl⟩ := Int.eq_ofNat_of_zero_le (show 0 ≤ at' by omega)
  have g3 : A ≤ 508 := by omega
  have HA := Lib.hid (show A ≤ 24 ∨ A = 28 ∨ 32 ≤ A ∧ A + 4 ≤ 512 by omega)
  have kc := run_bytes_of_string (P := Try.prog) w7 9 43 5 b Try.underlying9 Try.underlying43 Try.underlying5
  clear g0 g1 g2 hat
  have BL : 512 ≤ b.size := by have := HS.out; omega
  rcases HA.out with h1 | h1 | h1
  · go_wp2_with fail
    clear kc
    go_loopw [106] (fun i wx => ∃ (j : Nat) (l : List UInt8), j ≤ 4 ∧ Hid (l = chg b.data.toList A y j) ∧ BRow wx w7.heap.size l ∧ Below w.heap.size w wx ∧ w7.heap.size < wx.heap.size ∧ i = .int .i64 (j : Int)) (fun i _ => 4 - (intOf i).toNat)
    case atStart => exact ⟨0, _, by omega, Lib.hid rfl, BRow.new w7 b _ 5, (B.alloc B.size _).drew, by simp, rfl⟩
    case round =>
      obtain ⟨j, l, hj, HL, HB, HW, hsz, rfl⟩ := hrel
      by_cases hlt : j < 4
      · have hll : l.length = b.size := by rw [HL.out, chg_length, ← blen]
        have hin : A + j < l.length := by omega
        obtain ⟨d, hcd⟩ : ∃ d : UInt8, l[A + j] = d := ⟨_, rfl⟩
        obtain ⟨hcell, hfz⟩ := HB (A + j) hin
        rw [hcd] at hcell
        have HC := Lib.hid hcd
        have HLL := Lib.hid hll
        clear hcd hll
        go_wp2
        have w1' : IntKind.i64.wrap ((A : Int) + (j : Int)) = (A : Int) + (j : Int) := IntWalk.i64_in _ (by omega)
        have w2' : IntKind.i64.wrap (8 * (j : Int)) = 8 * (j : Int) := IntWalk.i64_in _ (by omega)
        have hv := Lib.hid (xor_u8 d (y / 2 ^ (8 * j) % 256) (by omega))
        go_region
        go_wp2
        go_roundw
        case rel =>
          refine ⟨j + 1, l.set (A + j) (d ^^^ UInt8.ofNat (y / 2 ^ (8 * j) % 256)), by omega, Lib.hid ?_, ?_, ?_, ?_, by go_num⟩
          · show _ = (chg _ A y j).set _ _
            rw [← HL.out, ← HC.out, List.getD_eq_getElem?_getD, List.getElem?_eq_getElem hin]; rfl
          · have := (HB.set (A + j) (d ^^^ UInt8.ofNat (y / 2 ^ (8 * j) % 256))).drew
            rw [← hv.out] at this
            simpa using this
          · exact (HW.setCell (p := ⟨w7.heap.size, A + j, none⟩) B.size _).drew
          · simpa using hsz
        case measure => simp [intOf]; omega
      · obtain rfl : j = 4 := by omega
        have hll : l.length = b.size := by rw [HL.out, chg_length, ← blen]
        obtain ⟨v, hv⟩ : ∃ v, bs l = v := ⟨_, rfl⟩
        have kb : (convert 43 9 (.slice (some ⟨w7.heap.size, 0, none⟩) b.size (grownCap w7 b.size 0 5))).run Try.prog wr = .ok (.string v) wr := by
          have := toStr wr w7.heap.size (grownCap w7 b.size 0 5) l HB
          rwa [hll, hv] at this
        obtain ⟨k2, e2, n2, a2, m2, p2, z, hz, HO⟩ := open_changed (c := v) H.out hy (by rw [← hv, bs_toList]; exact HL.out) HA.out
        have HO' := Lib.hid HO
        have HZ := Lib.hid hz
        have HLL := Lib.hid hll
        clear hll hv HO hz HL
        go_wp2_with fail
        refine (HO'.out _).mono ?_
        rintro r w8 ⟨rfl, hb⟩
        replace HW := below_to HW hb
        clear hb
        unfold secErr
        go_wp2_with fail
        go_ret
        exact ⟨ret_bool (by have := HZ.out; simpa using this), below_to HW ((Below.refl _ _).alloc (Nat.le_refl _) _)⟩
  · have h2 : ((A : Int) != 28) = false := by rw [h1]; rfl
    have h3 : 24 < A := by omega
    have h4 : A < 32 := by omega
    clear h1
    go_wp2_with fail
    clear kc
    go_loopw [106] (fun i wx => ∃ (j : Nat) (l : List UInt8), j ≤ 4 ∧ Hid (l = chg b.data.toList A y j) ∧ BRow wx w7.heap.size l ∧ Below w.heap.size w wx ∧ w7.heap.size < wx.heap.size ∧ i = .int .i64 (j : Int)) (fun i _ => 4 - (intOf i).toNat)
    case atStart => exact ⟨0, _, by omega, Lib.hid rfl, BRow.new w7 b _ 5, (B.alloc B.size _).drew, by simp, rfl⟩
    case round =>
      obtain ⟨j, l, hj, HL, HB, HW, hsz, rfl⟩ := hrel
      by_cases hlt : j < 4
      · have hll : l.length = b.size := by rw [HL.out, chg_length, ← blen]
        have hin : A + j < l.length := by omega
        obtain ⟨d, hcd⟩ : ∃ d : UInt8, l[A + j] = d := ⟨_, rfl⟩
        obtain ⟨hcell, hfz⟩ := HB (A + j) hin
        rw [hcd] at hcell
        have HC := Lib.hid hcd
        have HLL := Lib.hid hll
        clear hcd hll
        go_wp2
        have w1' : IntKind.i64.wrap ((A : Int) + (j : Int)) = (A : Int) + (j : Int) := IntWalk.i64_in _ (by omega)
        have w2' : IntKind.i64.wrap (8 * (j : Int)) = 8 * (j : Int) := IntWalk.i64_in _ (by omega)
        have hv := Lib.hid (xor_u8 d (y / 2 ^ (8 * j) % 256) (by omega))
        go_region
        go_wp2
        go_roundw
        case rel =>
          refine ⟨j + 1, l.set (A + j) (d ^^^ UInt8.ofNat (y / 2 ^ (8 * j) % 256)), by omega, Lib.hid ?_, ?_, ?_, ?_, by go_num⟩
          · show _ = (chg _ A y j).set _ _
            rw [← HL.out, ← HC.out, List.getD_eq_getElem?_getD, List.getElem?_eq_getElem hin]; rfl
          · have := (HB.set (A + j) (d ^^^ UInt8.ofNat (y / 2 ^ (8 * j) % 256))).drew
            rw [← hv.out] at this
            simpa using this
          · exact (HW.setCell (p := ⟨w7.heap.size, A + j, none⟩) B.size _).drew
          · simpa using hsz
        case measure => simp [intOf]; omega
      · obtain rfl : j = 4 := by omega
        have hll : l.length = b.size := by rw [HL.out, chg_length, ← blen]
        obtain ⟨v, hv⟩ : ∃ v, bs l = v := ⟨_, rfl⟩
        have kb : (convert 43 9 (.slice (some ⟨w7.heap.size, 0, none⟩) b.size (grownCap w7 b.size 0 5))).run Try.prog wr = .ok (.string v) wr := by
          have := toStr wr w7.heap.size (grownCap w7 b.size 0 5) l HB
          rwa [hll, hv] at this
        obtain ⟨k2, e2, n2, a2, m2, p2, z, hz, HO⟩ := open_changed (c := v) H.out hy (by rw [← hv, bs_toList]; exact HL.out) HA.out
        have HO' := Lib.hid HO
        have HZ := Lib.hid hz
        have HLL := Lib.hid hll
        clear hll hv HO hz HL
        go_wp2_with fail
        refine (HO'.out _).mono ?_
        rintro r w8 ⟨rfl, hb⟩
        replace HW := below_to HW hb
        clear hb
        unfold secErr
        go_wp2_with fail
        go_ret
        exact ⟨ret_bool (by have := HZ.out; simpa using this), below_to HW ((Below.refl _ _).alloc (Nat.le_refl _) _)⟩
  · obtain ⟨h2, h3⟩ := h1
    go_wp2_with fail
    clear kc
    go_loopw [106] (fun i wx => ∃ (j : Nat) (l : List UInt8), j ≤ 4 ∧ Hid (l = chg b.data.toList A y j) ∧ BRow wx w7.heap.size l ∧ Below w.heap.size w wx ∧ w7.heap.size < wx.heap.size ∧ i = .int .i64 (j : Int)) (fun i _ => 4 - (intOf i).toNat)
    case atStart => exact ⟨0, _, by omega, Lib.hid rfl, BRow.new w7 b _ 5, (B.alloc B.size _).drew, by simp, rfl⟩
    case round =>
      obtain ⟨j, l, hj, HL, HB, HW, hsz, rfl⟩ := hrel
      by_cases hlt : j < 4
      · have hll : l.length = b.size := by rw [HL.out, chg_length, ← blen]
        have hin : A + j < l.length := by omega
        obtain ⟨d, hcd⟩ : ∃ d : UInt8, l[A + j] = d := ⟨_, rfl⟩
        obtain ⟨hcell, hfz⟩ := HB (A + j) hin
        rw [hcd] at hcell
        have HC := Lib.hid hcd
        have HLL := Lib.hid hll
        clear hcd hll
        go_wp2
        have w1' : IntKind.i64.wrap ((A : Int) + (j : Int)) = (A : Int) + (j : Int) := IntWalk.i64_in _ (by omega)
        have w2' : IntKind.i64.wrap (8 * (j : Int)) = 8 * (j : Int) := IntWalk.i64_in _ (by omega)
        have hv := Lib.hid (xor_u8 d (y / 2 ^ (8 * j) % 256) (by omega))
        go_region
        go_wp2
        go_roundw
        case rel =>
          refine ⟨j + 1, l.set (A + j) (d ^^^ UInt8.ofNat (y / 2 ^ (8 * j) % 256)), by omega, Lib.hid ?_, ?_, ?_, ?_, by go_num⟩
          · show _ = (chg _ A y j).set _ _
            rw [← HL.out, ← HC.out, List.getD_eq_getElem?_getD, List.getElem?_eq_getElem hin]; rfl
          · have := (HB.set (A + j) (d ^^^ UInt8.ofNat (y / 2 ^ (8 * j) % 256))).drew
            rw [← hv.out] at this
            simpa using this
          · exact (HW.setCell (p := ⟨w7.heap.size, A + j, none⟩) B.size _).drew
          · simpa using hsz
        case measure => simp [intOf]; omega
      · obtain rfl : j = 4 := by omega
        have hll : l.length = b.size := by rw [HL.out, chg_length, ← blen]
        obtain ⟨v, hv⟩ : ∃ v, bs l = v := ⟨_, rfl⟩
        have kb : (convert 43 9 (.slice (some ⟨w7.heap.size, 0, none⟩) b.size (grownCap w7 b.size 0 5))).run Try.prog wr = .ok (.string v) wr := by
          have := toStr wr w7.heap.size (grownCap w7 b.size 0 5) l HB
          rwa [hll, hv] at this
        obtain ⟨k2, e2, n2, a2, m2, p2, z, hz, HO⟩ := open_changed (c := v) H.out hy (by rw [← hv, bs_toList]; exact HL.out) HA.out
        have HO' := Lib.hid HO
        have HZ := Lib.hid hz
        have HLL := Lib.hid hll
        clear hll hv HO hz HL
        go_wp2_with fail
        refine (HO'.out _).mono ?_
        rintro r w8 ⟨rfl, hb⟩
        replace HW := below_to HW hb
        clear hb
        unfold secErr
        go_wp2_with fail
        go_ret
        exact ⟨ret_bool (by have := HZ.out; simpa using this), below_to HW ((Below.refl _ _).alloc (Nat.le_refl _) _)⟩
theorem sectorBack_walk (k : Int) (e n : Nat) (a m : Int) (p : ByteArray) (at' : Int) (y c : Nat) (w : World) (he : e < 18446744073709551616) (hn : n < 18446744073709551616) (hat : (Lit.int .i64 at').wf = true) (hy : y < 4294967296) (hc : c < 256) :
    Calls Try.prog 5 #[.agg #[.int .i64 k, .int .u64 (e : Int), .int .u64 (n : Int), .int .i64 a, .int .i64 m, .string p], .int .i64 at', .int .u32 (y : Int), .int .u8 (c : Int)] w fun r w' => r = .returned (.bool true) ∧ Below w.heap.size w w' := by
  by_cases h : okS k a m p.size
  · obtain ⟨K, A, M, rfl, rfl, rfl⟩ := okS_nat h
    have := back_ok K e n A M p _ at' y (UInt8.ofNat c) w hy ⟨h, he, hn, rfl⟩ hat
    rwa [show ((UInt8.ofNat c).toNat : Int) = (c : Int) by simp; omega] at this
  · exact back_no k e n a m p at' y c w h
end Go.Proofs.Ytplngodilalbhaa
