/- Contract: the reference's Open. -/
import Derived.Test.YtplngodilalbhaaA5
namespace Go.Proofs.Ytplngodilalbhaa
open Go.RowKit
theorem load24 (w : World) (b : Nat) (k : Int) (e n : Nat) (a m : Int) (p : ByteArray) (h : Sec w b k e n a m p) :
    (loadVar 24 ⟨b, 0, none⟩).run Try.prog w = .ok (.agg #[.int .i64 k, .int .u64 (e : Int), .int .u64 (n : Int), .int .i64 a, .int .i64 m, .string p]) w := by
  obtain ⟨c0, c1, c2, c3, c4, c5⟩ := h
  simp [go_sem, c0, c1, c2, c3, c4, c5]
theorem results_secs24 {fn : Func} {P U : Tmp} (h : fn.results = #[.cell P 24, .tmp U]) (tmps : Array Value) (w : World) (b : Nat) (k : Int) (e n : Nat) (a m : Int) (p : ByteArray) (v : Value) (hR : Sec w b k e n a m p)
    (hp : tmps.getD P undef = .pointer (some ⟨b, 0, none⟩)) (hv : tmps.getD U undef = v) : (results fn tmps).run Try.prog w = .ok (.tuple #[.agg #[.int .i64 k, .int .u64 (e : Int), .int .u64 (n : Int), .int .i64 a, .int .i64 m, .string p], v]) w := by
  rw [results_cell_tmp h, hp, hv]
  show ((asAddr (.pointer (some ⟨b, 0, none⟩))).run Try.prog w).andThen _ = _
  simp [asAddr, load24 w b k e n a m p hR]
theorem ropen_short (b : ByteArray) (w : World) (h : b.size ≠ 512) : Calls Try.prog 15 #[.string b] w fun x w' => x = secErr 0 0 0 0 0 ByteArray.empty 19 ∧ Below w.heap.size w w' := by
  have hd : ((b.size : Int) != 512) = true := by rw [bne_iff_ne]; omega
  clear h
  go_enter Try.func15, Try.ntmps15
  have E := (SecW.zero w 24).c
  have B := (Below.refl w.heap.size w).alloc (Nat.le_refl _) (.cells #[.int .i64 0, .int .u64 0, .int .u64 0, .int .i64 0, .int .i64 0, .string ⟨#[]⟩] 24)
  go_wp2_with fail
  refine bodyPost_ret (results_secs24 Try.results15 _ _ _ _ _ _ _ _ _ _ E rfl rfl) rfl ⟨rfl, B⟩
abbrev Z24 : Obj := .cells #[.int .i64 0, .int .u64 0, .int .u64 0, .int .i64 0, .int .i64 0, .string ⟨#[]⟩] 24
theorem rstep (s : ByteArray) (N : Int) (n : Nat) (hN : N = (n : Int)) {t : ByteArray} {y : Int} {o : Nat} (h : NumStep s 0 n t y o) (hs : s.size ≤ maxLen) (w : World) :
    Calls Try.prog 50 #[.agg #[.string s, .int .i64 0], .int .i64 N] w (RReads w t y (.int .u64 (o : Int))) := by
  subst hN
  have := rn_any n s 0 w hs
  rwa [h.h] at this
theorem SecW.drew {w : World} {b : Nat} {k : Int} {e n : Nat} {a m : Int} {p : ByteArray} (h : SecW w b k e n a m p) : SecW w.drew b k e n a m p := h.below ((Below.refl _ _).drew)
set_option maxHeartbeats 1000000 in
theorem ropen_yes (b : ByteArray) (k a m e n : Nat) (p : ByteArray) (w : World) (t1 t2 t3 t4 : ByteArray) (y1 y2 y3 y4 : Int)
    (h512 : b.size = 512) (h0 : 0 < b.size) (hk : b[0]'h0 = UInt8.ofNat k) (hk2 : k < 256) (hp : b.extract 32 b.size = p)
    (h1 : NumStep (b.extract 2 b.size) 0 2 t1 y1 a) (h2 : NumStep (b.extract 4 b.size) 0 2 t2 y2 m) (h3 : NumStep (b.extract 8 b.size) 0 8 t3 y3 e) (h4 : NumStep (b.extract 16 b.size) 0 8 t4 y4 n)
    (HS : ∀ w, Calls Try.prog 13 #[.agg #[.int .i64 (k : Int), .int .u64 (e : Int), .int .u64 (n : Int), .int .i64 (a : Int), .int .i64 (m : Int), .string p]] w fun x w' => x = strErr b 0 ∧ Below w.heap.size w w') :
    Calls Try.prog 15 #[.string b] w fun x w' => x = secErr k e n a m p 0 ∧ Below w.heap.size w w' := by
  have hd : ((b.size : Int) != 512) = false := by rw [h512]; rfl
  have ba : a < 65536 := h1.lt (by omega) (by omega)
  have bm : m < 65536 := h2.lt (by omega) (by omega)
  have hkk : (((b[0]'h0).toNat : Nat) : Int) = (k : Int) := by rw [hk]; simp; omega
  have hm : ∀ i, (b.extract i b.size).size ≤ maxLen := fun i => by rw [ByteArray.size_extract, h512]; exact Nat.le_trans (show min 512 512 - i ≤ 512 by omega) (by decide)
  have n1 := Lib.hid (fun w => rstep _ 2 2 rfl h1 (hm 2) w)
  have n2 := Lib.hid (fun w => rstep _ 2 2 rfl h2 (hm 4) w)
  have n3 := Lib.hid (fun w => rstep _ 8 8 rfl h3 (hm 8) w)
  have n4 := Lib.hid (fun w => rstep _ 8 8 rfl h4 (hm 16) w)
  have HS' := Lib.hid HS
  have l1 : 512 ≤ b.size := by omega
  have l2 : b.size ≤ 512 := by omega
  clear h1 h2 h3 h4 HS hm hk h512
  go_enter Try.func15, Try.ntmps15
  have S0 := SecW.zero w 24
  have B := (Below.refl w.heap.size w).alloc (Nat.le_refl _) Z24
  go_wp2_with fail
  refine (n1.out _).mono ?_
  rintro x w1 ⟨rfl, hb⟩
  replace S0 := S0.below hb
  replace B := below_to B hb
  clear hb
  go_wp2_with fail
  refine (n2.out _).mono ?_
  rintro x w2 ⟨rfl, hb⟩
  replace S0 := (S0.below ((Below.refl _ _).alloc (Nat.le_refl _) _)).below hb
  replace B := below_to (below_to B ((Below.refl _ _).alloc (Nat.le_refl _) _)) hb
  clear hb
  go_wp2_with fail
  refine (n3.out _).mono ?_
  rintro x w3 ⟨rfl, hb⟩
  replace S0 := (S0.below ((Below.refl _ _).alloc (Nat.le_refl _) _)).below hb
  replace B := below_to (below_to B ((Below.refl _ _).alloc (Nat.le_refl _) _)) hb
  clear hb
  go_wp2_with fail
  refine (n4.out _).mono ?_
  rintro x w4 ⟨rfl, hb⟩
  replace S0 := (S0.below ((Below.refl _ _).alloc (Nat.le_refl _) _)).below hb
  replace B := below_to (below_to B ((Below.refl _ _).alloc (Nat.le_refl _) _)) hb
  clear hb
  go_wp2_with fail
  replace S0 := S0.below ((Below.refl _ _).alloc (Nat.le_refl _) (.cells #[.string t4, .int .i64 y4] 85))
  replace B := below_to B ((Below.refl _ _).alloc (Nat.le_refl _) (.cells #[.string t4, .int .i64 y4] 85))
  generalize w4.alloc (.cells #[.string t4, .int .i64 y4] 85) = w5 at S0 B ⊢
  go_region
  go_wp2_with fail
  refine (HS'.out _).mono ?_
  rintro x w6 ⟨rfl, hb⟩
  have S1 := (SecW.new w5 k e n a m p 24).drew.below hb
  replace S0 := (S0.below ((Below.refl w5.heap.size w5).alloc (Nat.le_refl _) (.cells #[.int .i64 (k : Int), .int .u64 (e : Int), .int .u64 (n : Int), .int .i64 (a : Int), .int .i64 (m : Int), .string p] 24))).drew.below hb
  replace B := below_to (below_to B (((Below.refl w5.heap.size w5).alloc (Nat.le_refl _) (.cells #[.int .i64 (k : Int), .int .u64 (e : Int), .int .u64 (n : Int), .int .i64 (a : Int), .int .i64 (m : Int), .string p] 24)).drew)) hb
  clear hb
  unfold strErr
  have E := ((((((S0.set0 k).set1 e).set2 n).set3 a).set4 m).set5 p)
  obtain ⟨⟨c0, c1, c2, c3, c4, c5⟩, f0, f1, f2, f3, f4, f5⟩ := S0
  obtain ⟨⟨d0, d1, d2, d3, d4, d5⟩, g0, g1, g2, g3, g4, g5⟩ := S1
  go_wp2_with fail
  refine bodyPost_ret (results_secs24 Try.results15 _ _ _ _ _ _ _ _ _ _ E.c rfl rfl) rfl ⟨rfl, ?_⟩
  exact ((((((B.setCell (Nat.le_refl _) _).setCell (Nat.le_refl _) _).setCell (Nat.le_refl _) _).setCell (Nat.le_refl _) _).setCell (Nat.le_refl _) _).setCell (Nat.le_refl _) _)
set_option maxHeartbeats 1000000 in
theorem ropen_bad (b : ByteArray) (k a m e n : Nat) (p : ByteArray) (w : World) (t1 t2 t3 t4 : ByteArray) (y1 y2 y3 y4 : Int)
    (h512 : b.size = 512) (h0 : 0 < b.size) (hk : b[0]'h0 = UInt8.ofNat k) (hk2 : k < 256) (hp : b.extract 32 b.size = p)
    (h1 : NumStep (b.extract 2 b.size) 0 2 t1 y1 a) (h2 : NumStep (b.extract 4 b.size) 0 2 t2 y2 m) (h3 : NumStep (b.extract 8 b.size) 0 8 t3 y3 e) (h4 : NumStep (b.extract 16 b.size) 0 8 t4 y4 n)
    (HS : ∀ w, Calls Try.prog 13 #[.agg #[.int .i64 (k : Int), .int .u64 (e : Int), .int .u64 (n : Int), .int .i64 (a : Int), .int .i64 (m : Int), .string p]] w fun x w' => x = strErr ByteArray.empty 18 ∧ Below w.heap.size w w') :
    Calls Try.prog 15 #[.string b] w fun x w' => x = secErr 0 0 0 0 0 ByteArray.empty 19 ∧ Below w.heap.size w w' := by
  have hd : ((b.size : Int) != 512) = false := by rw [h512]; rfl
  have ba : a < 65536 := h1.lt (by omega) (by omega)
  have bm : m < 65536 := h2.lt (by omega) (by omega)
  have hkk : (((b[0]'h0).toNat : Nat) : Int) = (k : Int) := by rw [hk]; simp; omega
  have hm : ∀ i, (b.extract i b.size).size ≤ maxLen := fun i => by rw [ByteArray.size_extract, h512]; exact Nat.le_trans (show min 512 512 - i ≤ 512 by omega) (by decide)
  have n1 := Lib.hid (fun w => rstep _ 2 2 rfl h1 (hm 2) w)
  have n2 := Lib.hid (fun w => rstep _ 2 2 rfl h2 (hm 4) w)
  have n3 := Lib.hid (fun w => rstep _ 8 8 rfl h3 (hm 8) w)
  have n4 := Lib.hid (fun w => rstep _ 8 8 rfl h4 (hm 16) w)
  have HS' := Lib.hid HS
  have l1 : 512 ≤ b.size := by omega
  have l2 : b.size ≤ 512 := by omega
  clear h1 h2 h3 h4 HS hm hk h512
  go_enter Try.func15, Try.ntmps15
  have S0 := SecW.zero w 24
  have B := (Below.refl w.heap.size w).alloc (Nat.le_refl _) Z24
  go_wp2_with fail
  refine (n1.out _).mono ?_
  rintro x w1 ⟨rfl, hb⟩
  replace S0 := S0.below hb
  replace B := below_to B hb
  clear hb
  go_wp2_with fail
  refine (n2.out _).mono ?_
  rintro x w2 ⟨rfl, hb⟩
  replace S0 := (S0.below ((Below.refl _ _).alloc (Nat.le_refl _) _)).below hb
  replace B := below_to (below_to B ((Below.refl _ _).alloc (Nat.le_refl _) _)) hb
  clear hb
  go_wp2_with fail
  refine (n3.out _).mono ?_
  rintro x w3 ⟨rfl, hb⟩
  replace S0 := (S0.below ((Below.refl _ _).alloc (Nat.le_refl _) _)).below hb
  replace B := below_to (below_to B ((Below.refl _ _).alloc (Nat.le_refl _) _)) hb
  clear hb
  go_wp2_with fail
  refine (n4.out _).mono ?_
  rintro x w4 ⟨rfl, hb⟩
  replace S0 := (S0.below ((Below.refl _ _).alloc (Nat.le_refl _) _)).below hb
  replace B := below_to (below_to B ((Below.refl _ _).alloc (Nat.le_refl _) _)) hb
  clear hb
  go_wp2_with fail
  replace S0 := S0.below ((Below.refl _ _).alloc (Nat.le_refl _) (.cells #[.string t4, .int .i64 y4] 85))
  replace B := below_to B ((Below.refl _ _).alloc (Nat.le_refl _) (.cells #[.string t4, .int .i64 y4] 85))
  generalize w4.alloc (.cells #[.string t4, .int .i64 y4] 85) = w5 at S0 B ⊢
  go_region
  go_wp2_with fail
  refine (HS'.out _).mono ?_
  rintro x w6 ⟨rfl, hb⟩
  have S1 := (SecW.new w5 k e n a m p 24).drew.below hb
  replace S0 := (S0.below ((Below.refl w5.heap.size w5).alloc (Nat.le_refl _) (.cells #[.int .i64 (k : Int), .int .u64 (e : Int), .int .u64 (n : Int), .int .i64 (a : Int), .int .i64 (m : Int), .string p] 24))).drew.below hb
  replace B := below_to (below_to B (((Below.refl w5.heap.size w5).alloc (Nat.le_refl _) (.cells #[.int .i64 (k : Int), .int .u64 (e : Int), .int .u64 (n : Int), .int .i64 (a : Int), .int .i64 (m : Int), .string p] 24)).drew)) hb
  clear hb
  unfold strErr
  have E := ((((((S0.set0 0).set1 0).set2 0).set3 0).set4 0).set5 ByteArray.empty)
  obtain ⟨⟨c0, c1, c2, c3, c4, c5⟩, f0, f1, f2, f3, f4, f5⟩ := S0
  obtain ⟨⟨d0, d1, d2, d3, d4, d5⟩, g0, g1, g2, g3, g4, g5⟩ := S1
  go_wp2_with fail
  refine bodyPost_ret (results_secs24 Try.results15 _ _ _ _ _ _ _ _ _ _ E.c rfl rfl) rfl ⟨rfl, ?_⟩
  exact ((((((B.setCell (Nat.le_refl _) _).setCell (Nat.le_refl _) _).setCell (Nat.le_refl _) _).setCell (Nat.le_refl _) _).setCell (Nat.le_refl _) _).setCell (Nat.le_refl _) _)
set_option maxHeartbeats 1000000 in
theorem ropen_other (b : ByteArray) (k a m e n : Nat) (p : ByteArray) (w : World) (t1 t2 t3 t4 : ByteArray) (y1 y2 y3 y4 : Int)
    (c : ByteArray) (hc : c ≠ b) (h512 : b.size = 512) (h0 : 0 < b.size) (hk : b[0]'h0 = UInt8.ofNat k) (hk2 : k < 256) (hp : b.extract 32 b.size = p)
    (h1 : NumStep (b.extract 2 b.size) 0 2 t1 y1 a) (h2 : NumStep (b.extract 4 b.size) 0 2 t2 y2 m) (h3 : NumStep (b.extract 8 b.size) 0 8 t3 y3 e) (h4 : NumStep (b.extract 16 b.size) 0 8 t4 y4 n)
    (HS : ∀ w, Calls Try.prog 13 #[.agg #[.int .i64 (k : Int), .int .u64 (e : Int), .int .u64 (n : Int), .int .i64 (a : Int), .int .i64 (m : Int), .string p]] w fun x w' => x = strErr c 0 ∧ Below w.heap.size w w') :
    Calls Try.prog 15 #[.string b] w fun x w' => x = secErr 0 0 0 0 0 ByteArray.empty 19 ∧ Below w.heap.size w w' := by
  have hdc := str_nbeq hc
  clear hc
  have hd : ((b.size : Int) != 512) = false := by rw [h512]; rfl
  have ba : a < 65536 := h1.lt (by omega) (by omega)
  have bm : m < 65536 := h2.lt (by omega) (by omega)
  have hkk : (((b[0]'h0).toNat : Nat) : Int) = (k : Int) := by rw [hk]; simp; omega
  have hm : ∀ i, (b.extract i b.size).size ≤ maxLen := fun i => by rw [ByteArray.size_extract, h512]; exact Nat.le_trans (show min 512 512 - i ≤ 512 by omega) (by decide)
  have n1 := Lib.hid (fun w => rstep _ 2 2 rfl h1 (hm 2) w)
  have n2 := Lib.hid (fun w => rstep _ 2 2 rfl h2 (hm 4) w)
  have n3 := Lib.hid (fun w => rstep _ 8 8 rfl h3 (hm 8) w)
  have n4 := Lib.hid (fun w => rstep _ 8 8 rfl h4 (hm 16) w)
  have HS' := Lib.hid HS
  have l1 : 512 ≤ b.size := by omega
  have l2 : b.size ≤ 512 := by omega
  clear h1 h2 h3 h4 HS hm hk h512
  go_enter Try.func15, Try.ntmps15
  have S0 := SecW.zero w 24
  have B := (Below.refl w.heap.size w).alloc (Nat.le_refl _) Z24
  go_wp2_with fail
  refine (n1.out _).mono ?_
  rintro x w1 ⟨rfl, hb⟩
  replace S0 := S0.below hb
  replace B := below_to B hb
  clear hb
  go_wp2_with fail
  refine (n2.out _).mono ?_
  rintro x w2 ⟨rfl, hb⟩
  replace S0 := (S0.below ((Below.refl _ _).alloc (Nat.le_refl _) _)).below hb
  replace B := below_to (below_to B ((Below.refl _ _).alloc (Nat.le_refl _) _)) hb
  clear hb
  go_wp2_with fail
  refine (n3.out _).mono ?_
  rintro x w3 ⟨rfl, hb⟩
  replace S0 := (S0.below ((Below.refl _ _).alloc (Nat.le_refl _) _)).below hb
  replace B := below_to (below_to B ((Below.refl _ _).alloc (Nat.le_refl _) _)) hb
  clear hb
  go_wp2_with fail
  refine (n4.out _).mono ?_
  rintro x w4 ⟨rfl, hb⟩
  replace S0 := (S0.below ((Below.refl _ _).alloc (Nat.le_refl _) _)).below hb
  replace B := below_to (below_to B ((Below.refl _ _).alloc (Nat.le_refl _) _)) hb
  clear hb
  go_wp2_with fail
  replace S0 := S0.below ((Below.refl _ _).alloc (Nat.le_refl _) (.cells #[.string t4, .int .i64 y4] 85))
  replace B := below_to B ((Below.refl _ _).alloc (Nat.le_refl _) (.cells #[.string t4, .int .i64 y4] 85))
  generalize w4.alloc (.cells #[.string t4, .int .i64 y4] 85) = w5 at S0 B ⊢
  go_region
  go_wp2_with fail
  refine (HS'.out _).mono ?_
  rintro x w6 ⟨rfl, hb⟩
  have S1 := (SecW.new w5 k e n a m p 24).drew.below hb
  replace S0 := (S0.below ((Below.refl w5.heap.size w5).alloc (Nat.le_refl _) (.cells #[.int .i64 (k : Int), .int .u64 (e : Int), .int .u64 (n : Int), .int .i64 (a : Int), .int .i64 (m : Int), .string p] 24))).drew.below hb
  replace B := below_to (below_to B (((Below.refl w5.heap.size w5).alloc (Nat.le_refl _) (.cells #[.int .i64 (k : Int), .int .u64 (e : Int), .int .u64 (n : Int), .int .i64 (a : Int), .int .i64 (m : Int), .string p] 24)).drew)) hb
  clear hb
  unfold strErr
  have E := ((((((S0.set0 0).set1 0).set2 0).set3 0).set4 0).set5 ByteArray.empty)
  obtain ⟨⟨c0, c1, c2, c3, c4, c5⟩, f0, f1, f2, f3, f4, f5⟩ := S0
  obtain ⟨⟨d0, d1, d2, d3, d4, d5⟩, g0, g1, g2, g3, g4, g5⟩ := S1
  go_wp2_with fail
  refine bodyPost_ret (results_secs24 Try.results15 _ _ _ _ _ _ _ _ _ _ E.c rfl rfl) rfl ⟨rfl, ?_⟩
  exact ((((((B.setCell (Nat.le_refl _) _).setCell (Nat.le_refl _) _).setCell (Nat.le_refl _) _).setCell (Nat.le_refl _) _).setCell (Nat.le_refl _) _).setCell (Nat.le_refl _) _)
end Go.Proofs.Ytplngodilalbhaa
