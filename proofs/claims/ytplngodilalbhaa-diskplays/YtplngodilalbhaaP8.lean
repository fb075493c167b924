/- One act: Arm, and none. One act: Copy. DiskPlays: one act of whatever kind. -/
import Derived.Test.YtplngodilalbhaaP5
import Derived.BigRegion
namespace Go.Proofs.Ytplngodilalbhaa
open Go.RowKit Go.Shelf
set_option linter.unusedVariables false
section
variable {K : Nat → Prop} {n c d : Nat} {sa wa : Option Addr} {sn wn wc : Nat} {arm : Int} {dead : Bool} {ops : Int} {S : List ByteArray} {P : List (Int × ByteArray)}
theorem Disk.setK {w : World} {sb : Nat} {pv : Value} {fuse : Int} (h : Disk K w d sb S pv P fuse dead ops) {r : Nat} (hr : K r) (o : Nat) (v : Value) : Disk K (w.setCell ⟨r, o, none⟩ v) d sb S pv P fuse dead ops :=
  h.same (by simp) (heap_set _ _ _ _ _ (fun e => h.nd (e ▸ hr))) (heap_set _ _ _ _ _ (fun e => h.ns (e ▸ hr))) (fun k hk => heap_set _ _ _ _ _ (fun e => (h.np k hk).1 (e ▸ hr)))
theorem Five.set2 {w : World} {b : Nat} {v0 v1 v2 v3 v4 : Value} (h : Five w b v0 v1 v2 v3 v4) (u : Value) : Five (w.setCell ⟨b, 2, none⟩ u) b v0 v1 u v3 v4 :=
  ⟨(other _ _ _ _ _ (by omega)).trans h.c0, (other _ _ _ _ _ (by omega)).trans h.c1, World.cell?_setCell_same _ _ _ h.c2, (other _ _ _ _ _ (by omega)).trans h.c3, (other _ _ _ _ _ (by omega)).trans h.c4, by simpa using h.f0, by simpa using h.f1, by simpa using h.f2, by simpa using h.f3, by simpa using h.f4⟩
set_option maxRecDepth 100000 in
set_option maxHeartbeats 4000000 in
theorem one_none (sc : Nat) (kd : Int) (N : Int) (byte : UInt8) (short : Bool) (ka : Option Addr) (kn kc : Nat) (w : World) (h : St K w n c d sa sn wa wn wc arm dead ops S P) (hK : ∀ k, K k → k < w.heap.size) (hn1 : 1 ≤ n) (hn2 : n ≤ 60) (hc : c ≤ 100) (h0 : (kd == 0) = false) (h1 : (kd == 1) = false) (h2 : (kd == 2) = false) (h3 : (kd == 3) = false) (h4 : (kd == 4) = false) :
    Calls Try.prog 25 #[.pointer (some ⟨d, 0, none⟩), .agg #[.slice sa sn sc, .slice wa wn wc, .int .i64 arm, .bool dead, .int .i64 ops], .agg #[.int .i64 kd, .int .i64 N, .int .u8 (byte.toNat : Int), .bool short, .slice ka kn kc]] w (OneRet K n c w) := by
  obtain ⟨sb, pv, fuse, hD, hR, hn, hF, hP, ha, hf, hA, ho, ho2⟩ := h
  have F1 := ((Five.new w (.slice sa sn sc) (.slice wa wn wc) (.int .i64 arm) (.bool dead) (.int .i64 ops) 52).alloc (.cells #[.int .i64 kd, .int .i64 N, .int .u8 (byte.toNat : Int), .bool short, .slice ka kn kc] 57)).alloc (.cells #[.slice none 0 0, .slice none 0 0, .int .i64 0, .bool false, .int .i64 0] 52)
  have F2 := (Five.new (w.alloc (.cells #[.slice sa sn sc, .slice wa wn wc, .int .i64 arm, .bool dead, .int .i64 ops] 52)) (.int .i64 kd) (.int .i64 N) (.int .u8 (byte.toNat : Int)) (.bool short) (.slice ka kn kc) 57).alloc (.cells #[.slice none 0 0, .slice none 0 0, .int .i64 0, .bool false, .int .i64 0] 52)
  have F3 := Five.new ((w.alloc (.cells #[.slice sa sn sc, .slice wa wn wc, .int .i64 arm, .bool dead, .int .i64 ops] 52)).alloc (.cells #[.int .i64 kd, .int .i64 N, .int .u8 (byte.toNat : Int), .bool short, .slice ka kn kc] 57)) (.slice none 0 0) (.slice none 0 0) (.int .i64 0) (.bool false) (.int .i64 0) 52
  have hw1 : (w.alloc (.cells #[.slice sa sn sc, .slice wa wn wc, .int .i64 arm, .bool dead, .int .i64 ops] 52)).heap.size = w.heap.size + 1 := by simp
  have hw2 : ((w.alloc (.cells #[.slice sa sn sc, .slice wa wn wc, .int .i64 arm, .bool dead, .int .i64 ops] 52)).alloc (.cells #[.int .i64 kd, .int .i64 N, .int .u8 (byte.toNat : Int), .bool short, .slice ka kn kc] 57)).heap.size = w.heap.size + 2 := by simp
  rw [hw1] at F2
  rw [hw2] at F3
  have hBB : Below w.heap.size w (((w.alloc (.cells #[.slice sa sn sc, .slice wa wn wc, .int .i64 arm, .bool dead, .int .i64 ops] 52)).alloc (.cells #[.int .i64 kd, .int .i64 N, .int .u8 (byte.toNat : Int), .bool short, .slice ka kn kc] 57)).alloc (.cells #[.slice none 0 0, .slice none 0 0, .int .i64 0, .bool false, .int .i64 0] 52)) := (((Below.refl _ w).alloc (Nat.le_refl _) _).alloc (by simp) _).alloc (by simp; omega) _
  clear hw1 hw2
  have HN := Lib.hid hn
  have HF := Lib.hid hF
  have HA := Lib.hid ha
  clear hn hF ha
  have hR1 := hR.keep (fun k hk => hBB.block k (hK k hk))
  go_enter Try.func25, Try.ntmps25
  go_upto_region 22 with (fail)
  generalize ((w.alloc (.cells #[.slice sa sn sc, .slice wa wn wc, .int .i64 arm, .bool dead, .int .i64 ops] 52)).alloc (.cells #[.int .i64 kd, .int .i64 N, .int .u8 (byte.toNat : Int), .bool short, .slice ka kn kc] 57)).alloc (.cells #[.slice none 0 0, .slice none 0 0, .int .i64 0, .bool false, .int .i64 0] 52) = w1 at *
  have hD3 : Disk (fenceK K w w1) w1 d sb S pv P fuse dead ops := hD.fence hBB
  have hs : w.heap.size + 2 < w1.heap.size := F3.lt
  have FIN := fin_one (c := c) (sc := sc) hK hBB (show w.heap.size ≤ w.heap.size + 2 by omega) hs (hD3.below ((Below.refl w1.heap.size w1).drew)) ((Keep.refl w1).below hD3.lt ((Below.refl w1.heap.size w1).drew)) hR1 (fun k hk => ⟨.inl hk, by have := hK k hk; omega⟩) HN.out HF.out (by omega) HA.out hf hA ho (by omega) (.slice sa sn sc) (.slice wa wn wc) (.int .i64 arm) (.bool dead) (.int .i64 ops)
  unfold put5 at FIN
  have HFIN := Lib.hid FIN
  clear FIN hR1 hD3 hR hD F2
  obtain ⟨c0, c1, c2, c3, c4, f0, f1, f2, f3, f4⟩ := F1
  obtain ⟨d0, d1, d2, d3, d4, e0, e1, e2, e3, e4⟩ := F3
  go_region
  go_wp2_with fail
  refine bodyPost_ret (v := .tuple #[.pointer (some ⟨d, 0, none⟩), .agg #[.slice sa sn sc, .slice wa wn wc, .int .i64 arm, .bool dead, .int .i64 ops], .bool true]) (by simp [results, Try.results25, go_sem, d0, d1, d2, d3, d4]) rfl ?_
  exact HFIN.out
set_option maxRecDepth 100000 in
set_option maxHeartbeats 4000000 in
theorem one_arm (sc : Nat) (N : Int) (byte : UInt8) (short : Bool) (ka : Option Addr) (kn kc : Nat) (w : World) (h : St K w n c d sa sn wa wn wc arm dead ops S P) (hK : ∀ k, K k → k < w.heap.size) (hn1 : 1 ≤ n) (hn2 : n ≤ 60) (hc : c ≤ 100) (hN : N ≤ 9223372036854775807) :
    Calls Try.prog 25 #[.pointer (some ⟨d, 0, none⟩), .agg #[.slice sa sn sc, .slice wa wn wc, .int .i64 arm, .bool dead, .int .i64 ops], .agg #[.int .i64 2, .int .i64 N, .int .u8 (byte.toNat : Int), .bool short, .slice ka kn kc]] w (OneRet K n c w) := by
  obtain ⟨sb, pv, fuse, hD, hR, hn, hF, hP, ha, hf, hA, ho, ho2⟩ := h
  have F1 := ((Five.new w (.slice sa sn sc) (.slice wa wn wc) (.int .i64 arm) (.bool dead) (.int .i64 ops) 52).alloc (.cells #[.int .i64 2, .int .i64 N, .int .u8 (byte.toNat : Int), .bool short, .slice ka kn kc] 57)).alloc (.cells #[.slice none 0 0, .slice none 0 0, .int .i64 0, .bool false, .int .i64 0] 52)
  have F2 := (Five.new (w.alloc (.cells #[.slice sa sn sc, .slice wa wn wc, .int .i64 arm, .bool dead, .int .i64 ops] 52)) (.int .i64 2) (.int .i64 N) (.int .u8 (byte.toNat : Int)) (.bool short) (.slice ka kn kc) 57).alloc (.cells #[.slice none 0 0, .slice none 0 0, .int .i64 0, .bool false, .int .i64 0] 52)
  have F3 := Five.new ((w.alloc (.cells #[.slice sa sn sc, .slice wa wn wc, .int .i64 arm, .bool dead, .int .i64 ops] 52)).alloc (.cells #[.int .i64 2, .int .i64 N, .int .u8 (byte.toNat : Int), .bool short, .slice ka kn kc] 57)) (.slice none 0 0) (.slice none 0 0) (.int .i64 0) (.bool false) (.int .i64 0) 52
  have hw1 : (w.alloc (.cells #[.slice sa sn sc, .slice wa wn wc, .int .i64 arm, .bool dead, .int .i64 ops] 52)).heap.size = w.heap.size + 1 := by simp
  have hw2 : ((w.alloc (.cells #[.slice sa sn sc, .slice wa wn wc, .int .i64 arm, .bool dead, .int .i64 ops] 52)).alloc (.cells #[.int .i64 2, .int .i64 N, .int .u8 (byte.toNat : Int), .bool short, .slice ka kn kc] 57)).heap.size = w.heap.size + 2 := by simp
  rw [hw1] at F2
  rw [hw2] at F3
  have hBB : Below w.heap.size w (((w.alloc (.cells #[.slice sa sn sc, .slice wa wn wc, .int .i64 arm, .bool dead, .int .i64 ops] 52)).alloc (.cells #[.int .i64 2, .int .i64 N, .int .u8 (byte.toNat : Int), .bool short, .slice ka kn kc] 57)).alloc (.cells #[.slice none 0 0, .slice none 0 0, .int .i64 0, .bool false, .int .i64 0] 52)) := (((Below.refl _ w).alloc (Nat.le_refl _) _).alloc (by simp) _).alloc (by simp; omega) _
  clear hw1 hw2
  have HN := Lib.hid hn
  have HF := Lib.hid hF
  have HA := Lib.hid ha
  clear hn hF ha
  have hR1 := hR.keep (fun k hk => hBB.block k (hK k hk))
  have hmx : max N 0 ≤ 9223372036854775807 := by omega
  go_enter Try.func25, Try.ntmps25
  go_upto_region 12 with (fail)
  generalize ((w.alloc (.cells #[.slice sa sn sc, .slice wa wn wc, .int .i64 arm, .bool dead, .int .i64 ops] 52)).alloc (.cells #[.int .i64 2, .int .i64 N, .int .u8 (byte.toNat : Int), .bool short, .slice ka kn kc] 57)).alloc (.cells #[.slice none 0 0, .slice none 0 0, .int .i64 0, .bool false, .int .i64 0] 52) = w1 at *
  have hs : w.heap.size + 2 < w1.heap.size := F3.lt
  have hD3 : Disk (fenceK K w w1) w1 d sb S pv P fuse dead ops := hD.fence hBB
  have hKb : fenceK K w w1 w.heap.size := .inr ⟨by omega, by omega⟩
  have hKr : fenceK K w w1 (w.heap.size + 2) := .inr ⟨by omega, by omega⟩
  have hD4 := hD3.setK hKb 2 (.int .i64 (max N 0))
  have HAR := Lib.hid (arm_any hD4 N)
  have G1 := F1.set2 (.int .i64 (max N 0))
  have G3 := F3.block (heap_set w1 w.heap.size 2 (.int .i64 (max N 0)) (w.heap.size + 2) (by omega))
  have hR4 := hR1.keep (fun k hk => heap_set w1 w.heap.size 2 (.int .i64 (max N 0)) k (by have := hK k hk; omega))
  have hB4 := hBB.setCell (p := ⟨w.heap.size, 2, none⟩) (Nat.le_refl _) (.int .i64 (max N 0))
  have hz4 : (w1.setCell ⟨w.heap.size, 2, none⟩ (.int .i64 (max N 0))).heap.size = w1.heap.size := by simp
  have x1 := F2.c1
  have c2 := F1.c2
  have f2 := F1.f2
  clear F1 F3 hR1 hD3 hD
  go_wp2_with fail
  refine HAR.out.mono ?_
  generalize w1.setCell ⟨w.heap.size, 2, none⟩ (.int .i64 (max N 0)) = w2 at *
  rintro e w3 ⟨rfl, hD5, hK5⟩
  obtain ⟨mx, hmx2⟩ : ∃ mx, max N 0 = mx := ⟨_, rfl⟩
  rw [hmx2] at hD5 G1 hmx
  have hfe : fenceK K w w1 = fenceK K w w2 := by unfold fenceK; rw [hz4]
  rw [hfe] at hD5 hK5 hKb hKr
  have Q1 := G1.block (hK5.block _ hKb)
  have Q3 := G3.block (hK5.block _ hKr)
  have FIN := fin_one (c := c) (sc := sc) (arm := mx) hK hB4 (show w.heap.size ≤ w.heap.size + 2 by omega) (by omega) (hD5.below ((Below.refl w3.heap.size w3).drew)) (hK5.below (fun k hk => hk.elim (fun h => by have := hK k h; omega) (fun h => h.2)) ((Below.refl w3.heap.size w3).drew)) hR4 (fun k hk => ⟨.inl hk, by have := hK k hk; omega⟩) HN.out HF.out (by omega) (.inr rfl) hmx hmx ho (by omega) (.slice sa sn sc) (.slice wa wn wc) (.int .i64 mx) (.bool dead) (.int .i64 ops)
  unfold put5 at FIN
  have HFIN := Lib.hid FIN
  clear FIN hR4 hD5 hK5 hR hD4 F2 HAR G1 G3 hfe hKb hKr hB4 hz4 hmx2 x1 c2 f2
  obtain ⟨c0, c1, c2, c3, c4, f0, f1, f2, f3, f4⟩ := Q1
  obtain ⟨d0, d1, d2, d3, d4, e0, e1, e2, e3, e4⟩ := Q3
  go_upto_region 22 with (fail)
  go_region
  go_wp2_with fail
  refine bodyPost_ret (v := .tuple #[.pointer (some ⟨d, 0, none⟩), .agg #[.slice sa sn sc, .slice wa wn wc, .int .i64 mx, .bool dead, .int .i64 ops], .bool true]) (by simp [results, Try.results25, go_sem, d0, d1, d2, d3, d4]) rfl ?_
  exact HFIN.out
end
end Go.Proofs.Ytplngodilalbhaa
namespace Go.Proofs.Ytplngodilalbhaa
open Go.RowKit Go.Shelf
set_option linter.unusedVariables false
section
variable {K : Nat → Prop} {n c d : Nat} {sa wa : Option Addr} {sn wn wc : Nat} {arm : Int} {dead : Bool} {ops : Int} {S : List ByteArray} {P : List (Int × ByteArray)}
set_option maxRecDepth 100000 in
set_option maxHeartbeats 4000000 in
theorem one_copy (sc : Nat) (N : Int) (byte : UInt8) (short : Bool) (ka : Option Addr) (kn kc : Nat) (w : World) (h : St K w n c d sa sn wa wn wc arm dead ops S P) (hK : ∀ k, K k → k < w.heap.size) (hn1 : 1 ≤ n) (hn2 : n ≤ 60) (hc : c ≤ 100) :
    Calls Try.prog 25 #[.pointer (some ⟨d, 0, none⟩), .agg #[.slice sa sn sc, .slice wa wn wc, .int .i64 arm, .bool dead, .int .i64 ops], .agg #[.int .i64 4, .int .i64 N, .int .u8 (byte.toNat : Int), .bool short, .slice ka kn kc]] w (OneRet K n c w) := by
  obtain ⟨sb, pv, fuse, hD, hR, hn, hF, hP, ha, hf, hA, ho, ho2⟩ := h
  have F1 := ((Five.new w (.slice sa sn sc) (.slice wa wn wc) (.int .i64 arm) (.bool dead) (.int .i64 ops) 52).alloc (.cells #[.int .i64 4, .int .i64 N, .int .u8 (byte.toNat : Int), .bool short, .slice ka kn kc] 57)).alloc (.cells #[.slice none 0 0, .slice none 0 0, .int .i64 0, .bool false, .int .i64 0] 52)
  have F2 := (Five.new (w.alloc (.cells #[.slice sa sn sc, .slice wa wn wc, .int .i64 arm, .bool dead, .int .i64 ops] 52)) (.int .i64 4) (.int .i64 N) (.int .u8 (byte.toNat : Int)) (.bool short) (.slice ka kn kc) 57).alloc (.cells #[.slice none 0 0, .slice none 0 0, .int .i64 0, .bool false, .int .i64 0] 52)
  have F3 := Five.new ((w.alloc (.cells #[.slice sa sn sc, .slice wa wn wc, .int .i64 arm, .bool dead, .int .i64 ops] 52)).alloc (.cells #[.int .i64 4, .int .i64 N, .int .u8 (byte.toNat : Int), .bool short, .slice ka kn kc] 57)) (.slice none 0 0) (.slice none 0 0) (.int .i64 0) (.bool false) (.int .i64 0) 52
  have hw1 : (w.alloc (.cells #[.slice sa sn sc, .slice wa wn wc, .int .i64 arm, .bool dead, .int .i64 ops] 52)).heap.size = w.heap.size + 1 := by simp
  have hw2 : ((w.alloc (.cells #[.slice sa sn sc, .slice wa wn wc, .int .i64 arm, .bool dead, .int .i64 ops] 52)).alloc (.cells #[.int .i64 4, .int .i64 N, .int .u8 (byte.toNat : Int), .bool short, .slice ka kn kc] 57)).heap.size = w.heap.size + 2 := by simp
  rw [hw1] at F2
  rw [hw2] at F3
  have hBB : Below w.heap.size w (((w.alloc (.cells #[.slice sa sn sc, .slice wa wn wc, .int .i64 arm, .bool dead, .int .i64 ops] 52)).alloc (.cells #[.int .i64 4, .int .i64 N, .int .u8 (byte.toNat : Int), .bool short, .slice ka kn kc] 57)).alloc (.cells #[.slice none 0 0, .slice none 0 0, .int .i64 0, .bool false, .int .i64 0] 52)) := (((Below.refl _ w).alloc (Nat.le_refl _) _).alloc (by simp) _).alloc (by simp; omega) _
  clear hw1 hw2
  have HN := Lib.hid hn
  have HF := Lib.hid hF
  have HA := Lib.hid ha
  clear hn hF ha
  have hR1 := hR.keep (fun k hk => hBB.block k (hK k hk))
  go_enter Try.func25, Try.ntmps25
  go_upto_region 18 with (fail)
  generalize ((w.alloc (.cells #[.slice sa sn sc, .slice wa wn wc, .int .i64 arm, .bool dead, .int .i64 ops] 52)).alloc (.cells #[.int .i64 4, .int .i64 N, .int .u8 (byte.toNat : Int), .bool short, .slice ka kn kc] 57)).alloc (.cells #[.slice none 0 0, .slice none 0 0, .int .i64 0, .bool false, .int .i64 0] 52) = w1 at *
  have hs : w.heap.size + 2 < w1.heap.size := F3.lt
  have HCP := Lib.hid (copy_any (hD.below hBB) (by rw [HN.out]; omega) (by omega))
  go_wp2_with fail
  refine HCP.out.mono ?_
  rintro e w2 ⟨d2, sb2, pv2, rfl, hD2, hd2, hs2, hp2, B2⟩
  have hB2 := below_to hBB B2
  have hDo : Disk (fenceK K w w2) w2 d sb S pv P fuse dead ops := hD.fence hB2
  have hR2 := hR.keep (fun k hk => hB2.block k (hK k hk))
  have G1 := F1.below B2 F1.lt
  have G3 := F3.below B2 F3.lt
  clear HCP F1 F2 F3 hR1 hD hR
  go_wp2_with fail
  refine (text_lit 9 9 rfl (txt 9) rfl _).mono ?_
  rintro e w3 ⟨rfl, B3⟩
  obtain ⟨y, P', f', d', o', hq, hy, hf', ho1', ho2'⟩ := wrF_all S.length P fuse dead ops 0 (txt 9) hf
  have hFo : Fits P' S.length := by
    have hF0 : Fits P S.length := by rw [HN.out]; exact HF.out
    rcases hy with ⟨_, rfl, h1, h2⟩ | ⟨_, rfl⟩
    · exact fits_snoc hF0 h1 h2
    · exact hF0
  have hPo : P'.length ≤ 1000 := by
    rcases hy with ⟨_, rfl, _⟩ | ⟨_, rfl⟩
    · simp; omega
    · omega
  have HWR := Lib.hid (write_any (hDo.below B3) 0 (txt 9) (by omega) hf ho (by omega) _ _ _ _ _ hq)
  have HFO := Lib.hid hFo
  clear hq hy hFo
  go_wp2_with fail
  refine HWR.out.mono ?_
  rintro e w4 ⟨rfl, ⟨pv4, hD4⟩, hK4⟩
  obtain ⟨y5, S5, P5, f5, d5, o5, hq5⟩ : ∃ y5 S5 P5 f5 d5 o5, flF S P' f' d' o' = (y5, S5, P5, f5, d5, o5) := ⟨_, _, _, _, _, _, rfl⟩
  have HFL := Lib.hid (flush_any hD4 HFO.out (by omega) hf' (by omega) (by omega) _ _ _ _ _ _ hq5)
  clear hq5 HWR
  go_wp2_with fail
  refine HFL.out.mono ?_
  rintro e w5 ⟨rfl, ⟨pv5, hD5⟩, hK5⟩
  have hKK : Keep (fenceK K w w2) w2 w5 := (((Keep.refl w2).below hDo.lt B3).trans hK4).trans hK5
  have hin : ∀ k, w.heap.size ≤ k → k < w2.heap.size → fenceK K w w2 k := fun k h1 h2 => .inr ⟨h1, h2⟩
  have Q1 := G1.block (hKK.block _ (hin _ (Nat.le_refl _) (by have := B2.size; omega)))
  have Q3 := G3.block (hKK.block _ (hin _ (by omega) (by have := B2.size; omega)))
  have hDn := hD2.same hKK.size (hKK.block d2 (hin _ (by omega) hD2.dlt)) (hKK.block sb2 (hin _ (by omega) hD2.slt)) (fun k hk => hKK.block k (hin k (by have := hp2 k hk; omega) (hD2.pend.lt k hk).2))
  have hDr := (hDn.below ((Below.refl w5.heap.size w5).drew)).put5 (r := w.heap.size + 2) (by omega) (by omega) (fun k hk => by have := hp2 k hk; omega) (.slice sa sn sc) (.slice wa wn wc) (.int .i64 arm) (.bool dead) (.int .i64 ops)
  have hRr := hR2.keep (w1 := put5 w5.drew (w.heap.size + 2) (.slice sa sn sc) (.slice wa wn wc) (.int .i64 arm) (.bool dead) (.int .i64 ops)) (fun k hk => (put5_block _ _ _ _ _ _ _ k (by have := hK k hk; omega)).trans (hKK.block k (.inl hk)))
  have hKr : Keep K w (put5 w5.drew (w.heap.size + 2) (.slice sa sn sc) (.slice wa wn wc) (.int .i64 arm) (.bool dead) (.int .i64 ops)) := put5_keep ((((Keep.refl w).below hK hB2).trans (hKK.mono (fun k hk => .inl hk))).below hK ((Below.refl w5.heap.size w5).drew)) (fun h => by have := hK _ h; omega) _ _ _ _ _
  have FIN : OneRet K n c w (.returned (.tuple #[.pointer (some ⟨d2, 0, none⟩), .agg #[.slice sa sn sc, .slice wa wn wc, .int .i64 arm, .bool dead, .int .i64 ops], .bool true])) (put5 w5.drew (w.heap.size + 2) (.slice sa sn sc) (.slice wa wn wc) (.int .i64 arm) (.bool dead) (.int .i64 ops)) :=
    ⟨K, d2, sa, sn, sc, wa, wn, wc, arm, dead, ops, S, P, rfl, ⟨sb2, pv2, fuse, hDr, hRr, HN.out, HF.out, by omega, HA.out, hf, hA, ho, by omega⟩, fun k hk => hk, hKr⟩
  unfold put5 at FIN
  have HFIN := Lib.hid FIN
  clear FIN hKr hRr hDr hDn hD5 hK5 hD4 hK4 hDo hD2 HFL HFO G1 G3 hKK hR2
  obtain ⟨c0, c1, c2, c3, c4, f0, f1, f2, f3, f4⟩ := Q1
  obtain ⟨d0, d1, d2', d3, d4, e0, e1, e2, e3, e4⟩ := Q3
  go_upto_region 21 with (fail)
  go_region
  go_wp2_with fail
  refine bodyPost_ret (v := .tuple #[.pointer (some ⟨d2, 0, none⟩), .agg #[.slice sa sn sc, .slice wa wn wc, .int .i64 arm, .bool dead, .int .i64 ops], .bool true]) (by simp [results, Try.results25, go_sem, d0, d1, d2', d3, d4]) rfl ?_
  exact HFIN.out
end
end Go.Proofs.Ytplngodilalbhaa
namespace Go.Proofs.Ytplngodilalbhaa
open Go.RowKit Go.Shelf
section
variable {K : Nat → Prop} {n c d : Nat} {sa wa : Option Addr} {sn wn wc : Nat} {arm : Int} {dead : Bool} {ops : Int} {S : List ByteArray} {P : List (Int × ByteArray)}
theorem one_any (sc : Nat) (r : ActR) (w : World) (h : St K w n c d sa sn wa wn wc arm dead ops S P) (hK : ∀ k, K k → k < w.heap.size) (hn1 : 1 ≤ n) (hn2 : n ≤ 60) (hc : c ≤ 100) (hN : r.n ≤ 9223372036854775807) (hB : Bools K w r.ka r.kn r.ks) :
    Calls Try.prog 25 #[.pointer (some ⟨d, 0, none⟩), .agg #[.slice sa sn sc, .slice wa wn wc, .int .i64 arm, .bool dead, .int .i64 ops], .agg #[.int .i64 r.kind, .int .i64 r.n, .int .u8 (r.byte.toNat : Int), .bool r.short, .slice r.ka r.kn r.kc]] w (OneRet K n c w) := by
  obtain ⟨kd, N, byte, short, ka, kn, kc, ks⟩ := r
  simp only at hN hB ⊢
  by_cases h0 : kd = 0
  · subst h0
    cases short with
    | false => exact one_write sc N byte ka kn kc w h hK hn1 hn2 hc
    | true => exact one_short sc N byte ka kn kc w h hK hn1 hn2 hc
  by_cases h1 : kd = 1
  · subst h1; exact one_flush sc N byte short ka kn kc w h hK hn1 hn2 hc
  by_cases h2 : kd = 2
  · subst h2; exact one_arm sc N byte short ka kn kc w h hK hn1 hn2 hc hN
  by_cases h3 : kd = 3
  · subst h3; exact one_up sc N byte short ka kn kc w h hK hn1 hn2 hc ks hB
  by_cases h4 : kd = 4
  · subst h4; exact one_copy sc N byte short ka kn kc w h hK hn1 hn2 hc
  exact one_none sc kd N byte short ka kn kc w h hK hn1 hn2 hc (beq_eq_false_iff_ne.2 h0) (beq_eq_false_iff_ne.2 h1) (beq_eq_false_iff_ne.2 h2) (beq_eq_false_iff_ne.2 h3) (beq_eq_false_iff_ne.2 h4)
/-- What Read answers, at whatever sector. -/
def rdF (S : List ByteArray) (P : List (Int × ByteArray)) (dead : Bool) (at' : Int) : ByteArray × Int :=
  if dead = true then (ByteArray.empty, 17) else if at' < 0 ∨ (S.length : Int) ≤ at' then (ByteArray.empty, 18) else (readT S P at'.toNat, 0)
theorem read_any {w : World} {sb : Nat} {pv : Value} {fuse : Int} (h : Disk K w d sb S pv P fuse dead ops) (hP : P.length ≤ 1000000) (at' : Int) (t : ByteArray) (y : Int) (hq : rdF S P dead at' = (t, y)) :
    Calls Try.prog 27 #[.pointer (some ⟨d, 0, none⟩), .int .i64 at'] w fun e w' => e = .returned (.tuple #[.string t, .int .i64 y]) ∧ Below w.heap.size w w' := by
  unfold rdF at hq
  cases dead with
  | true => rw [if_pos rfl] at hq; simp only [Prod.mk.injEq] at hq; obtain ⟨rfl, rfl⟩ := hq; exact read_down h at'
  | false =>
    rw [if_neg (by decide)] at hq
    by_cases hb : at' < 0 ∨ (S.length : Int) ≤ at'
    · rw [if_pos hb] at hq; simp only [Prod.mk.injEq] at hq; obtain ⟨rfl, rfl⟩ := hq; exact read_out h at' hb
    · rw [if_neg hb] at hq; simp only [Prod.mk.injEq] at hq; obtain ⟨rfl, rfl⟩ := hq
      obtain ⟨i, rfl⟩ : ∃ i : Nat, at' = i := ⟨at'.toNat, by omega⟩
      exact read_ok h i (by omega) hP
theorem rread_any {w : World} (sc : Nat) (h : Ref K w sa sn wa wn wc S P) (hP : P.length ≤ 1000000) (at' : Int) (t : ByteArray) (y : Int) (hq : rdF S P dead at' = (t, y)) :
    Calls Try.prog 26 #[.agg #[.slice sa sn sc, .slice wa wn wc, .int .i64 arm, .bool dead, .int .i64 ops], .int .i64 at'] w fun e w' => e = .returned (.tuple #[.string t, .int .i64 y]) ∧ Below w.heap.size w w' := by
  unfold rdF at hq
  cases dead with
  | true => rw [if_pos rfl] at hq; simp only [Prod.mk.injEq] at hq; obtain ⟨rfl, rfl⟩ := hq; exact rread_down sc arm ops at' w
  | false =>
    rw [if_neg (by decide)] at hq
    by_cases hb : at' < 0 ∨ (S.length : Int) ≤ at'
    · rw [if_pos hb] at hq; simp only [Prod.mk.injEq] at hq; obtain ⟨rfl, rfl⟩ := hq; exact rread_out sc arm ops at' w (by rw [h.sn]; exact hb)
    · rw [if_neg hb] at hq; simp only [Prod.mk.injEq] at hq; obtain ⟨rfl, rfl⟩ := hq
      obtain ⟨i, rfl⟩ : ∃ i : Nat, at' = i := ⟨at'.toNat, by omega⟩
      exact rread_ok sc arm ops i w h (by omega) hP _ rfl
end
end Go.Proofs.Ytplngodilalbhaa
