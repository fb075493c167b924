/- One act: Copy. -/
import Derived.Test.YtplngodilalbhaaP6
namespace Go.Proofs.Ytplngodilalbhaa
open Go.RowKit Go.Shelf
set_option linter.unusedVariables false
section
variable {K : Nat → Prop} {n c d : Nat} {sa wa : Option Addr} {sn wn wc : Nat} {arm : Int} {dead : Bool} {ops : Int} {S : List ByteArray} {P : List (Int × ByteArray)}
set_option maxRecDepth 100000 in
set_option maxHeartbeats 4000000 in
theorem one_copy (sc : Nat) (N : Int) (byte : UInt8) (short : Bool) (ka : Option Addr) (kn kc : Nat) (w : World) (h : St K w n c d sa sn wa wn wc arm dead ops S P) (hK : ∀ k, K k → k < w.heap.size) (hn1 : 1 ≤ n) (hn2 : n ≤ 60) (hc : c ≤ 100) :
    Calls Try.prog 25 #[.pointer (some ⟨d, 0, none⟩), .agg #[.slice sa sn sc, .slice wa wn wc, .int .i64 arm, .bool dead, .int .i64 ops], .agg #[.int .i64 4, .int .i64 N, .int .u8 (byte.toNat : Int), .bool short, .slice ka kn kc]] w (OneRet K n c w) := by
  obtain ⟨sb, pv, fuse, hD, hR, hn, hF, hP, ha, hf, hA, ho, ho2⟩ := h
  have F1 := ((Five.new w (.slice sa sn sc) (.slice wa wn wc) (.int .i64 arm) (.bool dead) (.int .i64 ops) 52).alloc (.cells #[.int .i64 4, .int .i64 N, .int .u8 (byte.toNat : Int), .bool short, .slice ka kn kc] 57)).alloc (.cells #[.slice none 0 0, .slice none 0 0, .int .i64 0, .bool false, .int .i64 0] 52)
  have F2 := (Five.new (w.alloc (.cells #[.slice sa sn sc, .slice wa wn wc, .int .i64 arm, .bool dead, .int .i64 ops] 52)) (.int .i64 4) (.int .i64 N) (.int .u8 (byte.toNat : Int)) (.bool short) (.slice ka kn kc) 57).alloc (.cells #[.slice none 0 0, .slice none 0 0, .int .i64 0, .bool false, .int .i64 0] 52)
  have F3 := Five.new ((w.alloc (.cells #[.slice sa sn sc, .slice wa wn wc, .int .i64 arm, .bool dead, .int .i64 ops] 52)).alloc (.cells #[.int .i64 4, .int .i64 N, .int .u8 (byte.toNat : Int), .bool short, .slice ka kn kc] 57)) (.slice none 0 0) (.slice none 0 0) (.int .i64 0) (.bool false) (.int .i64 0) 52
  have hw1 : (w.alloc (.cells #[.slice sa sn sc, .slice wa wn wc, .int .i64 arm, .bool dead, .int .i64 ops] 52)).heap.size = w.heap.size + 1 := by simp
  have hw2 : ((w.alloc (.cells #[.slice sa sn sc, .slice wa wn wc, .int .i64 arm, .bool dead, .int .i64 ops] 52)).alloc (.cells #[.int .i64 4, .int .i64 N, .int .u8 (byte.toNat : Int), .bool short, .slice ka kn kc] 57)).heap.size = w.heap.size + 2 := by simp
  rw [hw1] at F2
  rw [hw2] at F3
  have hBB : Below w.heap.size w (((w.alloc (.cells #[.slice sa sn sc, .slice wa wn wc, .int .i64 arm, .bool dead, .int .i64 ops] 52)).alloc (.cells #[.int .i64 4, .int .i64 N, .int .u8 (byte.toNat : Int), .bool short, .slice ka kn kc] 57)).alloc (.cells #[.slice none 0 0, .slice none 0 0, .int .i64 0, .bool false, .int .i64 0] 52)) := (((Below.refl _ w).alloc (Nat.le_refl _) _).alloc (by simp) _).alloc (by simp; omega) _
  clear hw1 hw2
  have HN := Lib.hid hn
  have HF := Lib.hid hF
  have HA := Lib.hid ha
  clear hn hF ha
  have hR1 := hR.keep (fun k hk => hBB.block k (hK k hk))
  go_enter Try.func25, Try.ntmps25
  go_upto_region 18 with (fail)
  generalize ((w.alloc (.cells #[.slice sa sn sc, .slice wa wn wc, .int .i64 arm, .bool dead, .int .i64 ops] 52)).alloc (.cells #[.int .i64 4, .int .i64 N, .int .u8 (byte.toNat : Int), .bool short, .slice ka kn kc] 57)).alloc (.cells #[.slice none 0 0, .slice none 0 0, .int .i64 0, .bool false, .int .i64 0] 52) = w1 at *
  have hs : w.heap.size + 2 < w1.heap.size := F3.lt
  have HCP := Lib.hid (copy_any (hD.below hBB) (by rw [HN.out]; omega) (by omega))
  go_wp2_with fail
  refine HCP.out.mono ?_
  rintro e w2 ⟨d2, sb2, pv2, rfl, hD2, hd2, hs2, hp2, B2⟩
  have hB2 := below_to hBB B2
  have hDo : Disk (fenceK K w w2) w2 d sb S pv P fuse dead ops := hD.fence hB2
  have hR2 := hR.keep (fun k hk => hB2.block k (hK k hk))
  have G1 := F1.below B2 F1.lt
  have G3 := F3.below B2 F3.lt
  clear HCP F1 F2 F3 hR1 hD hR
  go_wp2_with fail
  refine (text_lit 9 9 rfl (txt 9) rfl _).mono ?_
  rintro e w3 ⟨rfl, B3⟩
  obtain ⟨y, P', f', d', o', hq, hy, hf', ho1', ho2'⟩ := wrF_all S.length P fuse dead ops 0 (txt 9) hf
  have hFo : Fits P' S.length := by
    have hF0 : Fits P S.length := by rw [HN.out]; exact HF.out
    rcases hy with ⟨_, rfl, h1, h2⟩ | ⟨_, rfl⟩
    · exact fits_snoc hF0 h1 h2
    · exact hF0
  have hPo : P'.length ≤ 1000 := by
    rcases hy with ⟨_, rfl, _⟩ | ⟨_, rfl⟩
    · simp; omega
    · omega
  have HWR := Lib.hid (write_any (hDo.below B3) 0 (txt 9) (by omega) hf ho (by omega) _ _ _ _ _ hq)
  have HFO := Lib.hid hFo
  clear hq hy hFo
  go_wp2_with fail
  refine HWR.out.mono ?_
  rintro e w4 ⟨rfl, ⟨pv4, hD4⟩, hK4⟩
  obtain ⟨y5, S5, P5, f5, d5, o5, hq5⟩ : ∃ y5 S5 P5 f5 d5 o5, flF S P' f' d' o' = (y5, S5, P5, f5, d5, o5) := ⟨_, _, _, _, _, _, rfl⟩
  have HFL := Lib.hid (flush_any hD4 HFO.out (by omega) hf' (by omega) (by omega) _ _ _ _ _ _ hq5)
  clear hq5 HWR
  go_wp2_with fail
  refine HFL.out.mono ?_
  rintro e w5 ⟨rfl, ⟨pv5, hD5⟩, hK5⟩
  have hKK : Keep (fenceK K w w2) w2 w5 := (((Keep.refl w2).below hDo.lt B3).trans hK4).trans hK5
  have hin : ∀ k, w.heap.size ≤ k → k < w2.heap.size → fenceK K w w2 k := fun k h1 h2 => .inr ⟨h1, h2⟩
  have Q1 := G1.block (hKK.block _ (hin _ (Nat.le_refl _) (by have := B2.size; omega)))
  have Q3 := G3.block (hKK.block _ (hin _ (by omega) (by have := B2.size; omega)))
  have hDn := hD2.same hKK.size (hKK.block d2 (hin _ (by omega) hD2.dlt)) (hKK.block sb2 (hin _ (by omega) hD2.slt)) (fun k hk => hKK.block k (hin k (by have := hp2 k hk; omega) (hD2.pend.lt k hk).2))
  have hDr := (hDn.below ((Below.refl w5.heap.size w5).drew)).put5 (r := w.heap.size + 2) (by omega) (by omega) (fun k hk => by have := hp2 k hk; omega) (.slice sa sn sc) (.slice wa wn wc) (.int .i64 arm) (.bool dead) (.int .i64 ops)
  have hRr := hR2.keep (w1 := put5 w5.drew (w.heap.size + 2) (.slice sa sn sc) (.slice wa wn wc) (.int .i64 arm) (.bool dead) (.int .i64 ops)) (fun k hk => (put5_block _ _ _ _ _ _ _ k (by have := hK k hk; omega)).trans (hKK.block k (.inl hk)))
  have hKr : Keep K w (put5 w5.drew (w.heap.size + 2) (.slice sa sn sc) (.slice wa wn wc) (.int .i64 arm) (.bool dead) (.int .i64 ops)) := put5_keep ((((Keep.refl w).below hK hB2).trans (hKK.mono (fun k hk => .inl hk))).below hK ((Below.refl w5.heap.size w5).drew)) (fun h => by have := hK _ h; omega) _ _ _ _ _
  have FIN : OneRet K n c w (.returned (.tuple #[.pointer (some ⟨d2, 0, none⟩), .agg #[.slice sa sn sc, .slice wa wn wc, .int .i64 arm, .bool dead, .int .i64 ops], .bool true])) (put5 w5.drew (w.heap.size + 2) (.slice sa sn sc) (.slice wa wn wc) (.int .i64 arm) (.bool dead) (.int .i64 ops)) :=
    ⟨K, d2, sa, sn, sc, wa, wn, wc, arm, dead, ops, S, P, rfl, ⟨sb2, pv2, fuse, hDr, hRr, HN.out, HF.out, by omega, HA.out, hf, hA, ho, by omega⟩, fun k hk => hk, hKr⟩
  unfold put5 at FIN
  have HFIN := Lib.hid FIN
  clear FIN hKr hRr hDr hDn hD5 hK5 hD4 hK4 hDo hD2 HFL HFO G1 G3 hKK hR2
  obtain ⟨c0, c1, c2, c3, c4, f0, f1, f2, f3, f4⟩ := Q1
  obtain ⟨d0, d1, d2', d3, d4, e0, e1, e2, e3, e4⟩ := Q3
  go_upto_region 21 with (fail)
  go_region
  go_wp2_with fail
  refine bodyPost_ret (v := .tuple #[.pointer (some ⟨d2, 0, none⟩), .agg #[.slice sa sn sc, .slice wa wn wc, .int .i64 arm, .bool dead, .int .i64 ops], .bool true]) (by simp [results, Try.results25, go_sem, d0, d1, d2', d3, d4]) rfl ?_
  exact HFIN.out
end
end Go.Proofs.Ytplngodilalbhaa
