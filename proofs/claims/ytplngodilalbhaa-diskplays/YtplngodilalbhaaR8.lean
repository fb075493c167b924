/- The reference's disk: Up. -/
import Derived.Test.YtplngodilalbhaaR7
namespace Go.Proofs.Ytplngodilalbhaa
open Go.RowKit Go.Shelf
section
variable {K : Nat → Prop} {sa wa : Option Addr} {sn wn wc : Nat} {S : List ByteArray} {W : List (Int × ByteArray)}
theorem flat_snoc' (L : List (Int × ByteArray)) (x : Int × ByteArray) : flat (L ++ [x]) = flat L ++ [.int .i64 x.1, .string x.2] := by simp [flat]
/-- How far the loop has come. -/
def UpAt (n0 : Nat) (wA : World) (W : List (Int × ByteArray)) (q : Nat → Bool) (k : Nat) (v : Value) (wx : World) : Prop :=
  wx.ownsRow n0 102 2 v (keptL W q k).length (flat (keptL W q k)) ∧ v ≠ .slice none 0 0 ∧ Below n0 wA wx
set_option maxRecDepth 100000 in
set_option maxHeartbeats 2000000 in
theorem rup_any (sc : Nat) (arm : Int) (dead : Bool) (ops : Int) (w : World) (h : Ref K w sa sn wa wn wc S W) (hK : ∀ k, K k → k < w.heap.size) (hSn : S.length ≤ 1000000) (hWn : W.length ≤ 1000000) (hF : Fits W S.length)
    {ka : Option Addr} {kn kc : Nat} {ks : List Bool} (hB : Bools K w ka kn ks) (S' : List ByteArray) (hS' : appl S W (keptQ ks) W.length = S') (y : Int) (hy : (cntq (keptQ ks) W.length : Int) = y) :
    Calls Try.prog 59 #[.agg #[.slice sa sn sc, .slice wa wn wc, .int .i64 arm, .bool dead, .int .i64 ops], .slice ka kn kc] w (RdRet K S' [] 0 false ops y w) := by
  obtain ⟨b, rfl, hbK, hrow⟩ := h.s
  have e1 := h.sn
  have e2 := h.wn
  subst e1 e2
  have hb := hK b hbK
  have H := Lib.hid h
  have HF := Lib.hid hF
  have HB := Lib.hid hB
  have HS' := Lib.hid hS'
  have HY := Lib.hid hy
  have HR := Lib.hid hrow
  obtain ⟨i0, hi0, hz0, hz1, hz2⟩ := info_parts info102
  clear h hF hB hS' hy hrow
  have F1 := (Five.new w (.slice (some ⟨b, 0, none⟩) S.length sc) (.slice wa W.length wc) (.int .i64 arm) (.bool dead) (.int .i64 ops) 52).alloc (.cells #[.slice none 0 0, .slice none 0 0, .int .i64 0, .bool false, .int .i64 0] 52)
  have F2 := Five.new (w.alloc (.cells #[.slice (some ⟨b, 0, none⟩) S.length sc, .slice wa W.length wc, .int .i64 arm, .bool dead, .int .i64 ops] 52)) (.slice none 0 0) (.slice none 0 0) (.int .i64 0) (.bool false) (.int .i64 0) 52
  have hwb : (w.alloc (.cells #[.slice (some ⟨b, 0, none⟩) S.length sc, .slice wa W.length wc, .int .i64 arm, .bool dead, .int .i64 ops] 52)).heap.size = w.heap.size + 1 := by simp
  rw [hwb] at F2
  have hB0 : Below w.heap.size w ((w.alloc (.cells #[.slice (some ⟨b, 0, none⟩) S.length sc, .slice wa W.length wc, .int .i64 arm, .bool dead, .int .i64 ops] 52)).alloc (.cells #[.slice none 0 0, .slice none 0 0, .int .i64 0, .bool false, .int .i64 0] 52)) := ((Below.refl _ w).alloc (Nat.le_refl _) _).alloc (by simp) _
  have hsz : ((w.alloc (.cells #[.slice (some ⟨b, 0, none⟩) S.length sc, .slice wa W.length wc, .int .i64 arm, .bool dead, .int .i64 ops] 52)).alloc (.cells #[.slice none 0 0, .slice none 0 0, .int .i64 0, .bool false, .int .i64 0] 52)).heap.size = w.heap.size + 2 := by simp
  have M0 := made2 w (.cells #[.slice (some ⟨b, 0, none⟩) S.length sc, .slice wa W.length wc, .int .i64 arm, .bool dead, .int .i64 ops] 52) (.cells #[.slice none 0 0, .slice none 0 0, .int .i64 0, .bool false, .int .i64 0] 52) 102 2
  go_enter Try.func59, Try.ntmps59
  go_wp2_with fail
  generalize (w.alloc (.cells #[.slice (some ⟨b, 0, none⟩) S.length sc, .slice wa W.length wc, .int .i64 arm, .bool dead, .int .i64 ops] 52)).alloc (.cells #[.slice none 0 0, .slice none 0 0, .int .i64 0, .bool false, .int .i64 0] 52) = wA at *
  clear hwb
  go_loopw [6, 7] (fun v i wx => ∃ k : Nat, k ≤ W.length ∧ UpAt (w.heap.size + 2) wA W (keptQ ks) k v wx ∧ i = .int .i64 (k : Int)) (fun _ i _ => W.length - (intOf i).toNat)
  case atStart => exact ⟨0, Nat.zero_le _, ⟨M0, by simp, (Below.refl _ _).alloc (by omega) _⟩, rfl⟩
  case round =>
    clear M0
    obtain ⟨k, hk, ⟨hown, hnil, hBx⟩, rfl⟩ := hrel
    have G1 := F1.below hBx (by omega)
    have G2 := F2.below hBx (by omega)
    have hBw : Below w.heap.size w wr := hB0.trans (hBx.mono (by omega))
    obtain ⟨g, cap, rfl⟩ : ∃ g cap, u6 = .slice (some ⟨g, 0, none⟩) (keptL W (keptQ ks) k).length cap := by
      rcases hown.2 with ⟨rfl, _⟩ | ⟨g, cap, cur, rfl, _⟩
      · exact (hnil rfl).elim
      · exact ⟨g, cap, rfl⟩
    have hkl : (keptL W (keptQ ks) k).length ≤ k := by rw [keptL_length]; exact cntq_le _ _
    by_cases hlt : k < W.length
    · obtain ⟨gw, rfl, hgw, hW⟩ : ∃ gw, wa = some ⟨gw, 0, none⟩ ∧ gw < w.heap.size ∧ WrRow w gw W := by
        rcases H.out.ws with ⟨_, _, h0⟩ | ⟨g, e, hg, hr⟩
        · rw [h0] at hlt; simp at hlt
        · exact ⟨g, e, hK g hg, hr⟩
      obtain ⟨p0, p1⟩ := (hW.block (hBw.block gw hgw)) k hlt
      have HKY := Lib.hid (fun (hq : keptQ ks k = true) => keptL_yes (W := W) hq hlt)
      generalize W[k] = x at p0 p1 HKY
      clear hW
      have hB := HB.out
      cases hq : keptQ ks k with
      | true =>
        have hkn : k < kn := by
          rcases Nat.lt_or_ge k kn with h | h
          · exact h
          · unfold keptQ at hq
            rw [List.getD_eq_getElem?_getD, List.getElem?_eq_none (by rw [hB.1]; exact h)] at hq
            simp at hq
        obtain ⟨bb, off, rfl, hbb, hj⟩ : ∃ bb off, ka = some ⟨bb, off, none⟩ ∧ K bb ∧ ∀ j (hj : j < ks.length), w.cell? ⟨bb, off + j, none⟩ = some (.bool ks[j]) := by
          rcases hB.2 with h0 | h
          · omega
          · exact h
        have hkl2 : k < ks.length := by rw [hB.1]; exact hkn
        have hcell := (hBw.cell (p := ⟨bb, off + k, none⟩) (hK bb hbb)).trans (hj k hkl2)
        have hv : ks[k] = true := by
          unfold keptQ at hq
          rw [List.getD_eq_getElem?_getD, List.getElem?_eq_getElem hkl2] at hq
          exact hq
        rw [hv] at hcell
        have HKS := Lib.hid (HKY.out hq)
        clear hv hq hj hB hkl2 HKY
        have c1 := G1.c1
        have HO := Lib.hid hown
        go_wp2_with (at_builtin; refine wpList_append_own _ rfl _ _ 50 rfl (w.heap.size + 2) 102 i0 (.agg #[.int .i64 0, .string ⟨#[]⟩]) 2 24 Try.underlying50 hi0 hz0 hz1 hz2 rfl (by decide) _ _ _ rfl (HO.out.alloc _) ⟨wr.heap.size, 0, none⟩ 1 1 [.int .i64 x.1, .string x.2] rfl ?d1 ?d2 ?d3 ?d4 ?d5 ?d6 ?_)
        case d1 => rfl
        case d2 =>
          intro j u hj
          match j, hj with
          | 0, hj => simp at hj; subst hj; simp [Addr.add]
          | 1, hj => simp at hj; subst hj; simp [Addr.add]
        case d3 => intro u hu; simp at hu; rcases hu with rfl | rfl <;> rfl
        case d4 => unfold maxLen; omega
        case d5 => omega
        case d6 => have := hBx.size; simp; omega
        intro v2 w5 hown5 hgrow5 hnil5
        have B5 : Below (w.heap.size + 2) wA w5 := (hBx.alloc (by have := hBx.size; omega) _).trans (grownB hgrow5 (fun k hk => (HO.out.lt k hk).1) (by have := hBx.size; simp; omega))
        go_wp2_with fail
        go_roundw
        case rel => exact ⟨k + 1, by omega, ⟨by rw [HKS.out, flat_snoc', List.length_append]; exact hown5, hnil5, B5⟩, by go_num⟩
        case measure => simp [intOf]; omega
      | false =>
        have HKS := Lib.hid (keptL_no (W := W) hq)
        have c1 := G1.c1
        by_cases hkn : k < kn
        · obtain ⟨bb, off, rfl, hbb, hj⟩ : ∃ bb off, ka = some ⟨bb, off, none⟩ ∧ K bb ∧ ∀ j (hj : j < ks.length), w.cell? ⟨bb, off + j, none⟩ = some (.bool ks[j]) := by
            rcases hB.2 with h0 | h
            · omega
            · exact h
          have hkl2 : k < ks.length := by rw [hB.1]; exact hkn
          have hcell := (hBw.cell (p := ⟨bb, off + k, none⟩) (hK bb hbb)).trans (hj k hkl2)
          have hv : ks[k] = false := by
            unfold keptQ at hq
            rw [List.getD_eq_getElem?_getD, List.getElem?_eq_getElem hkl2] at hq
            exact hq
          rw [hv] at hcell
          clear hv hq hj hB hkl2 HKY
          go_wp2_with fail
          go_roundw
          case rel => exact ⟨k + 1, by omega, ⟨by rw [HKS.out]; exact hown, hnil, hBx⟩, by go_num⟩
          case measure => simp [intOf]; omega
        · clear hq hB HKY
          go_wp2_with fail
          go_roundw
          case rel => exact ⟨k + 1, by omega, ⟨by rw [HKS.out]; exact hown, hnil, hBx⟩, by go_num⟩
          case measure => simp [intOf]; omega
    · obtain rfl : k = W.length := by omega
      obtain ⟨q1, q2⟩ := appl_kept (q := keptQ ks) HF.out (Nat.le_refl W.length)
      have hlen := keptL_length W (keptQ ks) W.length
      have hRow := WrRow.of_own hown
      have hrow2 := HR.out.block (hBw.block b hb)
      have hgl := (hown.lt g rfl)
      have HSET := Lib.hid (rsettle_any b sc S wa W.length wc arm dead ops (some ⟨g, 0, none⟩) _ cap (keptL W (keptQ ks) W.length) wr hrow2 hSn ⟨rfl, .inr ⟨g, rfl, hgl.2, hRow⟩⟩ q2 (by omega) S' (q1.trans HS'.out))
      have HL := Lib.hid (show ((keptL W (keptQ ks) W.length).length : Int) = y by rw [hlen]; exact HY.out)
      generalize (keptL W (keptQ ks) W.length).length = yn at HSET HL ⊢
      clear q1 q2 hlen hRow hrow2 hgl hown hkl
      obtain ⟨c0, c1, c2, c3, c4, f0, f1, f2, f3, f4⟩ := G1
      have hsz2 : w.heap.size + 1 < wr.heap.size := G2.lt
      go_wp2_with fail
      refine HSET.out.mono ?_
      rintro e w3 ⟨g3, cap3, rfl, hg1, hg2, hrow3, B3⟩
      have Q1 := (Five.mk c0 c1 c2 c3 c4 f0 f1 f2 f3 f4).below B3 (by omega)
      have Q2 := G2.below B3 hsz2
      have hB3 := below_to hBw B3
      have hgw : w.heap.size ≤ g3 := by omega
      have HX := Lib.hid (fun (w' : World) (B : Below w.heap.size w w') (hs : w3.heap.size ≤ w'.heap.size) (hb : w'.heap[g3]? = w3.heap[g3]?) => rd_set (K := K) (y := y) (sc := cap3) (arm := 0) (dead := false) (ops := ops) hgw hg2 hrow3 rfl B hs hb)
      clear G2 B3 hrow3 HSET c0 c1 c2 c3 c4 f0 f1 f2 f3 f4 hBx F1 F2 hB0
      have X1 := Q1.put (.slice (some ⟨g3, 0, none⟩) S'.length cap3) (.slice none 0 0) (.int .i64 arm) (.bool dead) (.int .i64 ops)
      have X2 := Q2.block (put5_block w3 w.heap.size (.slice (some ⟨g3, 0, none⟩) S'.length cap3) (.slice none 0 0) (.int .i64 arm) (.bool dead) (.int .i64 ops) (w.heap.size + 1) (by omega))
      have XB := put5_below (b := w.heap.size) hB3 (Nat.le_refl _) (.slice (some ⟨g3, 0, none⟩) S'.length cap3) (.slice none 0 0) (.int .i64 arm) (.bool dead) (.int .i64 ops)
      have XG := put5_block w3 w.heap.size (.slice (some ⟨g3, 0, none⟩) S'.length cap3) (.slice none 0 0) (.int .i64 arm) (.bool dead) (.int .i64 ops) g3 (by omega)
      have XS := put5_size w3 w.heap.size (.slice (some ⟨g3, 0, none⟩) S'.length cap3) (.slice none 0 0) (.int .i64 arm) (.bool dead) (.int .i64 ops)
      obtain ⟨c0, c1, c2, c3, c4, f0, f1, f2, f3, f4⟩ := Q1
      have HXG := Lib.hid XG
      have HXS := Lib.hid XS
      clear XG XS
      go_upto_region 8 with (fail)
      unfold put5 at X1 X2 XB HXG HXS
      generalize ((((w3.setCell ⟨w.heap.size, 0, none⟩ (.slice (some ⟨g3, 0, none⟩) S'.length cap3)).setCell ⟨w.heap.size, 1, none⟩ (.slice none 0 0)).setCell ⟨w.heap.size, 2, none⟩ (.int .i64 arm)).setCell ⟨w.heap.size, 3, none⟩ (.bool dead)).setCell ⟨w.heap.size, 4, none⟩ (.int .i64 ops) = w4 at X1 X2 XB HXG HXS ⊢
      clear c0 c1 c2 c3 c4 f0 f1 f2 f3 f4 Q2 hB3
      obtain ⟨c0, c1, c2, c3, c4, f0, f1, f2, f3, f4⟩ := X1
      obtain ⟨d0, d1, d2, d3, d4, e0, e1, e2, e3, e4⟩ := X2
      go_wp2_with fail
      refine bodyPost_ret (v := .tuple #[.agg #[.slice (some ⟨g3, 0, none⟩) S'.length cap3, .slice none 0 0, .int .i64 0, .bool false, .int .i64 ops], .int .i64 (yn : Int)]) (by simp [results, Try.results59, go_sem, d0, d1, d2, d3, d4]) rfl ?_
      rw [HL.out]
      refine HX.out _ ?_ ?_ ?_
      · iterate 7 refine Below.setCell ?_ (by simp) _
        exact XB
      · simp [HXS.out]
      · iterate 7 refine (heap_set _ _ _ _ _ (by omega)).trans ?_
        exact HXG.out
end
end Go.Proofs.Ytplngodilalbhaa
