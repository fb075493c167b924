/- The walk of GaugeMeans. -/
import Derived.Test.YtmhfbgcfagfmbaaLOf
import Derived.Test.YtmhfbgcfagfmbaaFI
import Derived.Laws.OwnMore
import Derived.OwnWalk
import Derived.OpenShut
namespace Go.Proofs.Ytmhfbgcfagfmbaa.gaugeMeans
open Go.RowKit

theorem info45 : (Try.prog.info? 45).map (fun i => (i.zero, i.size, i.bytes)) = some (some (.float .f64 0), 1, 8) := by kernel_rfl

def fl (l : List Nat) : List Value := l.map (Value.float .f64)
theorem fl_snoc (l : List Nat) (x : Nat) : fl (l ++ [x]) = fl l ++ [.float .f64 x] := by simp [fl]
/-- What the loop carries: some holds the numbers among the first k. -/
structure SomeAt (w0 : World) (zs : List Nat) (k n : Nat) (v : Value) (wx : World) : Prop where
  own : wx.ownsRow w0.heap.size 45 1 v n (fl (good (zs.take k)))
  count : n = (good (zs.take k)).length
  le : n ≤ k
  below : Below w0.heap.size w0 wx
theorem SomeAt.skip {w0 wr : World} {zs : List Nat} {k n : Nat} {v : Value} {x : Nat} (h : SomeAt w0 zs k n v wr) (hk : k < zs.length) (hx : zs.getD k 0 = x) (hn : nanB x = true) : SomeAt w0 zs (k + 1) n v wr := by
  have e : good (zs.take (k + 1)) = good (zs.take k) := by rw [take_snoc_nat zs k hk, hx, good_snoc, hn]; rfl
  exact ⟨by rw [e]; exact h.own, by rw [e]; exact h.count, by have := h.le; omega, h.below⟩
theorem SomeAt.add {w0 wr w1 : World} {zs : List Nat} {k n : Nat} {v v' : Value} {x : Nat} {o : Obj} (h : SomeAt w0 zs k n v wr) (hk : k < zs.length) (hx : zs.getD k 0 = x) (hn : nanB x = false)
    (hown : w1.ownsRow w0.heap.size 45 1 v' (n + 1) (fl (good (zs.take k)) ++ [.float .f64 x])) (hg : (wr.alloc o).grownBy w1 v.ownBlock) : SomeAt w0 zs (k + 1) (n + 1) v' w1 := by
  have e : good (zs.take (k + 1)) = good (zs.take k) ++ [x] := by rw [take_snoc_nat zs k hk, hx, good_snoc, hn]; rfl
  exact ⟨by rw [e, fl_snoc]; exact hown, by rw [e, List.length_append, ← h.count]; rfl, by have := h.le; omega, (h.below.alloc h.below.size o).grown hg (by have := h.below.size; simp; omega) (fun j hj => (h.own.lt j hj).1)⟩
theorem SomeAt.flts {w0 wr : World} {zs : List Nat} {n : Nat} {v : Value} (h : SomeAt w0 zs zs.length n v wr) (hf : ∀ z ∈ zs, Fit z) : ∃ a cap, v = .slice a n cap ∧ Flts wr a n (good zs) := by
  have hown := h.own
  have hc := h.count
  rw [List.take_of_length_le (Nat.le_refl _)] at hown hc
  have hg : ∀ z ∈ good zs, Fit z := fun z hz => hf z (List.mem_filter.1 hz).1
  obtain ⟨hl, ⟨hv, h0⟩ | ⟨g, cap, cur, hv, _⟩⟩ := hown
  · exact ⟨none, 0, by rw [hv, h0], hc.symm, hg, .inl h0⟩
  · refine ⟨_, cap, hv, hc.symm, hg, .inr ⟨g, 0, rfl, fun j hj => ?_⟩⟩
    have hown := h.own
    rw [List.take_of_length_le (Nat.le_refl _), hv] at hown
    rw [Nat.zero_add, hown.cellAt j (by omega)]
    unfold fl
    simp [show j < (good zs).length by omega]

theorem good_good (l : List Nat) : good (good l) = good l := by unfold good; rw [List.filter_filter]; simp
theorem flts1_new (w : World) (x : Nat) (hx : Fit x) : Flts (w.alloc (.cells #[.float .f64 x] 45)) (some ⟨w.heap.size, 0, none⟩) 1 [x] := by
  refine ⟨rfl, by simp [hx], .inr ⟨_, _, rfl, fun j hj => ?_⟩⟩
  match j, hj with
  | 0, _ => simp [go_sem]

theorem mean_one {x b : Nat} (hx : Fit x) (n : ¬ NaN x) (h : MeanIs (good [x]) b) : (FloatKind.f64.format.order b x == some .eq) = true := by
  have hg : good [x] = [x] := by simp [good, nanB_false n]
  rw [hg] at h
  rcases h with ⟨h, _⟩ | ⟨_, s, _, ⟨t, _, a1, e⟩, a⟩
  · cases h
  · cases e
    obtain ⟨r, e1, f1, n1, k1⟩ := (add_zero hx n).2
    have := a1.some e1
    subst this
    have hone : floatOfInt .f64 (([x].length : Nat) : Int) = 4607182418800017408 := fi_one
    rw [hone] at a
    obtain ⟨q, e2, f2, n2, k2⟩ := by_one f1 n1
    have := a.some e2
    subst this
    rw [ordEq f2 hx n2 n, decide_eq_true (by rw [k2, k1])]
theorem mean_one_nan {x b : Nat} (n : NaN x) (h : MeanIs (good [x]) b) : NaN b := by
  have hg : good [x] = [] := by simp [good, nanB_true n]
  rw [hg] at h
  rcases h with ⟨_, h⟩ | ⟨h, _⟩
  · exact h
  · exact absurd rfl h
theorem blend_self {x b : Nat} {k : Int} (hx : Fit x) (n : ¬ NaN x) (hk : k ≤ 9223372036854775807) (h : BlIs x x k b) : (FloatKind.f64.format.order b x == some .eq) = true := by
  unfold BlIs at h
  rw [if_neg n, if_neg n] at h
  obtain ⟨d, q, s, fd, fq, fs, a1, a2, a3, e⟩ := h
  rcases fin_of hx n with hf | hf
  · have d0 := a1.some (show floatBits .sub .f64 x x = some 0 from Fl.sub_self_fin D64 hf)
    subst d0
    obtain ⟨j, hj⟩ : ∃ j : Nat, max k 1 = j := ⟨(max k 1).toNat, by omega⟩
    rw [hj, of_nat] at a2
    have q0 := a2.some (zero_div (fi_pos (by omega) (by omega)))
    subst q0
    obtain ⟨r, e1, f1, n1, k1⟩ := (add_zero hx n).1
    have s0 := a3.some e1
    subst s0
    rw [if_neg n1] at e
    subst e
    rw [ordEq f1 hx n1 n, decide_eq_true k1]
  · have nd := a1.none (show floatBits .sub .f64 x x = none from Fl.sub_self_inf D64 d_exp hf)
    have ns := AR.nan_r fq (AR.nan_l fd nd a2) a3
    rw [if_pos ns] at e
    subst e
    exact ord_self hx n
theorem blend_same_nan {x b : Nat} {k : Int} (n : NaN x) (h : BlIs x x k b) : b = x := by unfold BlIs at h; rwa [if_pos n] at h
theorem blend_none {x z b : Nat} {k : Int} (hx : Fit x) (hz : Fit z) (nz : NaN z) (h : BlIs x z k b) : tk b = tk x := by
  unfold BlIs at h
  by_cases n : NaN x
  · rw [if_pos n] at h; subst h; rw [tk_nan hz nz, tk_nan hx n]
  · rw [if_neg n, if_pos nz] at h; rw [h]
theorem none_blend {x z b : Nat} {k : Int} (nz : NaN z) (h : BlIs z x k b) : b = x := by unfold BlIs at h; rwa [if_pos nz] at h

set_option maxHeartbeats 4000000 in
theorem walk (w : World) (a : Option Addr) (len cap : Nat) (zs : List Nat) (hm : len ≤ 9223372036854775807) (hz : Flts w a len zs) (x : Nat) (hx : Fit x) (k : Int) (hk : k ≤ 9223372036854775807) :
    Calls Try.prog 12 #[.slice a len cap, .float .f64 x, .int .i64 k] w fun e w' => e = .returned (.bool true) ∧ Below w.heap.size w w' := by
  by_cases h200 : 200 < len
  · have d1 : decide ((200 : Int) < (len : Int)) = true := by simp; omega
    go_enter Try.func12, Try.ntmps12
    go_wp2_with fail
    refine (lives2_any _).mono ?_
    rintro e w1 ⟨rfl, B1⟩
    go_wp2
    go_ret
    exact ⟨rfl, B1⟩
  have d1 : decide ((200 : Int) < (len : Int)) = false := by simp; omega
  go_enter Try.func12, Try.ntmps12
  go_wp2_with fail
  refine (lives2_any _).mono ?_
  rintro e w1 ⟨rfl, B1⟩
  go_wp2
  clear d1
  have hz1 := hz.later B1
  obtain ⟨i0, hi, hz0, hzz1, hzz2⟩ := info_parts info45
  have HL := Lib.hid hz1.1
  have HF := Lib.hid hz1.2.1
  go_loopw [7, 25] (fun v i wx => ∃ (j n : Nat), j ≤ len ∧ i = .int .i64 (j : Int) ∧ SomeAt w1 zs j n v wx) (fun _ i _ => len - (intOf i).toNat)
  case atStart => exact ⟨0, 0, by omega, rfl, ⟨World.ownsRow_nil _ _ _ _, by simp [good], by omega, Below.refl _ _⟩⟩
  case round =>
    obtain ⟨j, n, hj, rfl, hS⟩ := hrel
    by_cases hlt : j < len
    · rcases hz1.2.2 with h0 | ⟨b', off, rfl, hc⟩
      · omega
      · have hck := hc j hlt
        have hbl := World.block_lt_of_cell? w1 _ hck
        have gx := (hS.below.cell (p := ⟨b', off + j, none⟩) hbl).trans hck
        clear hck hc
        have hf : Fit (zs.getD j 0) := by
          have hj' : j < zs.length := by rw [HL.out]; exact hlt
          rw [show zs.getD j 0 = zs[j] by simp [hj']]; exact HF.out _ (List.getElem_mem hj')
        generalize hY : zs.getD j 0 = y at gx hf
        have HY := Lib.hid hY
        clear hY
        by_cases hn : NaN y
        · have f1 : (FloatKind.f64.format.order y y == some .eq) = false := by rw [ordNanL hf hn]; rfl
          have hS' := hS.skip (by rw [HL.out]; exact hlt) HY.out (nanB_true hn)
          clear hn
          go_wp2
          go_roundw
          case rel => exact ⟨j + 1, n, by omega, by go_num, hS'⟩
          case measure => simp [intOf]; omega
        · have f1 := ord_self hf hn
          have hown := hS.own
          have hle := hS.le
          have hbl2 := hS.below
          have HN := Lib.hid hn
          clear hn
          go_wp2_with (first
            | (at_builtin; refine wpList_append_own _ rfl _ _ 51 rfl w1.heap.size 45 i0 (.float .f64 0) 1 8 Try.underlying51 hi hz0 hzz1 hzz2 rfl (by decide) _ _ _ rfl (hown.alloc _) ⟨wr.heap.size, 0, none⟩ 1 1 [.float .f64 y] rfl rfl ?c1 ?c2 ?c3 ?c4 ?c5 ?_))
          case c2 => rfl
          case c3 => unfold maxLen; omega
          case c4 => omega
          case c5 => have := hbl2.size; simp; omega
          intro v' w4 hown' hgrow _
          have hS' := hS.add (by rw [HL.out]; exact hlt) HY.out (nanB_false HN.out) hown' hgrow
          clear hown' hgrow hown gx hbl2 hS
          go_wp2
          go_roundw
          case rel => exact ⟨j + 1, n + 1, by omega, by go_num, hS'⟩
          case measure => simp [intOf]; omega
    · have hjl : j = len := by omega
      subst hjl
      have hS2 : SomeAt w1 zs zs.length n u7 wr := by rw [HL.out]; exact hS
      have hcn : n = (good zs).length := by have := hS2.count; rwa [List.take_of_length_le (Nat.le_refl _)] at this
      obtain ⟨a3, cap3, hv, hG⟩ := hS2.flts HF.out
      have hle := hS.le
      subst hv
      have hzr := hz1.later hS.below
      have B2 := B1.trans (hS.below.mono B1.size)
      clear hS2 hS
      subst hcn
      by_cases nx : NaN x
      · skip
        go_wp2_with fail
        refine (mean_any a j cap zs _ hm hzr).mono ?_
        rintro e w3 ⟨m1, hm1, fm1, rfl, c⟩
        have B3 := B2.trans (c.mono B2.size)
        have hG3 := hG.later c
        clear c B2
        go_wp2_with fail
        refine (mean_any a3 (good zs).length cap3 (good zs) _ (by omega) hG3).mono ?_
        rintro e w4 ⟨m2, hm2, fm2, rfl, c⟩
        rw [good_good] at hm2 ⊢
        have B4 := B3.trans (c.mono B3.size)
        clear c B3 hG3
        have HM := Lib.hid (cmp3_eq ((hm1.alik hm2).tk fm1 fm2))
        clear hm1 hm2
        go_wp2_with fail
        refine (mean_any _ 1 1 [x] _ (by omega) (flts1_new w4 x hx)).mono ?_
        rintro e w5 ⟨m3, hm3, fm3, rfl, c⟩
        have B5 := (B4.alloc B4.size (.cells #[.float .f64 x] 45)).trans (c.mono (by have := B4.size; simp; omega))
        clear c B4
        have n3 := mean_one_nan nx hm3
        have g1 : (FloatKind.f64.format.order m3 x == some .eq) = false := by rw [ordNanL fm3 n3]; rfl
        have g2 : (FloatKind.f64.format.order x x != some .eq) = true := by rw [nan_self hx, nanB_true nx]
        have g3 : (FloatKind.f64.format.order m3 m3 != some .eq) = true := by rw [nan_self fm3, nanB_true n3]
        clear n3 hm3
        go_wp2_with fail
        refine (blend_any x x k hx hx _).mono ?_
        rintro e w6 ⟨s, hs, fs, rfl, c⟩
        have B6 := B5.trans (c.mono B5.size)
        clear c B5
        have es := blend_same_nan nx hs
        have g4 : (FloatKind.f64.format.order s x == some .eq) = false := by rw [ordNanR hx nx]; rfl
        have g5 : (FloatKind.f64.format.order s s != some .eq) = true := by rw [es]; exact g2
        clear es hs
        have NX := Lib.hid nx
        clear nx
        go_wp2_with fail
        refine (of_any 0 0 _).mono ?_
        rintro e w7 ⟨z, hzz, fz, rfl, c⟩
        have B7 := B6.trans (c.mono B6.size)
        have NZ := Lib.hid ((hzz.ar (by omega)).none gv1)
        clear c B6 hzz
        go_wp2_with fail
        refine (order_any m1 m2 fm1 fm2 _).mono ?_
        rintro e w8 ⟨rfl, rfl⟩
        rw [HM.out]
        go_wp2_with fail
        refine (blend_any x z k hx fz _).mono ?_
        rintro e w8 ⟨p1, hp1, fp1, rfl, c⟩
        have B8 := B7.trans (c.mono B7.size)
        have P1 := Lib.hid (cmp3_eq (blend_none hx fz NZ.out hp1))
        clear c B7 hp1
        go_wp2_with fail
        refine (order_any p1 x fp1 hx _).mono ?_
        rintro e w9 ⟨rfl, rfl⟩
        rw [P1.out]
        go_wp2_with fail
        refine (blend_any z x k fz hx _).mono ?_
        rintro e w9 ⟨p2, hp2, fp2, rfl, c⟩
        have B9 := B8.trans (c.mono B8.size)
        have ep := none_blend NZ.out hp2
        clear c B8 hp2
        subst ep
        go_wp2_with fail
        refine (order_any p2 p2 fp2 fp2 _).mono ?_
        rintro e w10 ⟨rfl, rfl⟩
        rw [cmp3_eq rfl]
        go_wp2
        go_ret
        exact ⟨rfl, B9⟩
      · skip
        go_wp2_with fail
        refine (mean_any a j cap zs _ hm hzr).mono ?_
        rintro e w3 ⟨m1, hm1, fm1, rfl, c⟩
        have B3 := B2.trans (c.mono B2.size)
        have hG3 := hG.later c
        clear c B2
        go_wp2_with fail
        refine (mean_any a3 (good zs).length cap3 (good zs) _ (by omega) hG3).mono ?_
        rintro e w4 ⟨m2, hm2, fm2, rfl, c⟩
        rw [good_good] at hm2 ⊢
        have B4 := B3.trans (c.mono B3.size)
        clear c B3 hG3
        have HM := Lib.hid (cmp3_eq ((hm1.alik hm2).tk fm1 fm2))
        clear hm1 hm2
        go_wp2_with fail
        refine (mean_any _ 1 1 [x] _ (by omega) (flts1_new w4 x hx)).mono ?_
        rintro e w5 ⟨m3, hm3, fm3, rfl, c⟩
        have B5 := (B4.alloc B4.size (.cells #[.float .f64 x] 45)).trans (c.mono (by have := B4.size; simp; omega))
        clear c B4
        have g1 := mean_one hx nx hm3
        clear hm3
        go_wp2_with fail
        refine (blend_any x x k hx hx _).mono ?_
        rintro e w6 ⟨s, hs, fs, rfl, c⟩
        have B6 := B5.trans (c.mono B5.size)
        clear c B5
        have g4 := blend_self hx nx hk hs
        clear hs
        have NX := Lib.hid nx
        clear nx
        go_wp2_with fail
        refine (of_any 0 0 _).mono ?_
        rintro e w7 ⟨z, hzz, fz, rfl, c⟩
        have B7 := B6.trans (c.mono B6.size)
        have NZ := Lib.hid ((hzz.ar (by omega)).none gv1)
        clear c B6 hzz
        go_wp2_with fail
        refine (order_any m1 m2 fm1 fm2 _).mono ?_
        rintro e w8 ⟨rfl, rfl⟩
        rw [HM.out]
        go_wp2_with fail
        refine (blend_any x z k hx fz _).mono ?_
        rintro e w8 ⟨p1, hp1, fp1, rfl, c⟩
        have B8 := B7.trans (c.mono B7.size)
        have P1 := Lib.hid (cmp3_eq (blend_none hx fz NZ.out hp1))
        clear c B7 hp1
        go_wp2_with fail
        refine (order_any p1 x fp1 hx _).mono ?_
        rintro e w9 ⟨rfl, rfl⟩
        rw [P1.out]
        go_wp2_with fail
        refine (blend_any z x k fz hx _).mono ?_
        rintro e w9 ⟨p2, hp2, fp2, rfl, c⟩
        have B9 := B8.trans (c.mono B8.size)
        have ep := none_blend NZ.out hp2
        clear c B8 hp2
        subst ep
        go_wp2_with fail
        refine (order_any p2 p2 fp2 fp2 _).mono ?_
        rintro e w10 ⟨rfl, rfl⟩
        rw [cmp3_eq rfl]
        go_wp2
        go_ret
        exact ⟨rfl, B9⟩

theorem gaugeMeans_walk {w : World} (a : Option Addr) (len cap : Nat) (zs : List Nat) (hm : len ≤ 9223372036854775807) (hz : Flts w a len zs) (x : Nat) (wx : (Lit.float .f64 x).wf = true) (k : Int) (wk : (Lit.int .i64 k).wf = true) :
    Calls Try.prog 12 #[.slice a len cap, .float .f64 x, .int .i64 k] w fun e w' => e = .returned (.bool true) ∧ Below w.heap.size w w' :=
  walk w a len cap zs hm hz x (fit_of_wf wx) k (bounds_i64 wk).2
end Go.Proofs.Ytmhfbgcfagfmbaa.gaugeMeans
