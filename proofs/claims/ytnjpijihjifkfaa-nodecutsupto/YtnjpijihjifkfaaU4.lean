/- Contracts: Put of a branch; the reference's Put. -/
import Derived.Test.YtnjpijihjifkfaaU3
import Derived.Test.YtnjpijihjifkfaaTJ
namespace Go.Proofs.Ytnjpijihjifkfaa
open Go.RowKit
set_option linter.unusedVariables false
structure XAt (w : World) (g : Nat) (p q : ByteArray) : Prop where
  lt : g < w.heap.size
  c0 : w.cell? ⟨g, 0, none⟩ = some (.string p)
  c1 : w.cell? ⟨g, 1, none⟩ = some (.string q)
theorem XAt.below {w w1 : World} {g : Nat} {p q : ByteArray} (h : XAt w g p q) (B : Below w.heap.size w w1) : XAt w1 g p q :=
  ⟨Nat.lt_of_lt_of_le h.lt B.size, (B.cell (p := ⟨g, 0, none⟩) h.lt).trans h.c0, (B.cell (p := ⟨g, 1, none⟩) h.lt).trans h.c1⟩
theorem filt_succ (f : It → Bool) (I : List It) (k : Nat) (h : k < I.length) : (I.take (k + 1)).filter f = (I.take k).filter f ++ (if f (kq I k, vq I k) then [(kq I k, vq I k)] else []) := by
  rw [List.take_succ_eq_append_getElem h, List.filter_append, kv_at I k h]
  simp [List.filter_cons]
theorem filt_len (f : It → Bool) (I : List It) (k : Nat) : ((I.take k).filter f).length ≤ k := by
  have := List.length_filter_le f (I.take k)
  rw [List.length_take] at this; omega
theorem own_quiet {w : World} {base T sz n m : Nat} {v : Value} {xs : List Value} {o : Obj} (h : w.ownsRow base T sz v n xs) : ((w.drewN m).alloc o).ownsRow base T sz v n xs :=
  own_below (own_below h (below_drewN w m)) (new_below _ o)
theorem its_one (w : World) (p q : ByteArray) (T : TypeId) : Its (w.alloc (.cells #[.string p, .string q] T)) (some ⟨w.heap.size, 0, none⟩) 1 [(p, q)] :=
  ⟨rfl, .inr ⟨w.heap.size, 0, rfl, by simp, fun j hj => by
    obtain rfl : j = 0 := by omega
    exact ⟨by simp [go_sem, kq], by simp [go_sem, vq]⟩⟩⟩
theorem one_cells (w : World) (p q : ByteArray) (T : TypeId) : ∀ j u, (flatI [(p, q)])[j]? = some u → (w.alloc (.cells #[.string p, .string q] T)).cell? ((⟨w.heap.size, 0, none⟩ : Addr).add j) = some u :=
  flat_cells (n := 1) rfl (fun j hj => by
    obtain rfl : j = 0 := by omega
    exact ⟨by simp [go_sem, kq], by simp [go_sem, vq]⟩)
section
variable {w : World} {a : Option Addr} {n c : Nat} {ka : Option Addr} {kn kc : Nat} {I : List It} {K : List Int}
set_option maxRecDepth 100000 in
set_option maxHeartbeats 1000000 in
theorem putBranch_any (p q : ByteArray) (hI : Its w a n I) (hK : Kds w ka kn K) (hn : n ≤ 4096) (hkn : kn ≤ 4096) (hz : 0 < kn) :
    Calls Try.prog 26 #[.agg #[.slice a n c, .slice ka kn kc], .agg #[.string p, .string q]] w (NdRet w I K) := by
  have N0 := ((Nd.new w a n c ka kn kc 31).below (new_below _ (.cells #[.string p, .string q] 44))).below (new_below _ (.cells #[.slice none 0 0, .slice none 0 0] 31))
  have N2 := Nb.fresh ((w.alloc (.cells #[.slice a n c, .slice ka kn kc] 31)).alloc (.cells #[.string p, .string q] 44)) (.slice none 0 0) (.slice none 0 0) 31
  have hs2 : ((w.alloc (.cells #[.slice a n c, .slice ka kn kc] 31)).alloc (.cells #[.string p, .string q] 44)).heap.size = w.heap.size + 1 + 1 := by simp
  rw [hs2] at N2
  have hBB := below_to (below_to (new_below w (.cells #[.slice a n c, .slice ka kn kc] 31)) (new_below _ (.cells #[.string p, .string q] 44))) (new_below _ (.cells #[.slice none 0 0, .slice none 0 0] 31))
  have KL := Lib.hid (fun w => isLeaf_no a n c ka kn kc hz w)
  have KC := Lib.hid (fun (w1 : World) (B : Below w.heap.size w w1) => cloneN_any (c := c) (kc := kc) (hI.below B) (hK.below B) hn hkn)
  unfold NdRet at KC
  clear hI hK hs2
  go_enter Try.func26, Try.ntmps26
  go_wp2_with fail
  generalize ((w.alloc (.cells #[.slice a n c, .slice ka kn kc] 31)).alloc (.cells #[.string p, .string q] 44)).alloc (.cells #[.slice none 0 0, .slice none 0 0] 31) = w1 at N0 N2 hBB ⊢
  refine (KL.out _).mono ?_
  rintro e w2 ⟨rfl, hb⟩
  replace N0 := N0.below hb
  replace N2 := N2.below hb
  replace hBB := below_to hBB hb
  clear hb
  have c0 := N0.c0
  have c1 := N0.c1
  go_wp2_with fail
  refine (KC.out _ hBB).mono ?_
  rintro e w3 ⟨a1, m1, c1', a2, m2, c2', rfl, hac, had, hfa, hfb, hIt, hKt, hb⟩
  have hsz : w.heap.size + 1 + 1 < w2.heap.size := N2.lt
  have hsz0 := hBB.size
  replace N2 := N2.below hb
  replace hBB := below_to hBB hb
  clear hb c0 c1 N0
  have y0 := N2.c0
  have y1 := N2.c1
  have z0 := N2.f0
  have z1 := N2.f1
  have M := (N2.set0 (.slice a1 m1 c1')).set1 (.slice a2 m2 c2')
  have m0 := M.c0
  have m1' := M.c1
  have HI := Lib.hid ((hIt.set (g := w.heap.size + 1 + 1) (o := 0) (x := .slice a1 m1 c1') hfa hsz).set (g := w.heap.size + 1 + 1) (o := 1) (x := .slice a2 m2 c2') hfa hsz)
  have HK := Lib.hid ((hKt.set (g := w.heap.size + 1 + 1) (o := 0) (x := .slice a1 m1 c1') hfb hsz).set (g := w.heap.size + 1 + 1) (o := 1) (x := .slice a2 m2 c2') hfb hsz)
  have HB := Lib.hid ((hBB.setCell (p := ⟨w.heap.size + 1 + 1, 0, none⟩) (by show w.heap.size ≤ w.heap.size + 1 + 1; omega) (.slice a1 m1 c1')).setCell (p := ⟨w.heap.size + 1 + 1, 1, none⟩) (by show w.heap.size ≤ w.heap.size + 1 + 1; omega) (.slice a2 m2 c2'))
  have HFA := Lib.hid (hfa.mono hsz0)
  have HFB := Lib.hid (hfb.mono hsz0)
  clear hIt hKt hfa hfb hBB M N2
  go_wp2_with fail
  refine bodyPost_ret (v := .agg #[.slice a1 m1 c1', .slice a2 m2 c2']) (by simp [results, Try.results26, go_sem, m0, m1']) rfl ?_
  exact ⟨a1, m1, c1', a2, m2, c2', rfl, hac, had, HFA.out, HFB.out, HI.out, HK.out, HB.out⟩
set_option maxRecDepth 100000 in
set_option maxHeartbeats 1000000 in
theorem rputBranch_any (p q : ByteArray) (hz : 0 < kn) (w : World) :
    Calls Try.prog 27 #[.agg #[.slice a n c, .slice ka kn kc], .agg #[.string p, .string q]] w fun e w' => e = .returned (.agg #[.slice a n c, .slice ka kn kc]) ∧ Below w.heap.size w w' := by
  have hB := below_to (below_to (new_below w (.cells #[.slice a n c, .slice ka kn kc] 25)) (new_below _ (.cells #[.string p, .string q] 44))) (new_below _ (.cells #[.slice a n c, .slice ka kn kc] 25))
  have HB := Lib.hid hB
  clear hB
  go_enter Try.func27, Try.ntmps27
  go_wp2_with fail
  refine bodyPost_ret (v := .agg #[.slice a n c, .slice ka kn kc]) (by simp [results, Try.results27, go_sem]) rfl ?_
  exact ⟨rfl, HB.out⟩
theorem own_qq {w : World} {base T sz n m : Nat} {v : Value} {xs : List Value} (h : w.ownsRow base T sz v n xs) : (w.drewN m).ownsRow base T sz v n xs := own_below h (below_drewN w m)
set_option maxRecDepth 100000 in
set_option maxHeartbeats 4000000 in
theorem rput_any (xp xq : ByteArray) (hI : Its w a n I) (hn : n ≤ 2000) :
    Calls Try.prog 27 #[.agg #[.slice a n c, .slice ka 0 kc], .agg #[.string xp, .string xq]] w fun e w' => ∃ a' n' c', e = .returned (.agg #[.slice a' n' c', .slice none 0 0]) ∧ n' ≤ c' ∧ Its w' a' n' (putL I (xp, xq)) ∧ Below w.heap.size w w' := by
  obtain ⟨i0, hi0, hz0, hz1, hz2⟩ := info_parts info44
  have N0 := ((Nd.new w a n c ka 0 kc 25).below (new_below _ (.cells #[.string xp, .string xq] 44))).below (new_below _ (.cells #[.slice none 0 0, .slice none 0 0] 25))
  have X0 : XAt ((w.alloc (.cells #[.slice a n c, .slice ka 0 kc] 25)).alloc (.cells #[.string xp, .string xq] 44)) (w.heap.size + 1) xp xq := ⟨by simp, by simp [go_sem], by simp [go_sem]⟩
  have X1 := X0.below (new_below _ (.cells #[.slice none 0 0, .slice none 0 0] 25))
  have N2 := Nb.fresh ((w.alloc (.cells #[.slice a n c, .slice ka 0 kc] 25)).alloc (.cells #[.string xp, .string xq] 44)) (.slice none 0 0) (.slice none 0 0) 25
  have hs2 : ((w.alloc (.cells #[.slice a n c, .slice ka 0 kc] 25)).alloc (.cells #[.string xp, .string xq] 44)).heap.size = w.heap.size + 1 + 1 := by simp
  rw [hs2] at N2
  have hBB := below_to (below_to (new_below w (.cells #[.slice a n c, .slice ka 0 kc] 25)) (new_below _ (.cells #[.string xp, .string xq] 44))) (new_below _ (.cells #[.slice none 0 0, .slice none 0 0] 25))
  have HL := Lib.hid hI.1
  have hI1 := hI.below hBB
  clear hs2 X0 hI
  go_enter Try.func27, Try.ntmps27
  have hcz : (0 : Int) = 0 := rfl
  go_upto_region 3 with (fail)
  generalize ((w.alloc (.cells #[.slice a n c, .slice ka 0 kc] 25)).alloc (.cells #[.string xp, .string xq] 44)).alloc (.cells #[.slice none 0 0, .slice none 0 0] 25) = w1 at N0 X1 N2 hBB hI1 ⊢
  have HN := Lib.hid N0
  have HX := Lib.hid X1
  have HI := Lib.hid hI1
  have H2 := Lib.hid N2
  have HBB := Lib.hid hBB
  have own0 := own_full w1 #[] 0 2 w1.heap.size 44 (Nat.le_refl _) (Nat.zero_le _) rfl
  clear N0 X1 N2 hBB hI1
  go_wp2_with fail
  go_loopw [5, 6] (fun v i wx => ∃ (k : Nat) (L : List It) (t : Nat), k ≤ n ∧ Hid (0 + L.length = t) ∧ t ≤ k ∧ Hid ((I.take k).filter (fun y : It => ltB y.1 xp) = L) ∧ wx.ownsRow w1.heap.size 44 2 v t (flatI L) ∧ Below w1.heap.size w1 wx ∧ i = .int .i64 (k : Int)) (fun _ i _ => n - (intOf i).toNat)
  case atStart => exact ⟨0, [], 0, by omega, Lib.hid rfl, by omega, Lib.hid rfl, own0, new_below _ _, rfl⟩
  case round =>
    obtain ⟨k, L, t, hk, HT, ht, HF, hown, hB, rfl⟩ := hrel
    have c0 := (HN.out.below hB).c0
    have d0 := (HX.out.below hB).c0
    by_cases hlt : k < n
    · obtain ⟨g, off, rfl, hg, e0, e1⟩ := (HI.out.below hB).at hlt
      have hkl : k < I.length := by rw [HL.out]; exact hlt
      have hst := filt_succ (fun y : It => ltB y.1 xp) I k hkl
      rw [HF.out] at hst
      obtain ⟨p, hp⟩ : ∃ p, kq I k = p := ⟨_, rfl⟩
      obtain ⟨q, hq⟩ : ∃ q, vq I k = q := ⟨_, rfl⟩
      rw [hp] at e0 hst
      rw [hq] at e1 hst
      clear hp hq
      obtain ⟨z, hz⟩ : ∃ z, ltB p xp = z := ⟨_, rfl⟩
      have hz2 : Op.bytesLess p.toList xp.toList = z := by rw [ByteArray.toList_eq, ByteArray.toList_eq]; exact hz
      cases z with
      | false =>
        have HF2 := Lib.hid (show (I.take (k + 1)).filter (fun y : It => ltB y.1 xp) = L by rw [hst, if_neg (by show ¬ ltB (p, q).1 xp = true; rw [show ltB (p, q).1 xp = false from hz]; decide)]; simp)
        clear hst hz
        go_wp2_with fail
        go_quiet (fail)
        go_wp2_with fail
        go_roundw
        case rel => exact ⟨k + 1, L, t, by omega, HT, by omega, HF2, own_qq hown, below_to hB (below_drewN _ _), by go_num⟩
        case measure => simp [intOf]; omega
      | true =>
        have HF2 := Lib.hid (show (I.take (k + 1)).filter (fun y : It => ltB y.1 xp) = L ++ [(p, q)] by rw [hst, if_pos (show ltB (p, q).1 xp = true from hz)])
        clear hst hz
        go_wp2_with fail
        go_quiet (fail)
        obtain ⟨v', w2, hrun, hown2, hgrow⟩ := appI_any ((wr.drewN nq).alloc (.cells #[.string p, .string q] 44)) w1.heap.size u5 t (flatI L) (some ⟨wr.heap.size, 0, none⟩) 1 1 [(p, q)] (own_quiet hown) (its_one (wr.drewN nq) p q 44) (by have := hB.size; simp; omega) (by omega)
        have hB2 := (below_to (below_to hB (below_drewN wr nq)) (new_below _ (.cells #[.string p, .string q] 44))).grown hgrow (by have := hB.size; simp; omega) (fun j hj => (hown.lt j hj).1)
        go_wp2_with (at_builtin; refine wpList_append_run _ rfl _ _ 22 22 rfl _ _ rfl rfl hrun ?_)
        have HO := Lib.hid hown2
        have HB2 := Lib.hid hB2
        have HT2 := Lib.hid (show 0 + (L ++ [(p, q)]).length = t + 1 by have := HT.out; simp; omega)
        clear hown2 hgrow hB2 hown hB c0 d0 e0 e1 hrun
        go_wp2_with fail
        go_roundw
        case rel => exact ⟨k + 1, L ++ [(p, q)], t + 1, by omega, HT2, by omega, HF2, by rw [flatI_app]; exact HO.out, HB2.out, by go_num⟩
        case measure => simp [intOf]; omega
    · obtain rfl : k = n := by omega
      have hI2 : I.take k = I := List.take_of_length_le (by rw [HL.out]; exact Nat.le_refl _)
      have HF0 := Lib.hid (show I.filter (fun y : It => ltB y.1 xp) = L by rw [← HF.out, hI2])
      have d1 := (HX.out.below hB).c1
      clear hI2 own0
      obtain ⟨v', w2, hrun, hown2, hgrow⟩ := appI_any (wr.alloc (.cells #[.string xp, .string xq] 44)) w1.heap.size u5 t (flatI L) (some ⟨wr.heap.size, 0, none⟩) 1 1 [(xp, xq)] (own_below hown (new_below _ _)) (its_one wr xp xq 44) (by have := hB.size; simp; omega) (by omega)
      have hB2 := (below_to hB (new_below _ (.cells #[.string xp, .string xq] 44))).grown hgrow (by have := hB.size; simp; omega) (fun j hj => (hown.lt j hj).1)
      go_wp2_with (at_builtin; refine wpList_append_run _ rfl _ _ 22 22 rfl _ _ rfl rfl hrun ?_)
      obtain ⟨t0, ht0⟩ : ∃ t0, t + 1 = t0 := ⟨_, rfl⟩
      obtain ⟨L1, hL1⟩ : ∃ L1, L ++ [(xp, xq)] = L1 := ⟨_, rfl⟩
      rw [ht0, ← flatI_app, hL1] at hown2
      have hlen : t0 ≤ 2001 := by omega
      have HL1 := Lib.hid (show I.filter (fun y : It => ltB y.1 xp) ++ [(xp, xq)] = L1 by rw [HF0.out, hL1])
      clear hgrow hown hB c0 d0 d1 hL1 HT HF HF0 ht hrun
      go_wp2_with fail
      go_loopw [5, 7] (fun v i wx => ∃ (m : Nat) (L : List It) (t : Nat), m ≤ k ∧ Hid (t0 + L.length = t) ∧ t ≤ t0 + m ∧ Hid ((I.take m).filter (fun y : It => ltB xp y.1) = L) ∧ wx.ownsRow w1.heap.size 44 2 v t (flatI (L1 ++ L)) ∧ Below w1.heap.size w1 wx ∧ i = .int .i64 (m : Int)) (fun _ i _ => k - (intOf i).toNat)
      case atStart => exact ⟨0, [], t0, by omega, Lib.hid rfl, by omega, Lib.hid rfl, by simpa using hown2, hB2, rfl⟩
      case round =>
        obtain ⟨m, L, t, hk, HT, ht, HF, hown, hB, rfl⟩ := hrel
        have c0 := (HN.out.below hB).c0
        have d0 := (HX.out.below hB).c0
        by_cases hlt : m < k
        · obtain ⟨g, off, rfl, hg, e0, e1⟩ := (HI.out.below hB).at hlt
          have hkl : m < I.length := by rw [HL.out]; exact hlt
          have hst := filt_succ (fun y : It => ltB xp y.1) I m hkl
          rw [HF.out] at hst
          obtain ⟨p, hp⟩ : ∃ p, kq I m = p := ⟨_, rfl⟩
          obtain ⟨q, hq⟩ : ∃ q, vq I m = q := ⟨_, rfl⟩
          rw [hp] at e0 hst
          rw [hq] at e1 hst
          clear hp hq
          obtain ⟨z, hz⟩ : ∃ z, ltB xp p = z := ⟨_, rfl⟩
          have hz2 : (!(Op.bytesLess p.toList xp.toList || p.toList == xp.toList)) = z := by rw [gt_eq]; exact hz
          cases z with
          | false =>
            have HF2 := Lib.hid (show (I.take (m + 1)).filter (fun y : It => ltB xp y.1) = L by rw [hst, if_neg (by show ¬ ltB xp (p, q).1 = true; rw [show ltB xp (p, q).1 = false from hz]; decide)]; simp)
            clear hst hz
            go_wp2_with fail
            go_quiet (fail)
            go_wp2_with fail
            go_roundw
            case rel => exact ⟨m + 1, L, t, by omega, HT, by omega, HF2, own_qq hown, below_to hB (below_drewN _ _), by go_num⟩
            case measure => simp [intOf]; omega
          | true =>
            have HF2 := Lib.hid (show (I.take (m + 1)).filter (fun y : It => ltB xp y.1) = L ++ [(p, q)] by rw [hst, if_pos (show ltB xp (p, q).1 = true from hz)])
            clear hst hz
            go_wp2_with fail
            go_quiet (fail)
            obtain ⟨v', w2, hrun, hown2, hgrow⟩ := appI_any ((wr.drewN nq).alloc (.cells #[.string p, .string q] 44)) w1.heap.size u5 t (flatI (L1 ++ L)) (some ⟨wr.heap.size, 0, none⟩) 1 1 [(p, q)] (own_quiet hown) (its_one (wr.drewN nq) p q 44) (by have := hB.size; simp; omega) (by omega)
            have hB2 := (below_to (below_to hB (below_drewN wr nq)) (new_below _ (.cells #[.string p, .string q] 44))).grown hgrow (by have := hB.size; simp; omega) (fun j hj => (hown.lt j hj).1)
            go_wp2_with (at_builtin; refine wpList_append_run _ rfl _ _ 22 22 rfl _ _ rfl rfl hrun ?_)
            have HO := Lib.hid hown2
            have HB2 := Lib.hid hB2
            have HT2 := Lib.hid (show t0 + (L ++ [(p, q)]).length = t + 1 by have := HT.out; simp; omega)
            clear hown2 hgrow hB2 hown hB c0 d0 e0 e1 hrun
            go_wp2_with fail
            go_roundw
            case rel => exact ⟨m + 1, L ++ [(p, q)], t + 1, by omega, HT2, by omega, HF2, by rw [← List.append_assoc, flatI_app]; exact HO.out, HB2.out, by go_num⟩
            case measure => simp [intOf]; omega
        · obtain rfl : m = k := by omega
          have hI2 : I.take m = I := List.take_of_length_le (by rw [HL.out]; exact Nat.le_refl _)
          have HP := Lib.hid (show L1 ++ L = putL I (xp, xq) by rw [← HL1.out, ← HF.out, hI2]; rfl)
          rw [HP.out] at hown
          obtain ⟨a2, c2, hv, hac, hIt⟩ := its_of_own hown
          subst hv
          have hfr := own_fresh (h := w1.heap.size) hown (Nat.le_refl _)
          have N2 := H2.out.below hB
          have hg2 : w.heap.size + 1 + 1 < w1.heap.size := H2.out.lt
          have y0 := N2.c0
          have y1 := N2.c1
          have z0 := N2.f0
          have z1 := N2.f1
          have M := (N2.set0 (.slice a2 t c2)).set1 (.slice none 0 0)
          have m0 := M.c0
          have m1 := M.c1
          have HIt := Lib.hid ((hIt.set (g := w.heap.size + 1 + 1) (o := 0) (x := .slice a2 t c2) hfr hg2).set (g := w.heap.size + 1 + 1) (o := 1) (x := .slice none 0 0) hfr hg2)
          have HBf := Lib.hid (((HBB.out.trans (hB.mono HBB.out.size)).setCell (p := ⟨w.heap.size + 1 + 1, 0, none⟩) (by show w.heap.size ≤ w.heap.size + 1 + 1; omega) (.slice a2 t c2)).setCell (p := ⟨w.heap.size + 1 + 1, 1, none⟩) (by show w.heap.size ≤ w.heap.size + 1 + 1; omega) (.slice none 0 0))
          clear hown hIt hfr hB M N2 hI2 hown2 hB2 d0
          go_wp2_with fail
          refine bodyPost_ret (v := .agg #[.slice a2 t c2, .slice none 0 0]) (by simp [results, Try.results27, go_sem, m0, m1]) rfl ?_
          exact ⟨a2, t, c2, rfl, hac, HIt.out, HBf.out⟩
end
end Go.Proofs.Ytnjpijihjifkfaa
