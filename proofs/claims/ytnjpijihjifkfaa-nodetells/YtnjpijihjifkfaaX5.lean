/- Contracts: the reference's Decode of what is no branch. -/
import Derived.Test.YtnjpijihjifkfaaX4
namespace Go.Proofs.Ytnjpijihjifkfaa
open Go.RowKit
set_option maxRecDepth 100000
set_option linter.unusedVariables false
set_option linter.unusedSimpArgs false
set_option maxHeartbeats 8000000
theorem rdecLeaf (s : ByteArray) (hs : s.size ≤ maxLen) (w : World) (hw2 : True) {t1 : ByteArray} {y1 : Int} {kd : Nat} {t2 : ByteArray} {y2 : Int} {many : Nat} (h1 : numS s 0 1 = (t1, y1, kd)) (h2 : numS t1 y1 1 = (t2, y2, many)) (hkd : ¬ kd = 2)
    (L0 : List It) (M0 : List Int) (hLM : readR s = (L0, M0)) (L : List It) (K : List Int) (y : Int) (hd : decQ s (L0, M0) = ((L, K), y)) (hsmall : L0.length ≤ 256 ∧ M0.length ≤ 256 ∧ Tiny L0) :
    Calls Try.prog 13 #[.string s] w (DecRet w L K y) := by
  have hk256 : kd < 256 := by have := numS1_lt s 0; rw [h1] at this; exact this
  have hm256 : many < 256 := by have := numS1_lt t1 y1; rw [h2] at this; exact this
  have hs1 : t1.size ≤ maxLen := by have := numS_le s 0 1; rw [h1] at this; exact Nat.le_trans this hs
  have hs2 : t2.size ≤ maxLen := by have := numS_le t1 y1 1; rw [h2] at this; exact Nat.le_trans this hs1
  have hRR : readR s = (rdLeaf many t2 y2, []) := by unfold readR; rw [h1]; simp only; rw [h2]; simp only; rw [if_neg hkd]
  have HRD := Lib.hid (show rdLeaf many t2 y2 = L0 by rw [hRR] at hLM; exact (Prod.mk.inj hLM).1)
  have HM0 := Lib.hid (show M0 = [] by rw [hRR] at hLM; exact (Prod.mk.inj hLM).2.symm)
  have hkb : ((kd : Int) == 2) = false := by simp; omega
  clear hRR
  have K1 := Lib.hid (rn_at s hs 0 1 h1)
  have K2 := Lib.hid (rn_at t1 hs1 y1 1 h2)
  have HS2 := Lib.hid hs2
  have HD := Lib.hid hd
  have HSM := Lib.hid hsmall
  obtain ⟨tt, yy, he⟩ : ∃ t y, encR L0 M0 = (t, y) := ⟨_, _, rfl⟩
  have HE := Lib.hid he
  have N2 := Nb.fresh w (.slice none 0 0) (.slice none 0 0) 25
  have BB := new_below w (.cells #[.slice none 0 0, .slice none 0 0] 25)
  clear hd he hsmall hs hs1 hs2 h1 h2 hLM
  go_enter Try.func13, Try.ntmps13
  go_wp2_with fail
  refine (K1.out _).mono ?_
  rintro e1 w1 ⟨rfl, hb⟩
  replace N2 := N2.below hb
  replace BB := below_to BB hb
  have hg4 := N2.lt
  clear hb
  go_upto_region 2 with (fail)
  have R := Nb.fresh w1 (.string t1) (.int .i64 y1) 70
  replace N2 := N2.below (new_below w1 (.cells #[.string t1, .int .i64 y1] 70))
  replace BB := below_to BB (new_below w1 (.cells #[.string t1, .int .i64 y1] 70))
  generalize w1.alloc (.cells #[.string t1, .int .i64 y1] 70) = w2 at R N2 BB ⊢
  generalize w1.heap.size = g4 at R hg4 ⊢
  have c0 := R.c0
  have c1 := R.c1
  go_wp2_with fail
  refine (K2.out _).mono ?_
  rintro e2 w3 ⟨rfl, hb⟩
  replace R := R.below hb
  replace N2 := N2.below hb
  replace BB := below_to BB hb
  clear hb c0 c1
  have c0 := R.c0
  have c1 := R.c1
  have f0 := R.f0
  have f1 := R.f1
  go_upto_region 3 with (fail)
  clear c0 c1 f0 f1
  replace R := (R.set0 (.string t2)).set1 (.int .i64 y2)
  replace N2 := (N2.set_far (k := g4) (o := 0) (.string t2) (by omega)).set_far (k := g4) (o := 1) (.int .i64 y2) (by omega)
  replace BB := (BB.setCell (p := ⟨g4, 0, none⟩) (by show w.heap.size ≤ g4; omega) (.string t2)).setCell (p := ⟨g4, 1, none⟩) (by show w.heap.size ≤ g4; omega) (.int .i64 y2)
  generalize (w3.setCell ⟨g4, 0, none⟩ (.string t2)).setCell ⟨g4, 1, none⟩ (.int .i64 y2) = w4 at R N2 BB ⊢
  go_upto_region 4 with (fail)
  have N7 := Nb.fresh w4 (.slice none 0 0) (.slice none 0 0) 25
  have hg7 := R.lt
  replace R := R.below (new_below w4 (.cells #[.slice none 0 0, .slice none 0 0] 25))
  replace N2 := N2.below (new_below w4 (.cells #[.slice none 0 0, .slice none 0 0] 25))
  replace BB := below_to BB (new_below w4 (.cells #[.slice none 0 0, .slice none 0 0] 25))
  generalize w4.alloc (.cells #[.slice none 0 0, .slice none 0 0] 25) = w5 at R N2 N7 BB ⊢
  generalize w4.heap.size = g7 at N7 hg7 ⊢
  obtain ⟨base, hbase⟩ : ∃ b, g7 + 1 = b := ⟨_, rfl⟩
  have hb7 : g7 < base := by omega
  have hbw : base ≤ w5.heap.size := by have := N7.lt; omega
  have own := World.ownsRow_nil w5 base 44 2
  go_wp2_with fail
  go_loopw [11] (fun i wx => ∃ (k : Nat) (t : ByteArray) (y : Int) (L : List It) (v : Value), k ≤ many ∧ Hid (L ++ rdLeaf (many - k) t y = L0) ∧ Hid (t.size ≤ maxLen) ∧ Nb wx g4 (.string t) (.int .i64 y) ∧ wx.ownsRow base 44 2 v k (flatI L) ∧ Nb wx w.heap.size (.slice none 0 0) (.slice none 0 0) ∧ Nb wx g7 v (.slice none 0 0) ∧ Below w.heap.size w wx ∧ base ≤ wx.heap.size ∧ i = .int .u64 (k : Int)) (fun i _ => many - (intOf i).toNat)
  case atStart => exact ⟨0, t2, y2, [], .slice none 0 0, by omega, Lib.hid (by rw [List.nil_append, Nat.sub_zero]; exact HRD.out), HS2, R, own, N2, N7, BB, hbw, rfl⟩
  case round =>
    clear R own N2 N7 BB hbw
    obtain ⟨k, t, y', L1, v, hk, HL, HTS, R, own, N2, N7, BB, hbw, rfl⟩ := hrel
    by_cases hlt : k < many
    · obtain ⟨ta, ya, p, h1⟩ : ∃ t1 y1 p, shortS t y' = (t1, y1, p) := ⟨_, _, _, rfl⟩
      obtain ⟨tb, yb, q, h2⟩ : ∃ t2 y2 q, shortS ta ya = (t2, y2, q) := ⟨_, _, _, rfl⟩
      have hl1 := shortS_le t y'
      rw [h1] at hl1
      have hl2 := shortS_le ta ya
      rw [h2] at hl2
      have hts1 := Nat.le_trans hl1 HTS.out
      have HTS2 := Lib.hid (Nat.le_trans hl2 hts1)
      have HL2 := Lib.hid (show (L1 ++ [(p, q)]) ++ rdLeaf (many - (k + 1)) tb yb = L0 by
        rw [← HL.out, show many - k = (many - (k + 1)) + 1 by omega, rdLeaf_succ _ _ _ _ _ _ _ _ _ h1 h2, List.append_assoc]; rfl)
      have KT1 := Lib.hid (rtext_any t y' h1 HTS.out)
      have KT2 := Lib.hid (rtext_any ta ya h2 hts1)
      clear h1 h2 hl1 hl2 hts1
      have X := Nb.fresh wr (.string ⟨#[]⟩) (.string ⟨#[]⟩) 44
      obtain ⟨gi, hgi⟩ : ∃ g, wr.heap.size = g := ⟨_, rfl⟩
      have h4i : g4 < gi := by rw [← hgi]; exact R.lt
      have h7i : g7 < gi := by rw [← hgi]; exact N7.lt
      have h2i : w.heap.size < gi := by rw [← hgi]; exact N2.lt
      have hbi : base ≤ gi := by omega
      have hne : v.ownBlock ≠ some gi := fun e => by have := (own.lt gi e).2; omega
      rw [hgi] at X
      replace R := R.below (new_below wr (.cells #[.string ⟨#[]⟩, .string ⟨#[]⟩] 44))
      replace N2 := N2.below (new_below wr (.cells #[.string ⟨#[]⟩, .string ⟨#[]⟩] 44))
      replace N7 := N7.below (new_below wr (.cells #[.string ⟨#[]⟩, .string ⟨#[]⟩] 44))
      replace own := own_below own (new_below wr (.cells #[.string ⟨#[]⟩, .string ⟨#[]⟩] 44))
      replace BB := below_to BB (new_below wr (.cells #[.string ⟨#[]⟩, .string ⟨#[]⟩] 44))
      replace hbw := Nat.le_trans hbw (new_below wr (.cells #[.string ⟨#[]⟩, .string ⟨#[]⟩] 44)).size
      go_upto_region 19 with (fail)
      try rw [hgi]
      generalize wr.alloc (.cells #[.string ⟨#[]⟩, .string ⟨#[]⟩] 44) = wa at X R N2 N7 own BB hbw ⊢
      clear hgi
      have c0 := R.c0
      have c1 := R.c1
      go_wp2_with fail
      refine (KT1.out _).mono ?_
      rintro e3 wb ⟨rfl, hb⟩
      replace R := R.below hb
      replace N2 := N2.below hb
      replace N7 := N7.below hb
      replace X := X.below hb
      replace own := own_below own hb
      replace BB := below_to BB hb
      replace hbw := Nat.le_trans hbw hb.size
      clear hb c0 c1 KT1
      have c0 := R.c0
      have c1 := R.c1
      have f0 := R.f0
      have f1 := R.f1
      have x0 := X.c0
      have x1 := X.f0
      have q4i : ¬ gi = g4 := by omega
      have q4j : ¬ g4 = gi := by omega
      go_upto_region 20 with (fail)
      clear c0 c1 f0 f1 x0 x1
      replace R := ((R.set0 (.string ta)).set1 (.int .i64 ya)).set_far (k := gi) (o := 0) (.string p) (by omega)
      replace X := ((X.set_far (k := g4) (o := 0) (.string ta) (by omega)).set_far (k := g4) (o := 1) (.int .i64 ya) (by omega)).set0 (.string p)
      replace N2 := ((N2.set_far (k := g4) (o := 0) (.string ta) (by omega)).set_far (k := g4) (o := 1) (.int .i64 ya) (by omega)).set_far (k := gi) (o := 0) (.string p) (by omega)
      replace N7 := ((N7.set_far (k := g4) (o := 0) (.string ta) (by omega)).set_far (k := g4) (o := 1) (.int .i64 ya) (by omega)).set_far (k := gi) (o := 0) (.string p) (by omega)
      replace own := own_setn (g := gi) (o := 0) (x := .string p) (own_set (g := g4) (o := 1) (x := .int .i64 ya) (own_set (g := g4) (o := 0) (x := .string ta) own (by omega)) (by omega)) hne
      replace BB := ((BB.setCell (p := ⟨g4, 0, none⟩) (by show w.heap.size ≤ g4; omega) (.string ta)).setCell (p := ⟨g4, 1, none⟩) (by show w.heap.size ≤ g4; omega) (.int .i64 ya)).setCell (p := ⟨gi, 0, none⟩) (by show w.heap.size ≤ gi; omega) (.string p)
      replace hbw : base ≤ (((wb.setCell ⟨g4, 0, none⟩ (.string ta)).setCell ⟨g4, 1, none⟩ (.int .i64 ya)).setCell ⟨gi, 0, none⟩ (.string p)).heap.size := by simpa using hbw
      generalize ((wb.setCell ⟨g4, 0, none⟩ (.string ta)).setCell ⟨g4, 1, none⟩ (.int .i64 ya)).setCell ⟨gi, 0, none⟩ (.string p) = wbs at R X N2 N7 own BB hbw ⊢
      have c0 := R.c0
      have c1 := R.c1
      go_wp2_with fail
      refine (KT2.out _).mono ?_
      rintro e4 wd ⟨rfl, hb⟩
      replace R := R.below hb
      replace N2 := N2.below hb
      replace N7 := N7.below hb
      replace X := X.below hb
      replace own := own_below own hb
      replace BB := below_to BB hb
      replace hbw := Nat.le_trans hbw hb.size
      clear hb c0 c1 KT2
      have c0 := R.c0
      have c1 := R.c1
      have f0 := R.f0
      have f1 := R.f1
      have x0 := X.c1
      have x1 := X.f1
      go_upto_region 21 with (fail)
      clear c0 c1 f0 f1 x0 x1
      replace R := ((R.set0 (.string tb)).set1 (.int .i64 yb)).set_far (k := gi) (o := 1) (.string q) (by omega)
      replace X := ((X.set_far (k := g4) (o := 0) (.string tb) (by omega)).set_far (k := g4) (o := 1) (.int .i64 yb) (by omega)).set1 (.string q)
      replace N2 := ((N2.set_far (k := g4) (o := 0) (.string tb) (by omega)).set_far (k := g4) (o := 1) (.int .i64 yb) (by omega)).set_far (k := gi) (o := 1) (.string q) (by omega)
      replace N7 := ((N7.set_far (k := g4) (o := 0) (.string tb) (by omega)).set_far (k := g4) (o := 1) (.int .i64 yb) (by omega)).set_far (k := gi) (o := 1) (.string q) (by omega)
      replace own := own_setn (g := gi) (o := 1) (x := .string q) (own_set (g := g4) (o := 1) (x := .int .i64 yb) (own_set (g := g4) (o := 0) (x := .string tb) own (by omega)) (by omega)) hne
      replace BB := ((BB.setCell (p := ⟨g4, 0, none⟩) (by show w.heap.size ≤ g4; omega) (.string tb)).setCell (p := ⟨g4, 1, none⟩) (by show w.heap.size ≤ g4; omega) (.int .i64 yb)).setCell (p := ⟨gi, 1, none⟩) (by show w.heap.size ≤ gi; omega) (.string q)
      replace hbw : base ≤ (((wd.setCell ⟨g4, 0, none⟩ (.string tb)).setCell ⟨g4, 1, none⟩ (.int .i64 yb)).setCell ⟨gi, 1, none⟩ (.string q)).heap.size := by simpa using hbw
      generalize ((wd.setCell ⟨g4, 0, none⟩ (.string tb)).setCell ⟨g4, 1, none⟩ (.int .i64 yb)).setCell ⟨gi, 1, none⟩ (.string q) = wds at R X N2 N7 own BB hbw ⊢
      obtain ⟨ad, cp, W', hrun, M7, hfar, own2, BB2, hbw2⟩ := app_item1 N7 own BB hb7 (by omega) hbw p q (by omega)
      have M2 := hfar _ _ _ (by omega) N2
      have MR := hfar _ _ _ (by omega) R
      have c0 := N7.c0
      have c1 := N7.c1
      have x0 := X.c0
      have x1 := X.c1
      have d0 := M7.c0
      have d1 := M7.c1
      have df0 := M7.f0
      have df1 := M7.f1
      clear N7 own BB hbw R N2 X
      go_wp2_with (at_builtin; refine wpList_append_run _ rfl _ _ 22 22 rfl _ _ rfl rfl hrun ?_)
      go_roundw
      case rel => exact ⟨k + 1, tb, yb, L1 ++ [(p, q)], _, by omega, HL2, HTS2, MR.set_far _ (by omega), own2, M2.set_far _ (by omega), M7.set0 _, BB2, hbw2, by go_num⟩
      case measure => simp [intOf]; omega
    · obtain rfl : k = many := by omega
      have hL : L1 = L0 := by have := HL.out; rwa [Nat.sub_self, rdLeaf, List.append_nil] at this
      subst hL
      have hM0 := HM0.out
      subst hM0
      obtain ⟨a, c, hv, hac, hI⟩ := its_of_own own
      have hfa := own_fresh (h := w.heap.size + 1) (by rw [← hv]; exact own) (by omega)
      subst hv
      have hK : Kds wr none 0 [] := ⟨rfl, .inl rfl⟩
      have hfk : Fresh (w.heap.size + 1) none := fun x hx => by cases hx
      have hkc : 0 ≤ 0 := Nat.le_refl _
      have hsm := HSM.out
      have hn4 : k ≤ 4096 := by have := hI.1; omega
      have hkn4 : 0 ≤ 4096 := by have := hK.1; omega
      have HT := Lib.hid hsm.2.2
      have HIK := Lib.hid hac
      have HKC := Lib.hid hkc
      have hlt7 : w.heap.size ≠ g7 := by omega
      have c0 := N7.c0
      have c1 := N7.c1
      go_wp2_with fail
      refine (rencode_any hI hK hn4 hkn4 HT.out.short tt yy HE.out).mono ?_
      rintro e9 wz ⟨rfl, hb⟩
      replace N2 := N2.below hb
      replace N7 := N7.below hb
      replace BB := below_to BB hb
      replace hI := hI.below hb
      replace hK := hK.below hb
      clear hb c0 c1 own hsm hn4 hkn4 HSM
      have d0 := N2.c0
      have d1 := N2.c1
      have f0 := N2.f0
      have f1 := N2.f1
      have c0 := N7.c0
      have c1 := N7.c1
      have hd := HD.out
      have he := HE.out
      unfold decQ at hd
      unfold encR at he
      by_cases hR : RightP L1 []
      · rw [if_pos hR] at he
        simp only [Prod.mk.injEq] at he
        obtain ⟨he, rfl⟩ := he
        by_cases hse : encF L1 [] = s.data.toList
        · rw [if_pos ⟨hR, hse⟩] at hd
          simp only [Prod.mk.injEq] at hd
          obtain ⟨⟨rfl, rfl⟩, rfl⟩ := hd
          have hts : tt = s := by rw [← he, hse, bs_of]
          subst hts
          have M := (N2.set0 (.slice a k c)).set1 (.slice none 0 0)
          have HI := Lib.hid ((hI.set (g := w.heap.size) (o := 0) (x := .slice a k c) hfa (by omega)).set (g := w.heap.size) (o := 1) (x := .slice none 0 0) hfa (by omega))
          have HK := Lib.hid ((hK.set (g := w.heap.size) (o := 0) (x := .slice a k c) hfk (by omega)).set (g := w.heap.size) (o := 1) (x := .slice none 0 0) hfk (by omega))
          have HB := Lib.hid ((BB.setCell (p := ⟨w.heap.size, 0, none⟩) (Nat.le_refl _) (.slice a k c)).setCell (p := ⟨w.heap.size, 1, none⟩) (Nat.le_refl _) (.slice none 0 0))
          have HFA := Lib.hid (hfa.mono (Nat.le_succ _))
          have HFK := Lib.hid (hfk.mono (Nat.le_succ _))
          have m0 := M.c0
          have m1 := M.c1
          clear hR he hse HD HE hI hK hfa hfk BB
          go_wp2_with fail
          refine bodyPost_ret (v := .tuple #[.agg #[.slice a k c, .slice none 0 0], .int .i64 0]) (by simp [results, Try.results13, go_sem, m0, m1]; try rfl) rfl ?_
          exact ⟨a, k, c, none, 0, 0, rfl, HIK.out, HKC.out, HFA.out, HFK.out, HI.out, HK.out, HB.out⟩
        · rw [if_neg (fun h => hse h.2)] at hd
          simp only [Prod.mk.injEq] at hd
          obtain ⟨⟨rfl, rfl⟩, rfl⟩ := hd
          have hts : (tt.toList == s.toList) = false := by
            rw [ByteArray.toList_eq, ByteArray.toList_eq, beq_eq_false_iff_ne]
            intro e; apply hse; rw [← e, ← he, bs_toList]
          have M := (N2.set0 (.slice none 0 0)).set1 (.slice none 0 0)
          have HB := Lib.hid ((BB.setCell (p := ⟨w.heap.size, 0, none⟩) (Nat.le_refl _) (.slice none 0 0)).setCell (p := ⟨w.heap.size, 1, none⟩) (Nat.le_refl _) (.slice none 0 0))
          have m0 := M.c0
          have m1 := M.c1
          clear hR he hse HD HE hI hK hfa hfk BB
          go_wp2_with fail
          refine bodyPost_ret (v := .tuple #[.agg #[.slice none 0 0, .slice none 0 0], .int .i64 19]) (by simp [results, Try.results13, go_sem, m0, m1]; try rfl) rfl ?_
          exact ⟨none, 0, 0, none, 0, 0, rfl, by omega, by omega, (by intro x hx; cases hx), (by intro x hx; cases hx), ⟨rfl, .inl rfl⟩, ⟨rfl, .inl rfl⟩, HB.out⟩
      · rw [if_neg hR] at he
        simp only [Prod.mk.injEq] at he
        obtain ⟨rfl, rfl⟩ := he
        rw [if_neg (fun h => hR h.1)] at hd
        simp only [Prod.mk.injEq] at hd
        obtain ⟨⟨rfl, rfl⟩, rfl⟩ := hd
        have M := (N2.set0 (.slice none 0 0)).set1 (.slice none 0 0)
        have HB := Lib.hid ((BB.setCell (p := ⟨w.heap.size, 0, none⟩) (Nat.le_refl _) (.slice none 0 0)).setCell (p := ⟨w.heap.size, 1, none⟩) (Nat.le_refl _) (.slice none 0 0))
        have m0 := M.c0
        have m1 := M.c1
        clear hR HD HE hI hK hfa hfk BB
        go_wp2_with fail
        refine bodyPost_ret (v := .tuple #[.agg #[.slice none 0 0, .slice none 0 0], .int .i64 19]) (by simp [results, Try.results13, go_sem, m0, m1]; try rfl) rfl ?_
        exact ⟨none, 0, 0, none, 0, 0, rfl, by omega, by omega, (by intro x hx; cases hx), (by intro x hx; cases hx), ⟨rfl, .inl rfl⟩, ⟨rfl, .inl rfl⟩, HB.out⟩
end Go.Proofs.Ytnjpijihjifkfaa
