/- Contracts: Cut where nothing is cut; Join of a leaf and a branch. -/
import Derived.Test.YtnjpijihjifkfaaU6
namespace Go.Proofs.Ytnjpijihjifkfaa
open Go.RowKit
set_option linter.unusedVariables false
set_option linter.unusedSimpArgs false
def InvMx (W1 : World) (h : Nat) (s1 : Value) (s2 : Value) (b1 : Bool) (b2 : Bool) (a0 : Act) (D : Nat → Bool) (act : Act) (w : World) : Prop :=
  ∃ x10 x11 x12 x13 x14, act = ⟨(a0.tmps.toList.take 10 ++ x10 :: x11 :: x12 :: x13 :: x14 :: a0.tmps.toList.drop 15).toArray, []⟩ ∧ Below W1.heap.size W1 w ∧ Hid ((D 0 = true → x10 = s1) ∧ (D 1 = true → x11 = .bool b1) ∧ (D 2 = true → x12 = s2) ∧ (D 3 = true → x13 = .bool b2) ∧ (D 4 = true → x14 = .bool true))
section
variable {w : World} {a : Option Addr} {n c : Nat} {ka : Option Addr} {kn kc : Nat} {I : List It} {K : List Int}
set_option maxRecDepth 100000 in
set_option maxHeartbeats 4000000 in
theorem cutRest_any (hI : Its w a n I) (hK : Kds w ka kn K) (hn : n ≤ 4096) (hkn : kn ≤ 4096) (h1 : ¬ (kn = 0 ∧ 2 ≤ n)) (h2 : ¬ (3 ≤ kn ∧ n + 1 = kn)) :
    Calls Try.prog 22 #[.agg #[.slice a n c, .slice ka kn kc]] w (CutRet w I K ByteArray.empty [] []) := by
  have N0 := ((Nd.new w a n c ka kn kc 31).below (new_below _ (.cells #[.slice none 0 0, .slice none 0 0] 31))).below (new_below _ (.cells #[.slice none 0 0, .slice none 0 0] 31))
  have N1 := (Nb.fresh (w.alloc (.cells #[.slice a n c, .slice ka kn kc] 31)) (.slice none 0 0) (.slice none 0 0) 31).below (new_below _ (.cells #[.slice none 0 0, .slice none 0 0] 31))
  have N2 := Nb.fresh ((w.alloc (.cells #[.slice a n c, .slice ka kn kc] 31)).alloc (.cells #[.slice none 0 0, .slice none 0 0] 31)) (.slice none 0 0) (.slice none 0 0) 31
  have hs1 : (w.alloc (.cells #[.slice a n c, .slice ka kn kc] 31)).heap.size = w.heap.size + 1 := by simp
  have hs2 : ((w.alloc (.cells #[.slice a n c, .slice ka kn kc] 31)).alloc (.cells #[.slice none 0 0, .slice none 0 0] 31)).heap.size = w.heap.size + 1 + 1 := by simp
  rw [hs1] at N1
  rw [hs2] at N2
  have hBB := below_to (below_to (new_below w (.cells #[.slice a n c, .slice ka kn kc] 31)) (new_below _ (.cells #[.slice none 0 0, .slice none 0 0] 31))) (new_below _ (.cells #[.slice none 0 0, .slice none 0 0] 31))
  obtain ⟨b, hb0⟩ : ∃ b, (kn == 0) = b := ⟨_, rfl⟩
  have KL := Lib.hid (fun w => isLeaf_any a n c ka kn kc b hb0 w)
  have KC := Lib.hid (fun (w1 : World) (B : Below w.heap.size w w1) => cloneN_any (c := c) (kc := kc) (hI.below B) (hK.below B) hn hkn)
  unfold NdRet at KC
  obtain ⟨m, hm⟩ : ∃ m, kn - 1 = m := ⟨_, rfl⟩
  have hkw : 0 < kn → IntKind.i64.wrap ((kn : Int) - 1) = (m : Int) := fun hp => by rw [show (kn : Int) - 1 = (m : Int) by omega]; exact IntWalk.i64_in _ (by omega)
  have HKW := Lib.hid hkw
  have HNM := Lib.hid (show 3 ≤ kn → ¬ n = m from fun h => by omega)
  have HLN := Lib.hid (show kn = 0 → n < 2 from fun h => by omega)
  have HB0 := Lib.hid hb0
  clear hI hK hs1 hs2 hkw hm h1 h2 hb0
  go_enter Try.func22, Try.ntmps22
  go_wp2_with fail
  generalize ((w.alloc (.cells #[.slice a n c, .slice ka kn kc] 31)).alloc (.cells #[.slice none 0 0, .slice none 0 0] 31)).alloc (.cells #[.slice none 0 0, .slice none 0 0] 31) = w1 at N0 N1 N2 hBB ⊢
  refine (KL.out _).mono ?_
  rintro e w2 ⟨rfl, hbl⟩
  replace N0 := N0.below hbl
  replace N1 := N1.below hbl
  replace N2 := N2.below hbl
  replace hBB := below_to hBB hbl
  clear hbl
  have c0 := N0.c0
  have c1 := N0.c1
  have hgo : ∀ (wa : World) (e : Ending) (w3 : World), True := fun _ _ _ => trivial
  cases b with
  | true =>
    have hz := kn_true HB0.out
    have hn1 := HLN.out hz
    subst hz
    clear hgo
    go_wp2_with fail
    refine (KC.out _ hBB).mono ?_
    rintro e w3 ⟨a1, m1, c1', a2, m2, c2', rfl, hac, had, hfa, hfb, hIt, hKt, hb⟩
    have hsz : w.heap.size + 1 + 1 < w2.heap.size := N2.lt
    have hsz0 := hBB.size
    replace N1 := N1.below hb
    replace N2 := N2.below hb
    replace hBB := below_to hBB hb
    clear hb c0 c1 N0
    have y0 := N1.c0
    have y1 := N1.c1
    have z0 := N1.f0
    have z1 := N1.f1
    have y2 := N2.c0
    have y3 := N2.c1
    have z2 := N2.f0
    have z3 := N2.f1
    have M := nb_two (u' := .slice a1 m1 c1') (v' := .slice a2 m2 c2') (x' := .slice none 0 0) (y' := .slice none 0 0) N1 N2 (by omega)
    have m0 := M.1.c0
    have m1' := M.1.c1
    have m2' := M.2.c0
    have m3' := M.2.c1
    have HI1 := Lib.hid ((((hIt.set (g := w.heap.size + 1) (o := 0) (x := .slice a1 m1 c1') hfa (by omega)).set (g := w.heap.size + 1) (o := 1) (x := .slice a2 m2 c2') hfa (by omega)).set (g := w.heap.size + 1 + 1) (o := 0) (x := .slice none 0 0) hfa (by omega)).set (g := w.heap.size + 1 + 1) (o := 1) (x := .slice none 0 0) hfa (by omega))
    have HK1 := Lib.hid ((((hKt.set (g := w.heap.size + 1) (o := 0) (x := .slice a1 m1 c1') hfb (by omega)).set (g := w.heap.size + 1) (o := 1) (x := .slice a2 m2 c2') hfb (by omega)).set (g := w.heap.size + 1 + 1) (o := 0) (x := .slice none 0 0) hfb (by omega)).set (g := w.heap.size + 1 + 1) (o := 1) (x := .slice none 0 0) hfb (by omega))
    have HB := Lib.hid ((((hBB.setCell (p := ⟨w.heap.size + 1, 0, none⟩) (by show w.heap.size ≤ w.heap.size + 1; omega) (.slice a1 m1 c1')).setCell (p := ⟨w.heap.size + 1, 1, none⟩) (by show w.heap.size ≤ w.heap.size + 1; omega) (.slice a2 m2 c2')).setCell (p := ⟨w.heap.size + 1 + 1, 0, none⟩) (by show w.heap.size ≤ w.heap.size + 1 + 1; omega) (.slice none 0 0)).setCell (p := ⟨w.heap.size + 1 + 1, 1, none⟩) (by show w.heap.size ≤ w.heap.size + 1 + 1; omega) (.slice none 0 0))
    have HFA := Lib.hid (hfa.mono hsz0)
    have HFB := Lib.hid (hfb.mono hsz0)
    have HCC := Lib.hid (And.intro hac had)
    clear hIt hKt hfa hfb hBB M N1 N2 hac had
    go_wp2_with fail
    refine bodyPost_ret (v := .tuple #[.agg #[.slice a1 m1 c1', .slice a2 m2 c2'], .string ByteArray.empty, .agg #[.slice none 0 0, .slice none 0 0]]) (by simp [results, Try.results22, go_sem, m0, m1', m2', m3']; try rfl) rfl ?_
    exact ⟨_, _, _, _, _, _, _, _, _, _, _, _, rfl, ⟨HCC.out.1, HCC.out.2, Nat.le_refl _, Nat.le_refl _⟩, ⟨HFA.out, HFB.out, (by intro x hx; cases hx), (by intro x hx; cases hx)⟩, HI1.out, HK1.out, ⟨rfl, .inl rfl⟩, ⟨rfl, .inl rfl⟩, HB.out⟩
  | false =>
    have hp := kn_false HB0.out
    have hkw := HKW.out hp
    by_cases h3 : 3 ≤ kn
    · have hne := HNM.out h3
      clear hgo
      go_wp2_with fail
      refine (KC.out _ hBB).mono ?_
      rintro e w3 ⟨a1, m1, c1', a2, m2, c2', rfl, hac, had, hfa, hfb, hIt, hKt, hb⟩
      have hsz : w.heap.size + 1 + 1 < w2.heap.size := N2.lt
      have hsz0 := hBB.size
      replace N1 := N1.below hb
      replace N2 := N2.below hb
      replace hBB := below_to hBB hb
      clear hb c0 c1 N0
      have y0 := N1.c0
      have y1 := N1.c1
      have z0 := N1.f0
      have z1 := N1.f1
      have y2 := N2.c0
      have y3 := N2.c1
      have z2 := N2.f0
      have z3 := N2.f1
      have M := nb_two (u' := .slice a1 m1 c1') (v' := .slice a2 m2 c2') (x' := .slice none 0 0) (y' := .slice none 0 0) N1 N2 (by omega)
      have m0 := M.1.c0
      have m1' := M.1.c1
      have m2' := M.2.c0
      have m3' := M.2.c1
      have HI1 := Lib.hid ((((hIt.set (g := w.heap.size + 1) (o := 0) (x := .slice a1 m1 c1') hfa (by omega)).set (g := w.heap.size + 1) (o := 1) (x := .slice a2 m2 c2') hfa (by omega)).set (g := w.heap.size + 1 + 1) (o := 0) (x := .slice none 0 0) hfa (by omega)).set (g := w.heap.size + 1 + 1) (o := 1) (x := .slice none 0 0) hfa (by omega))
      have HK1 := Lib.hid ((((hKt.set (g := w.heap.size + 1) (o := 0) (x := .slice a1 m1 c1') hfb (by omega)).set (g := w.heap.size + 1) (o := 1) (x := .slice a2 m2 c2') hfb (by omega)).set (g := w.heap.size + 1 + 1) (o := 0) (x := .slice none 0 0) hfb (by omega)).set (g := w.heap.size + 1 + 1) (o := 1) (x := .slice none 0 0) hfb (by omega))
      have HB := Lib.hid ((((hBB.setCell (p := ⟨w.heap.size + 1, 0, none⟩) (by show w.heap.size ≤ w.heap.size + 1; omega) (.slice a1 m1 c1')).setCell (p := ⟨w.heap.size + 1, 1, none⟩) (by show w.heap.size ≤ w.heap.size + 1; omega) (.slice a2 m2 c2')).setCell (p := ⟨w.heap.size + 1 + 1, 0, none⟩) (by show w.heap.size ≤ w.heap.size + 1 + 1; omega) (.slice none 0 0)).setCell (p := ⟨w.heap.size + 1 + 1, 1, none⟩) (by show w.heap.size ≤ w.heap.size + 1 + 1; omega) (.slice none 0 0))
      have HFA := Lib.hid (hfa.mono hsz0)
      have HFB := Lib.hid (hfb.mono hsz0)
      have HCC := Lib.hid (And.intro hac had)
      clear hIt hKt hfa hfb hBB M N1 N2 hac had
      go_wp2_with fail
      refine bodyPost_ret (v := .tuple #[.agg #[.slice a1 m1 c1', .slice a2 m2 c2'], .string ByteArray.empty, .agg #[.slice none 0 0, .slice none 0 0]]) (by simp [results, Try.results22, go_sem, m0, m1', m2', m3']; try rfl) rfl ?_
      exact ⟨_, _, _, _, _, _, _, _, _, _, _, _, rfl, ⟨HCC.out.1, HCC.out.2, Nat.le_refl _, Nat.le_refl _⟩, ⟨HFA.out, HFB.out, (by intro x hx; cases hx), (by intro x hx; cases hx)⟩, HI1.out, HK1.out, ⟨rfl, .inl rfl⟩, ⟨rfl, .inl rfl⟩, HB.out⟩
    · have h3' : kn < 3 := by omega
      clear hgo hkw
      go_wp2_with fail
      refine (KC.out _ hBB).mono ?_
      rintro e w3 ⟨a1, m1, c1', a2, m2, c2', rfl, hac, had, hfa, hfb, hIt, hKt, hb⟩
      have hsz : w.heap.size + 1 + 1 < w2.heap.size := N2.lt
      have hsz0 := hBB.size
      replace N1 := N1.below hb
      replace N2 := N2.below hb
      replace hBB := below_to hBB hb
      clear hb c0 c1 N0
      have y0 := N1.c0
      have y1 := N1.c1
      have z0 := N1.f0
      have z1 := N1.f1
      have y2 := N2.c0
      have y3 := N2.c1
      have z2 := N2.f0
      have z3 := N2.f1
      have M := nb_two (u' := .slice a1 m1 c1') (v' := .slice a2 m2 c2') (x' := .slice none 0 0) (y' := .slice none 0 0) N1 N2 (by omega)
      have m0 := M.1.c0
      have m1' := M.1.c1
      have m2' := M.2.c0
      have m3' := M.2.c1
      have HI1 := Lib.hid ((((hIt.set (g := w.heap.size + 1) (o := 0) (x := .slice a1 m1 c1') hfa (by omega)).set (g := w.heap.size + 1) (o := 1) (x := .slice a2 m2 c2') hfa (by omega)).set (g := w.heap.size + 1 + 1) (o := 0) (x := .slice none 0 0) hfa (by omega)).set (g := w.heap.size + 1 + 1) (o := 1) (x := .slice none 0 0) hfa (by omega))
      have HK1 := Lib.hid ((((hKt.set (g := w.heap.size + 1) (o := 0) (x := .slice a1 m1 c1') hfb (by omega)).set (g := w.heap.size + 1) (o := 1) (x := .slice a2 m2 c2') hfb (by omega)).set (g := w.heap.size + 1 + 1) (o := 0) (x := .slice none 0 0) hfb (by omega)).set (g := w.heap.size + 1 + 1) (o := 1) (x := .slice none 0 0) hfb (by omega))
      have HB := Lib.hid ((((hBB.setCell (p := ⟨w.heap.size + 1, 0, none⟩) (by show w.heap.size ≤ w.heap.size + 1; omega) (.slice a1 m1 c1')).setCell (p := ⟨w.heap.size + 1, 1, none⟩) (by show w.heap.size ≤ w.heap.size + 1; omega) (.slice a2 m2 c2')).setCell (p := ⟨w.heap.size + 1 + 1, 0, none⟩) (by show w.heap.size ≤ w.heap.size + 1 + 1; omega) (.slice none 0 0)).setCell (p := ⟨w.heap.size + 1 + 1, 1, none⟩) (by show w.heap.size ≤ w.heap.size + 1 + 1; omega) (.slice none 0 0))
      have HFA := Lib.hid (hfa.mono hsz0)
      have HFB := Lib.hid (hfb.mono hsz0)
      have HCC := Lib.hid (And.intro hac had)
      clear hIt hKt hfa hfb hBB M N1 N2 hac had
      go_wp2_with fail
      refine bodyPost_ret (v := .tuple #[.agg #[.slice a1 m1 c1', .slice a2 m2 c2'], .string ByteArray.empty, .agg #[.slice none 0 0, .slice none 0 0]]) (by simp [results, Try.results22, go_sem, m0, m1', m2', m3']; try rfl) rfl ?_
      exact ⟨_, _, _, _, _, _, _, _, _, _, _, _, rfl, ⟨HCC.out.1, HCC.out.2, Nat.le_refl _, Nat.le_refl _⟩, ⟨HFA.out, HFB.out, (by intro x hx; cases hx), (by intro x hx; cases hx)⟩, HI1.out, HK1.out, ⟨rfl, .inl rfl⟩, ⟨rfl, .inl rfl⟩, HB.out⟩
variable {a2 : Option Addr} {n2 c2 : Nat} {ka2 : Option Addr} {kn2 kc2 : Nat}
set_option maxRecDepth 100000 in
set_option maxHeartbeats 4000000 in
theorem joinMixed_any (key : ByteArray) (b1 b2 : Bool) (h1 : (kn == 0) = b1) (h2 : (kn2 == 0) = b2) (hne : b1 ≠ b2) (w : World) :
    Calls Try.prog 24 #[.agg #[.slice a n c, .slice ka kn kc], .string key, .agg #[.slice a2 n2 c2, .slice ka2 kn2 kc2]] w fun e w' => e = .returned (.tuple #[.agg #[.slice none 0 0, .slice none 0 0], .bool false]) ∧ Below w.heap.size w w' := by
  have N0 := ((Nd.new w a n c ka kn kc 31).below (new_below _ (.cells #[.slice a2 n2 c2, .slice ka2 kn2 kc2] 31))).below (new_below _ (.cells #[.slice none 0 0, .slice none 0 0] 31))
  have N1 := (Nd.new (w.alloc (.cells #[.slice a n c, .slice ka kn kc] 31)) a2 n2 c2 ka2 kn2 kc2 31).below (new_below _ (.cells #[.slice none 0 0, .slice none 0 0] 31))
  have N2 := Nb.fresh ((w.alloc (.cells #[.slice a n c, .slice ka kn kc] 31)).alloc (.cells #[.slice a2 n2 c2, .slice ka2 kn2 kc2] 31)) (.slice none 0 0) (.slice none 0 0) 31
  have hs1 : (w.alloc (.cells #[.slice a n c, .slice ka kn kc] 31)).heap.size = w.heap.size + 1 := by simp
  have hs2 : ((w.alloc (.cells #[.slice a n c, .slice ka kn kc] 31)).alloc (.cells #[.slice a2 n2 c2, .slice ka2 kn2 kc2] 31)).heap.size = w.heap.size + 1 + 1 := by simp
  rw [hs1] at N1
  rw [hs2] at N2
  have hBB := below_to (below_to (new_below w (.cells #[.slice a n c, .slice ka kn kc] 31)) (new_below _ (.cells #[.slice a2 n2 c2, .slice ka2 kn2 kc2] 31))) (new_below _ (.cells #[.slice none 0 0, .slice none 0 0] 31))
  have KA := Lib.hid (fun w => isLeaf_any a n c ka kn kc b1 h1 w)
  have KB := Lib.hid (fun w => isLeaf_any a2 n2 c2 ka2 kn2 kc2 b2 h2 w)
  have hx : (b1 != b2) = true := by cases b1 <;> cases b2 <;> simp_all
  have hx2 : (b1 == b2) = false := by cases b1 <;> cases b2 <;> simp_all
  clear hs1 hs2 h1 h2
  go_enter Try.func24, Try.ntmps24
  go_upto_region 1 with (fail)
  generalize ((w.alloc (.cells #[.slice a n c, .slice ka kn kc] 31)).alloc (.cells #[.slice a2 n2 c2, .slice ka2 kn2 kc2] 31)).alloc (.cells #[.slice none 0 0, .slice none 0 0] 31) = w1 at N0 N1 N2 hBB ⊢
  refine wp_region_inv0 (InvMx w1 w.heap.size (.agg #[.slice a n c, .slice ka kn kc]) (.agg #[.slice a2 n2 c2, .slice ka2 kn2 kc2]) b1 b2) (by kernel_rfl) (by decide) ?_ ?_ ?_
  · exact ⟨_, _, _, _, _, rfl, (Below.refl _ _).drew, Lib.hid ⟨(by intro h; cases h), (by intro h; cases h), (by intro h; cases h), (by intro h; cases h), (by intro h; cases h)⟩⟩
  · refine AllI.cons ?_ (AllI.cons ?_ (AllI.cons ?_ (AllI.cons ?_ (AllI.cons ?_ AllI.nil))))
    · rintro D aa wx ⟨x10, x11, x12, x13, x14, rfl, hB, HF⟩ hD hdep KK hKK
      have c0 := (N0.below hB).c0
      have c1 := (N0.below hB).c1
      simp only [Act.put, List.toList_toArray, List.take_succ_cons, List.take_zero, List.drop_succ_cons, List.drop_zero, List.cons_append, List.nil_append, List.setIfInBounds_toArray, List.set_cons_zero, List.set_cons_succ]
      go_simp
      exact hKK _ _ ⟨_, _, _, _, _, rfl, hB, Lib.hid (by obtain ⟨f0, f1, f2, f3, f4⟩ := HF.out; exact ⟨fun _ => rfl, f1, f2, f3, f4⟩)⟩
    · rintro D aa wx ⟨x10, x11, x12, x13, x14, rfl, hB, HF⟩ hD hdep KK hKK
      simp [Region.binds] at hdep
      have h0 : D 0 = true := by simp [hdep]
      have HE := Lib.hid (show x10 = (.agg #[.slice a n c, .slice ka kn kc]) by obtain ⟨f0, f1, f2, f3, f4⟩ := HF.out; exact f0 h0)
      obtain rfl := HE.out
      clear HE
      simp only [Act.put, List.toList_toArray, List.take_succ_cons, List.take_zero, List.drop_succ_cons, List.drop_zero, List.cons_append, List.nil_append, List.setIfInBounds_toArray, List.set_cons_zero, List.set_cons_succ]
      go_simp
      refine (KA.out _).mono ?_
      rintro e w5 ⟨rfl, hb⟩
      exact hKK _ _ ⟨_, _, _, _, _, rfl, below_to hB hb, Lib.hid (by obtain ⟨f0, f1, f2, f3, f4⟩ := HF.out; exact ⟨fun _ => rfl, fun _ => rfl, f2, f3, f4⟩)⟩
    · rintro D aa wx ⟨x10, x11, x12, x13, x14, rfl, hB, HF⟩ hD hdep KK hKK
      have c0 := (N1.below hB).c0
      have c1 := (N1.below hB).c1
      simp only [Act.put, List.toList_toArray, List.take_succ_cons, List.take_zero, List.drop_succ_cons, List.drop_zero, List.cons_append, List.nil_append, List.setIfInBounds_toArray, List.set_cons_zero, List.set_cons_succ]
      go_simp
      exact hKK _ _ ⟨_, _, _, _, _, rfl, hB, Lib.hid (by obtain ⟨f0, f1, f2, f3, f4⟩ := HF.out; exact ⟨f0, f1, fun _ => rfl, f3, f4⟩)⟩
    · rintro D aa wx ⟨x10, x11, x12, x13, x14, rfl, hB, HF⟩ hD hdep KK hKK
      simp [Region.binds] at hdep
      have h2 : D 2 = true := by simp [hdep]
      have HE := Lib.hid (show x12 = (.agg #[.slice a2 n2 c2, .slice ka2 kn2 kc2]) by obtain ⟨f0, f1, f2, f3, f4⟩ := HF.out; exact f2 h2)
      obtain rfl := HE.out
      clear HE
      simp only [Act.put, List.toList_toArray, List.take_succ_cons, List.take_zero, List.drop_succ_cons, List.drop_zero, List.cons_append, List.nil_append, List.setIfInBounds_toArray, List.set_cons_zero, List.set_cons_succ]
      go_simp
      refine (KB.out _).mono ?_
      rintro e w5 ⟨rfl, hb⟩
      exact hKK _ _ ⟨_, _, _, _, _, rfl, below_to hB hb, Lib.hid (by obtain ⟨f0, f1, f2, f3, f4⟩ := HF.out; exact ⟨f0, f1, fun _ => rfl, fun _ => rfl, f4⟩)⟩
    · rintro D aa wx ⟨x10, x11, x12, x13, x14, rfl, hB, HF⟩ hD hdep KK hKK
      simp [Region.binds] at hdep
      have h1 : D 1 = true := by simp [hdep]
      have h3 : D 3 = true := by simp [hdep]
      have HE := Lib.hid (show x11 = .bool b1 ∧ x13 = .bool b2 by obtain ⟨f0, f1, f2, f3, f4⟩ := HF.out; exact ⟨f1 h1, f3 h3⟩)
      obtain ⟨rfl, rfl⟩ := HE.out
      clear HE
      simp only [Act.put, List.toList_toArray, List.take_succ_cons, List.take_zero, List.drop_succ_cons, List.drop_zero, List.cons_append, List.nil_append, List.setIfInBounds_toArray, List.set_cons_zero, List.set_cons_succ]
      go_simp
      exact hKK _ _ ⟨_, _, _, _, _, rfl, hB, Lib.hid (by obtain ⟨f0, f1, f2, f3, f4⟩ := HF.out; exact ⟨f0, fun _ => rfl, f2, fun _ => rfl, fun _ => rfl⟩)⟩
  rintro D aa w6 ⟨x10, x11, x12, x13, x14, rfl, hb, HF⟩ hD
  have e4 : x14 = .bool true := by obtain ⟨f0, f1, f2, f3, f4⟩ := HF.out; exact f4 (hD 4 (by simp))
  subst e4
  simp only [Act.put, List.toList_toArray, List.take_succ_cons, List.take_zero, List.drop_succ_cons, List.drop_zero, List.cons_append, List.nil_append]
  clear HF hD
  replace N2 := N2.below hb
  replace hBB := below_to hBB hb
  clear hb N0 N1 KA KB hx hx2 hne
  have y0 := N2.c0
  have y1 := N2.c1
  have z0 := N2.f0
  have z1 := N2.f1
  have M := (N2.set0 (.slice none 0 0)).set1 (.slice none 0 0)
  have m0 := M.c0
  have m1 := M.c1
  have HB := Lib.hid ((hBB.setCell (p := ⟨w.heap.size + 1 + 1, 0, none⟩) (by show w.heap.size ≤ w.heap.size + 1 + 1; omega) (.slice none 0 0)).setCell (p := ⟨w.heap.size + 1 + 1, 1, none⟩) (by show w.heap.size ≤ w.heap.size + 1 + 1; omega) (.slice none 0 0))
  clear M N2 hBB
  go_wp2_with fail
  refine bodyPost_ret (v := .tuple #[.agg #[.slice none 0 0, .slice none 0 0], .bool false]) (by simp [results, Try.results24, go_sem, m0, m1]) rfl ?_
  exact ⟨rfl, HB.out⟩
end
end Go.Proofs.Ytnjpijihjifkfaa
