/- The walk of TopFull. -/
import Derived.Test.YtmhfbgcfagfmbaaFH
import Derived.Test.YtmhfbgcfagfmbaaTD
import Derived.Test.YtmhfbgcfagfmbaaT8
namespace Go.Proofs.Ytmhfbgcfagfmbaa.topFull
open Go.RowKit
set_option linter.unusedVariables false

theorem bv1 : addF 2 3 = (5, 0) := by simp [addF, inRB]
theorem bv2 : growsF 0 0 9 0 8 (-1) = 12 := by simp [growsF, okB, inRB, limB, outB]
theorem begins_any (w : World) : Calls Try.prog 54 #[] w fun e w' => e = .returned (.bool true) ∧ Below w.heap.size w w' := by
  have fq : Fit 4598175219545276416 := by unfold Fit; omega
  go_enter Try.func54, Try.ntmps54
  go_wp2_with fail
  refine (add_any 2 3 _).mono ?_
  rintro e w1 ⟨rfl, B1⟩
  rw [bv1]; unfold two; dsimp only
  go_wp2_with fail
  refine (of_any 1 4 _).mono ?_
  rintro e w2 ⟨b, h, _, rfl, c⟩
  have B2 := B1.trans (c.mono B1.size)
  have e5 := (h.ar (by omega)).some gv3
  subst e5
  clear c B1 h
  go_wp2_with fail
  refine (permille_any _ fq _).mono ?_
  rintro e w3 ⟨rfl, rfl⟩
  rw [perm_quarter]
  go_wp2_with fail
  refine (grows_any 0 0 9 0 8 (-1) _).mono ?_
  rintro e w3 ⟨rfl, c⟩
  have B3 := B2.trans (c.mono B2.size)
  rw [bv2]
  clear c B2
  go_wp2
  go_ret
  exact ⟨rfl, B3⟩

theorem grows_zero {o0 o1 n0 n1 l0 l1 : Int} (h : growsF o0 o1 n0 n1 l0 l1 = 0) : okB o0 o1 = true ∧ okB n0 n1 = true ∧ limB l0 l1 = true ∧ outB o0 n0 l0 = false ∧ outB o1 n1 l1 = false := by
  unfold growsF at h
  split at h
  · rename_i hc
    simp only [Bool.and_eq_true] at hc
    split at h
    · cases h
    · rename_i hd
      rw [Bool.not_eq_true, Bool.or_eq_false_iff] at hd
      exact ⟨hc.1.1, hc.1.2, hc.2, hd.1, hd.2⟩
  · cases h
/-- What the walk is told of the bytes: now n, limit l, what is left d, their sum s. -/
structure Told (o0 o1 n0 n1 l0 l1 d s : Int) : Prop where
  g : growsF o0 o1 n0 n1 l0 l1 = 0
  left : leftF n0 l0 = d
  add : addF n0 d = (s, 0)
  pos : 0 ≤ d
  g2 : growsF n0 n1 s n1 l0 l1 = 0
theorem out_self (a l : Int) : outB a a l = false := by simp [outB]
theorem told {o0 o1 n0 n1 l0 l1 : Int} (h : growsF o0 o1 n0 n1 l0 l1 = 0) : ∃ d s, Told o0 o1 n0 n1 l0 l1 d s ∧ (0 ≤ l0 → n0 ≤ l0 → s = l0) := by
  obtain ⟨ho, hn, hl, h1, h2⟩ := grows_zero h
  have hn' := hn
  simp only [okB, Bool.and_eq_true, inRB_true] at hn'
  have hb : -1 ≤ l0 ∧ l0 ≤ 1125899906842624 := by simp [limB] at hl; omega
  have mk : ∀ s, 0 ≤ s ∧ s ≤ 1125899906842624 → outB n0 s l0 = false → growsF n0 n1 s n1 l0 l1 = 0 := fun s hs ho =>
    growsF_0 hn (by simp only [okB, Bool.and_eq_true, inRB_true]; omega) hl ho (out_self _ _)
  have ia : inRB n0 = true := inRB_true.2 (by omega)
  by_cases c1 : l0 = -1
  · refine ⟨1125899906842624 - n0, 1125899906842624, ⟨h, by unfold leftF; rw [if_pos ia, if_pos c1], ?_, by omega, mk _ (by omega) (by simp [outB, c1])⟩, by omega⟩
    rw [addF_le ia (inRB_true.2 (by omega)) (by omega)]; congr 1; omega
  · have il : inRB l0 = true := inRB_true.2 (by omega)
    by_cases c2 : l0 < n0
    · refine ⟨0, n0, ⟨h, by unfold leftF; rw [if_pos ia, if_neg c1, if_pos il, if_pos c2], ?_, by omega, mk _ (by omega) (out_self _ _)⟩, by omega⟩
      rw [addF_le ia (inRB_true.2 (by omega)) (by omega)]; congr 1; omega
    · refine ⟨l0 - n0, l0, ⟨h, by unfold leftF; rw [if_pos ia, if_neg c1, if_pos il, if_neg c2], ?_, by omega, mk _ (by omega) (by simp [outB])⟩, fun _ _ => rfl⟩
      rw [addF_le ia (inRB_true.2 (by omega)) (by omega)]; congr 1; omega
theorem at_most {n l : Int} {b : Nat} (h : OfIs n l b) (hn : 0 ≤ n) (hnl : n ≤ l) (hl : 0 < l) (hl2 : l ≤ 9223372036854775807) : b ≤ 4607182418800017408 := by
  obtain ⟨n', rfl⟩ := Int.eq_ofNat_of_zero_le hn
  obtain ⟨l', rfl⟩ := Int.eq_ofNat_of_zero_le (show 0 ≤ l by omega)
  have hf : OfIs (l' : Int) (l' : Int) 4607182418800017408 := by
    unfold OfIs; rw [if_neg (by omega), of_nat]; exact .inl (div_self (fi_pos (by omega) (by omega)))
  exact (h.le hf (by omega) (Nat.le_refl _) (by omega) (by omega) (by omega)).1
theorem just_full {l : Int} {b : Nat} (h : OfIs l l b) (hl : 0 < l) (hl2 : l ≤ 9223372036854775807) : b = 4607182418800017408 := by
  obtain ⟨l', rfl⟩ := Int.eq_ofNat_of_zero_le (show 0 ≤ l by omega)
  exact h.full (by omega) (by omega)
theorem fit1 : Fit 4607182418800017408 := by unfold Fit; omega

set_option maxHeartbeats 1000000 in
theorem refused (o0 o1 n0 n1 l0 l1 : Int) (w : World) (h : (growsF o0 o1 n0 n1 l0 l1 != 0) = true) :
    Calls Try.prog 13 #[.agg #[.int .i64 o0, .int .i64 o1], .agg #[.int .i64 n0, .int .i64 n1], .agg #[.int .i64 l0, .int .i64 l1]] w fun e w' => e = .returned (.bool true) ∧ Below w.heap.size w w' := by
  obtain ⟨G, hG⟩ : ∃ G, growsF o0 o1 n0 n1 l0 l1 = G := ⟨_, rfl⟩
  rw [hG] at h
  have HG := Lib.hid hG
  clear hG
  go_enter Try.func13, Try.ntmps13
  go_wp2_with fail
  refine (begins_any _).mono ?_
  rintro e w1 ⟨rfl, c⟩
  have O := (((Has.new w w.heap.size 33 o0 o1 rfl).alloc (.cells #[.int .i64 n0, .int .i64 n1] 33)).alloc (.cells #[.int .i64 l0, .int .i64 l1] 33)).later c
  have N := ((Has.new (w.alloc (.cells #[.int .i64 o0, .int .i64 o1] 33)) (w.heap.size + 1) 33 n0 n1 (by simp)).alloc (.cells #[.int .i64 l0, .int .i64 l1] 33)).later c
  have M := (Has.new ((w.alloc (.cells #[.int .i64 o0, .int .i64 o1] 33)).alloc (.cells #[.int .i64 n0, .int .i64 n1] 33)) (w.heap.size + 1 + 1) 33 l0 l1 (by simp)).later c
  have BB := below3 c
  clear c
  have gO := O.c0
  have gO' := O.c1
  have gN := N.c0
  have gN' := N.c1
  have gM := M.c0
  have gM' := M.c1
  go_wp2_with fail
  refine (grows_any o0 o1 n0 n1 l0 l1 _).mono ?_
  rintro e w2 ⟨rfl, c⟩
  rw [HG.out]
  replace BB := BB.trans (c.mono BB.size)
  go_wp2
  go_ret
  exact ⟨rfl, BB⟩
set_option maxHeartbeats 1000000 in
theorem grew_free (o0 o1 n0 n1 l0 l1 : Int) (w : World) (d s : Int) (T : Told o0 o1 n0 n1 l0 l1 d s) (hs : 0 ≤ l0 → n0 ≤ l0 → s = l0) (h0 : 0 ≤ n0) (hm : l0 ≤ 1125899906842624) (hgr : o0 < n0) (c1 : l0 = -1) :
    Calls Try.prog 13 #[.agg #[.int .i64 o0, .int .i64 o1], .agg #[.int .i64 n0, .int .i64 n1], .agg #[.int .i64 l0, .int .i64 l1]] w fun e w' => e = .returned (.bool true) ∧ Below w.heap.size w w' := by
  have HG := Lib.hid T.g
  have HL := Lib.hid T.left
  have HA := Lib.hid T.add
  have hd := T.pos
  have HG2 := Lib.hid T.g2
  clear T
  subst c1
  clear hs
  go_enter Try.func13, Try.ntmps13
  go_wp2_with fail
  refine (begins_any _).mono ?_
  rintro e w1 ⟨rfl, c⟩
  have O := (((Has.new w w.heap.size 33 o0 o1 rfl).alloc (.cells #[.int .i64 n0, .int .i64 n1] 33)).alloc (.cells #[.int .i64 (-1), .int .i64 l1] 33)).later c
  have N := ((Has.new (w.alloc (.cells #[.int .i64 o0, .int .i64 o1] 33)) (w.heap.size + 1) 33 n0 n1 (by simp)).alloc (.cells #[.int .i64 (-1), .int .i64 l1] 33)).later c
  have M := (Has.new ((w.alloc (.cells #[.int .i64 o0, .int .i64 o1] 33)).alloc (.cells #[.int .i64 n0, .int .i64 n1] 33)) (w.heap.size + 1 + 1) 33 (-1) l1 (by simp)).later c
  have BB := below3 c
  clear c
  have gO := O.c0
  have gO' := O.c1
  have gN := N.c0
  have gN' := N.c1
  have gM := M.c0
  have gM' := M.c1
  go_wp2_with fail
  refine (grows_any o0 o1 n0 n1 (-1) l1 _).mono ?_
  rintro e w2 ⟨rfl, c⟩
  rw [HG.out]
  clear gO gO' gN gN' gM gM'
  replace O := O.later c
  replace N := N.later c
  replace M := M.later c
  replace BB := BB.trans (c.mono BB.size)
  clear c
  have gO := O.c0
  have gO' := O.c1
  have gN := N.c0
  have gN' := N.c1
  have gM := M.c0
  have gM' := M.c1
  go_wp2_with fail
  refine (of_any n0 (-1) _).mono ?_
  rintro e w3 ⟨b, hb, fb, rfl, c⟩
  clear gO gO' gN gN' gM gM'
  replace O := O.later c
  replace N := N.later c
  replace M := M.later c
  replace BB := BB.trans (c.mono BB.size)
  clear c
  have gO := O.c0
  have gO' := O.c1
  have gN := N.c0
  have gN' := N.c1
  have gM := M.c0
  have gM' := M.c1
  have eb := hb.neg (by omega)
  subst eb
  clear hb
  obtain ⟨v1, e1⟩ : ∃ x, cmp3 (tk 9223372036854775808) (tk 4607182418800017408) = x := ⟨_, rfl⟩
  obtain ⟨p1, f1⟩ : ∃ x, permF 9223372036854775808 = x := ⟨_, rfl⟩
  have k1 : v1 ≤ 0 := by rw [← e1]; exact cmp3_le (by rw [tk_const.1, tk_lo (by omega)]; omega)
  have k2 : p1 ≤ 1000 := by rw [← f1, perm_nzero]; omega
  have E1 := Lib.hid e1
  have F1 := Lib.hid f1
  clear e1 f1
  go_wp2_with fail
  refine (order_any 9223372036854775808 4607182418800017408 fb fit1 _).mono ?_
  rintro e w4 ⟨rfl, rfl⟩
  rw [E1.out]
  go_wp2_with fail
  refine (permille_any 9223372036854775808 fb _).mono ?_
  rintro e w4 ⟨rfl, rfl⟩
  rw [F1.out]
  go_wp2_with fail
  refine (left_any n0 (-1) _).mono ?_
  rintro e w4 ⟨rfl, rfl⟩
  rw [HL.out]
  go_wp2_with fail
  refine (add_any n0 d _).mono ?_
  rintro e w4 ⟨rfl, c⟩
  rw [HA.out]; unfold two; dsimp only
  clear gO gO' gN gN' gM gM'
  replace N := N.later c
  replace M := M.later c
  replace BB := BB.trans (c.mono BB.size)
  clear c O
  have ggN := N.c0
  have ggN' := N.c1
  have gN : ∀ o, (w4.alloc o).cell? ⟨w.heap.size + 1, 0, none⟩ = some (.int .i64 n0) := fun o => (N.alloc o).c0
  have gN' : ∀ o, (w4.alloc o).cell? ⟨w.heap.size + 1, 1, none⟩ = some (.int .i64 n1) := fun o => (N.alloc o).c1
  have ggM := M.c0
  have ggM' := M.c1
  have gM : ∀ o, (w4.alloc o).cell? ⟨w.heap.size + 1 + 1, 0, none⟩ = some (.int .i64 (-1)) := fun o => (M.alloc o).c0
  have gM' : ∀ o, (w4.alloc o).cell? ⟨w.heap.size + 1 + 1, 1, none⟩ = some (.int .i64 l1) := fun o => (M.alloc o).c1
  go_wp2_with fail
  refine (grows_any n0 n1 s n1 (-1) l1 _).mono ?_
  rintro e w5 ⟨rfl, c⟩
  rw [HG2.out]
  clear ggN ggN' ggM ggM' gN gN' gM gM'
  replace N := (N.alloc (.cells #[.int .i64 s, .int .i64 n1] 33)).later c
  replace M := (M.alloc (.cells #[.int .i64 s, .int .i64 n1] 33)).later c
  have X := (Has.new w4 w4.heap.size 33 s n1 rfl).later c
  replace BB := (BB.alloc BB.size (.cells #[.int .i64 s, .int .i64 n1] 33)).trans (c.mono (by have := BB.size; simp; omega))
  clear c
  have gN := N.c0
  have gN' := N.c1
  have gM := M.c0
  have gM' := M.c1
  have gX := X.c0
  have gX' := X.c1
  go_wp2_with fail
  refine (grows_any n0 n1 s n1 (-1) l1 _).mono ?_
  rintro e w6 ⟨rfl, c⟩
  rw [HG2.out]
  replace BB := BB.trans (c.mono BB.size)
  clear c
  go_wp2
  go_ret
  exact ⟨rfl, BB⟩
set_option maxHeartbeats 1000000 in
theorem grew (o0 o1 n0 n1 l0 l1 : Int) (w : World) (d s : Int) (T : Told o0 o1 n0 n1 l0 l1 d s) (hs : 0 ≤ l0 → n0 ≤ l0 → s = l0) (h0 : 0 ≤ n0) (hm : l0 ≤ 1125899906842624) (hgr : o0 < n0) (c1 : 1 ≤ l0) (c2 : n0 ≤ l0) :
    Calls Try.prog 13 #[.agg #[.int .i64 o0, .int .i64 o1], .agg #[.int .i64 n0, .int .i64 n1], .agg #[.int .i64 l0, .int .i64 l1]] w fun e w' => e = .returned (.bool true) ∧ Below w.heap.size w w' := by
  have HG := Lib.hid T.g
  have HL := Lib.hid T.left
  have HA := Lib.hid T.add
  have hd := T.pos
  have HG2 := Lib.hid T.g2
  clear T
  have es := hs (by omega) c2
  subst es
  clear hs
  go_enter Try.func13, Try.ntmps13
  go_wp2_with fail
  refine (begins_any _).mono ?_
  rintro e w1 ⟨rfl, c⟩
  have O := (((Has.new w w.heap.size 33 o0 o1 rfl).alloc (.cells #[.int .i64 n0, .int .i64 n1] 33)).alloc (.cells #[.int .i64 s, .int .i64 l1] 33)).later c
  have N := ((Has.new (w.alloc (.cells #[.int .i64 o0, .int .i64 o1] 33)) (w.heap.size + 1) 33 n0 n1 (by simp)).alloc (.cells #[.int .i64 s, .int .i64 l1] 33)).later c
  have M := (Has.new ((w.alloc (.cells #[.int .i64 o0, .int .i64 o1] 33)).alloc (.cells #[.int .i64 n0, .int .i64 n1] 33)) (w.heap.size + 1 + 1) 33 s l1 (by simp)).later c
  have BB := below3 c
  clear c
  have gO := O.c0
  have gO' := O.c1
  have gN := N.c0
  have gN' := N.c1
  have gM := M.c0
  have gM' := M.c1
  go_wp2_with fail
  refine (grows_any o0 o1 n0 n1 s l1 _).mono ?_
  rintro e w2 ⟨rfl, c⟩
  rw [HG.out]
  clear gO gO' gN gN' gM gM'
  replace O := O.later c
  replace N := N.later c
  replace M := M.later c
  replace BB := BB.trans (c.mono BB.size)
  clear c
  have gO := O.c0
  have gO' := O.c1
  have gN := N.c0
  have gN' := N.c1
  have gM := M.c0
  have gM' := M.c1
  go_wp2_with fail
  refine (of_any n0 s _).mono ?_
  rintro e w3 ⟨b, hb, fb, rfl, c⟩
  clear gO gO' gN gN' gM gM'
  replace O := O.later c
  replace N := N.later c
  replace M := M.later c
  replace BB := BB.trans (c.mono BB.size)
  clear c
  have gO := O.c0
  have gO' := O.c1
  have gN := N.c0
  have gN' := N.c1
  have gM := M.c0
  have gM' := M.c1
  have lb := at_most hb h0 c2 (by omega) (by omega)
  clear hb
  obtain ⟨v1, e1⟩ : ∃ x, cmp3 (tk b) (tk 4607182418800017408) = x := ⟨_, rfl⟩
  obtain ⟨p1, f1⟩ : ∃ x, permF b = x := ⟨_, rfl⟩
  have k1 : v1 ≤ 0 := by rw [← e1]; exact cmp3_le (by rw [tk_lo (by omega), tk_lo (by omega)]; omega)
  have k2 : p1 ≤ 1000 := by rw [← f1, ← perm_one]; exact perm_mono lb (by omega)
  have E1 := Lib.hid e1
  have F1 := Lib.hid f1
  clear e1 f1
  go_wp2_with fail
  refine (order_any b 4607182418800017408 fb fit1 _).mono ?_
  rintro e w4 ⟨rfl, rfl⟩
  rw [E1.out]
  go_wp2_with fail
  refine (permille_any b fb _).mono ?_
  rintro e w4 ⟨rfl, rfl⟩
  rw [F1.out]
  go_wp2_with fail
  refine (left_any n0 s _).mono ?_
  rintro e w4 ⟨rfl, rfl⟩
  rw [HL.out]
  go_wp2_with fail
  refine (add_any n0 d _).mono ?_
  rintro e w4 ⟨rfl, c⟩
  rw [HA.out]; unfold two; dsimp only
  clear gO gO' gN gN' gM gM'
  replace N := N.later c
  replace M := M.later c
  replace BB := BB.trans (c.mono BB.size)
  clear c O
  have ggN := N.c0
  have ggN' := N.c1
  have gN : ∀ o, (w4.alloc o).cell? ⟨w.heap.size + 1, 0, none⟩ = some (.int .i64 n0) := fun o => (N.alloc o).c0
  have gN' : ∀ o, (w4.alloc o).cell? ⟨w.heap.size + 1, 1, none⟩ = some (.int .i64 n1) := fun o => (N.alloc o).c1
  have ggM := M.c0
  have ggM' := M.c1
  have gM : ∀ o, (w4.alloc o).cell? ⟨w.heap.size + 1 + 1, 0, none⟩ = some (.int .i64 s) := fun o => (M.alloc o).c0
  have gM' : ∀ o, (w4.alloc o).cell? ⟨w.heap.size + 1 + 1, 1, none⟩ = some (.int .i64 l1) := fun o => (M.alloc o).c1
  go_wp2_with fail
  refine (grows_any n0 n1 s n1 s l1 _).mono ?_
  rintro e w5 ⟨rfl, c⟩
  rw [HG2.out]
  clear ggN ggN' ggM ggM' gN gN' gM gM'
  replace N := (N.alloc (.cells #[.int .i64 s, .int .i64 n1] 33)).later c
  replace M := (M.alloc (.cells #[.int .i64 s, .int .i64 n1] 33)).later c
  have X := (Has.new w4 w4.heap.size 33 s n1 rfl).later c
  replace BB := (BB.alloc BB.size (.cells #[.int .i64 s, .int .i64 n1] 33)).trans (c.mono (by have := BB.size; simp; omega))
  clear c
  have gN := N.c0
  have gN' := N.c1
  have gM := M.c0
  have gM' := M.c1
  have gX := X.c0
  have gX' := X.c1
  have z0 : (s == 0) = false := by simp; omega
  go_wp2_with fail
  refine (of_any s s _).mono ?_
  rintro e w6 ⟨b2, hb2, fb2, rfl, c⟩
  have eb := just_full hb2 (by omega) (by omega)
  subst eb
  replace BB := BB.trans (c.mono BB.size)
  clear c hb2
  go_wp2_with fail
  refine (order_any 4607182418800017408 4607182418800017408 fb2 fit1 _).mono ?_
  rintro e w7 ⟨rfl, rfl⟩
  rw [cmp3_eq rfl]
  go_wp2
  go_ret
  exact ⟨rfl, BB⟩
set_option maxHeartbeats 1000000 in
theorem kept_free (o0 o1 n0 n1 l0 l1 : Int) (w : World) (d s : Int) (T : Told o0 o1 n0 n1 l0 l1 d s) (hs : 0 ≤ l0 → n0 ≤ l0 → s = l0) (h0 : 0 ≤ n0) (hm : l0 ≤ 1125899906842624) (hgr : n0 ≤ o0) (c1 : l0 = -1) :
    Calls Try.prog 13 #[.agg #[.int .i64 o0, .int .i64 o1], .agg #[.int .i64 n0, .int .i64 n1], .agg #[.int .i64 l0, .int .i64 l1]] w fun e w' => e = .returned (.bool true) ∧ Below w.heap.size w w' := by
  have HG := Lib.hid T.g
  have HL := Lib.hid T.left
  have HA := Lib.hid T.add
  have hd := T.pos
  have HG2 := Lib.hid T.g2
  clear T
  subst c1
  clear hs
  go_enter Try.func13, Try.ntmps13
  go_wp2_with fail
  refine (begins_any _).mono ?_
  rintro e w1 ⟨rfl, c⟩
  have O := (((Has.new w w.heap.size 33 o0 o1 rfl).alloc (.cells #[.int .i64 n0, .int .i64 n1] 33)).alloc (.cells #[.int .i64 (-1), .int .i64 l1] 33)).later c
  have N := ((Has.new (w.alloc (.cells #[.int .i64 o0, .int .i64 o1] 33)) (w.heap.size + 1) 33 n0 n1 (by simp)).alloc (.cells #[.int .i64 (-1), .int .i64 l1] 33)).later c
  have M := (Has.new ((w.alloc (.cells #[.int .i64 o0, .int .i64 o1] 33)).alloc (.cells #[.int .i64 n0, .int .i64 n1] 33)) (w.heap.size + 1 + 1) 33 (-1) l1 (by simp)).later c
  have BB := below3 c
  clear c
  have gO := O.c0
  have gO' := O.c1
  have gN := N.c0
  have gN' := N.c1
  have gM := M.c0
  have gM' := M.c1
  go_wp2_with fail
  refine (grows_any o0 o1 n0 n1 (-1) l1 _).mono ?_
  rintro e w2 ⟨rfl, c⟩
  rw [HG.out]
  clear gO gO' gN gN' gM gM'
  replace O := O.later c
  replace N := N.later c
  replace M := M.later c
  replace BB := BB.trans (c.mono BB.size)
  clear c
  have gO := O.c0
  have gO' := O.c1
  have gN := N.c0
  have gN' := N.c1
  have gM := M.c0
  have gM' := M.c1
  go_wp2_with fail
  refine (of_any n0 (-1) _).mono ?_
  rintro e w3 ⟨b, hb, fb, rfl, c⟩
  clear gO gO' gN gN' gM gM'
  replace O := O.later c
  replace N := N.later c
  replace M := M.later c
  replace BB := BB.trans (c.mono BB.size)
  clear c
  have gO := O.c0
  have gO' := O.c1
  have gN := N.c0
  have gN' := N.c1
  have gM := M.c0
  have gM' := M.c1
  clear hb
  go_wp2_with fail
  refine (left_any n0 (-1) _).mono ?_
  rintro e w4 ⟨rfl, rfl⟩
  rw [HL.out]
  go_wp2_with fail
  refine (add_any n0 d _).mono ?_
  rintro e w4 ⟨rfl, c⟩
  rw [HA.out]; unfold two; dsimp only
  clear gO gO' gN gN' gM gM'
  replace N := N.later c
  replace M := M.later c
  replace BB := BB.trans (c.mono BB.size)
  clear c O
  have ggN := N.c0
  have ggN' := N.c1
  have gN : ∀ o, (w4.alloc o).cell? ⟨w.heap.size + 1, 0, none⟩ = some (.int .i64 n0) := fun o => (N.alloc o).c0
  have gN' : ∀ o, (w4.alloc o).cell? ⟨w.heap.size + 1, 1, none⟩ = some (.int .i64 n1) := fun o => (N.alloc o).c1
  have ggM := M.c0
  have ggM' := M.c1
  have gM : ∀ o, (w4.alloc o).cell? ⟨w.heap.size + 1 + 1, 0, none⟩ = some (.int .i64 (-1)) := fun o => (M.alloc o).c0
  have gM' : ∀ o, (w4.alloc o).cell? ⟨w.heap.size + 1 + 1, 1, none⟩ = some (.int .i64 l1) := fun o => (M.alloc o).c1
  go_wp2_with fail
  refine (grows_any n0 n1 s n1 (-1) l1 _).mono ?_
  rintro e w5 ⟨rfl, c⟩
  rw [HG2.out]
  clear ggN ggN' ggM ggM' gN gN' gM gM'
  replace N := (N.alloc (.cells #[.int .i64 s, .int .i64 n1] 33)).later c
  replace M := (M.alloc (.cells #[.int .i64 s, .int .i64 n1] 33)).later c
  have X := (Has.new w4 w4.heap.size 33 s n1 rfl).later c
  replace BB := (BB.alloc BB.size (.cells #[.int .i64 s, .int .i64 n1] 33)).trans (c.mono (by have := BB.size; simp; omega))
  clear c
  have gN := N.c0
  have gN' := N.c1
  have gM := M.c0
  have gM' := M.c1
  have gX := X.c0
  have gX' := X.c1
  go_wp2_with fail
  refine (grows_any n0 n1 s n1 (-1) l1 _).mono ?_
  rintro e w6 ⟨rfl, c⟩
  rw [HG2.out]
  replace BB := BB.trans (c.mono BB.size)
  clear c
  go_wp2
  go_ret
  exact ⟨rfl, BB⟩
set_option maxHeartbeats 1000000 in
theorem kept_over (o0 o1 n0 n1 l0 l1 : Int) (w : World) (d s : Int) (T : Told o0 o1 n0 n1 l0 l1 d s) (hs : 0 ≤ l0 → n0 ≤ l0 → s = l0) (h0 : 0 ≤ n0) (hm : l0 ≤ 1125899906842624) (hgr : n0 ≤ o0) (c1 : 0 ≤ l0) (c2 : l0 < n0) :
    Calls Try.prog 13 #[.agg #[.int .i64 o0, .int .i64 o1], .agg #[.int .i64 n0, .int .i64 n1], .agg #[.int .i64 l0, .int .i64 l1]] w fun e w' => e = .returned (.bool true) ∧ Below w.heap.size w w' := by
  have HG := Lib.hid T.g
  have HL := Lib.hid T.left
  have HA := Lib.hid T.add
  have hd := T.pos
  have HG2 := Lib.hid T.g2
  clear T
  clear hs
  go_enter Try.func13, Try.ntmps13
  go_wp2_with fail
  refine (begins_any _).mono ?_
  rintro e w1 ⟨rfl, c⟩
  have O := (((Has.new w w.heap.size 33 o0 o1 rfl).alloc (.cells #[.int .i64 n0, .int .i64 n1] 33)).alloc (.cells #[.int .i64 l0, .int .i64 l1] 33)).later c
  have N := ((Has.new (w.alloc (.cells #[.int .i64 o0, .int .i64 o1] 33)) (w.heap.size + 1) 33 n0 n1 (by simp)).alloc (.cells #[.int .i64 l0, .int .i64 l1] 33)).later c
  have M := (Has.new ((w.alloc (.cells #[.int .i64 o0, .int .i64 o1] 33)).alloc (.cells #[.int .i64 n0, .int .i64 n1] 33)) (w.heap.size + 1 + 1) 33 l0 l1 (by simp)).later c
  have BB := below3 c
  clear c
  have gO := O.c0
  have gO' := O.c1
  have gN := N.c0
  have gN' := N.c1
  have gM := M.c0
  have gM' := M.c1
  go_wp2_with fail
  refine (grows_any o0 o1 n0 n1 l0 l1 _).mono ?_
  rintro e w2 ⟨rfl, c⟩
  rw [HG.out]
  clear gO gO' gN gN' gM gM'
  replace O := O.later c
  replace N := N.later c
  replace M := M.later c
  replace BB := BB.trans (c.mono BB.size)
  clear c
  have gO := O.c0
  have gO' := O.c1
  have gN := N.c0
  have gN' := N.c1
  have gM := M.c0
  have gM' := M.c1
  go_wp2_with fail
  refine (of_any n0 l0 _).mono ?_
  rintro e w3 ⟨b, hb, fb, rfl, c⟩
  clear gO gO' gN gN' gM gM'
  replace O := O.later c
  replace N := N.later c
  replace M := M.later c
  replace BB := BB.trans (c.mono BB.size)
  clear c
  have gO := O.c0
  have gO' := O.c1
  have gN := N.c0
  have gN' := N.c1
  have gM := M.c0
  have gM' := M.c1
  clear hb
  go_wp2_with fail
  refine (left_any n0 l0 _).mono ?_
  rintro e w4 ⟨rfl, rfl⟩
  rw [HL.out]
  go_wp2_with fail
  refine (add_any n0 d _).mono ?_
  rintro e w4 ⟨rfl, c⟩
  rw [HA.out]; unfold two; dsimp only
  clear gO gO' gN gN' gM gM'
  replace N := N.later c
  replace M := M.later c
  replace BB := BB.trans (c.mono BB.size)
  clear c O
  have ggN := N.c0
  have ggN' := N.c1
  have gN : ∀ o, (w4.alloc o).cell? ⟨w.heap.size + 1, 0, none⟩ = some (.int .i64 n0) := fun o => (N.alloc o).c0
  have gN' : ∀ o, (w4.alloc o).cell? ⟨w.heap.size + 1, 1, none⟩ = some (.int .i64 n1) := fun o => (N.alloc o).c1
  have ggM := M.c0
  have ggM' := M.c1
  have gM : ∀ o, (w4.alloc o).cell? ⟨w.heap.size + 1 + 1, 0, none⟩ = some (.int .i64 l0) := fun o => (M.alloc o).c0
  have gM' : ∀ o, (w4.alloc o).cell? ⟨w.heap.size + 1 + 1, 1, none⟩ = some (.int .i64 l1) := fun o => (M.alloc o).c1
  go_wp2_with fail
  refine (grows_any n0 n1 s n1 l0 l1 _).mono ?_
  rintro e w5 ⟨rfl, c⟩
  rw [HG2.out]
  clear ggN ggN' ggM ggM' gN gN' gM gM'
  replace N := (N.alloc (.cells #[.int .i64 s, .int .i64 n1] 33)).later c
  replace M := (M.alloc (.cells #[.int .i64 s, .int .i64 n1] 33)).later c
  have X := (Has.new w4 w4.heap.size 33 s n1 rfl).later c
  replace BB := (BB.alloc BB.size (.cells #[.int .i64 s, .int .i64 n1] 33)).trans (c.mono (by have := BB.size; simp; omega))
  clear c
  have gN := N.c0
  have gN' := N.c1
  have gM := M.c0
  have gM' := M.c1
  have gX := X.c0
  have gX' := X.c1
  go_wp2_with fail
  refine (grows_any n0 n1 s n1 l0 l1 _).mono ?_
  rintro e w6 ⟨rfl, c⟩
  rw [HG2.out]
  replace BB := BB.trans (c.mono BB.size)
  clear c
  go_wp2
  go_ret
  exact ⟨rfl, BB⟩
set_option maxHeartbeats 1000000 in
theorem kept_zero (o0 o1 n0 n1 l0 l1 : Int) (w : World) (d s : Int) (T : Told o0 o1 n0 n1 l0 l1 d s) (hs : 0 ≤ l0 → n0 ≤ l0 → s = l0) (h0 : 0 ≤ n0) (hm : l0 ≤ 1125899906842624) (hgr : n0 ≤ o0) (c1 : l0 = 0) (c2 : n0 ≤ 0) :
    Calls Try.prog 13 #[.agg #[.int .i64 o0, .int .i64 o1], .agg #[.int .i64 n0, .int .i64 n1], .agg #[.int .i64 l0, .int .i64 l1]] w fun e w' => e = .returned (.bool true) ∧ Below w.heap.size w w' := by
  have HG := Lib.hid T.g
  have HL := Lib.hid T.left
  have HA := Lib.hid T.add
  have hd := T.pos
  have HG2 := Lib.hid T.g2
  clear T
  subst c1
  clear hs
  go_enter Try.func13, Try.ntmps13
  go_wp2_with fail
  refine (begins_any _).mono ?_
  rintro e w1 ⟨rfl, c⟩
  have O := (((Has.new w w.heap.size 33 o0 o1 rfl).alloc (.cells #[.int .i64 n0, .int .i64 n1] 33)).alloc (.cells #[.int .i64 0, .int .i64 l1] 33)).later c
  have N := ((Has.new (w.alloc (.cells #[.int .i64 o0, .int .i64 o1] 33)) (w.heap.size + 1) 33 n0 n1 (by simp)).alloc (.cells #[.int .i64 0, .int .i64 l1] 33)).later c
  have M := (Has.new ((w.alloc (.cells #[.int .i64 o0, .int .i64 o1] 33)).alloc (.cells #[.int .i64 n0, .int .i64 n1] 33)) (w.heap.size + 1 + 1) 33 0 l1 (by simp)).later c
  have BB := below3 c
  clear c
  have gO := O.c0
  have gO' := O.c1
  have gN := N.c0
  have gN' := N.c1
  have gM := M.c0
  have gM' := M.c1
  go_wp2_with fail
  refine (grows_any o0 o1 n0 n1 0 l1 _).mono ?_
  rintro e w2 ⟨rfl, c⟩
  rw [HG.out]
  clear gO gO' gN gN' gM gM'
  replace O := O.later c
  replace N := N.later c
  replace M := M.later c
  replace BB := BB.trans (c.mono BB.size)
  clear c
  have gO := O.c0
  have gO' := O.c1
  have gN := N.c0
  have gN' := N.c1
  have gM := M.c0
  have gM' := M.c1
  go_wp2_with fail
  refine (of_any n0 0 _).mono ?_
  rintro e w3 ⟨b, hb, fb, rfl, c⟩
  clear gO gO' gN gN' gM gM'
  replace O := O.later c
  replace N := N.later c
  replace M := M.later c
  replace BB := BB.trans (c.mono BB.size)
  clear c
  have gO := O.c0
  have gO' := O.c1
  have gN := N.c0
  have gN' := N.c1
  have gM := M.c0
  have gM' := M.c1
  clear hb
  go_wp2_with fail
  refine (left_any n0 0 _).mono ?_
  rintro e w4 ⟨rfl, rfl⟩
  rw [HL.out]
  go_wp2_with fail
  refine (add_any n0 d _).mono ?_
  rintro e w4 ⟨rfl, c⟩
  rw [HA.out]; unfold two; dsimp only
  clear gO gO' gN gN' gM gM'
  replace N := N.later c
  replace M := M.later c
  replace BB := BB.trans (c.mono BB.size)
  clear c O
  have ggN := N.c0
  have ggN' := N.c1
  have gN : ∀ o, (w4.alloc o).cell? ⟨w.heap.size + 1, 0, none⟩ = some (.int .i64 n0) := fun o => (N.alloc o).c0
  have gN' : ∀ o, (w4.alloc o).cell? ⟨w.heap.size + 1, 1, none⟩ = some (.int .i64 n1) := fun o => (N.alloc o).c1
  have ggM := M.c0
  have ggM' := M.c1
  have gM : ∀ o, (w4.alloc o).cell? ⟨w.heap.size + 1 + 1, 0, none⟩ = some (.int .i64 0) := fun o => (M.alloc o).c0
  have gM' : ∀ o, (w4.alloc o).cell? ⟨w.heap.size + 1 + 1, 1, none⟩ = some (.int .i64 l1) := fun o => (M.alloc o).c1
  go_wp2_with fail
  refine (grows_any n0 n1 s n1 0 l1 _).mono ?_
  rintro e w5 ⟨rfl, c⟩
  rw [HG2.out]
  clear ggN ggN' ggM ggM' gN gN' gM gM'
  replace N := (N.alloc (.cells #[.int .i64 s, .int .i64 n1] 33)).later c
  replace M := (M.alloc (.cells #[.int .i64 s, .int .i64 n1] 33)).later c
  have X := (Has.new w4 w4.heap.size 33 s n1 rfl).later c
  replace BB := (BB.alloc BB.size (.cells #[.int .i64 s, .int .i64 n1] 33)).trans (c.mono (by have := BB.size; simp; omega))
  clear c
  have gN := N.c0
  have gN' := N.c1
  have gM := M.c0
  have gM' := M.c1
  have gX := X.c0
  have gX' := X.c1
  go_wp2_with fail
  refine (grows_any n0 n1 s n1 0 l1 _).mono ?_
  rintro e w6 ⟨rfl, c⟩
  rw [HG2.out]
  replace BB := BB.trans (c.mono BB.size)
  clear c
  go_wp2
  go_ret
  exact ⟨rfl, BB⟩
set_option maxHeartbeats 1000000 in
theorem kept (o0 o1 n0 n1 l0 l1 : Int) (w : World) (d s : Int) (T : Told o0 o1 n0 n1 l0 l1 d s) (hs : 0 ≤ l0 → n0 ≤ l0 → s = l0) (h0 : 0 ≤ n0) (hm : l0 ≤ 1125899906842624) (hgr : n0 ≤ o0) (c1 : 1 ≤ l0) (c2 : n0 ≤ l0) :
    Calls Try.prog 13 #[.agg #[.int .i64 o0, .int .i64 o1], .agg #[.int .i64 n0, .int .i64 n1], .agg #[.int .i64 l0, .int .i64 l1]] w fun e w' => e = .returned (.bool true) ∧ Below w.heap.size w w' := by
  have HG := Lib.hid T.g
  have HL := Lib.hid T.left
  have HA := Lib.hid T.add
  have hd := T.pos
  have HG2 := Lib.hid T.g2
  clear T
  have es := hs (by omega) c2
  subst es
  clear hs
  go_enter Try.func13, Try.ntmps13
  go_wp2_with fail
  refine (begins_any _).mono ?_
  rintro e w1 ⟨rfl, c⟩
  have O := (((Has.new w w.heap.size 33 o0 o1 rfl).alloc (.cells #[.int .i64 n0, .int .i64 n1] 33)).alloc (.cells #[.int .i64 s, .int .i64 l1] 33)).later c
  have N := ((Has.new (w.alloc (.cells #[.int .i64 o0, .int .i64 o1] 33)) (w.heap.size + 1) 33 n0 n1 (by simp)).alloc (.cells #[.int .i64 s, .int .i64 l1] 33)).later c
  have M := (Has.new ((w.alloc (.cells #[.int .i64 o0, .int .i64 o1] 33)).alloc (.cells #[.int .i64 n0, .int .i64 n1] 33)) (w.heap.size + 1 + 1) 33 s l1 (by simp)).later c
  have BB := below3 c
  clear c
  have gO := O.c0
  have gO' := O.c1
  have gN := N.c0
  have gN' := N.c1
  have gM := M.c0
  have gM' := M.c1
  go_wp2_with fail
  refine (grows_any o0 o1 n0 n1 s l1 _).mono ?_
  rintro e w2 ⟨rfl, c⟩
  rw [HG.out]
  clear gO gO' gN gN' gM gM'
  replace O := O.later c
  replace N := N.later c
  replace M := M.later c
  replace BB := BB.trans (c.mono BB.size)
  clear c
  have gO := O.c0
  have gO' := O.c1
  have gN := N.c0
  have gN' := N.c1
  have gM := M.c0
  have gM' := M.c1
  go_wp2_with fail
  refine (of_any n0 s _).mono ?_
  rintro e w3 ⟨b, hb, fb, rfl, c⟩
  clear gO gO' gN gN' gM gM'
  replace O := O.later c
  replace N := N.later c
  replace M := M.later c
  replace BB := BB.trans (c.mono BB.size)
  clear c
  have gO := O.c0
  have gO' := O.c1
  have gN := N.c0
  have gN' := N.c1
  have gM := M.c0
  have gM' := M.c1
  clear hb
  go_wp2_with fail
  refine (left_any n0 s _).mono ?_
  rintro e w4 ⟨rfl, rfl⟩
  rw [HL.out]
  go_wp2_with fail
  refine (add_any n0 d _).mono ?_
  rintro e w4 ⟨rfl, c⟩
  rw [HA.out]; unfold two; dsimp only
  clear gO gO' gN gN' gM gM'
  replace N := N.later c
  replace M := M.later c
  replace BB := BB.trans (c.mono BB.size)
  clear c O
  have ggN := N.c0
  have ggN' := N.c1
  have gN : ∀ o, (w4.alloc o).cell? ⟨w.heap.size + 1, 0, none⟩ = some (.int .i64 n0) := fun o => (N.alloc o).c0
  have gN' : ∀ o, (w4.alloc o).cell? ⟨w.heap.size + 1, 1, none⟩ = some (.int .i64 n1) := fun o => (N.alloc o).c1
  have ggM := M.c0
  have ggM' := M.c1
  have gM : ∀ o, (w4.alloc o).cell? ⟨w.heap.size + 1 + 1, 0, none⟩ = some (.int .i64 s) := fun o => (M.alloc o).c0
  have gM' : ∀ o, (w4.alloc o).cell? ⟨w.heap.size + 1 + 1, 1, none⟩ = some (.int .i64 l1) := fun o => (M.alloc o).c1
  go_wp2_with fail
  refine (grows_any n0 n1 s n1 s l1 _).mono ?_
  rintro e w5 ⟨rfl, c⟩
  rw [HG2.out]
  clear ggN ggN' ggM ggM' gN gN' gM gM'
  replace N := (N.alloc (.cells #[.int .i64 s, .int .i64 n1] 33)).later c
  replace M := (M.alloc (.cells #[.int .i64 s, .int .i64 n1] 33)).later c
  have X := (Has.new w4 w4.heap.size 33 s n1 rfl).later c
  replace BB := (BB.alloc BB.size (.cells #[.int .i64 s, .int .i64 n1] 33)).trans (c.mono (by have := BB.size; simp; omega))
  clear c
  have gN := N.c0
  have gN' := N.c1
  have gM := M.c0
  have gM' := M.c1
  have gX := X.c0
  have gX' := X.c1
  have z0 : (s == 0) = false := by simp; omega
  go_wp2_with fail
  refine (of_any s s _).mono ?_
  rintro e w6 ⟨b2, hb2, fb2, rfl, c⟩
  have eb := just_full hb2 (by omega) (by omega)
  subst eb
  replace BB := BB.trans (c.mono BB.size)
  clear c hb2
  go_wp2_with fail
  refine (order_any 4607182418800017408 4607182418800017408 fb2 fit1 _).mono ?_
  rintro e w7 ⟨rfl, rfl⟩
  rw [cmp3_eq rfl]
  go_wp2
  go_ret
  exact ⟨rfl, BB⟩

theorem topFull_walk (o0 o1 : Int) (_ : (Lit.int .i64 o0).wf = true) (_ : (Lit.int .i64 o1).wf = true) (n0 n1 : Int) (_ : (Lit.int .i64 n0).wf = true) (_ : (Lit.int .i64 n1).wf = true) (l0 l1 : Int) (_ : (Lit.int .i64 l0).wf = true) (_ : (Lit.int .i64 l1).wf = true) (w : World) :
    Calls Try.prog 13 #[.agg #[.int .i64 o0, .int .i64 o1], .agg #[.int .i64 n0, .int .i64 n1], .agg #[.int .i64 l0, .int .i64 l1]] w fun e w' => e = .returned (.bool true) ∧ Below w.heap.size w w' := by
  by_cases hg : growsF o0 o1 n0 n1 l0 l1 = 0
  · obtain ⟨d, s, T, hs⟩ := told hg
    obtain ⟨ho, hn, hl, h1, h2⟩ := grows_zero hg
    simp only [okB, Bool.and_eq_true, inRB_true] at ho hn
    have hb : -1 ≤ l0 ∧ l0 ≤ 1125899906842624 := by simp [limB] at hl; omega
    by_cases hgr : o0 < n0
    · by_cases c1 : l0 = -1
      · exact grew_free o0 o1 n0 n1 l0 l1 w d s T hs (by omega) (by omega) hgr c1
      · have : n0 ≤ l0 := by rcases outB_false h1 (by omega) with h | ⟨_, h⟩ | ⟨_, _, h⟩ <;> omega
        exact grew o0 o1 n0 n1 l0 l1 w d s T hs (by omega) (by omega) hgr (by omega) this
    · by_cases c1 : l0 = -1
      · exact kept_free o0 o1 n0 n1 l0 l1 w d s T hs (by omega) (by omega) (by omega) c1
      · by_cases c2 : l0 < n0
        · exact kept_over o0 o1 n0 n1 l0 l1 w d s T hs (by omega) (by omega) (by omega) (by omega) c2
        · by_cases c3 : l0 = 0
          · exact kept_zero o0 o1 n0 n1 l0 l1 w d s T hs (by omega) (by omega) (by omega) c3 (by omega)
          · exact kept o0 o1 n0 n1 l0 l1 w d s T hs (by omega) (by omega) (by omega) (by omega) (by omega)
  · exact refused o0 o1 n0 n1 l0 l1 w (by simpa using hg)
end Go.Proofs.Ytmhfbgcfagfmbaa.topFull
