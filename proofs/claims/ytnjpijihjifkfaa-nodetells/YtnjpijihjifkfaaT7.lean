/- Contract: a branch's text. -/
import Derived.Test.YtnjpijihjifkfaaT6
namespace Go.Proofs.Ytnjpijihjifkfaa
open Go.RowKit
set_option linter.unusedVariables false
theorem kid_at {K : List Int} (h : K.all okKid = true) {k : Nat} (hk : k < K.length) : 2 ≤ K.getD k 0 ∧ K.getD k 0 < 3840 := by
  have h1 := (List.all_eq_true.1 h) K[k] (List.getElem_mem hk)
  rw [getD_at _ _ _ hk]
  exact of_decide_eq_true h1
section
variable {w : World} {a : Option Addr} {n c : Nat} {ka : Option Addr} {kn kc : Nat} {I : List It} {K : List Int}
set_option maxRecDepth 100000 in
set_option maxHeartbeats 4000000 in
theorem branchText_any (hI : Its w a n I) (hK : Kds w ka kn K) (hn : n + 1 = kn) (hkn : kn ≤ 255) (hS : I.all (okIt false) = true) (hKo : K.all okKid = true) :
    Calls Try.prog 31 #[.agg #[.slice a n c, .slice ka kn kc]] w fun e w' => e = .returned (.string (bs (headB K ++ brTo I K n))) ∧ Below w.heap.size w w' := by
  have HI := Lib.hid hI
  have HL := Lib.hid hI.1
  have HK := Lib.hid hK
  have HKL := Lib.hid hK.1
  have HKO := Lib.hid hKo
  have HS := Lib.hid (show ∀ k, k < n → (kq I k).size ≤ 64 by
    intro k hk
    have hkl : k < I.length := by rw [hI.1]; exact hk
    have h1 := (List.all_eq_true.1 hS) I[k] (List.getElem_mem hkl)
    rw [kv_at I k hkl] at h1
    have h2 := of_decide_eq_true h1
    simp at h2; omega)
  obtain ⟨kb, koff, rfl, hkb, k0⟩ := hK.at (k := 0) (by omega)
  obtain ⟨z, hz⟩ : ∃ z, K.getD 0 0 = z := ⟨_, rfl⟩
  have hz2 := kid_at hKo (k := 0) (by rw [hK.1]; omega)
  rw [hz] at k0 hz2
  rw [Nat.add_zero] at k0
  obtain ⟨t1, ht1⟩ : ∃ t, bs (numL 1 2) = t := ⟨_, rfl⟩
  obtain ⟨t2, ht2⟩ : ∃ t, bs (numL 1 kn) = t := ⟨_, rfl⟩
  obtain ⟨t3, ht3⟩ : ∃ t, bs (numL 2 z.toNat) = t := ⟨_, rfl⟩
  have K1 := Lib.hid (fun w => count_lit 2 2 rfl t1 ht1 (by omega) w)
  have K2 := Lib.hid (fun w => count_any kn t2 ht2 (by omega) (by omega) w)
  have K3 := Lib.hid (fun w => kidText_any z t3 ht3 (by omega) (by omega) w)
  have hs1 : t1.size ≤ 1 := by rw [← ht1, bs_size, numL_length]; exact Nat.le_refl _
  have hs2 : t2.size ≤ 1 := by rw [← ht2, bs_size, numL_length]; exact Nat.le_refl _
  have hs3 : t3.size ≤ 2 := by rw [← ht3, bs_size, numL_length]; exact Nat.le_refl _
  have hq1 : ¬ 9223372036854775807 < t1.size + t2.size := by omega
  have hq2 : ¬ (9223372036854775807 : Int) < (t1.size : Int) + (t2.size : Int) := by omega
  have hq3 : ¬ 9223372036854775807 < t1.size + t2.size + t3.size := by omega
  have hq4 : ¬ (9223372036854775807 : Int) < (t1.size : Int) + (t2.size : Int) + (t3.size : Int) := by omega
  have hts : (t1 ++ t2 ++ t3).size ≤ 4 := by rw [ByteArray.size_append, ByteArray.size_append]; omega
  have HT := Lib.hid (show (t1 ++ t2 ++ t3).data.toList = headB K by rw [app_list, app_list, ← ht1, ← ht2, ← ht3, bs_toList, bs_toList, bs_toList]; unfold headB; rw [hK.1, hz])
  have hknz : (0 : Int) < (kn : Int) := by omega
  have hknn : 0 < kn := by omega
  clear hI hS ht1 ht2 ht3 hK hz hKo
  go_enter Try.func31, Try.ntmps31
  have hN := (Nd.new w a n c (some ⟨kb, koff, none⟩) kn kc 31).below (new_below _ (.cells #[.pointer none, .slice none 0 0] 87))
  have hBB := below_to (new_below w (.cells #[.slice a n c, .slice (some ⟨kb, koff, none⟩) kn kc] 31)) (new_below _ (.cells #[.pointer none, .slice none 0 0] 87))
  have hBd := Bld.new (w.alloc (.cells #[.slice a n c, .slice (some ⟨kb, koff, none⟩) kn kc] 31)) (w.heap.size + 1) (by simp)
  have hSz : w.heap.size + 1 ≤ ((w.alloc (.cells #[.slice a n c, .slice (some ⟨kb, koff, none⟩) kn kc] 31)).alloc (.cells #[.pointer none, .slice none 0 0] 87)).heap.size := by simp
  go_wp2_with fail
  generalize (w.alloc (.cells #[.slice a n c, .slice (some ⟨kb, koff, none⟩) kn kc] 31)).alloc (.cells #[.pointer none, .slice none 0 0] 87) = w2 at hN hBB hBd hSz ⊢
  have x0 := hN.c1
  have x1 : w2.cell? ⟨kb, koff, none⟩ = some (.int .i64 z) := (hBB.cell (p := ⟨kb, koff, none⟩) hkb).trans k0
  have hC1 : w2.drew.cell? ⟨w.heap.size, 1, none⟩ = some (.slice (some ⟨kb, koff, none⟩) kn kc) := x0
  have hC2 : w2.drew.cell? ⟨kb, koff, none⟩ = some (.int .i64 z) := x1
  have hC0 : w2.drew.cell? ⟨w.heap.size, 0, none⟩ = some (.slice a n c) := hN.c0
  have hkb1 : kb < w.heap.size + 1 := by omega
  replace hBB := below_to hBB (Below.refl w2.heap.size w2).drew
  replace hBd := hBd.below (Below.refl w2.heap.size w2).drew
  clear hN k0
  go_region_held3 (fun w' => w'.cell? ⟨w.heap.size, 1, none⟩ = some (.slice (some ⟨kb, koff, none⟩) kn kc) ∧ w'.cell? ⟨kb, koff, none⟩ = some (.int .i64 z))
    (first | exact ⟨x0, x1⟩ | exact ⟨cell_keep2 hC1 hBW (Nat.lt_succ_self _), cell_keep2 hC2 hBW hkb1⟩ | exact ⟨hC1, hC2⟩)
    (first | (go_at_call 53; refine (K1.out _).mono ?_; rintro e w4 ⟨rfl, hb⟩; replace hBd := hBd.below hb; replace hBB := below_to hBB hb; replace hSz := Nat.le_trans hSz hb.size; replace hC1 := cell_keep hC1 hb; replace hC2 := cell_keep hC2 hb; replace hC0 := cell_keep hC0 hb)
           | (go_at_call 53; refine (K2.out _).mono ?_; rintro e w4 ⟨rfl, hb⟩; replace hBd := hBd.below hb; replace hBB := below_to hBB hb; replace hSz := Nat.le_trans hSz hb.size; replace hC1 := cell_keep hC1 hb; replace hC2 := cell_keep hC2 hb; replace hC0 := cell_keep hC0 hb)
           | (go_at_call 56; refine (K3.out _).mono ?_; rintro e w4 ⟨rfl, hb⟩; replace hBd := hBd.below hb; replace hBB := below_to hBB hb; replace hSz := Nat.le_trans hSz hb.size; replace hC1 := cell_keep hC1 hb; replace hC2 := cell_keep hC2 hb; replace hC0 := cell_keep hC0 hb)
           | (go_at_call 52; refine (write_any _ _ _ _ _ hBd (by simp only [List.length_nil]; omega) hSz).mono ?_; rintro e w6 ⟨⟨v, rfl⟩, hW, hBW, hO⟩))
  have hBB6 : Below w.heap.size w w6 := hBB.trans (hBW.mono (Nat.le_succ _))
  have hSz6 : w.heap.size + 1 ≤ w6.heap.size := Nat.le_trans hSz hBW.size
  have c0 := cell_keep2 hC0 hBW (Nat.lt_succ_self _)
  have c1 := cell_keep2 hC1 hBW (Nat.lt_succ_self _)
  rw [List.nil_append, HT.out] at hW
  clear hBd hBB hSz hBW hO hb x0 x1 hC0 hC1 hC2 hq1 hq2 hq3 hq4
  go_wp2_with fail
  have HC1 := Lib.hid c1
  clear c0 c1
  go_loopw [22] (fun i wx => ∃ k, k ≤ n ∧ Hid ((headB K ++ brTo I K k).length ≤ 4 + 67 * k) ∧ Bld (w.heap.size + 1) (w.heap.size + 1) (headB K ++ brTo I K k) wx ∧ Below w.heap.size w wx ∧ w.heap.size + 1 ≤ wx.heap.size ∧ Hid (wx.cell? ⟨w.heap.size, 1, none⟩ = some (.slice (some ⟨kb, koff, none⟩) kn kc)) ∧ i = .int .i64 (k : Int)) (fun i _ => n - (intOf i).toNat)
  case atStart => exact ⟨0, by omega, Lib.hid (by unfold headB brTo; simp [numL_length]), by rw [show headB K ++ brTo I K 0 = headB K by simp [brTo]]; exact hW, hBB6, hSz6, HC1, rfl⟩
  case round =>
    clear hW hBB6 hSz6 HC1
    obtain ⟨k, hk, HLe, hBd, hBB, hSz, HC1, rfl⟩ := hrel
    by_cases hlt : k < n
    · obtain ⟨g, off, rfl, hg, e0, e1⟩ := (HI.out.below hBB).at hlt
      have hkl : k < I.length := by rw [HL.out]; exact hlt
      have hps := HS.out k hlt
      obtain ⟨m, hm⟩ : ∃ m, k + 1 = m := ⟨_, rfl⟩
      obtain ⟨kb2, koff2, hke, _, k1⟩ := (HK.out.below hBB).at (k := m) (by omega)
      simp only [Option.some.injEq, Addr.mk.injEq, and_true] at hke
      obtain ⟨rfl, rfl⟩ := hke
      have hz2 := kid_at HKO.out (k := m) (by rw [HKL.out]; omega)
      obtain ⟨z, hz⟩ : ∃ z, K.getD m 0 = z := ⟨_, rfl⟩
      rw [hz] at k1 hz2
      obtain ⟨p, hp⟩ : ∃ p, kq I k = p := ⟨_, rfl⟩
      obtain ⟨q, hq⟩ : ∃ q, vq I k = q := ⟨_, rfl⟩
      rw [hp] at e0 hps
      rw [hq] at e1
      obtain ⟨tp, htp⟩ : ∃ t, shortB p = t := ⟨_, rfl⟩
      obtain ⟨tz, htz⟩ : ∃ t, bs (numL 2 z.toNat) = t := ⟨_, rfl⟩
      have KP := Lib.hid (fun w => short_any p tp htp (by omega) w)
      have KZ := Lib.hid (fun w => kidText_any z tz htz (by omega) (by omega) w)
      have hs1 : tp.size ≤ 65 := by rw [← htp]; unfold shortB; rw [ByteArray.size_append, bs_size, numL_length]; omega
      have hs2 : tz.size ≤ 2 := by rw [← htz, bs_size, numL_length]; exact Nat.le_refl _
      have hq1 : ¬ 9223372036854775807 < tp.size + tz.size := by omega
      have hq2 : ¬ (9223372036854775807 : Int) < (tp.size : Int) + (tz.size : Int) := by omega
      have hts : (tp ++ tz).size ≤ 67 := by rw [ByteArray.size_append]; omega
      have HTI := Lib.hid (show headB K ++ brTo I K k ++ (tp ++ tz).data.toList = headB K ++ brTo I K m by
        rw [← hm, brTo_succ, getD_at _ _ _ hkl, kv_at I k hkl, hp, hm, hz, app_list, ← htp, ← htz]
        unfold shortB itemB
        rw [app_list, bs_toList, bs_toList]
        simp only [List.append_assoc])
      have HLe2 := Lib.hid (show (headB K ++ brTo I K m).length ≤ 4 + 67 * m by
        rw [← HTI.out, List.length_append]
        have h1 := HLe.out
        have h2 : (tp ++ tz).data.toList.length = (tp ++ tz).size := Array.length_toList ..
        omega)
      have hlen : (headB K ++ brTo I K k).length + (tp ++ tz).size ≤ 140737488355328 := by have := HLe.out; omega
      have hX := ItB.new wr p q
      have HM := Lib.hid hm
      have hmn : m ≤ n := by omega
      have hmk : m < kn := by omega
      clear hp hq htp htz hz hm
      have hBz := below_to hBB (new_below wr (.cells #[.string p, .string q] 44))
      have hBdz := hBd.below (new_below wr (.cells #[.string p, .string q] 44))
      have hSzz := Nat.le_trans hSz (new_below wr (.cells #[.string p, .string q] 44)).size
      have hC1 := cell_keep HC1.out (new_below wr (.cells #[.string p, .string q] 44))
      have hC2 := cell_keep k1 (new_below wr (.cells #[.string p, .string q] 44))
      have hgt : wr.heap.size ≠ w.heap.size + 1 := by
        intro he
        have h1 : Bld (w.heap.size + 1) (w.heap.size + 1) (headB K ++ brTo I K k) wr := hBd
        rcases h1 with ⟨_, v, h2, _⟩ | ⟨_, v, h2, _⟩
        · have := (Array.getElem?_eq_some_iff.1 h2).1; omega
        · have := (Array.getElem?_eq_some_iff.1 h2).1; omega
      go_wp2_with fail
      clear e0 e1 hBB hBd hSz k1
      generalize wr.alloc (.cells #[.string p, .string q] 44) = wz at hX hBz hBdz hSzz hC1 hC2 ⊢
      have hXd : ItB wz.drew wr.heap.size p q := hX.below (Below.refl wz.heap.size wz).drew
      have hBdd := hBdz.below (Below.refl wz.heap.size wz).drew
      have hBd2 := below_to hBz (Below.refl wz.heap.size wz).drew
      have x0 := hX.cells.1
      have x1 := hC1
      have x2 := hC2
      replace hC1 : wz.drew.cell? ⟨w.heap.size, 1, none⟩ = some (.slice (some ⟨kb, koff, none⟩) kn kc) := x1
      replace hC2 : wz.drew.cell? ⟨kb, koff + m, none⟩ = some (.int .i64 z) := x2
      have hkm : (k : Int) + 1 = (m : Int) := by have := HM.out; omega
      have hmw : IntKind.i64.wrap (m : Int) = (m : Int) := by rw [IntWalk.i64_in _ (by omega)]
      clear hX hBz hBdz
      go_region_held3 (fun w' => w'.cell? ⟨wr.heap.size, 0, none⟩ = some (.string p) ∧ w'.cell? ⟨w.heap.size, 1, none⟩ = some (.slice (some ⟨kb, koff, none⟩) kn kc) ∧ w'.cell? ⟨kb, koff + m, none⟩ = some (.int .i64 z))
        (first | exact ⟨x0, x1, x2⟩ | exact ⟨(hXd.kept hO hgt).cells.1, cell_keep2 hC1 hBW (Nat.lt_succ_self _), cell_keep2 hC2 hBW hkb1⟩ | exact ⟨hXd.cells.1, hC1, hC2⟩)
        (first | (go_at_call 54; refine (KP.out _).mono ?_; rintro e w4 ⟨rfl, hb⟩; replace hBdd := hBdd.below hb; replace hBd2 := below_to hBd2 hb; replace hSzz := Nat.le_trans hSzz hb.size; replace hXd := hXd.below hb; replace hC1 := cell_keep hC1 hb; replace hC2 := cell_keep hC2 hb)
               | (go_at_call 56; refine (KZ.out _).mono ?_; rintro e w4 ⟨rfl, hb⟩; replace hBdd := hBdd.below hb; replace hBd2 := below_to hBd2 hb; replace hSzz := Nat.le_trans hSzz hb.size; replace hXd := hXd.below hb; replace hC1 := cell_keep hC1 hb; replace hC2 := cell_keep hC2 hb)
               | (go_at_call 52; refine (write_any _ _ _ _ _ hBdd hlen hSzz).mono ?_; rintro e w6 ⟨⟨v, rfl⟩, hW, hBW, hO⟩))
      rw [HTI.out] at hW
      have hBB6 : Below w.heap.size w w6 := hBd2.trans (hBW.mono (Nat.le_succ _))
      have hSz6 : w.heap.size + 1 ≤ w6.heap.size := Nat.le_trans hSzz hBW.size
      have HC6 := Lib.hid (cell_keep2 hC1 hBW (Nat.lt_succ_self _))
      clear hBdd hBd2 hSzz hBW hO hb hXd x0 x1 x2 hq1 hq2 hC1 hC2 hmw
      go_wp2_with fail
      go_roundw
      case rel => exact ⟨m, by omega, HLe2, hW, hBB6, hSz6, HC6, by go_num⟩
      case measure => simp [intOf]; omega
    · obtain rfl : k = n := by omega
      go_wp2_with fail
      refine (string_any _ _ _ _ hBd hSz).mono ?_
      rintro e w7 ⟨rfl, hb⟩
      go_wp2_with fail
      go_ret
      exact ⟨rfl, hBB.trans (hb.mono (Nat.le_succ _))⟩
end
end Go.Proofs.Ytnjpijihjifkfaa
