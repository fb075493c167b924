/- Contract: a leaf's text. -/
import Derived.Test.YtnjpijihjifkfaaT5
import Derived.Deep.RegionHeld3
namespace Go.Proofs.Ytnjpijihjifkfaa
open Go.RowKit
set_option linter.unusedVariables false
theorem cell_keep {w w1 : World} {b o : Nat} {v : Value} (h : w.cell? ⟨b, o, none⟩ = some v) (B : Below w.heap.size w w1) : w1.cell? ⟨b, o, none⟩ = some v := (B.cell (p := ⟨b, o, none⟩) (World.block_lt_of_cell? w _ h)).trans h
theorem cell_keep2 {w w1 : World} {b o m : Nat} {v : Value} (h : w.cell? ⟨b, o, none⟩ = some v) (B : Below m w w1) (hb : b < m) : w1.cell? ⟨b, o, none⟩ = some v := (B.cell (p := ⟨b, o, none⟩) hb).trans h
theorem two_keep {w w1 : World} {b : Nat} {u v : Value} (h : w.cell? ⟨b, 0, none⟩ = some u ∧ w.cell? ⟨b, 1, none⟩ = some v) (B : Below w.heap.size w w1) : w1.cell? ⟨b, 0, none⟩ = some u ∧ w1.cell? ⟨b, 1, none⟩ = some v := ⟨cell_keep h.1 B, cell_keep h.2 B⟩
theorem count_lit (n : Nat) (N : Int) (hN : N = (n : Int)) (t : ByteArray) (h : bs (numL 1 n) = t) (hn2 : n ≤ 9223372036854775807) (w : World) : Calls Try.prog 53 #[.int .i64 N] w fun e w' => e = .returned (.string t) ∧ Below w.heap.size w w' := by
  subst hN; exact count_any n t h (by omega) hn2 w
theorem app_list (x y : ByteArray) : (x ++ y).data.toList = x.data.toList ++ y.data.toList := by simp
section
variable {w : World} {a : Option Addr} {n c : Nat} {ka : Option Addr} {kn kc : Nat} {I : List It}
set_option maxRecDepth 100000 in
set_option maxHeartbeats 2000000 in
theorem leafText_any (hI : Its w a n I) (hn : n ≤ 255) (hS : I.all (okIt true) = true) :
    Calls Try.prog 30 #[.agg #[.slice a n c, .slice ka kn kc]] w fun e w' => e = .returned (.string (bs (headL I ++ leafTo I n))) ∧ Below w.heap.size w w' := by
  have HI := Lib.hid hI
  have HL := Lib.hid hI.1
  have HS := Lib.hid (show ∀ k, k < n → (kq I k).size ≤ 64 ∧ (vq I k).size ≤ 64 by
    intro k hk
    have hkl : k < I.length := by rw [hI.1]; exact hk
    have h1 := (List.all_eq_true.1 hS) I[k] (List.getElem_mem hkl)
    rw [kv_at I k hkl] at h1
    have h2 := of_decide_eq_true h1
    simp at h2; omega)
  obtain ⟨t1, ht1⟩ : ∃ t, bs (numL 1 1) = t := ⟨_, rfl⟩
  obtain ⟨t2, ht2⟩ : ∃ t, bs (numL 1 n) = t := ⟨_, rfl⟩
  have K1 := Lib.hid (fun w => count_lit 1 1 rfl t1 ht1 (by omega) w)
  have K2 := Lib.hid (fun w => count_any n t2 ht2 (by omega) (by omega) w)
  have hs1 : t1.size ≤ 1 := by rw [← ht1, bs_size, numL_length]; exact Nat.le_refl _
  have hs2 : t2.size ≤ 1 := by rw [← ht2, bs_size, numL_length]; exact Nat.le_refl _
  have hq1 : ¬ 9223372036854775807 < t1.size + t2.size := by omega
  have hq2 : ¬ (9223372036854775807 : Int) < (t1.size : Int) + (t2.size : Int) := by omega
  have hts : (t1 ++ t2).size ≤ 2 := by rw [ByteArray.size_append, ← ht1, ← ht2, bs_size, bs_size, numL_length, numL_length]; omega
  have HT := Lib.hid (show (t1 ++ t2).data.toList = headL I by rw [app_list, ← ht1, ← ht2, bs_toList, bs_toList]; unfold headL; rw [hI.1])
  clear hI hS ht1 ht2
  go_enter Try.func30, Try.ntmps30
  have hN := (Nd.new w a n c ka kn kc 31).below (new_below _ (.cells #[.pointer none, .slice none 0 0] 87))
  have hBB := below_to (new_below w (.cells #[.slice a n c, .slice ka kn kc] 31)) (new_below _ (.cells #[.pointer none, .slice none 0 0] 87))
  have hBd := Bld.new (w.alloc (.cells #[.slice a n c, .slice ka kn kc] 31)) (w.heap.size + 1) (by simp)
  have hSz : w.heap.size + 1 ≤ ((w.alloc (.cells #[.slice a n c, .slice ka kn kc] 31)).alloc (.cells #[.pointer none, .slice none 0 0] 87)).heap.size := by simp
  go_wp2_with fail
  generalize (w.alloc (.cells #[.slice a n c, .slice ka kn kc] 31)).alloc (.cells #[.pointer none, .slice none 0 0] 87) = w2 at hN hBB hBd hSz ⊢
  have x0 := hN.c0
  have x0d : w2.drew.cell? ⟨w.heap.size, 0, none⟩ = some (.slice a n c) := x0
  replace hBB := below_to hBB (Below.refl w2.heap.size w2).drew
  replace hBd := hBd.below (Below.refl w2.heap.size w2).drew
  clear hN
  go_region_held3 (fun w' => w'.cell? ⟨w.heap.size, 0, none⟩ = some (.slice a n c))
    (first | exact x0 | exact cell_keep2 (by assumption) hBW (Nat.lt_succ_self _) | exact cell_keep (by assumption) hb)
    (first | (go_at_call 53; refine (K1.out _).mono ?_; rintro e w4 ⟨rfl, hb⟩; replace hBd := hBd.below hb; replace hBB := below_to hBB hb; replace hSz := Nat.le_trans hSz hb.size)
           | (go_at_call 53; refine (K2.out _).mono ?_; rintro e w4 ⟨rfl, hb⟩; replace hBd := hBd.below hb; replace hBB := below_to hBB hb; replace hSz := Nat.le_trans hSz hb.size)
           | (go_at_call 52; refine (write_any _ _ _ _ _ hBd (by simp only [List.length_nil]; omega) hSz).mono ?_; rintro e w6 ⟨⟨v, rfl⟩, hW, hBW, hO⟩))
  have hBB6 : Below w.heap.size w w6 := hBB.trans (hBW.mono (Nat.le_succ _))
  have hSz6 : w.heap.size + 1 ≤ w6.heap.size := Nat.le_trans hSz hBW.size
  have c0 : w6.cell? ⟨w.heap.size, 0, none⟩ = some (.slice a n c) := by assumption
  rw [List.nil_append, HT.out] at hW
  clear hBd hBB hSz hBW hO hb x0 x0d hq1 hq2
  go_wp2_with fail
  clear c0
  go_loopw [16] (fun i wx => ∃ k, k ≤ n ∧ Hid ((headL I ++ leafTo I k).length ≤ 2 + 130 * k) ∧ Bld (w.heap.size + 1) (w.heap.size + 1) (headL I ++ leafTo I k) wx ∧ Below w.heap.size w wx ∧ w.heap.size + 1 ≤ wx.heap.size ∧ i = .int .i64 (k : Int)) (fun i _ => n - (intOf i).toNat)
  case atStart => exact ⟨0, by omega, Lib.hid (by unfold headL leafTo; simp [numL_length]), by rw [show headL I ++ leafTo I 0 = headL I by simp [leafTo]]; exact hW, hBB6, hSz6, rfl⟩
  case round =>
    clear hW hBB6 hSz6
    obtain ⟨k, hk, HLe, hBd, hBB, hSz, rfl⟩ := hrel
    by_cases hlt : k < n
    · obtain ⟨g, off, rfl, hg, e0, e1⟩ := (HI.out.below hBB).at hlt
      have hkl : k < I.length := by rw [HL.out]; exact hlt
      have hps := HS.out k hlt
      obtain ⟨p, hp⟩ : ∃ p, kq I k = p := ⟨_, rfl⟩
      obtain ⟨q, hq⟩ : ∃ q, vq I k = q := ⟨_, rfl⟩
      rw [hp] at e0 hps
      rw [hq] at e1 hps
      obtain ⟨hps1, hps2⟩ := hps
      obtain ⟨tp, htp⟩ : ∃ t, shortB p = t := ⟨_, rfl⟩
      obtain ⟨tq, htq⟩ : ∃ t, shortB q = t := ⟨_, rfl⟩
      have KP := Lib.hid (fun w => short_any p tp htp (by omega) w)
      have KQ := Lib.hid (fun w => short_any q tq htq (by omega) w)
      have hs1 : tp.size ≤ 65 := by rw [← htp]; unfold shortB; rw [ByteArray.size_append, bs_size, numL_length]; omega
      have hs2 : tq.size ≤ 65 := by rw [← htq]; unfold shortB; rw [ByteArray.size_append, bs_size, numL_length]; omega
      have hq1 : ¬ 9223372036854775807 < tp.size + tq.size := by omega
      have hq2 : ¬ (9223372036854775807 : Int) < (tp.size : Int) + (tq.size : Int) := by omega
      have hts : (tp ++ tq).size ≤ 130 := by rw [ByteArray.size_append]; omega
      have HTI := Lib.hid (show headL I ++ leafTo I k ++ (tp ++ tq).data.toList = headL I ++ leafTo I (k + 1) by
        rw [leafTo_succ, getD_at _ _ _ hkl, kv_at I k hkl, hp, hq, app_list, ← htp, ← htq]
        unfold shortB itemL
        rw [app_list, app_list, bs_toList, bs_toList]
        simp only [List.append_assoc])
      have HLe2 := Lib.hid (show (headL I ++ leafTo I (k + 1)).length ≤ 2 + 130 * (k + 1) by
        rw [← HTI.out, List.length_append]
        have h1 := HLe.out
        have h2 : (tp ++ tq).data.toList.length = (tp ++ tq).size := Array.length_toList ..
        omega)
      have hlen : (headL I ++ leafTo I k).length + (tp ++ tq).size ≤ 140737488355328 := by have := HLe.out; omega
      have hX := ItB.new wr p q
      have hne : wr.heap.size ≠ w.heap.size + 1 ∨ True := .inr trivial
      clear hp hq htp htq hne
      have hBz := below_to hBB (new_below wr (.cells #[.string p, .string q] 44))
      have hBdz := hBd.below (new_below wr (.cells #[.string p, .string q] 44))
      have hSzz := Nat.le_trans hSz (new_below wr (.cells #[.string p, .string q] 44)).size
      have hgt : wr.heap.size ≠ w.heap.size + 1 := by
        intro he
        have h1 : Bld (w.heap.size + 1) (w.heap.size + 1) (headL I ++ leafTo I k) wr := hBd
        rcases h1 with ⟨_, v, h2, _⟩ | ⟨_, v, h2, _⟩
        · have := (Array.getElem?_eq_some_iff.1 h2).1; omega
        · have := (Array.getElem?_eq_some_iff.1 h2).1; omega
      go_wp2_with fail
      clear e0 e1 hBB hBd hSz
      generalize wr.alloc (.cells #[.string p, .string q] 44) = wz at hX hBz hBdz hSzz ⊢
      have hXd : ItB wz.drew wr.heap.size p q := hX.below (Below.refl wz.heap.size wz).drew
      have hBdd := hBdz.below (Below.refl wz.heap.size wz).drew
      have hBd2 := below_to hBz (Below.refl wz.heap.size wz).drew
      have x0 := hX.cells.1
      have x1 := hX.cells.2
      clear hX hBz hBdz
      go_region_held3 (fun w' => w'.cell? ⟨wr.heap.size, 0, none⟩ = some (.string p) ∧ w'.cell? ⟨wr.heap.size, 1, none⟩ = some (.string q))
        (first | exact ⟨x0, x1⟩ | exact (hXd.kept hO hgt).cells | exact hXd.cells)
        (first | (go_at_call 54; refine (KP.out _).mono ?_; rintro e w4 ⟨rfl, hb⟩; replace hBdd := hBdd.below hb; replace hBd2 := below_to hBd2 hb; replace hSzz := Nat.le_trans hSzz hb.size; replace hXd := hXd.below hb)
               | (go_at_call 54; refine (KQ.out _).mono ?_; rintro e w4 ⟨rfl, hb⟩; replace hBdd := hBdd.below hb; replace hBd2 := below_to hBd2 hb; replace hSzz := Nat.le_trans hSzz hb.size; replace hXd := hXd.below hb)
               | (go_at_call 52; refine (write_any _ _ _ _ _ hBdd hlen hSzz).mono ?_; rintro e w6 ⟨⟨v, rfl⟩, hW, hBW, hO⟩))
      rw [HTI.out] at hW
      have hBB6 : Below w.heap.size w w6 := hBd2.trans (hBW.mono (Nat.le_succ _))
      have hSz6 : w.heap.size + 1 ≤ w6.heap.size := Nat.le_trans hSzz hBW.size
      clear hBdd hBd2 hSzz hBW hO hb hXd x0 x1 hq1 hq2
      go_wp2_with fail
      go_roundw
      case rel => exact ⟨k + 1, by omega, HLe2, hW, hBB6, hSz6, by go_num⟩
      case measure => simp [intOf]; omega
    · obtain rfl : k = n := by omega
      go_wp2_with fail
      refine (string_any _ _ _ _ hBd hSz).mono ?_
      rintro e w7 ⟨rfl, hb⟩
      go_wp2_with fail
      go_ret
      exact ⟨rfl, hBB.trans (hb.mono (Nat.le_succ _))⟩
end
end Go.Proofs.Ytnjpijihjifkfaa
