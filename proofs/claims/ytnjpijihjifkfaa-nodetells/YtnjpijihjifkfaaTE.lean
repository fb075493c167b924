/- Contracts: Find. -/
import Derived.Test.YtnjpijihjifkfaaTD
namespace Go.Proofs.Ytnjpijihjifkfaa
open Go.RowKit
set_option linter.unusedVariables false
theorem gt_eq (p key : ByteArray) : (!(Op.bytesLess p.toList key.toList || p.toList == key.toList)) = ltB key p := by
  rw [ByteArray.toList_eq, ByteArray.toList_eq]
  change (!(ltB p key || p.data.toList == key.data.toList)) = ltB key p
  rcases ltB_tri p key with h | rfl | h
  · rw [h, ltB_asymm h]; rfl
  · rw [ltB_irr]; simp
  · rw [ltB_asymm h, h]
    have : (p.data.toList == key.data.toList) = false := by
      rw [beq_eq_false_iff_ne]; intro e; have := ba_ext e; subst this; rw [ltB_irr] at h; cases h
    rw [this]; rfl
section
variable {w : World} {a : Option Addr} {n c : Nat} {ka : Option Addr} {kn kc : Nat} {I : List It}
set_option maxRecDepth 100000 in
theorem after_any (i nb kb : Nat) (key : ByteArray) (hN : Nd w nb a n c ka kn kc) (hk : w.cell? ⟨kb, 0, none⟩ = some (.string key)) (hI : Its w a n I) (hi : i < n) :
    Calls Try.prog 43 #[.int .i64 (i : Int), .pointer (some ⟨nb, 0, none⟩), .pointer (some ⟨kb, 0, none⟩)] w fun e w' => e = .returned (.bool (ltB key (kq I i))) ∧ ∃ m, w' = w.drewN m := by
  obtain ⟨g, off, rfl, hg, e0, e1⟩ := hI.at hi
  obtain ⟨p, hp⟩ : ∃ p, kq I i = p := ⟨_, rfl⟩
  rw [hp] at e0 ⊢
  have HG := Lib.hid (gt_eq p key)
  have c0 := hN.c0
  have hii : (i : Int) < (n : Int) := by omega
  clear hI hp hN
  go_enter Try.func43, Try.ntmps43
  go_wp2_with fail
  go_quiet (fail)
  go_wp2
  go_ret
  exact ⟨ret_bool (by rw [← HG.out, Bool.not_or]), _, rfl⟩
theorem half_nat (i j : Nat) (h : i < j) : i ≤ (i + j) / 2 ∧ (i + j) / 2 < j := by omega
set_option maxRecDepth 100000 in
set_option maxHeartbeats 1000000 in
theorem search_any (m nb kb : Nat) (key : ByteArray) (hN : Nd w nb a n c ka kn kc) (hkb : kb < w.heap.size) (hk : w.cell? ⟨kb, 0, none⟩ = some (.string key)) (hI : Its w a n I) (hn : n ≤ 4096) (hm : Pos I key m) :
    Calls Try.prog 44 #[.int .i64 (n : Int), .func (.func 43) #[] #[.pointer (some ⟨nb, 0, none⟩), .pointer (some ⟨kb, 0, none⟩)]] w fun e w' => e = .returned (.int .i64 (m : Int)) ∧ Below w.heap.size w w' := by
  have HN := Lib.hid hN
  have HK := Lib.hid hk
  have HI := Lib.hid hI
  have HM := Lib.hid hm
  have HL := Lib.hid hI.1
  have hmn : m ≤ n := by have := hm.1; rw [hI.1] at this; exact this
  clear hN hk hI hm
  go_enter Try.func44, Try.ntmps44
  go_wp2_with fail
  go_loopw [5, 6] (fun x y wx => ∃ (i j : Nat), i ≤ m ∧ m ≤ j ∧ j ≤ n ∧ Below w.heap.size w wx ∧ x = .int .i64 (i : Int) ∧ y = .int .i64 (j : Int)) (fun x y _ => (intOf y).toNat - (intOf x).toNat)
  case atStart => exact ⟨0, n, by omega, hmn, Nat.le_refl _, Below.refl _ _, rfl, rfl⟩
  case round =>
    obtain ⟨i, j, him, hmj, hjn, hB, rfl, rfl⟩ := hrel
    by_cases hlt : i < j
    · obtain ⟨h, hh⟩ : ∃ h, (i + j) / 2 = h := ⟨_, rfl⟩
      have h1 : i ≤ h ∧ h < j := by rw [← hh]; exact half_nat i j hlt
      have hhi : ((i : Int) + (j : Int)) / 2 = (h : Int) := by omega
      have KA := Lib.hid (fun (w1 : World) (B : Below w.heap.size w w1) => after_any h nb kb key (HN.out.below B) ((B.cell (p := ⟨kb, 0, none⟩) hkb).trans HK.out) (HI.out.below B) (show h < n by omega))
      clear hh
      by_cases hhm : h < m
      · have HF := Lib.hid (HM.out.2.1 h hhm)
        have KB := Lib.hid (fun (w1 : World) (B : Below w.heap.size w w1) => by have := KA.out w1 B; rw [HF.out] at this; exact this)
        go_wp2_with fail
        refine (KB.out _ hB).mono ?_
        rintro e w1 ⟨rfl, q, rfl⟩
        go_wp2_with fail
        go_roundw
        case rel => exact ⟨h + 1, j, by omega, hmj, hjn, below_to hB ⟨rfl, rfl, rfl, Nat.le_refl _, fun _ _ => rfl⟩, by go_num, rfl⟩
        case measure => simp [intOf]; omega
      · have HF := Lib.hid (HM.out.2.2 h (by omega) (by rw [HL.out]; omega))
        have KB := Lib.hid (fun (w1 : World) (B : Below w.heap.size w w1) => by have := KA.out w1 B; rw [HF.out] at this; exact this)
        go_wp2_with fail
        refine (KB.out _ hB).mono ?_
        rintro e w1 ⟨rfl, q, rfl⟩
        go_wp2_with fail
        go_roundw
        case rel => exact ⟨i, h, by omega, by omega, by omega, below_to hB ⟨rfl, rfl, rfl, Nat.le_refl _, fun _ _ => rfl⟩, rfl, by go_num⟩
        case measure => simp [intOf]; omega
    · obtain rfl : i = m := by omega
      go_wp2_with fail
      go_ret
      exact ⟨rfl, hB⟩
theorem ret_ib {a b : Int} {x y : Bool} (h1 : a = b) (h2 : x = y) : Ending.returned (.tuple #[.int .i64 a, .bool x]) = .returned (.tuple #[.int .i64 b, .bool y]) := by subst h1 h2; rfl
set_option maxRecDepth 100000 in
set_option maxHeartbeats 2000000 in
theorem find_any (key : ByteArray) (hI : Its w a n I) (hn : n ≤ 4096) (hR : RiseTo I I.length) (b : Bool) (hb : (kn == 0) = b) (x : Nat) (y : Bool) (hx : findN b I key = (x, y)) :
    Calls Try.prog 20 #[.agg #[.slice a n c, .slice ka kn kc], .string key] w fun e w' => e = .returned (.tuple #[.int .i64 (x : Int), .bool y]) ∧ Below w.heap.size w w' := by
  have hp := posN_pos I key hR
  have hh := hasN_at hR hp
  obtain ⟨m, hm⟩ : ∃ m, posN I key = m := ⟨_, rfl⟩
  obtain ⟨z, hz⟩ : ∃ z, hasN I key = z := ⟨_, rfl⟩
  rw [hm] at hp hh
  rw [hz] at hh
  unfold findN at hx
  rw [hm, hz] at hx
  simp only [Prod.mk.injEq] at hx
  obtain ⟨hx, rfl⟩ := hx
  have hmn : m ≤ n := by have := hp.1; rw [hI.1] at this; exact this
  have HI := Lib.hid hI
  have HX := Lib.hid hx
  have KL := Lib.hid (fun w => isLeaf_any a n c ka kn kc b hb w)
  have M0 := (Nd.new w a n c ka kn kc 31).below (new_below _ (.cells #[.string key] 9))
  have B0 := below_to (new_below w (.cells #[.slice a n c, .slice ka kn kc] 31)) (new_below _ (.cells #[.string key] 9))
  have hsz : ((w.alloc (.cells #[.slice a n c, .slice ka kn kc] 31)).alloc (.cells #[.string key] 9)).heap.size = w.heap.size + 2 := by simp
  have hkc : ((w.alloc (.cells #[.slice a n c, .slice ka kn kc] 31)).alloc (.cells #[.string key] 9)).cell? ⟨w.heap.size + 1, 0, none⟩ = some (.string key) := by simp [go_sem]
  have KS := Lib.hid (search_any m w.heap.size (w.heap.size + 1) key M0 (by rw [hsz]; omega) hkc (hI.below B0) hn hp)
  have HH := Lib.hid hh
  clear hp hz hm hx hb hh
  go_enter Try.func20, Try.ntmps20
  go_wp2_with fail
  refine KS.out.mono ?_
  rintro e w1 ⟨rfl, hb⟩
  have M1 := M0.below hb
  have B1 := below_to B0 hb
  have k1 : w1.cell? ⟨w.heap.size + 1, 0, none⟩ = some (.string key) := (hb.cell (p := ⟨w.heap.size + 1, 0, none⟩) (by rw [hsz]; exact Nat.lt_succ_self _)).trans hkc
  clear hb M0 B0 hkc hsz
  have c0 := M1.c0
  have c1 := M1.c1
  by_cases h0 : m = 0
  · have hzf : z = false := by rw [HH.out]; unfold atB; rw [decide_eq_false_iff_not]; omega
    subst hzf
    have h01 : decide (0 < m) = false := decide_eq_false (by omega)
    have h02 : decide ((0 : Int) < (m : Int)) = false := decide_eq_false (by omega)
    have HX2 := Lib.hid (show m = x by have := HX.out; simpa using this)
    clear h0
    go_wp2_with fail
    go_quiet (fail)
    go_wp2
    go_ret2
    exact ⟨ret_ib (by rw [HX2.out]) rfl, below_to B1 (below_drewN _ _)⟩
  · obtain ⟨q, hq⟩ : ∃ q, m = q + 1 := ⟨m - 1, by omega⟩
    have hqn : q < n := by omega
    have hI1 := HI.out.below B1
    obtain ⟨g, off, rfl, hg, e0, _⟩ := hI1.at hqn
    obtain ⟨p, hpp⟩ : ∃ p, kq I q = p := ⟨_, rfl⟩
    rw [hpp] at e0
    have hz2 : z = (p.toList == key.toList) := by
      rw [HH.out]; unfold atB
      rw [show m - 1 = q by omega, hpp, Bool.eq_iff_iff]
      rw [ByteArray.toList_eq, ByteArray.toList_eq]
      simp only [decide_eq_true_iff, beq_iff_eq]
      constructor
      · rintro ⟨_, e⟩; rw [e]
      · intro e; exact ⟨by omega, ba_ext e⟩
    have h01 : decide (0 < m) = true := decide_eq_true (by omega)
    have h02 : decide ((0 : Int) < (m : Int)) = true := decide_eq_true (by omega)
    have hqi : (q : Int) < (n : Int) := by omega
    have hqw : IntKind.i64.wrap (q : Int) = (q : Int) := by rw [IntWalk.i64_in _ (by omega)]
    have HQ := Lib.hid hq
    clear hq h0 hI1 hpp
    cases z with
    | false =>
      have hz3 : (p.toList == key.toList) = false := hz2.symm
      have HX2 := Lib.hid (show m = x by have := HX.out; simpa using this)
      clear hz2
      have hmi : (m : Int) = (q : Int) + 1 := by have := HQ.out; omega
      go_wp2_with fail
      go_quiet (fail)
      go_wp2
      go_ret2
      exact ⟨ret_ib (by rw [← HX2.out, hmi]) rfl, below_to B1 (below_drewN _ _)⟩
    | true =>
      have hz3 : (p.toList == key.toList) = true := hz2.symm
      clear hz2
      have hmi : (m : Int) = (q : Int) + 1 := by have := HQ.out; omega
      go_wp2_with fail
      go_quiet (fail)
      go_wp2_with fail
      refine (KL.out _).mono ?_
      rintro e w2 ⟨rfl, hb⟩
      have B2 := below_to (below_to B1 (below_drewN _ _)) hb
      cases b with
      | true =>
        have HX2 := Lib.hid (show (q : Int) = (x : Int) by have h := HX.out; simp at h; have := HQ.out; omega)
        go_wp2_with fail
        go_ret2
        exact ⟨ret_ib (by first | exact HX2.out | (have := HX2.out; omega)) rfl, B2⟩
      | false =>
        have HX2 := Lib.hid (show (q : Int) + 1 = (x : Int) by have h := HX.out; simp at h; have := HQ.out; omega)
        go_wp2_with fail
        go_ret2
        exact ⟨ret_ib (by first | exact HX2.out | (have := HX2.out; omega)) rfl, B2⟩
end
end Go.Proofs.Ytnjpijihjifkfaa
