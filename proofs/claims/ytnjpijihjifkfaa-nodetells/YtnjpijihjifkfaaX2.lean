/- Contracts: the reference's Encode of a branch. -/
import Derived.Test.YtnjpijihjifkfaaX1
namespace Go.Proofs.Ytnjpijihjifkfaa
open Go.RowKit
set_option maxRecDepth 100000
set_option linter.unusedVariables false
set_option linter.unusedSimpArgs false
set_option maxHeartbeats 8000000
def InvEH_v (h : Nat) (kb : Nat) (koff : Nat) (kn : Nat) (kc : Nat) (z : Int) (u : Nat) (T : ByteArray) (U : ByteArray) (zi : Nat) : Value := ([.pointer (some ⟨h, 1, none⟩), .slice (some ⟨kb, koff, none⟩) kn kc, .int .i64 (kn : Int), .int .u64 (kn : Int), .string T, .string (⟨#[2]⟩ ++ T), .pointer (some ⟨h, 1, none⟩), .slice (some ⟨kb, koff, none⟩) kn kc, .pointer (some ⟨kb, koff, none⟩), .int .i64 z, .int .u64 (u : Int), .string U, .string (⟨#[2]⟩ ++ T ++ U), .string (⟨#[2]⟩ ++ T ++ U)] : List Value).getD zi undef
def InvEH_p (i : Nat) : Bool := false
def InvEH (W1 : World) (h : Nat) (kb : Nat) (koff : Nat) (kn : Nat) (kc : Nat) (z : Int) (u : Nat) (T : ByteArray) (U : ByteArray) (a0 : Act) (D : Nat → Bool) (act : Act) (w : World) : Prop :=
  ∃ zf : Nat → Value, act = ⟨(a0.tmps.toList.take 4 ++ zf 13 :: ((a0.tmps.toList.drop 5).take 48 ++ zf 0 :: zf 1 :: zf 2 :: zf 3 :: zf 4 :: zf 5 :: zf 6 :: zf 7 :: zf 8 :: zf 9 :: zf 10 :: zf 11 :: zf 12 :: a0.tmps.toList.drop 66)).toArray, []⟩ ∧ Below W1.heap.size W1 w ∧ Hid (∀ zi, InvEH_p zi = false → D zi = true → zf zi = InvEH_v h kb koff kn kc z u T U zi)
def InvEB_v (g : Nat) (h : Nat) (A : ByteArray) (T : ByteArray) (p : ByteArray) (U : ByteArray) (kb : Nat) (koff : Nat) (kn : Nat) (kc : Nat) (k : Nat) (m : Nat) (z : Int) (u : Nat) (zi : Nat) : Value := ([.string A, .pointer (some ⟨g, 0, none⟩), .string p, .int .i64 (p.size : Int), .int .u64 (p.size : Int), .string T, .string (A ++ T), .pointer (some ⟨g, 0, none⟩), .string p, .string (A ++ T ++ p), .pointer (some ⟨h, 1, none⟩), .slice (some ⟨kb, koff, none⟩) kn kc, .int .i64 (k : Int), .int .i64 (m : Int), .pointer (some ⟨kb, koff + m, none⟩), .int .i64 z, .int .u64 (u : Int), .string U, .string (A ++ T ++ p ++ U), .string (A ++ T ++ p ++ U)] : List Value).getD zi undef
def InvEB_p (i : Nat) : Bool := Nat.beq i 19
def InvEB (W1 : World) (g : Nat) (h : Nat) (A : ByteArray) (T : ByteArray) (p : ByteArray) (U : ByteArray) (kb : Nat) (koff : Nat) (kn : Nat) (kc : Nat) (k : Nat) (m : Nat) (z : Int) (u : Nat) (a0 : Act) (D : Nat → Bool) (act : Act) (w : World) : Prop :=
  ∃ zf : Nat → Value, act = ⟨(a0.tmps.toList.take 4 ++ zf 19 :: ((a0.tmps.toList.drop 5).take 73 ++ zf 0 :: zf 1 :: zf 2 :: zf 3 :: zf 4 :: zf 5 :: zf 6 :: zf 7 :: zf 8 :: zf 9 :: zf 10 :: zf 11 :: zf 12 :: zf 13 :: zf 14 :: zf 15 :: zf 16 :: zf 17 :: zf 18 :: a0.tmps.toList.drop 97)).toArray, []⟩ ∧ Below W1.heap.size W1 w ∧ Hid (∀ zi, InvEB_p zi = false → D zi = true → zf zi = InvEB_v g h A T p U kb koff kn kc k m z u zi) ∧ Hid (D 19 = true → (zf 19) = .string (A ++ T ++ p ++ U) ∧ D 0 = true) ∧ Hid (D 0 = false → zf 19 = .string A)
section
variable {w : World} {a : Option Addr} {n c : Nat} {ka : Option Addr} {kn kc : Nat} {I : List It} {K : List Int}
theorem rencBranch_any (hI : Its w a n I) (hK : Kds w ka kn K) (hkn : 0 < kn) (hR : RightP I K)
    (H18 : Hid (∀ w1, Its w1 a n I → Kds w1 ka kn K → Calls Try.prog 18 #[.agg #[.slice a n c, .slice ka kn kc]] w1 fun e w' => e = .returned (.bool true) ∧ Below w1.heap.size w1 w')) :
    Calls Try.prog 11 #[.agg #[.slice a n c, .slice ka kn kc]] w fun e w' => e = .returned (.tuple #[.string (bs (encF I K)), .int .i64 0]) ∧ Below w.heap.size w w' := by
  have hsm := right_small hR
  have hl : leafK K = false := by unfold leafK; rw [hK.1]; simp; omega
  have hnk : n + 1 = kn := by
    have h := hR.1
    unfold numB at h
    rw [hl] at h
    simp at h
    have := hI.1
    have := hK.1
    omega
  have hS0 : I.all (okIt false) = true := by have h := hR.2.1.1; rw [hl] at h; exact h
  have hKo : K.all okKid = true := hR.2.2.1
  have hlen : (encT I K).length ≤ 480 := by rw [encT_len]; exact hR.2.2.2
  rw [hI.1, hK.1] at hsm
  have HI := Lib.hid hI
  have HL := Lib.hid hI.1
  have HK := Lib.hid hK
  have HKL := Lib.hid hK.1
  have HKO := Lib.hid hKo
  have HS := Lib.hid (show ∀ k, k < n → (kq I k).size ≤ 64 by
    intro k hk
    have hkl : k < I.length := by rw [hI.1]; exact hk
    have h1 := (List.all_eq_true.1 hS0) I[k] (List.getElem_mem hkl)
    rw [kv_at I k hkl] at h1
    have h2 := of_decide_eq_true h1
    simp at h2; omega)
  have hE : encT I K = headB K ++ brTo I K n := by unfold encT; rw [hl, hI.1]; rfl
  have HF2 : Hid (bs (headB K ++ brTo I K n) ++ bs (List.replicate (480 - (headB K ++ brTo I K n).length) 0) = bs (encF I K)) := Lib.hid (by rw [bs_snoc, bs_toList]; unfold encF; rw [hE])
  have HLn := Lib.hid (show (headB K ++ brTo I K n).length ≤ 480 by rw [← hE]; exact hlen)
  obtain ⟨kb, koff, rfl, hkb, k0⟩ := hK.at (k := 0) (by omega)
  obtain ⟨z, hz⟩ : ∃ z, K.getD 0 0 = z := ⟨_, rfl⟩
  have hz2 := kid_at hKo (k := 0) (by rw [hK.1]; omega)
  rw [hz] at k0 hz2
  rw [Nat.add_zero] at k0
  obtain ⟨u, hu⟩ : ∃ u : Nat, z.toNat = u := ⟨_, rfl⟩
  obtain ⟨T, hT⟩ : ∃ t, bs (numL 1 kn) = t := ⟨_, rfl⟩
  obtain ⟨U, hU⟩ : ∃ t, bs (numL 2 u) = t := ⟨_, rfl⟩
  have K0 : Hid (∀ w, Calls Try.prog 32 #[.int .i64 1, .int .u64 (kn : Int)] w fun e w' => e = .returned (.string T) ∧ Below w.heap.size w w') := Lib.hid (fun w => by rw [← hT]; exact rnum_ok 1 kn w (by omega) (by omega) (by omega))
  have K1 : Hid (∀ w, Calls Try.prog 32 #[.int .i64 2, .int .u64 (u : Int)] w fun e w' => e = .returned (.string U) ∧ Below w.heap.size w w') := Lib.hid (fun w => by rw [← hU]; exact rnum_ok 2 u w (by omega) (by omega) (by omega))
  have hTs : T.size ≤ 1 := by rw [← hT, bs_size, numL_length]; exact Nat.le_refl _
  have hUs : U.size ≤ 2 := by rw [← hU, bs_size, numL_length]; exact Nat.le_refl _
  have HT := Lib.hid (show (⟨#[2]⟩ : ByteArray) ++ T ++ U = bs (headB K) by
    rw [← hT, ← hU, show (⟨#[2]⟩ : ByteArray) = bs (numL 1 2) from by decide, bs_snoc, bs_snoc, bs_toList, bs_toList]
    unfold headB; rw [hK.1, hz, hu])
  have jq0 : ¬ 9223372036854775807 < 1 + T.size := by omega
  have jz0 : ¬ (9223372036854775807 : Int) < 1 + (T.size : Int) := by omega
  have jq1 : ¬ 9223372036854775807 < 1 + T.size + U.size := by omega
  have jz1 : ¬ (9223372036854775807 : Int) < 1 + (T.size : Int) + (U.size : Int) := by omega
  have hw0 : IntKind.u64.wrap (kn : Int) = (kn : Int) := by rw [IntKind.wrap_u64]; omega
  have hwz : IntKind.u64.wrap z = (u : Int) := by rw [IntKind.wrap_u64]; omega
  have hkn2 : (0 : Int) < (kn : Int) := by omega
  have hkb0 : ((kn : Int) == 0) = false := by simp; omega
  have hN := Nd.new w a n c (some ⟨kb, koff, none⟩) kn kc 25
  have hBB := new_below w (.cells #[.slice a n c, .slice (some ⟨kb, koff, none⟩) kn kc] 25)
  have HIb := HI.out.below hBB
  have HKb := HK.out.below hBB
  have hkc := cell_keep k0 hBB
  clear hI hK hR hlen hE hT hU hS0 hKo hz hl k0
  go_enter Try.func11, Try.ntmps11
  go_wp2_with fail
  generalize w.alloc (.cells #[.slice a n c, .slice (some ⟨kb, koff, none⟩) kn kc] 25) = w1 at hN hBB HIb HKb hkc ⊢
  have c0 := hN.c0
  have c1 := hN.c1
  go_wp2_with fail
  refine (H18.out _ HIb HKb).mono ?_
  rintro e w2 ⟨rfl, hb⟩
  replace hN := hN.below hb
  replace hBB := below_to hBB hb
  replace hkc := cell_keep hkc hb
  clear hb c0 c1 HIb HKb H18
  have c0 := hN.c0
  have c1 := hN.c1
  go_upto_region 11 with (fail)
  have S1 := Lib.hid hN
  have S2 := Lib.hid hkc
  clear c0 c1 hkc
  refine wp_region_inv0 (InvEH w2 w.heap.size kb koff kn kc z u T U) (by kernel_rfl) (by decide) ?_ ?_ ?_
  · exact ⟨fun zz => cond (Nat.beq zz 13) (.string ⟨#[]⟩) (undef), rfl, (Below.refl _ _).drew, Lib.hid (fun i _ h => by cases h)⟩
  · refine AllI.cons ?_ (AllI.cons ?_ (AllI.cons ?_ (AllI.cons ?_ (AllI.cons ?_ (AllI.cons ?_ (AllI.cons ?_ (AllI.cons ?_ (AllI.cons ?_ (AllI.cons ?_ (AllI.cons ?_ (AllI.cons ?_ (AllI.cons ?_ (AllI.cons ?_ AllI.nil)))))))))))))
    · intro D aa wx HI hD hdep KK hKK
      obtain ⟨zf, rfl, hB, HF⟩ := HI
      simp only [Act.put, List.toList_toArray, List.take_succ_cons, List.take_zero, List.drop_succ_cons, List.drop_zero, List.cons_append, List.nil_append, List.setIfInBounds_toArray, List.set_cons_zero, List.set_cons_succ]
      go_simp
      exact hKK _ _ ⟨fun zz => cond (Nat.beq zz 0) (.pointer (some ⟨w.heap.size, 1, none⟩)) (zf zz), rfl, hB, Lib.hid (upd_factP (i := 0) (v := .pointer (some ⟨w.heap.size, 1, none⟩)) HF.out rfl)⟩
    · intro D aa wx HI hD hdep KK hKK
      obtain ⟨zf, rfl, hB, HF⟩ := HI
      simp [Region.binds] at hdep
      have E0 : zf 0 = .pointer (some ⟨w.heap.size, 1, none⟩) := HF.out 0 rfl (by simp [hdep])
      have c1 := (S1.out.below hB).c1
      simp only [E0, Act.put, List.toList_toArray, List.take_succ_cons, List.take_zero, List.drop_succ_cons, List.drop_zero, List.cons_append, List.nil_append, List.setIfInBounds_toArray, List.set_cons_zero, List.set_cons_succ]
      go_simp
      exact hKK _ _ ⟨fun zz => cond (Nat.beq zz 1) (.slice (some ⟨kb, koff, none⟩) kn kc) (cond (Nat.beq zz 0) (.pointer (some ⟨w.heap.size, 1, none⟩)) (zf zz)), rfl, hB, Lib.hid (upd_factP (i := 1) (v := .slice (some ⟨kb, koff, none⟩) kn kc) (cond_factP (j := 0) (v := .pointer (some ⟨w.heap.size, 1, none⟩)) HF.out rfl) rfl)⟩
    · intro D aa wx HI hD hdep KK hKK
      obtain ⟨zf, rfl, hB, HF⟩ := HI
      simp [Region.binds] at hdep
      have E1 : zf 1 = .slice (some ⟨kb, koff, none⟩) kn kc := HF.out 1 rfl (by simp [hdep])
      simp only [E1, Act.put, List.toList_toArray, List.take_succ_cons, List.take_zero, List.drop_succ_cons, List.drop_zero, List.cons_append, List.nil_append, List.setIfInBounds_toArray, List.set_cons_zero, List.set_cons_succ]
      go_simp
      exact hKK _ _ ⟨fun zz => cond (Nat.beq zz 2) (.int .i64 (kn : Int)) (cond (Nat.beq zz 1) (.slice (some ⟨kb, koff, none⟩) kn kc) (zf zz)), rfl, hB, Lib.hid (upd_factP (i := 2) (v := .int .i64 (kn : Int)) (cond_factP (j := 1) (v := .slice (some ⟨kb, koff, none⟩) kn kc) HF.out rfl) rfl)⟩
    · intro D aa wx HI hD hdep KK hKK
      obtain ⟨zf, rfl, hB, HF⟩ := HI
      simp [Region.binds] at hdep
      have E2 : zf 2 = .int .i64 (kn : Int) := HF.out 2 rfl (by simp [hdep])
      simp only [E2, Act.put, List.toList_toArray, List.take_succ_cons, List.take_zero, List.drop_succ_cons, List.drop_zero, List.cons_append, List.nil_append, List.setIfInBounds_toArray, List.set_cons_zero, List.set_cons_succ]
      go_simp
      exact hKK _ _ ⟨fun zz => cond (Nat.beq zz 3) (.int .u64 (kn : Int)) (cond (Nat.beq zz 2) (.int .i64 (kn : Int)) (zf zz)), rfl, hB, Lib.hid (upd_factP (i := 3) (v := .int .u64 (kn : Int)) (cond_factP (j := 2) (v := .int .i64 (kn : Int)) HF.out rfl) rfl)⟩
    · intro D aa wx HI hD hdep KK hKK
      obtain ⟨zf, rfl, hB, HF⟩ := HI
      simp [Region.binds] at hdep
      have E3 : zf 3 = .int .u64 (kn : Int) := HF.out 3 rfl (by simp [hdep])
      simp only [E3, Act.put, List.toList_toArray, List.take_succ_cons, List.take_zero, List.drop_succ_cons, List.drop_zero, List.cons_append, List.nil_append, List.setIfInBounds_toArray, List.set_cons_zero, List.set_cons_succ]
      go_simp
      refine (K0.out _).mono ?_
      rintro e w5 ⟨rfl, hb⟩
      exact hKK _ _ ⟨fun zz => cond (Nat.beq zz 4) (.string T) (cond (Nat.beq zz 3) (.int .u64 (kn : Int)) (zf zz)), rfl, below_to hB hb, Lib.hid (upd_factP (i := 4) (v := .string T) (cond_factP (j := 3) (v := .int .u64 (kn : Int)) HF.out rfl) rfl)⟩
    · intro D aa wx HI hD hdep KK hKK
      obtain ⟨zf, rfl, hB, HF⟩ := HI
      simp [Region.binds] at hdep
      have E4 : zf 4 = .string T := HF.out 4 rfl (by simp [hdep])
      simp only [E4, Act.put, List.toList_toArray, List.take_succ_cons, List.take_zero, List.drop_succ_cons, List.drop_zero, List.cons_append, List.nil_append, List.setIfInBounds_toArray, List.set_cons_zero, List.set_cons_succ]
      go_simp
      exact hKK _ _ ⟨fun zz => cond (Nat.beq zz 5) (.string (⟨#[2]⟩ ++ T)) (cond (Nat.beq zz 4) (.string T) (zf zz)), rfl, hB, Lib.hid (upd_factP (i := 5) (v := .string (⟨#[2]⟩ ++ T)) (cond_factP (j := 4) (v := .string T) HF.out rfl) rfl)⟩
    · intro D aa wx HI hD hdep KK hKK
      obtain ⟨zf, rfl, hB, HF⟩ := HI
      simp only [Act.put, List.toList_toArray, List.take_succ_cons, List.take_zero, List.drop_succ_cons, List.drop_zero, List.cons_append, List.nil_append, List.setIfInBounds_toArray, List.set_cons_zero, List.set_cons_succ]
      go_simp
      exact hKK _ _ ⟨fun zz => cond (Nat.beq zz 6) (.pointer (some ⟨w.heap.size, 1, none⟩)) (zf zz), rfl, hB, Lib.hid (upd_factP (i := 6) (v := .pointer (some ⟨w.heap.size, 1, none⟩)) HF.out rfl)⟩
    · intro D aa wx HI hD hdep KK hKK
      obtain ⟨zf, rfl, hB, HF⟩ := HI
      simp [Region.binds] at hdep
      have E6 : zf 6 = .pointer (some ⟨w.heap.size, 1, none⟩) := HF.out 6 rfl (by simp [hdep])
      have c1 := (S1.out.below hB).c1
      simp only [E6, Act.put, List.toList_toArray, List.take_succ_cons, List.take_zero, List.drop_succ_cons, List.drop_zero, List.cons_append, List.nil_append, List.setIfInBounds_toArray, List.set_cons_zero, List.set_cons_succ]
      go_simp
      exact hKK _ _ ⟨fun zz => cond (Nat.beq zz 7) (.slice (some ⟨kb, koff, none⟩) kn kc) (cond (Nat.beq zz 6) (.pointer (some ⟨w.heap.size, 1, none⟩)) (zf zz)), rfl, hB, Lib.hid (upd_factP (i := 7) (v := .slice (some ⟨kb, koff, none⟩) kn kc) (cond_factP (j := 6) (v := .pointer (some ⟨w.heap.size, 1, none⟩)) HF.out rfl) rfl)⟩
    · intro D aa wx HI hD hdep KK hKK
      obtain ⟨zf, rfl, hB, HF⟩ := HI
      simp [Region.binds] at hdep
      have E7 : zf 7 = .slice (some ⟨kb, koff, none⟩) kn kc := HF.out 7 rfl (by simp [hdep])
      simp only [E7, Act.put, List.toList_toArray, List.take_succ_cons, List.take_zero, List.drop_succ_cons, List.drop_zero, List.cons_append, List.nil_append, List.setIfInBounds_toArray, List.set_cons_zero, List.set_cons_succ]
      go_simp
      exact hKK _ _ ⟨fun zz => cond (Nat.beq zz 8) (.pointer (some ⟨kb, koff, none⟩)) (cond (Nat.beq zz 7) (.slice (some ⟨kb, koff, none⟩) kn kc) (zf zz)), rfl, hB, Lib.hid (upd_factP (i := 8) (v := .pointer (some ⟨kb, koff, none⟩)) (cond_factP (j := 7) (v := .slice (some ⟨kb, koff, none⟩) kn kc) HF.out rfl) rfl)⟩
    · intro D aa wx HI hD hdep KK hKK
      obtain ⟨zf, rfl, hB, HF⟩ := HI
      simp [Region.binds] at hdep
      have E8 : zf 8 = .pointer (some ⟨kb, koff, none⟩) := HF.out 8 rfl (by simp [hdep])
      have ck := cell_keep S2.out hB
      simp only [E8, Act.put, List.toList_toArray, List.take_succ_cons, List.take_zero, List.drop_succ_cons, List.drop_zero, List.cons_append, List.nil_append, List.setIfInBounds_toArray, List.set_cons_zero, List.set_cons_succ]
      go_simp
      exact hKK _ _ ⟨fun zz => cond (Nat.beq zz 9) (.int .i64 z) (cond (Nat.beq zz 8) (.pointer (some ⟨kb, koff, none⟩)) (zf zz)), rfl, hB, Lib.hid (upd_factP (i := 9) (v := .int .i64 z) (cond_factP (j := 8) (v := .pointer (some ⟨kb, koff, none⟩)) HF.out rfl) rfl)⟩
    · intro D aa wx HI hD hdep KK hKK
      obtain ⟨zf, rfl, hB, HF⟩ := HI
      simp [Region.binds] at hdep
      have E9 : zf 9 = .int .i64 z := HF.out 9 rfl (by simp [hdep])
      simp only [E9, Act.put, List.toList_toArray, List.take_succ_cons, List.take_zero, List.drop_succ_cons, List.drop_zero, List.cons_append, List.nil_append, List.setIfInBounds_toArray, List.set_cons_zero, List.set_cons_succ]
      go_simp
      exact hKK _ _ ⟨fun zz => cond (Nat.beq zz 10) (.int .u64 (u : Int)) (cond (Nat.beq zz 9) (.int .i64 z) (zf zz)), rfl, hB, Lib.hid (upd_factP (i := 10) (v := .int .u64 (u : Int)) (cond_factP (j := 9) (v := .int .i64 z) HF.out rfl) rfl)⟩
    · intro D aa wx HI hD hdep KK hKK
      obtain ⟨zf, rfl, hB, HF⟩ := HI
      simp [Region.binds] at hdep
      have E10 : zf 10 = .int .u64 (u : Int) := HF.out 10 rfl (by simp [hdep])
      simp only [E10, Act.put, List.toList_toArray, List.take_succ_cons, List.take_zero, List.drop_succ_cons, List.drop_zero, List.cons_append, List.nil_append, List.setIfInBounds_toArray, List.set_cons_zero, List.set_cons_succ]
      go_simp
      refine (K1.out _).mono ?_
      rintro e w5 ⟨rfl, hb⟩
      exact hKK _ _ ⟨fun zz => cond (Nat.beq zz 11) (.string U) (cond (Nat.beq zz 10) (.int .u64 (u : Int)) (zf zz)), rfl, below_to hB hb, Lib.hid (upd_factP (i := 11) (v := .string U) (cond_factP (j := 10) (v := .int .u64 (u : Int)) HF.out rfl) rfl)⟩
    · intro D aa wx HI hD hdep KK hKK
      obtain ⟨zf, rfl, hB, HF⟩ := HI
      simp [Region.binds] at hdep
      have E5 : zf 5 = .string (⟨#[2]⟩ ++ T) := HF.out 5 rfl (by simp [hdep])
      have E11 : zf 11 = .string U := HF.out 11 rfl (by simp [hdep])
      simp only [E5, E11, Act.put, List.toList_toArray, List.take_succ_cons, List.take_zero, List.drop_succ_cons, List.drop_zero, List.cons_append, List.nil_append, List.setIfInBounds_toArray, List.set_cons_zero, List.set_cons_succ]
      go_simp
      exact hKK _ _ ⟨fun zz => cond (Nat.beq zz 12) (.string (⟨#[2]⟩ ++ T ++ U)) (cond (Nat.beq zz 11) (.string U) (cond (Nat.beq zz 5) (.string (⟨#[2]⟩ ++ T)) (zf zz))), rfl, hB, Lib.hid (upd_factP (i := 12) (v := .string (⟨#[2]⟩ ++ T ++ U)) (cond_factP (j := 11) (v := .string U) (cond_factP (j := 5) (v := .string (⟨#[2]⟩ ++ T)) HF.out rfl) rfl) rfl)⟩
    · intro D aa wx HI hD hdep KK hKK
      obtain ⟨zf, rfl, hB, HF⟩ := HI
      simp [Region.binds] at hdep
      have E12 : zf 12 = .string (⟨#[2]⟩ ++ T ++ U) := HF.out 12 rfl (by simp [hdep])
      simp only [E12, Act.put, List.toList_toArray, List.take_succ_cons, List.take_zero, List.drop_succ_cons, List.drop_zero, List.cons_append, List.nil_append, List.setIfInBounds_toArray, List.set_cons_zero, List.set_cons_succ]
      go_simp
      exact hKK _ _ ⟨fun zz => cond (Nat.beq zz 13) (.string (⟨#[2]⟩ ++ T ++ U)) (cond (Nat.beq zz 12) (.string (⟨#[2]⟩ ++ T ++ U)) (zf zz)), rfl, hB, Lib.hid (upd_factP (i := 13) (v := .string (⟨#[2]⟩ ++ T ++ U)) (cond_factP (j := 12) (v := .string (⟨#[2]⟩ ++ T ++ U)) HF.out rfl) rfl)⟩
  intro D aa w3 HI hD
  obtain ⟨zf, rfl, hB, HF⟩ := HI
  have e139 : zf 13 = .string (⟨#[2]⟩ ++ T ++ U) := HF.out 13 rfl (hD 13 (by simp))
  simp only [e139, Act.put, List.toList_toArray, List.take_succ_cons, List.take_zero, List.drop_succ_cons, List.drop_zero, List.cons_append, List.nil_append]
  clear HF hD
  replace hN := hN.below hB
  replace hBB := below_to hBB hB
  clear hB S1 S2 K0 K1 hz2 hwz
  rw [HT.out]
  clear jq0 jz0 jq1 jz1 hTs hUs HT hu e139
  go_wp2_with fail
  go_loopw [4, 7] (fun s i wx => ∃ k, k ≤ n ∧ Below w.heap.size w wx ∧ Nd wx w.heap.size a n c (some ⟨kb, koff, none⟩) kn kc ∧ s = .string (bs (headB K ++ brTo I K k)) ∧ i = .int .i64 (k : Int)) (fun s i _ => n - (intOf i).toNat)
  case atStart => exact ⟨0, by omega, hBB, hN, by rw [show headB K ++ brTo I K 0 = headB K by simp [brTo]], rfl⟩
  case round =>
    clear hBB hN
    obtain ⟨k, hk, hBB, hN, rfl, rfl⟩ := hrel
    have c0 := hN.c0
    have c1 := hN.c1
    by_cases hlt : k < n
    · obtain ⟨g, off, rfl, hg, e0, e1⟩ := (HI.out.below hBB).at hlt
      have hkl : k < I.length := by rw [HL.out]; exact hlt
      obtain ⟨kb2, koff2, he2, hkb2, ek⟩ := (HK.out.below hBB).at (k := k + 1) (by omega)
      cases he2
      have hz2 := kid_at HKO.out (k := k + 1) (by rw [HKL.out]; omega)
      have hps := HS.out k hlt
      obtain ⟨p, hp⟩ : ∃ p, kq I k = p := ⟨_, rfl⟩
      obtain ⟨q, hq⟩ : ∃ q, vq I k = q := ⟨_, rfl⟩
      obtain ⟨z, hz⟩ : ∃ z, K.getD (k + 1) 0 = z := ⟨_, rfl⟩
      rw [hp] at e0 hps
      rw [hq] at e1
      rw [hz] at ek hz2
      obtain ⟨u, hu⟩ : ∃ u : Nat, z.toNat = u := ⟨_, rfl⟩
      obtain ⟨A, hA⟩ : ∃ A, bs (headB K ++ brTo I K k) = A := ⟨_, rfl⟩
      have hAs : A.size ≤ 480 := by
        rw [← hA, bs_size, List.length_append, brTo_len I K k (by omega)]
        have h1 := HLn.out
        rw [List.length_append, brTo_len I K n (by rw [HL.out]; exact Nat.le_refl _)] at h1
        have h2 := bytesN_sub false (List.take_sublist_take_left (l := I) (show k ≤ n by omega))
        omega
      obtain ⟨T, hT⟩ : ∃ T, bs (numL 1 p.size) = T := ⟨_, rfl⟩
      obtain ⟨U, hU⟩ : ∃ U, bs (numL 2 u) = U := ⟨_, rfl⟩
      have hTs : T.size ≤ 1 := by rw [← hT, bs_size, numL_length]; exact Nat.le_refl _
      have hUs : U.size ≤ 2 := by rw [← hU, bs_size, numL_length]; exact Nat.le_refl _
      have H1 : Hid (∀ w, Calls Try.prog 32 #[.int .i64 1, .int .u64 (p.size : Int)] w fun e w' => e = .returned (.string T) ∧ Below w.heap.size w w') := Lib.hid (fun w => by rw [← hT]; exact rnum_ok 1 p.size w (by omega) (by omega) (by omega))
      have H2 : Hid (∀ w, Calls Try.prog 32 #[.int .i64 2, .int .u64 (u : Int)] w fun e w' => e = .returned (.string U) ∧ Below w.heap.size w w') := Lib.hid (fun w => by rw [← hU]; exact rnum_ok 2 u w (by omega) (by omega) (by omega))
      have HN2 := Lib.hid (show A ++ T ++ p ++ U = bs (headB K ++ brTo I K (k + 1)) by
        rw [← hA, ← hT, ← hU, brTo_succ, getD_at I _ _ hkl, kv_at I k hkl, hp, hq, hz]
        rw [bs_snoc, bs_snoc, bs_snoc, bs_toList, bs_toList]
        unfold itemB
        rw [hu]
        simp only [List.append_assoc])
      rw [hA]
      have hwz : IntKind.u64.wrap z = (u : Int) := by rw [IntKind.wrap_u64]; omega
      obtain ⟨m, hm⟩ : ∃ m, k + 1 = m := ⟨_, rfl⟩
      have hwm : IntKind.i64.wrap ((k : Int) + 1) = (m : Int) := by rw [IntWalk.i64_in _ (by omega)]; omega
      have hmk : m < kn := by omega
      have hmk2 : (m : Int) < (kn : Int) := by omega
      rw [hm] at ek
      clear hp hq hA hT hU hz hu
      have jq0 : ¬ 9223372036854775807 < A.size + T.size := by omega
      have jz0 : ¬ (9223372036854775807 : Int) < (A.size : Int) + (T.size : Int) := by omega
      have jq1 : ¬ 9223372036854775807 < A.size + T.size + p.size := by omega
      have jz1 : ¬ (9223372036854775807 : Int) < (A.size : Int) + (T.size : Int) + (p.size : Int) := by omega
      have jq2 : ¬ 9223372036854775807 < A.size + T.size + p.size + U.size := by omega
      have jz2 : ¬ (9223372036854775807 : Int) < (A.size : Int) + (T.size : Int) + (p.size : Int) + (U.size : Int) := by omega
      have hwp : IntKind.u64.wrap (p.size : Int) = (p.size : Int) := by rw [IntKind.wrap_u64]; omega
      have S := Duo.new wr (.string p) (.string q) 44
      have hBz := below_to hBB (new_below wr (.cells #[.string p, .string q] 44))
      replace hN := hN.below (new_below wr (.cells #[.string p, .string q] 44))
      have S2 := Lib.hid (cell_keep ek (new_below wr (.cells #[.string p, .string q] 44)))
      have HM := Lib.hid hm
      clear ek hm
      go_upto_region 16 with (fail)
      clear e0 e1 hBB c0 c1
      generalize wr.alloc (.cells #[.string p, .string q] 44) = wz at S hBz hN S2 ⊢
      generalize wr.heap.size = gz at S ⊢
      replace S := Lib.hid S
      have S1 := Lib.hid hN
      refine wp_region_inv0 (InvEB wz gz w.heap.size A T p U kb koff kn kc k m z u) (by kernel_rfl) (by decide) ?_ ?_ ?_
      · exact ⟨fun zz => cond (Nat.beq zz 19) (.string A) (cond (Nat.beq zz 18) (u96) (cond (Nat.beq zz 17) (u95) (cond (Nat.beq zz 16) (u94) (cond (Nat.beq zz 15) (u93) (cond (Nat.beq zz 14) (u92) (cond (Nat.beq zz 13) (u91) (cond (Nat.beq zz 12) (u90) (cond (Nat.beq zz 11) (u89) (cond (Nat.beq zz 10) (u88) (cond (Nat.beq zz 9) (u87) (cond (Nat.beq zz 8) (u86) (cond (Nat.beq zz 7) (u85) (cond (Nat.beq zz 6) (u84) (cond (Nat.beq zz 5) (u83) (cond (Nat.beq zz 4) (u82) (cond (Nat.beq zz 3) (u81) (cond (Nat.beq zz 2) (u80) (cond (Nat.beq zz 1) (u79) (cond (Nat.beq zz 0) (u78) (undef)))))))))))))))))))), rfl, (Below.refl _ _).drew, Lib.hid (fun i _ h => by cases h), Lib.hid (fun h => by cases h), Lib.hid (fun _ => rfl)⟩
      · refine AllI.cons ?_ (AllI.cons ?_ (AllI.cons ?_ (AllI.cons ?_ (AllI.cons ?_ (AllI.cons ?_ (AllI.cons ?_ (AllI.cons ?_ (AllI.cons ?_ (AllI.cons ?_ (AllI.cons ?_ (AllI.cons ?_ (AllI.cons ?_ (AllI.cons ?_ (AllI.cons ?_ (AllI.cons ?_ (AllI.cons ?_ (AllI.cons ?_ (AllI.cons ?_ (AllI.cons ?_ AllI.nil)))))))))))))))))))
        · intro D aa wx HI hD hdep KK hKK
          obtain ⟨zf, rfl, hB, HF, HX19, HE⟩ := HI
          have E19 : zf 19 = .string A := HE.out hD
          simp only [E19, Act.put, List.toList_toArray, List.take_succ_cons, List.take_zero, List.drop_succ_cons, List.drop_zero, List.cons_append, List.nil_append, List.setIfInBounds_toArray, List.set_cons_zero, List.set_cons_succ]
          go_simp
          exact hKK _ _ ⟨fun zz => cond (Nat.beq zz 0) (.string A) (cond (Nat.beq zz 19) (.string A) (zf zz)), rfl, hB, Lib.hid (upd_factP (i := 0) (v := .string A) (cond_rowP (r := 19) (v := .string A) rfl HF.out) rfl), Lib.hid (fun h => by have h5 := (HX19.out h).2; rw [hD] at h5; cases h5), Lib.hid (fun h => by simp [upd] at h)⟩
        · intro D aa wx HI hD hdep KK hKK
          obtain ⟨zf, rfl, hB, HF, HX19, HE⟩ := HI
          simp only [Act.put, List.toList_toArray, List.take_succ_cons, List.take_zero, List.drop_succ_cons, List.drop_zero, List.cons_append, List.nil_append, List.setIfInBounds_toArray, List.set_cons_zero, List.set_cons_succ]
          go_simp
          exact hKK _ _ ⟨fun zz => cond (Nat.beq zz 1) (.pointer (some ⟨gz, 0, none⟩)) (zf zz), rfl, hB, Lib.hid (upd_factP (i := 1) (v := .pointer (some ⟨gz, 0, none⟩)) HF.out rfl), Lib.hid (fun h => HX19.out h), Lib.hid (fun h => HE.out h)⟩
        · intro D aa wx HI hD hdep KK hKK
          obtain ⟨zf, rfl, hB, HF, HX19, HE⟩ := HI
          simp [Region.binds] at hdep
          have E1 : zf 1 = .pointer (some ⟨gz, 0, none⟩) := HF.out 1 rfl (by simp [hdep])
          obtain ⟨c0, c1⟩ := S.out.below hB
          simp only [E1, Act.put, List.toList_toArray, List.take_succ_cons, List.take_zero, List.drop_succ_cons, List.drop_zero, List.cons_append, List.nil_append, List.setIfInBounds_toArray, List.set_cons_zero, List.set_cons_succ]
          go_simp
          exact hKK _ _ ⟨fun zz => cond (Nat.beq zz 2) (.string p) (cond (Nat.beq zz 1) (.pointer (some ⟨gz, 0, none⟩)) (zf zz)), rfl, hB, Lib.hid (upd_factP (i := 2) (v := .string p) (cond_factP (j := 1) (v := .pointer (some ⟨gz, 0, none⟩)) HF.out rfl) rfl), Lib.hid (fun h => HX19.out h), Lib.hid (fun h => HE.out h)⟩
        · intro D aa wx HI hD hdep KK hKK
          obtain ⟨zf, rfl, hB, HF, HX19, HE⟩ := HI
          simp [Region.binds] at hdep
          have E2 : zf 2 = .string p := HF.out 2 rfl (by simp [hdep])
          simp only [E2, Act.put, List.toList_toArray, List.take_succ_cons, List.take_zero, List.drop_succ_cons, List.drop_zero, List.cons_append, List.nil_append, List.setIfInBounds_toArray, List.set_cons_zero, List.set_cons_succ]
          go_simp
          exact hKK _ _ ⟨fun zz => cond (Nat.beq zz 3) (.int .i64 (p.size : Int)) (cond (Nat.beq zz 2) (.string p) (zf zz)), rfl, hB, Lib.hid (upd_factP (i := 3) (v := .int .i64 (p.size : Int)) (cond_factP (j := 2) (v := .string p) HF.out rfl) rfl), Lib.hid (fun h => HX19.out h), Lib.hid (fun h => HE.out h)⟩
        · intro D aa wx HI hD hdep KK hKK
          obtain ⟨zf, rfl, hB, HF, HX19, HE⟩ := HI
          simp [Region.binds] at hdep
          have E3 : zf 3 = .int .i64 (p.size : Int) := HF.out 3 rfl (by simp [hdep])
          simp only [E3, Act.put, List.toList_toArray, List.take_succ_cons, List.take_zero, List.drop_succ_cons, List.drop_zero, List.cons_append, List.nil_append, List.setIfInBounds_toArray, List.set_cons_zero, List.set_cons_succ]
          go_simp
          exact hKK _ _ ⟨fun zz => cond (Nat.beq zz 4) (.int .u64 (p.size : Int)) (cond (Nat.beq zz 3) (.int .i64 (p.size : Int)) (zf zz)), rfl, hB, Lib.hid (upd_factP (i := 4) (v := .int .u64 (p.size : Int)) (cond_factP (j := 3) (v := .int .i64 (p.size : Int)) HF.out rfl) rfl), Lib.hid (fun h => HX19.out h), Lib.hid (fun h => HE.out h)⟩
        · intro D aa wx HI hD hdep KK hKK
          obtain ⟨zf, rfl, hB, HF, HX19, HE⟩ := HI
          simp [Region.binds] at hdep
          have E4 : zf 4 = .int .u64 (p.size : Int) := HF.out 4 rfl (by simp [hdep])
          simp only [E4, Act.put, List.toList_toArray, List.take_succ_cons, List.take_zero, List.drop_succ_cons, List.drop_zero, List.cons_append, List.nil_append, List.setIfInBounds_toArray, List.set_cons_zero, List.set_cons_succ]
          go_simp
          refine (H1.out _).mono ?_
          rintro e w5 ⟨rfl, hb⟩
          exact hKK _ _ ⟨fun zz => cond (Nat.beq zz 5) (.string T) (cond (Nat.beq zz 4) (.int .u64 (p.size : Int)) (zf zz)), rfl, below_to hB hb, Lib.hid (upd_factP (i := 5) (v := .string T) (cond_factP (j := 4) (v := .int .u64 (p.size : Int)) HF.out rfl) rfl), Lib.hid (fun h => HX19.out h), Lib.hid (fun h => HE.out h)⟩
        · intro D aa wx HI hD hdep KK hKK
          obtain ⟨zf, rfl, hB, HF, HX19, HE⟩ := HI
          simp [Region.binds] at hdep
          have E0 : zf 0 = .string A := HF.out 0 rfl (by simp [hdep])
          have E5 : zf 5 = .string T := HF.out 5 rfl (by simp [hdep])
          simp only [E0, E5, Act.put, List.toList_toArray, List.take_succ_cons, List.take_zero, List.drop_succ_cons, List.drop_zero, List.cons_append, List.nil_append, List.setIfInBounds_toArray, List.set_cons_zero, List.set_cons_succ]
          go_simp
          exact hKK _ _ ⟨fun zz => cond (Nat.beq zz 6) (.string (A ++ T)) (cond (Nat.beq zz 5) (.string T) (cond (Nat.beq zz 0) (.string A) (zf zz))), rfl, hB, Lib.hid (upd_factP (i := 6) (v := .string (A ++ T)) (cond_factP (j := 5) (v := .string T) (cond_factP (j := 0) (v := .string A) HF.out rfl) rfl) rfl), Lib.hid (fun h => HX19.out h), Lib.hid (fun h => HE.out h)⟩
        · intro D aa wx HI hD hdep KK hKK
          obtain ⟨zf, rfl, hB, HF, HX19, HE⟩ := HI
          simp only [Act.put, List.toList_toArray, List.take_succ_cons, List.take_zero, List.drop_succ_cons, List.drop_zero, List.cons_append, List.nil_append, List.setIfInBounds_toArray, List.set_cons_zero, List.set_cons_succ]
          go_simp
          exact hKK _ _ ⟨fun zz => cond (Nat.beq zz 7) (.pointer (some ⟨gz, 0, none⟩)) (zf zz), rfl, hB, Lib.hid (upd_factP (i := 7) (v := .pointer (some ⟨gz, 0, none⟩)) HF.out rfl), Lib.hid (fun h => HX19.out h), Lib.hid (fun h => HE.out h)⟩
        · intro D aa wx HI hD hdep KK hKK
          obtain ⟨zf, rfl, hB, HF, HX19, HE⟩ := HI
          simp [Region.binds] at hdep
          have E7 : zf 7 = .pointer (some ⟨gz, 0, none⟩) := HF.out 7 rfl (by simp [hdep])
          obtain ⟨c0, c1⟩ := S.out.below hB
          simp only [E7, Act.put, List.toList_toArray, List.take_succ_cons, List.take_zero, List.drop_succ_cons, List.drop_zero, List.cons_append, List.nil_append, List.setIfInBounds_toArray, List.set_cons_zero, List.set_cons_succ]
          go_simp
          exact hKK _ _ ⟨fun zz => cond (Nat.beq zz 8) (.string p) (cond (Nat.beq zz 7) (.pointer (some ⟨gz, 0, none⟩)) (zf zz)), rfl, hB, Lib.hid (upd_factP (i := 8) (v := .string p) (cond_factP (j := 7) (v := .pointer (some ⟨gz, 0, none⟩)) HF.out rfl) rfl), Lib.hid (fun h => HX19.out h), Lib.hid (fun h => HE.out h)⟩
        · intro D aa wx HI hD hdep KK hKK
          obtain ⟨zf, rfl, hB, HF, HX19, HE⟩ := HI
          simp [Region.binds] at hdep
          have E6 : zf 6 = .string (A ++ T) := HF.out 6 rfl (by simp [hdep])
          have E8 : zf 8 = .string p := HF.out 8 rfl (by simp [hdep])
          simp only [E6, E8, Act.put, List.toList_toArray, List.take_succ_cons, List.take_zero, List.drop_succ_cons, List.drop_zero, List.cons_append, List.nil_append, List.setIfInBounds_toArray, List.set_cons_zero, List.set_cons_succ]
          go_simp
          exact hKK _ _ ⟨fun zz => cond (Nat.beq zz 9) (.string (A ++ T ++ p)) (cond (Nat.beq zz 8) (.string p) (cond (Nat.beq zz 6) (.string (A ++ T)) (zf zz))), rfl, hB, Lib.hid (upd_factP (i := 9) (v := .string (A ++ T ++ p)) (cond_factP (j := 8) (v := .string p) (cond_factP (j := 6) (v := .string (A ++ T)) HF.out rfl) rfl) rfl), Lib.hid (fun h => HX19.out h), Lib.hid (fun h => HE.out h)⟩
        · intro D aa wx HI hD hdep KK hKK
          obtain ⟨zf, rfl, hB, HF, HX19, HE⟩ := HI
          simp only [Act.put, List.toList_toArray, List.take_succ_cons, List.take_zero, List.drop_succ_cons, List.drop_zero, List.cons_append, List.nil_append, List.setIfInBounds_toArray, List.set_cons_zero, List.set_cons_succ]
          go_simp
          exact hKK _ _ ⟨fun zz => cond (Nat.beq zz 10) (.pointer (some ⟨w.heap.size, 1, none⟩)) (zf zz), rfl, hB, Lib.hid (upd_factP (i := 10) (v := .pointer (some ⟨w.heap.size, 1, none⟩)) HF.out rfl), Lib.hid (fun h => HX19.out h), Lib.hid (fun h => HE.out h)⟩
        · intro D aa wx HI hD hdep KK hKK
          obtain ⟨zf, rfl, hB, HF, HX19, HE⟩ := HI
          simp [Region.binds] at hdep
          have E10 : zf 10 = .pointer (some ⟨w.heap.size, 1, none⟩) := HF.out 10 rfl (by simp [hdep])
          have c1 := (S1.out.below hB).c1
          simp only [E10, Act.put, List.toList_toArray, List.take_succ_cons, List.take_zero, List.drop_succ_cons, List.drop_zero, List.cons_append, List.nil_append, List.setIfInBounds_toArray, List.set_cons_zero, List.set_cons_succ]
          go_simp
          exact hKK _ _ ⟨fun zz => cond (Nat.beq zz 11) (.slice (some ⟨kb, koff, none⟩) kn kc) (cond (Nat.beq zz 10) (.pointer (some ⟨w.heap.size, 1, none⟩)) (zf zz)), rfl, hB, Lib.hid (upd_factP (i := 11) (v := .slice (some ⟨kb, koff, none⟩) kn kc) (cond_factP (j := 10) (v := .pointer (some ⟨w.heap.size, 1, none⟩)) HF.out rfl) rfl), Lib.hid (fun h => HX19.out h), Lib.hid (fun h => HE.out h)⟩
        · intro D aa wx HI hD hdep KK hKK
          obtain ⟨zf, rfl, hB, HF, HX19, HE⟩ := HI
          simp only [Act.put, List.toList_toArray, List.take_succ_cons, List.take_zero, List.drop_succ_cons, List.drop_zero, List.cons_append, List.nil_append, List.setIfInBounds_toArray, List.set_cons_zero, List.set_cons_succ]
          go_simp
          exact hKK _ _ ⟨fun zz => cond (Nat.beq zz 12) (.int .i64 (k : Int)) (zf zz), rfl, hB, Lib.hid (upd_factP (i := 12) (v := .int .i64 (k : Int)) HF.out rfl), Lib.hid (fun h => HX19.out h), Lib.hid (fun h => HE.out h)⟩
        · intro D aa wx HI hD hdep KK hKK
          obtain ⟨zf, rfl, hB, HF, HX19, HE⟩ := HI
          simp [Region.binds] at hdep
          have E12 : zf 12 = .int .i64 (k : Int) := HF.out 12 rfl (by simp [hdep])
          simp only [E12, Act.put, List.toList_toArray, List.take_succ_cons, List.take_zero, List.drop_succ_cons, List.drop_zero, List.cons_append, List.nil_append, List.setIfInBounds_toArray, List.set_cons_zero, List.set_cons_succ]
          go_simp
          exact hKK _ _ ⟨fun zz => cond (Nat.beq zz 13) (.int .i64 (m : Int)) (cond (Nat.beq zz 12) (.int .i64 (k : Int)) (zf zz)), rfl, hB, Lib.hid (upd_factP (i := 13) (v := .int .i64 (m : Int)) (cond_factP (j := 12) (v := .int .i64 (k : Int)) HF.out rfl) rfl), Lib.hid (fun h => HX19.out h), Lib.hid (fun h => HE.out h)⟩
        · intro D aa wx HI hD hdep KK hKK
          obtain ⟨zf, rfl, hB, HF, HX19, HE⟩ := HI
          simp [Region.binds] at hdep
          have E11 : zf 11 = .slice (some ⟨kb, koff, none⟩) kn kc := HF.out 11 rfl (by simp [hdep])
          have E13 : zf 13 = .int .i64 (m : Int) := HF.out 13 rfl (by simp [hdep])
          simp only [E11, E13, Act.put, List.toList_toArray, List.take_succ_cons, List.take_zero, List.drop_succ_cons, List.drop_zero, List.cons_append, List.nil_append, List.setIfInBounds_toArray, List.set_cons_zero, List.set_cons_succ]
          go_simp
          exact hKK _ _ ⟨fun zz => cond (Nat.beq zz 14) (.pointer (some ⟨kb, koff + m, none⟩)) (cond (Nat.beq zz 13) (.int .i64 (m : Int)) (cond (Nat.beq zz 11) (.slice (some ⟨kb, koff, none⟩) kn kc) (zf zz))), rfl, hB, Lib.hid (upd_factP (i := 14) (v := .pointer (some ⟨kb, koff + m, none⟩)) (cond_factP (j := 13) (v := .int .i64 (m : Int)) (cond_factP (j := 11) (v := .slice (some ⟨kb, koff, none⟩) kn kc) HF.out rfl) rfl) rfl), Lib.hid (fun h => HX19.out h), Lib.hid (fun h => HE.out h)⟩
        · intro D aa wx HI hD hdep KK hKK
          obtain ⟨zf, rfl, hB, HF, HX19, HE⟩ := HI
          simp [Region.binds] at hdep
          have E14 : zf 14 = .pointer (some ⟨kb, koff + m, none⟩) := HF.out 14 rfl (by simp [hdep])
          have ck := cell_keep S2.out hB
          simp only [E14, Act.put, List.toList_toArray, List.take_succ_cons, List.take_zero, List.drop_succ_cons, List.drop_zero, List.cons_append, List.nil_append, List.setIfInBounds_toArray, List.set_cons_zero, List.set_cons_succ]
          go_simp
          exact hKK _ _ ⟨fun zz => cond (Nat.beq zz 15) (.int .i64 z) (cond (Nat.beq zz 14) (.pointer (some ⟨kb, koff + m, none⟩)) (zf zz)), rfl, hB, Lib.hid (upd_factP (i := 15) (v := .int .i64 z) (cond_factP (j := 14) (v := .pointer (some ⟨kb, koff + m, none⟩)) HF.out rfl) rfl), Lib.hid (fun h => HX19.out h), Lib.hid (fun h => HE.out h)⟩
        · intro D aa wx HI hD hdep KK hKK
          obtain ⟨zf, rfl, hB, HF, HX19, HE⟩ := HI
          simp [Region.binds] at hdep
          have E15 : zf 15 = .int .i64 z := HF.out 15 rfl (by simp [hdep])
          simp only [E15, Act.put, List.toList_toArray, List.take_succ_cons, List.take_zero, List.drop_succ_cons, List.drop_zero, List.cons_append, List.nil_append, List.setIfInBounds_toArray, List.set_cons_zero, List.set_cons_succ]
          go_simp
          exact hKK _ _ ⟨fun zz => cond (Nat.beq zz 16) (.int .u64 (u : Int)) (cond (Nat.beq zz 15) (.int .i64 z) (zf zz)), rfl, hB, Lib.hid (upd_factP (i := 16) (v := .int .u64 (u : Int)) (cond_factP (j := 15) (v := .int .i64 z) HF.out rfl) rfl), Lib.hid (fun h => HX19.out h), Lib.hid (fun h => HE.out h)⟩
        · intro D aa wx HI hD hdep KK hKK
          obtain ⟨zf, rfl, hB, HF, HX19, HE⟩ := HI
          simp [Region.binds] at hdep
          have E16 : zf 16 = .int .u64 (u : Int) := HF.out 16 rfl (by simp [hdep])
          simp only [E16, Act.put, List.toList_toArray, List.take_succ_cons, List.take_zero, List.drop_succ_cons, List.drop_zero, List.cons_append, List.nil_append, List.setIfInBounds_toArray, List.set_cons_zero, List.set_cons_succ]
          go_simp
          refine (H2.out _).mono ?_
          rintro e w5 ⟨rfl, hb⟩
          exact hKK _ _ ⟨fun zz => cond (Nat.beq zz 17) (.string U) (cond (Nat.beq zz 16) (.int .u64 (u : Int)) (zf zz)), rfl, below_to hB hb, Lib.hid (upd_factP (i := 17) (v := .string U) (cond_factP (j := 16) (v := .int .u64 (u : Int)) HF.out rfl) rfl), Lib.hid (fun h => HX19.out h), Lib.hid (fun h => HE.out h)⟩
        · intro D aa wx HI hD hdep KK hKK
          obtain ⟨zf, rfl, hB, HF, HX19, HE⟩ := HI
          simp [Region.binds] at hdep
          have E9 : zf 9 = .string (A ++ T ++ p) := HF.out 9 rfl (by simp [hdep])
          have E17 : zf 17 = .string U := HF.out 17 rfl (by simp [hdep])
          simp only [E9, E17, Act.put, List.toList_toArray, List.take_succ_cons, List.take_zero, List.drop_succ_cons, List.drop_zero, List.cons_append, List.nil_append, List.setIfInBounds_toArray, List.set_cons_zero, List.set_cons_succ]
          go_simp
          exact hKK _ _ ⟨fun zz => cond (Nat.beq zz 18) (.string (A ++ T ++ p ++ U)) (cond (Nat.beq zz 17) (.string U) (cond (Nat.beq zz 9) (.string (A ++ T ++ p)) (zf zz))), rfl, hB, Lib.hid (upd_factP (i := 18) (v := .string (A ++ T ++ p ++ U)) (cond_factP (j := 17) (v := .string U) (cond_factP (j := 9) (v := .string (A ++ T ++ p)) HF.out rfl) rfl) rfl), Lib.hid (fun h => HX19.out h), Lib.hid (fun h => HE.out h)⟩
        · intro D aa wx HI hD hdep KK hKK
          obtain ⟨zf, rfl, hB, HF, HX19, HE⟩ := HI
          simp [Region.binds] at hdep
          have E18 : zf 18 = .string (A ++ T ++ p ++ U) := HF.out 18 rfl (by simp [hdep])
          simp only [E18, Act.put, List.toList_toArray, List.take_succ_cons, List.take_zero, List.drop_succ_cons, List.drop_zero, List.cons_append, List.nil_append, List.setIfInBounds_toArray, List.set_cons_zero, List.set_cons_succ]
          go_simp
          exact hKK _ _ ⟨fun zz => cond (Nat.beq zz 19) (.string (A ++ T ++ p ++ U)) (cond (Nat.beq zz 18) (.string (A ++ T ++ p ++ U)) (zf zz)), rfl, hB, Lib.hid (upd_rowP (r := 19) (v := .string (A ++ T ++ p ++ U)) rfl (cond_factP (j := 18) (v := .string (A ++ T ++ p ++ U)) HF.out rfl)), Lib.hid (fun _ => ⟨rfl, by simp [upd, hdep]⟩), Lib.hid (fun h => absurd h (by simp [upd, hdep]))⟩
      intro D aa w7 HI hD
      obtain ⟨zf, rfl, hB, HF, HX19, HE⟩ := HI
      have e199 : zf 19 = .string (A ++ T ++ p ++ U) := (HX19.out (hD 19 (by simp))).1
      simp only [e199, Act.put, List.toList_toArray, List.take_succ_cons, List.take_zero, List.drop_succ_cons, List.drop_zero, List.cons_append, List.nil_append]
      clear HF hD HX19 HE
      replace hN := hN.below hB
      replace hBz := below_to hBz hB
      clear hB S S1 S2 H1 H2 hwm hmk hmk2 HM hwz
      rw [HN2.out]
      have c0 := hN.c0
      go_wp2_with fail
      go_roundw
      case rel => exact ⟨k + 1, by omega, hBz, hN, rfl, by go_num⟩
      case measure => simp [intOf]; omega
    · obtain rfl : k = n := by omega
      have hq1 : (headB K ++ brTo I K k).length ≤ 480 := HLn.out
      have KN : Hid (∀ w, Calls Try.prog 33 #[.int .i64 (480 - ((headB K ++ brTo I K k).length : Int))] w fun e w' => e = .returned (.string (bs (List.replicate (480 - (headB K ++ brTo I K k).length) 0))) ∧ Below w.heap.size w w') := Lib.hid (fun w => by
        have := rnoughts_any (480 - (headB K ++ brTo I K k).length) (by omega) w
        rw [show (((480 - (headB K ++ brTo I K k).length : Nat)) : Int) = 480 - ((headB K ++ brTo I K k).length : Int) by omega] at this
        exact this)
      obtain ⟨A, hA⟩ : ∃ A, bs (headB K ++ brTo I K k) = A := ⟨_, rfl⟩
      have hAs : (headB K ++ brTo I K k).length = A.size := by rw [← hA, bs_size]
      obtain ⟨N, hN0⟩ : ∃ N, bs (List.replicate (480 - (headB K ++ brTo I K k).length) 0) = N := ⟨_, rfl⟩
      have HF3 := HF2
      rw [hA, hN0] at HF3
      rw [hN0, hAs] at KN
      rw [hA]
      rw [hAs] at hq1
      have hNs : N.size ≤ 480 := by rw [← hN0, bs_size, List.length_replicate]; omega
      have jq1 : ¬ 9223372036854775807 < A.size + N.size := by omega
      have jz1 : ¬ (9223372036854775807 : Int) < (A.size : Int) + (N.size : Int) := by omega
      clear hA hAs hN0
      go_wp2_with fail
      refine (KN.out _).mono ?_
      rintro e w9 ⟨rfl, hb⟩
      go_wp2_with fail
      go_ret2
      exact ⟨congrArg (fun s => Ending.returned (.tuple #[.string s, .int .i64 0])) HF3.out, below_to hBB hb⟩
end
set_option maxRecDepth 100000
set_option maxHeartbeats 1000000
section
variable {w : World} {a : Option Addr} {n c : Nat} {ka : Option Addr} {kn kc : Nat} {I : List It} {K : List Int}
theorem rencNot (hI : Its w a n I) (hK : Kds w ka kn K)
    (H18 : Hid (∀ w1, Its w1 a n I → Kds w1 ka kn K → Calls Try.prog 18 #[.agg #[.slice a n c, .slice ka kn kc]] w1 fun e w' => e = .returned (.bool false) ∧ Below w1.heap.size w1 w')) :
    Calls Try.prog 11 #[.agg #[.slice a n c, .slice ka kn kc]] w fun e w' => e = .returned (.tuple #[.string ⟨#[]⟩, .int .i64 18]) ∧ Below w.heap.size w w' := by
  have hN := Nd.new w a n c ka kn kc 25
  have hBB := new_below w (.cells #[.slice a n c, .slice ka kn kc] 25)
  have HIb := hI.below hBB
  have HKb := hK.below hBB
  clear hI hK
  go_enter Try.func11, Try.ntmps11
  go_wp2_with fail
  generalize w.alloc (.cells #[.slice a n c, .slice ka kn kc] 25) = w1 at hN hBB HIb HKb ⊢
  have c0 := hN.c0
  have c1 := hN.c1
  go_wp2_with fail
  refine (H18.out _ HIb HKb).mono ?_
  rintro e w2 ⟨rfl, hb⟩
  go_wp2_with fail
  go_ret2
  exact ⟨rfl, below_to hBB hb⟩
/-- The reference's Encode answers what the program's does. -/
theorem rencode_any (hI : Its w a n I) (hK : Kds w ka kn K) (hn : n ≤ 4096) (hkn : kn ≤ 4096) (hS : Short I) (t : ByteArray) (y : Int) (ht : encR I K = (t, y)) :
    Calls Try.prog 11 #[.agg #[.slice a n c, .slice ka kn kc]] w fun e w' => e = .returned (.tuple #[.string t, .int .i64 y]) ∧ Below w.heap.size w w' := by
  obtain ⟨b, hb⟩ : ∃ b, decide (RightP I K) = b := ⟨_, rfl⟩
  have H18 := Lib.hid (fun (w1 : World) (h1 : Its w1 a n I) (h2 : Kds w1 ka kn K) => rright_any (c := c) (kc := kc) h1 h2 hn hkn hS b hb)
  cases b with
  | true =>
    have hR := of_decide_eq_true hb
    have e : encR I K = (bs (encF I K), 0) := if_pos hR
    rw [e] at ht
    obtain ⟨rfl, rfl⟩ := Prod.mk.inj ht
    cases K with
    | nil =>
      obtain rfl : kn = 0 := hK.1.symm
      exact rencLeaf_any hI hR 0 (Lib.hid (fun w1 h1 => H18.out w1 h1 ⟨rfl, .inl rfl⟩))
    | cons z K =>
      have hk : 0 < kn := by rw [← hK.1]; simp
      exact rencBranch_any hI hK hk hR H18
  | false =>
    have hR := of_decide_eq_false hb
    have e : encR I K = (ByteArray.empty, 18) := if_neg hR
    rw [e] at ht
    obtain ⟨rfl, rfl⟩ := Prod.mk.inj ht
    exact rencNot hI hK H18
end
end Go.Proofs.Ytnjpijihjifkfaa
