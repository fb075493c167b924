/- Contract: Encode. -/
import Derived.Test.YtnjpijihjifkfaaT7
namespace Go.Proofs.Ytnjpijihjifkfaa
open Go.RowKit
set_option linter.unusedVariables false
theorem pad_lit (s t : ByteArray) (hs : s.size ≤ 480) (h : s ++ bs (List.replicate (480 - s.size) 0) = t) (w : World) : Calls Try.prog 29 #[.string s, .int .i64 480] w fun e w' => e = .returned (.string t) ∧ Below w.heap.size w w' := by
  subst h
  by_cases h0 : s.size = 480
  · have := pad_same s 480 w (.inr (by omega)) (Nat.le_trans hs (by decide))
    refine this.mono ?_
    rintro e w' ⟨rfl, rfl⟩
    refine ⟨ret_str ?_, Below.refl _ _⟩
    rw [h0]
    apply ba_ext
    rw [app_list, bs_toList]; simp
  · have := pad_more s 480 w (by omega) (by omega)
    rwa [show (480 - (s.size : Int)).toNat = 480 - s.size by omega] at this
def encR (I : List It) (K : List Int) : ByteArray × Int := if RightP I K then (bs (encF I K), 0) else (ByteArray.empty, 18)
theorem right_leaf {I : List It} {K : List Int} (h : RightP I K) (hk : K = []) : I.length ≤ 255 ∧ I.all (okIt true) = true := by
  subst hk; have := right_small h; exact ⟨by omega, (leaf_parts h).2.1⟩
section
variable {w : World} {a : Option Addr} {n c : Nat} {ka : Option Addr} {kn kc : Nat} {I : List It} {K : List Int}
set_option maxRecDepth 100000 in
set_option maxHeartbeats 1000000 in
theorem encode_any (hI : Its w a n I) (hK : Kds w ka kn K) (hn : n ≤ 4096) (hkn : kn ≤ 9223372036854775806) (hS : Short I) (t : ByteArray) (y : Int) (ht : encR I K = (t, y)) :
    Calls Try.prog 9 #[.agg #[.slice a n c, .slice ka kn kc]] w fun e w' => e = .returned (.tuple #[.string t, .int .i64 y]) ∧ Below w.heap.size w w' := by
  have HI := Lib.hid hI
  have HK := Lib.hid hK
  have HN := Lib.hid (Nd.new w a n c ka kn kc 31)
  have HB0 := Lib.hid (new_below w (.cells #[.slice a n c, .slice ka kn kc] 31))
  have hlI := hI.1
  have hlK := hK.1
  by_cases hR : RightP I K
  · unfold encR at ht
    rw [if_pos hR] at ht
    simp only [Prod.mk.injEq] at ht
    obtain ⟨ht, rfl⟩ := ht
    have KC := Lib.hid (fun (w1 : World) (B : Below w.heap.size w w1) => check_any (c := c) (kc := kc) (hI.below B) (hK.below B) hn hkn hS 0 (by unfold chkE; rw [if_pos hR]))
    have hlen := encT_len I K
    have hsz : sizeN (leafK K) I ≤ 480 := hR.2.2.2
    obtain ⟨s, hs⟩ : ∃ s, bs (encT I K) = s := ⟨_, rfl⟩
    have hss : s.size ≤ 480 := by rw [← hs, bs_size, hlen]; exact hsz
    have KP := Lib.hid (fun w => pad_lit s t hss (by rw [← ht, ← hs, bs_size]; unfold encF; apply ba_ext; rw [app_list, bs_toList, bs_toList, bs_toList]) w)
    by_cases h0 : kn = 0
    · have hk0 : K = [] := List.length_eq_zero_iff.1 (by omega)
      have hr := right_leaf hR hk0
      have KL := Lib.hid (fun (w1 : World) (B : Below w.heap.size w w1) => leafText_any (c := c) (ka := ka) (kn := kn) (kc := kc) (hI.below B) (by omega) hr.2)
      have KT := Lib.hid (show bs (headL I ++ leafTo I n) = s by rw [← hs]; unfold encT; rw [hk0, ← hlI]; rfl)
      have KF := Lib.hid (fun w => isLeaf_any a n c ka kn kc true (by rw [h0]; rfl) w)
      clear hI hK hS ht hlen hsz hs h0 hk0 hr hR hlI hlK
      go_enter Try.func9, Try.ntmps9
      go_wp2_with fail
      refine (KC.out _ HB0.out).mono ?_
      rintro e w1 ⟨rfl, hb⟩
      have hB := below_to HB0.out hb
      have hN := HN.out.below hb
      have c0 := hN.c0
      have c1 := hN.c1
      clear hb
      go_wp2_with fail
      refine (KF.out _).mono ?_
      rintro e w2 ⟨rfl, hb⟩
      replace hB := below_to hB hb
      replace hN := hN.below hb
      clear hb c0 c1
      have c0 := hN.c0
      have c1 := hN.c1
      go_wp2_with fail
      refine (KL.out _ hB).mono ?_
      rintro e w3 ⟨rfl, hb⟩
      replace hB := below_to hB hb
      clear hb c0 c1
      rw [KT.out]
      go_wp2_with fail
      refine (KP.out _).mono ?_
      rintro e w4 ⟨rfl, hb⟩
      replace hB := below_to hB hb
      clear hb
      go_wp2_with fail
      go_ret2
      exact ⟨rfl, hB⟩
    · have hk0 : 0 < K.length := by omega
      have hr := branch_parts hR hk0
      have hsm := right_small hR
      have KL := Lib.hid (fun (w1 : World) (B : Below w.heap.size w w1) => branchText_any (c := c) (kc := kc) (hI.below B) (hK.below B) (by omega) (by omega) hr.2.1 hr.2.2.2.1)
      have hz : leafK K = false := by unfold leafK; rw [beq_eq_false_iff_ne]; omega
      have KT := Lib.hid (show bs (headB K ++ brTo I K n) = s by rw [← hs]; unfold encT; rw [hz, ← hlI]; rfl)
      have KF := Lib.hid (fun w => isLeaf_any a n c ka kn kc false (by rw [beq_eq_false_iff_ne]; exact h0) w)
      clear hI hK hS ht hlen hsz hs h0 hk0 hr hR hlI hlK hz hsm
      go_enter Try.func9, Try.ntmps9
      go_wp2_with fail
      refine (KC.out _ HB0.out).mono ?_
      rintro e w1 ⟨rfl, hb⟩
      have hB := below_to HB0.out hb
      have hN := HN.out.below hb
      have c0 := hN.c0
      have c1 := hN.c1
      clear hb
      go_wp2_with fail
      refine (KF.out _).mono ?_
      rintro e w2 ⟨rfl, hb⟩
      replace hB := below_to hB hb
      replace hN := hN.below hb
      clear hb c0 c1
      have c0 := hN.c0
      have c1 := hN.c1
      go_wp2_with fail
      refine (KL.out _ hB).mono ?_
      rintro e w3 ⟨rfl, hb⟩
      replace hB := below_to hB hb
      clear hb c0 c1
      rw [KT.out]
      go_wp2_with fail
      refine (KP.out _).mono ?_
      rintro e w4 ⟨rfl, hb⟩
      replace hB := below_to hB hb
      clear hb
      go_wp2_with fail
      go_ret2
      exact ⟨rfl, hB⟩
  · unfold encR at ht
    rw [if_neg hR] at ht
    simp only [Prod.mk.injEq] at ht
    obtain ⟨rfl, rfl⟩ := ht
    have KC := Lib.hid (fun (w1 : World) (B : Below w.heap.size w w1) => check_any (c := c) (kc := kc) (hI.below B) (hK.below B) hn hkn hS 18 (by unfold chkE; rw [if_neg hR]))
    clear hI hK hS hR hlI hlK
    go_enter Try.func9, Try.ntmps9
    go_wp2_with fail
    refine (KC.out _ HB0.out).mono ?_
    rintro e w1 ⟨rfl, hb⟩
    go_wp2_with fail
    go_ret2
    exact ⟨rfl, below_to HB0.out hb⟩
end
end Go.Proofs.Ytnjpijihjifkfaa
