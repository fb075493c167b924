/- Contract: Check. -/
import Derived.Test.YtnjpijihjifkfaaT3
namespace Go.Proofs.Ytnjpijihjifkfaa
open Go.RowKit
set_option linter.unusedVariables false
section
variable {w : World} {a : Option Addr} {n c : Nat} {ka : Option Addr} {kn kc : Nat} {I : List It} {K : List Int}
/-- The four questions, one by one. -/
theorem right_parts {I : List It} {K : List Int} (b : Bool) (h : leafK K = b) : RightP I K ↔ (if K.length = 0 then decide (0 < I.length) else decide (I.length + 1 = K.length)) = true ∧ itemsB b I = true ∧ K.all okKid = true ∧ sizeN b I ≤ 480 := by
  subst h
  unfold RightP itemsB numB leafK
  simp only [Bool.and_eq_true, decide_eq_true_iff, beq_iff_eq]
def chkE (I : List It) (K : List Int) : Int := if RightP I K then 0 else 18
set_option maxRecDepth 100000 in
set_option maxHeartbeats 1000000 in
theorem check_free (hI : Its w a n I) (hK : Kds w ka kn K) (hn : n ≤ 4096) (hkn : kn ≤ 9223372036854775806) (y : Int) (hy : chkE I K = y) :
    Calls Try.prog 14 #[.agg #[.slice a n c, .slice ka kn kc]] w fun e w' => e = .returned (.int .i64 y) ∧ Below w.heap.size w w' := by
  obtain ⟨b, hb⟩ : ∃ b, (kn == 0) = b := ⟨_, rfl⟩
  have hlK : leafK K = b := by unfold leafK; rw [hK.1]; exact hb
  have HP := Lib.hid (right_parts (I := I) b hlK)
  obtain ⟨t1, h1⟩ : ∃ t, (if kn = 0 then decide (0 < n) else decide (n + 1 = kn)) = t := ⟨_, rfl⟩
  obtain ⟨t2, h2⟩ : ∃ t, itemsB b I = t := ⟨_, rfl⟩
  obtain ⟨t3, h3⟩ : ∃ t, K.all okKid = t := ⟨_, rfl⟩
  obtain ⟨u, h4⟩ : ∃ u, sizeN b I = u := ⟨_, rfl⟩
  have K1 := Lib.hid (fun w => hasNumber_any a n c ka kn kc t1 h1 w (by omega))
  have K2 := Lib.hid (fun (w1 : World) (B : Below w.heap.size w w1) => hasItems_free (c := c) (ka := ka) (kc := kc) (hI.below B) hn hb)
  have K3 := Lib.hid (fun (w1 : World) (B : Below w.heap.size w w1) => hasKids_any (a := a) (n := n) (c := c) (kc := kc) (hK.below B) hkn)
  have HSh := Lib.hid (show t2 = true → Short I from fun e => short_items (h2.trans e))
  have K4 := Lib.hid (fun (hS : Short I) (w1 : World) (B : Below w.heap.size w w1) => size_any (c := c) (ka := ka) (kc := kc) (hI.below B) hn hS hb u h4)
  have hp := HP.out
  rw [hI.1, hK.1, h1, h2, h3, h4] at hp
  rw [h2] at K2
  rw [h3] at K3
  have HY := Lib.hid (show (if t1 = true ∧ t2 = true ∧ t3 = true ∧ u ≤ 480 then (0 : Int) else 18) = y by rw [← hy]; unfold chkE; simp only [hp])
  have HN := Lib.hid (Nd.new w a n c ka kn kc 31)
  have HB0 := Lib.hid (new_below w (.cells #[.slice a n c, .slice ka kn kc] 31))
  clear hy hp h1 h2 h3 h4 hb hlK HP hI hK
  cases t1 with
  | false =>
    have HY2 := Lib.hid (show (18 : Int) = y by rw [← HY.out]; simp)
    go_enter Try.func14, Try.ntmps14
    go_wp2_with fail
    refine (K1.out _).mono ?_
    rintro e w1 ⟨rfl, hb⟩
    go_wp2_with fail
    go_ret
    exact ⟨ret_int HY2.out, below_to HB0.out hb⟩
  | true =>
    cases t2 with
    | false =>
      have HY2 := Lib.hid (show (18 : Int) = y by rw [← HY.out]; simp)
      go_enter Try.func14, Try.ntmps14
      go_wp2_with fail
      refine (K1.out _).mono ?_
      rintro e w1 ⟨rfl, hb⟩
      have hN := HN.out.below hb
      have hB := below_to HB0.out hb
      have c0 := hN.c0
      have c1 := hN.c1
      clear hb
      go_wp2_with fail
      refine (K2.out _ hB).mono ?_
      rintro e w2 ⟨rfl, hb⟩
      go_wp2_with fail
      go_ret
      exact ⟨ret_int HY2.out, below_to hB hb⟩
    | true =>
      cases t3 with
      | false =>
        have HY2 := Lib.hid (show (18 : Int) = y by rw [← HY.out]; simp)
        go_enter Try.func14, Try.ntmps14
        go_wp2_with fail
        refine (K1.out _).mono ?_
        rintro e w1 ⟨rfl, hb⟩
        have hN := HN.out.below hb
        have hB := below_to HB0.out hb
        have c0 := hN.c0
        have c1 := hN.c1
        clear hb
        go_wp2_with fail
        refine (K2.out _ hB).mono ?_
        rintro e w2 ⟨rfl, hb⟩
        replace hN := hN.below hb
        replace hB := below_to hB hb
        clear c0 c1 hb
        have c0 := hN.c0
        have c1 := hN.c1
        go_wp2_with fail
        refine (K3.out _ hB).mono ?_
        rintro e w3 ⟨rfl, hb⟩
        go_wp2_with fail
        go_ret
        exact ⟨ret_int HY2.out, below_to hB hb⟩
      | true =>
        have HY2 := Lib.hid (show (if u ≤ 480 then (0 : Int) else 18) = y by rw [← HY.out]; simp)
        go_enter Try.func14, Try.ntmps14
        go_wp2_with fail
        refine (K1.out _).mono ?_
        rintro e w1 ⟨rfl, hb⟩
        have hN := HN.out.below hb
        have hB := below_to HB0.out hb
        have c0 := hN.c0
        have c1 := hN.c1
        clear hb
        go_wp2_with fail
        refine (K2.out _ hB).mono ?_
        rintro e w2 ⟨rfl, hb⟩
        replace hN := hN.below hb
        replace hB := below_to hB hb
        clear c0 c1 hb
        have c0 := hN.c0
        have c1 := hN.c1
        go_wp2_with fail
        refine (K3.out _ hB).mono ?_
        rintro e w3 ⟨rfl, hb⟩
        replace hN := hN.below hb
        replace hB := below_to hB hb
        clear c0 c1 hb
        have c0 := hN.c0
        have c1 := hN.c1
        go_wp2_with fail
        refine (K4.out (HSh.out (by simp)) _ hB).mono ?_
        rintro e w4 ⟨rfl, hb⟩
        replace hB := below_to hB hb
        clear c0 c1 hb
        by_cases hu : u ≤ 480
        · have HY3 := Lib.hid (show (0 : Int) = y by have := HY2.out; rwa [if_pos hu] at this)
          go_wp2_with fail
          go_ret
          exact ⟨ret_int HY3.out, hB⟩
        · have HY3 := Lib.hid (show (18 : Int) = y by have := HY2.out; rwa [if_neg hu] at this)
          go_wp2_with fail
          go_ret
          exact ⟨ret_int HY3.out, hB⟩
theorem check_any (hI : Its w a n I) (hK : Kds w ka kn K) (hn : n ≤ 4096) (hkn : kn ≤ 9223372036854775806) (hS : Short I) (y : Int) (hy : chkE I K = y) :
    Calls Try.prog 14 #[.agg #[.slice a n c, .slice ka kn kc]] w fun e w' => e = .returned (.int .i64 y) ∧ Below w.heap.size w w' := check_free hI hK hn hkn y hy
end
end Go.Proofs.Ytnjpijihjifkfaa
