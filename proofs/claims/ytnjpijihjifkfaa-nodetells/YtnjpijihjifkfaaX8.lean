/- The walk of NodeTells. -/
import Derived.Test.YtnjpijihjifkfaaX6
import Derived.Test.YtnjpijihjifkfaaTP
import Derived.Deep.Cut
namespace Go.Proofs.Ytnjpijihjifkfaa
open Go.RowKit
set_option maxRecDepth 100000
set_option linter.unusedVariables false
set_option linter.unusedSimpArgs false
set_option maxHeartbeats 8000000
theorem same_ex1 {w : World} {L : List It} {M : List Int} {a a' ka ka' : Option Addr} {n n' kn kn' c c' kc kc' : Nat} (h1 : Its w a n L) (h2 : Kds w ka kn M) (h3 : Its w a' n' L) (h4 : Kds w ka' kn' M) (hL : L.length ≤ 1000) (hM : M.length ≤ 1000) :
    Calls Try.prog 15 #[.agg #[.slice a n c, .slice ka kn kc], .agg #[.slice a' n' c', .slice ka' kn' kc']] w fun e w' => e = .returned (.bool true) ∧ Below w.heap.size w w' := by
  obtain rfl : n = n' := by rw [← h1.1, ← h3.1]
  obtain rfl : kn = kn' := by rw [← h2.1, ← h4.1]
  exact same_any h1 h3 h2 h4 (by rw [← h1.1]; omega) (by rw [← h2.1]; omega)
theorem small_parts1 {I : List It} {K : List Int} (h : smallF I K = true) : Short I ∧ I.length ≤ 200 ∧ K.length ≤ 200 := by
  unfold smallF at h
  simp only [Bool.and_eq_true, decide_eq_true_eq, List.all_eq_true] at h
  refine ⟨fun x hx => ?_, h.2.1, h.2.2⟩
  have := h.1 x hx
  unfold smallIt at this
  simp only [Bool.and_eq_true, decide_eq_true_eq] at this
  omega
def InvNT1_v (sA : Value) (sP : Value) (sR : Value) (T : ByteArray) (Y : Int) (Z : Int) (u : Nat) (zi : Nat) : Value := ([.bool true, .bool true, .string T, .string T, .bool true, .bool true, .bool true, .int .i64 Y, .int .i64 Y, .bool true, .bool true, .bool true, sP, sR, .bool true, .bool true, .bool true, .int .i64 Z, .int .i64 Z, .bool true, .bool true, .bool true, sA, sA, .int .i64 (u : Int), sA, .int .i64 (u : Int), .bool true, .bool true, .bool true, .int .i64 0, .bool true, sA, .bool true, .bool true, .bool true, .bool true, .int .i64 0, .bool true, .bool true, undef, undef, .bool true, .bool true, .bool true] : List Value).getD zi undef
def InvNT1_p (i : Nat) : Bool := false
def InvNT1 (W1 : World) (sA : Value) (sP : Value) (sR : Value) (T : ByteArray) (Y : Int) (Z : Int) (u : Nat) (a0 : Act) (D : Nat → Bool) (act : Act) (w : World) : Prop :=
  ∃ zf : Nat → Value, act = ⟨(a0.tmps.toList.take 4 ++ zf 44 :: ((a0.tmps.toList.drop 5).take 42 ++ zf 0 :: zf 1 :: zf 2 :: zf 3 :: zf 4 :: zf 5 :: zf 6 :: zf 7 :: zf 8 :: zf 9 :: zf 10 :: zf 11 :: zf 12 :: zf 13 :: zf 14 :: zf 15 :: zf 16 :: zf 17 :: zf 18 :: zf 19 :: zf 20 :: zf 21 :: zf 22 :: zf 23 :: zf 24 :: zf 25 :: zf 26 :: zf 27 :: zf 28 :: zf 29 :: zf 30 :: zf 31 :: zf 32 :: zf 33 :: zf 34 :: zf 35 :: zf 36 :: zf 37 :: zf 38 :: zf 39 :: zf 40 :: zf 41 :: zf 42 :: zf 43 :: a0.tmps.toList.drop 91)).toArray, []⟩ ∧ Below W1.heap.size W1 w ∧ Hid (∀ zi, InvNT1_p zi = false → D zi = true → zf zi = InvNT1_v sA sP sR T Y Z u zi)
def InvNT0_v (sA : Value) (sP : Value) (sR : Value) (T : ByteArray) (Y : Int) (Z : Int) (u : Nat) (zi : Nat) : Value := ([.bool true, .bool true, .string T, .string T, .bool true, .bool true, .bool true, .int .i64 Y, .int .i64 Y, .bool true, .bool true, .bool true, sP, sR, .bool true, .bool true, .bool true, .int .i64 Z, .int .i64 Z, .bool true, .bool true, .bool true, sA, sA, .int .i64 (u : Int), sA, .int .i64 (u : Int), .bool true, .bool true, .bool true, .int .i64 18, .bool false, sA, .bool false, .bool true, .bool true, .bool true, .int .i64 18, .bool false, .bool false, .int .i64 18, .bool true, .bool true, .bool true, .bool true] : List Value).getD zi undef
def InvNT0_p (i : Nat) : Bool := false
def InvNT0 (W1 : World) (sA : Value) (sP : Value) (sR : Value) (T : ByteArray) (Y : Int) (Z : Int) (u : Nat) (a0 : Act) (D : Nat → Bool) (act : Act) (w : World) : Prop :=
  ∃ zf : Nat → Value, act = ⟨(a0.tmps.toList.take 4 ++ zf 44 :: ((a0.tmps.toList.drop 5).take 42 ++ zf 0 :: zf 1 :: zf 2 :: zf 3 :: zf 4 :: zf 5 :: zf 6 :: zf 7 :: zf 8 :: zf 9 :: zf 10 :: zf 11 :: zf 12 :: zf 13 :: zf 14 :: zf 15 :: zf 16 :: zf 17 :: zf 18 :: zf 19 :: zf 20 :: zf 21 :: zf 22 :: zf 23 :: zf 24 :: zf 25 :: zf 26 :: zf 27 :: zf 28 :: zf 29 :: zf 30 :: zf 31 :: zf 32 :: zf 33 :: zf 34 :: zf 35 :: zf 36 :: zf 37 :: zf 38 :: zf 39 :: zf 40 :: zf 41 :: zf 42 :: zf 43 :: a0.tmps.toList.drop 91)).toArray, []⟩ ∧ Below W1.heap.size W1 w ∧ Hid (∀ zi, InvNT0_p zi = false → D zi = true → zf zi = InvNT0_v sA sP sR T Y Z u zi)
section
variable {w : World} {a : Option Addr} {n c : Nat} {ka : Option Addr} {kn kc : Nat} {I : List It} {K : List Int}
theorem nodeTells_walk (hI : Its w a n I) (hK : Kds w ka kn K) (hn : n ≤ 9223372036854775807) (hkn : kn ≤ 9223372036854775807) (hl : ∀ k, k < n → (kq I k).size ≤ 9223372036854775807 ∧ (vq I k).size ≤ 9223372036854775807) (s : ByteArray) (hsz : s.size ≤ maxLen) :
    Calls Try.prog 3 #[.agg #[.slice a n c, .slice ka kn kc], .string s] w fun e w' => e = .returned (.bool true) ∧ Below w.heap.size w w' := by
  obtain ⟨s1, hs1⟩ : ∃ b, smallF I K = b := ⟨_, rfl⟩
  have NA := Nd.new w a n c ka kn kc 25
  have BB := new_below w (.cells #[.slice a n c, .slice ka kn kc] 25)
  have IA : Its (w.alloc (.cells #[.slice a n c, .slice ka kn kc] 25)) a n I ∧ Kds (w.alloc (.cells #[.slice a n c, .slice ka kn kc] 25)) ka kn K := ⟨hI.below BB, hK.below BB⟩
  have KS1 := Lib.hid (fun (w : World) (h1 : Its w a n I ∧ Kds w ka kn K) => by
    have := small_any (c := c) (kc := kc) h1.1 h1.2 hn hkn hl
    rw [hs1] at this; exact this)
  have HL := Lib.hid (fun w => lives_any w)
  have HO := Lib.hid (fun w => ours_any a n c ka kn kc w)
  have hlI := hI.1
  have hlK := hK.1
  clear hI hK hl
  go_enter Try.func3, Try.ntmps3
  go_wp2_with fail
  generalize w.alloc (.cells #[.slice a n c, .slice ka kn kc] 25) = w1 at NA BB IA ⊢
  have c0 := NA.c0
  have c1 := NA.c1
  go_wp2_with fail
  refine (KS1.out _ IA).mono ?_
  rintro e w2 ⟨rfl, hb⟩
  replace NA := NA.below hb
  replace IA := And.intro (IA.1.below hb) (IA.2.below hb)
  replace BB := below_to BB hb
  clear hb KS1 c0 c1
  cases s1 with
  | false =>
    go_wp2_with fail
    refine (HL.out _).mono ?_
    rintro e w9 ⟨rfl, hb⟩
    go_wp2_with fail
    go_ret
    exact ⟨rfl, below_to BB hb⟩
  | true =>
  by_cases hlong : 4096 < s.size
  · have hl2 : (4096 : Int) < (s.size : Int) := by omega
    go_wp2_with fail
    refine (HL.out _).mono ?_
    rintro e w9 ⟨rfl, hb⟩
    go_wp2_with fail
    go_ret
    exact ⟨rfl, below_to BB hb⟩
  have hl2 : ¬ (4096 : Int) < (s.size : Int) := by omega
  obtain ⟨hS, hI2, hK2⟩ := small_parts1 hs1
  rw [hlI] at hI2
  rw [hlK] at hK2
  obtain ⟨T, Y, hTY⟩ : ∃ t y, encR I K = (t, y) := ⟨_, _, rfl⟩
  obtain ⟨L, M, Z, hLM⟩ : ∃ L M y, decQ s (readP s) = ((L, M), y) := ⟨_, _, _, rfl⟩
  have hLM2 := hLM
  rw [← dec_same] at hLM2
  have hsm := decQ_small hLM
  obtain ⟨b, hb0⟩ : ∃ b, (kn == 0) = b := ⟨_, rfl⟩
  have hlf : leafK K = b := by unfold leafK; rw [hlK]; exact hb0
  obtain ⟨u, hu⟩ : ∃ u, sizeN b I = u := ⟨_, rfl⟩
  have HE1 := Lib.hid (fun (w : World) (h : Its w a n I ∧ Kds w ka kn K) => encode_any (c := c) (kc := kc) h.1 h.2 (by omega) (by omega) hS T Y hTY)
  have HE2 := Lib.hid (fun (w : World) (h : Its w a n I ∧ Kds w ka kn K) => rencode_any (c := c) (kc := kc) h.1 h.2 (by omega) (by omega) hS T Y hTY)
  have HD1 := Lib.hid (fun w => decode_any s w hsz L M Z hLM)
  have HD2 := Lib.hid (fun w => rdecode_any s w hsz L M Z hLM2)
  have HS1 := Lib.hid (fun (w : World) (h : Its w a n I) => size_any (c := c) (ka := ka) (kc := kc) h (by omega) hS hb0 u hu)
  have HS2 := Lib.hid (fun (w : World) (h : Its w a n I) => rsize_any (c := c) (ka := ka) (kc := kc) h (by omega) hS hb0 u hu)
  have hs3 : L.length ≤ 1000 := by omega
  have hs4 : M.length ≤ 1000 := by omega
  obtain ⟨r, hr⟩ : ∃ r, decide (RightP I K) = r := ⟨_, rfl⟩
  have HR := Lib.hid (fun (w : World) (h1 : Its w a n I) (h2 : Kds w ka kn K) => rright_any (c := c) (kc := kc) h1 h2 (by omega) (by omega) hS r hr)
  obtain ⟨C, hC⟩ : ∃ C, chkE I K = C := ⟨_, rfl⟩
  have HC := Lib.hid (fun (w : World) (h : Its w a n I ∧ Kds w ka kn K) => check_any (c := c) (kc := kc) h.1 h.2 (by omega) (by omega) hS C hC)
  have hCr : C = cond r 0 18 := by
    rw [← hC, ← hr]
    unfold chkE
    by_cases h : RightP I K
    · rw [if_pos h, decide_eq_true h]; rfl
    · rw [if_neg h, decide_eq_false h]; rfl
  clear hTY hLM hLM2 hsm hb0 hlf hu hC hr hs1 hS hlI hlK hsz
  have c0 := NA.c0
  have c1 := NA.c1
  go_wp2_with fail
  refine (HO.out _).mono ?_
  rintro e w3 ⟨rfl, hb⟩
  replace NA := NA.below hb
  replace IA := And.intro (IA.1.below hb) (IA.2.below hb)
  replace BB := below_to BB hb
  clear hb c0 c1
  have c0 := NA.c0
  have c1 := NA.c1
  go_wp2_with fail
  refine (HE1.out _ IA).mono ?_
  rintro e w4 ⟨rfl, hb⟩
  replace NA := NA.below hb
  replace IA := And.intro (IA.1.below hb) (IA.2.below hb)
  replace BB := below_to BB hb
  clear hb c0 c1
  have c0 := NA.c0
  have c1 := NA.c1
  go_wp2_with fail
  refine (HE2.out _ IA).mono ?_
  rintro e w5 ⟨rfl, hb⟩
  replace NA := NA.below hb
  replace IA := And.intro (IA.1.below hb) (IA.2.below hb)
  replace BB := below_to BB hb
  clear hb c0 c1
  have c0 := NA.c0
  have c1 := NA.c1
  go_wp2_with fail
  refine (HD1.out _).mono ?_
  rintro e w6 ⟨pa, pn, pc, pka, pkn, pkc, rfl, -, -, -, -, ip1, ip2, hb⟩
  replace NA := NA.below hb
  replace IA := And.intro (IA.1.below hb) (IA.2.below hb)
  replace BB := below_to BB hb
  clear hb c0 c1
  have c0 := NA.c0
  have c1 := NA.c1
  clear c0 c1
  go_upto_region 6 with (fail)
  have hb := new_below w6 (.cells #[.slice pa pn pc, .slice pka pkn pkc] 31)
  have NP := Nd.new w6 pa pn pc pka pkn pkc 31
  have IP : Its (w6.alloc (.cells #[.slice pa pn pc, .slice pka pkn pkc] 31)) pa pn L ∧ Kds (w6.alloc (.cells #[.slice pa pn pc, .slice pka pkn pkc] 31)) pka pkn M := ⟨ip1.below hb, ip2.below hb⟩
  replace NA := NA.below hb
  replace IA := And.intro (IA.1.below hb) (IA.2.below hb)
  replace BB := below_to BB hb
  clear hb
  clear ip1 ip2
  generalize w6.alloc (.cells #[.slice pa pn pc, .slice pka pkn pkc] 31) = w7 at NA IA BB NP IP ⊢
  generalize w6.heap.size = gP at NP ⊢
  go_wp2_with fail
  refine (HD2.out _).mono ?_
  rintro e w8 ⟨ra, rn, rc, rka, rkn, rkc, rfl, -, -, -, -, ir1, ir2, hb⟩
  replace NP := NP.below hb
  replace IP := And.intro (IP.1.below hb) (IP.2.below hb)
  replace NA := NA.below hb
  replace IA := And.intro (IA.1.below hb) (IA.2.below hb)
  replace BB := below_to BB hb
  clear hb
  go_upto_region 7 with (fail)
  have hb := new_below w8 (.cells #[.slice ra rn rc, .slice rka rkn rkc] 25)
  have NR := Nd.new w8 ra rn rc rka rkn rkc 25
  have IR : Its (w8.alloc (.cells #[.slice ra rn rc, .slice rka rkn rkc] 25)) ra rn L ∧ Kds (w8.alloc (.cells #[.slice ra rn rc, .slice rka rkn rkc] 25)) rka rkn M := ⟨ir1.below hb, ir2.below hb⟩
  replace NP := NP.below hb
  replace IP := And.intro (IP.1.below hb) (IP.2.below hb)
  replace NA := NA.below hb
  replace IA := And.intro (IA.1.below hb) (IA.2.below hb)
  replace BB := below_to BB hb
  clear hb
  clear ir1 ir2
  generalize w8.alloc (.cells #[.slice ra rn rc, .slice rka rkn rkc] 25) = wA at NA IA BB NP IP NR IR ⊢
  generalize w8.heap.size = gR at NR ⊢
  have c0 := NA.c0
  have c1 := NA.c1
  go_wp2_with fail
  refine (HO.out _).mono ?_
  rintro e wB ⟨rfl, hb⟩
  replace NP := NP.below hb
  replace IP := And.intro (IP.1.below hb) (IP.2.below hb)
  replace NR := NR.below hb
  replace IR := And.intro (IR.1.below hb) (IR.2.below hb)
  replace NA := NA.below hb
  replace IA := And.intro (IA.1.below hb) (IA.2.below hb)
  replace BB := below_to BB hb
  clear hb c0 c1
  have c0 := NA.c0
  have c1 := NA.c1
  go_wp2_with fail
  refine (HC.out _ IA).mono ?_
  rintro e wC ⟨rfl, hb⟩
  replace NP := NP.below hb
  replace IP := And.intro (IP.1.below hb) (IP.2.below hb)
  replace NR := NR.below hb
  replace IR := And.intro (IR.1.below hb) (IR.2.below hb)
  replace NA := NA.below hb
  replace IA := And.intro (IA.1.below hb) (IA.2.below hb)
  replace BB := below_to BB hb
  clear hb c0 c1
  have c0 := NA.c0
  have c1 := NA.c1
  clear c0 c1 HE1 HE2 HD1 HD2 HC
  subst hCr
  go_upto_region 8 with (fail)
  replace NA := Lib.hid NA
  replace NP := Lib.hid NP
  replace NR := Lib.hid NR
  replace IA := Lib.hid IA
  replace IP := Lib.hid IP
  replace IR := Lib.hid IR
  cases r with
  | false =>
    refine wp_region_inv0 (InvNT0 wC (.agg #[.slice a n c, .slice ka kn kc]) (.agg #[.slice pa pn pc, .slice pka pkn pkc]) (.agg #[.slice ra rn rc, .slice rka rkn rkc]) T Y Z u) (by kernel_rfl) (by decide) ?_ ?_ ?_
    · exact ⟨fun zz => cond (Nat.beq zz 44) (.bool false) (undef), rfl, (Below.refl _ _).drew, Lib.hid (fun i _ h => by cases h)⟩
    · refine AllI.cons ?_ (AllI.cons ?_ (AllI.cons ?_ (AllI.cons ?_ (AllI.cons ?_ (AllI.cons ?_ (AllI.cons ?_ (AllI.cons ?_ (AllI.cons ?_ (AllI.cons ?_ (AllI.cons ?_ (AllI.cons ?_ (AllI.cons ?_ (AllI.cons ?_ (AllI.cons ?_ (AllI.cons ?_ (AllI.cons ?_ (AllI.cons ?_ (AllI.cons ?_ (AllI.cons ?_ (AllI.cons ?_ (AllI.cons ?_ (AllI.cons ?_ (AllI.cons ?_ (AllI.cons ?_ (AllI.cons ?_ (AllI.cons ?_ (AllI.cons ?_ (AllI.cons ?_ (AllI.cons ?_ (AllI.cons ?_ (AllI.cons ?_ (AllI.cons ?_ (AllI.cons ?_ (AllI.cons ?_ (AllI.cons ?_ (AllI.cons ?_ (AllI.cons ?_ (AllI.cons ?_ (AllI.cons ?_ (AllI.cons ?_ (AllI.cons ?_ (AllI.cons ?_ (AllI.cons ?_ (AllI.cons ?_ AllI.nil))))))))))))))))))))))))))))))))))))))))))))
      · intro D aa wx HI hD hdep KK hKK
        obtain ⟨zf, rfl, hB, HF⟩ := HI
        simp only [Act.put, List.toList_toArray, List.take_succ_cons, List.take_zero, List.drop_succ_cons, List.drop_zero, List.cons_append, List.nil_append, List.setIfInBounds_toArray, List.set_cons_zero, List.set_cons_succ]
        go_simp
        refine (HL.out _).mono ?_
        rintro e w5 ⟨rfl, hb⟩
        exact hKK _ _ ⟨fun zz => cond (Nat.beq zz 0) (.bool true) (zf zz), rfl, below_to hB hb, Lib.hid (upd_factP (i := 0) (v := .bool true) HF.out rfl)⟩
      · intro D aa wx HI hD hdep KK hKK
        obtain ⟨zf, rfl, hB, HF⟩ := HI
        simp [Region.binds] at hdep
        have E0 : zf 0 = .bool true := HF.out 0 rfl (by simp [hdep])
        simp only [E0, Act.put, List.toList_toArray, List.take_succ_cons, List.take_zero, List.drop_succ_cons, List.drop_zero, List.cons_append, List.nil_append, List.setIfInBounds_toArray, List.set_cons_zero, List.set_cons_succ]
        go_simp
        exact hKK _ _ ⟨fun zz => cond (Nat.beq zz 1) (.bool true) (cond (Nat.beq zz 0) (.bool true) (zf zz)), rfl, hB, Lib.hid (upd_factP (i := 1) (v := .bool true) (cond_factP (j := 0) (v := .bool true) HF.out rfl) rfl)⟩
      · intro D aa wx HI hD hdep KK hKK
        obtain ⟨zf, rfl, hB, HF⟩ := HI
        simp [Region.binds] at hdep
        have E1 : zf 1 = .bool true := HF.out 1 rfl (by simp [hdep])
        simp only [E1, Act.put, List.toList_toArray, List.take_succ_cons, List.take_zero, List.drop_succ_cons, List.drop_zero, List.cons_append, List.nil_append, List.setIfInBounds_toArray, List.set_cons_zero, List.set_cons_succ]
        go_simp
        exact hKK _ _ ⟨fun zz => cond (Nat.beq zz 2) (.string T) (cond (Nat.beq zz 1) (.bool true) (zf zz)), rfl, hB, Lib.hid (upd_factP (i := 2) (v := .string T) (cond_factP (j := 1) (v := .bool true) HF.out rfl) rfl)⟩
      · intro D aa wx HI hD hdep KK hKK
        obtain ⟨zf, rfl, hB, HF⟩ := HI
        simp [Region.binds] at hdep
        have E1 : zf 1 = .bool true := HF.out 1 rfl (by simp [hdep])
        simp only [E1, Act.put, List.toList_toArray, List.take_succ_cons, List.take_zero, List.drop_succ_cons, List.drop_zero, List.cons_append, List.nil_append, List.setIfInBounds_toArray, List.set_cons_zero, List.set_cons_succ]
        go_simp
        exact hKK _ _ ⟨fun zz => cond (Nat.beq zz 3) (.string T) (cond (Nat.beq zz 1) (.bool true) (zf zz)), rfl, hB, Lib.hid (upd_factP (i := 3) (v := .string T) (cond_factP (j := 1) (v := .bool true) HF.out rfl) rfl)⟩
      · intro D aa wx HI hD hdep KK hKK
        obtain ⟨zf, rfl, hB, HF⟩ := HI
        simp [Region.binds] at hdep
        have E1 : zf 1 = .bool true := HF.out 1 rfl (by simp [hdep])
        have E2 : zf 2 = .string T := HF.out 2 rfl (by simp [hdep])
        have E3 : zf 3 = .string T := HF.out 3 rfl (by simp [hdep])
        simp only [E1, E2, E3, Act.put, List.toList_toArray, List.take_succ_cons, List.take_zero, List.drop_succ_cons, List.drop_zero, List.cons_append, List.nil_append, List.setIfInBounds_toArray, List.set_cons_zero, List.set_cons_succ]
        go_simp
        exact hKK _ _ ⟨fun zz => cond (Nat.beq zz 4) (.bool true) (cond (Nat.beq zz 3) (.string T) (cond (Nat.beq zz 2) (.string T) (cond (Nat.beq zz 1) (.bool true) (zf zz)))), rfl, hB, Lib.hid (upd_factP (i := 4) (v := .bool true) (cond_factP (j := 3) (v := .string T) (cond_factP (j := 2) (v := .string T) (cond_factP (j := 1) (v := .bool true) HF.out rfl) rfl) rfl) rfl)⟩
      · intro D aa wx HI hD hdep KK hKK
        obtain ⟨zf, rfl, hB, HF⟩ := HI
        simp [Region.binds] at hdep
        have E1 : zf 1 = .bool true := HF.out 1 rfl (by simp [hdep])
        have E4 : zf 4 = .bool true := HF.out 4 rfl (by simp [hdep])
        simp only [E1, E4, Act.put, List.toList_toArray, List.take_succ_cons, List.take_zero, List.drop_succ_cons, List.drop_zero, List.cons_append, List.nil_append, List.setIfInBounds_toArray, List.set_cons_zero, List.set_cons_succ]
        go_simp
        exact hKK _ _ ⟨fun zz => cond (Nat.beq zz 5) (.bool true) (cond (Nat.beq zz 4) (.bool true) (cond (Nat.beq zz 1) (.bool true) (zf zz))), rfl, hB, Lib.hid (upd_factP (i := 5) (v := .bool true) (cond_factP (j := 4) (v := .bool true) (cond_factP (j := 1) (v := .bool true) HF.out rfl) rfl) rfl)⟩
      · intro D aa wx HI hD hdep KK hKK
        obtain ⟨zf, rfl, hB, HF⟩ := HI
        simp [Region.binds] at hdep
        have E5 : zf 5 = .bool true := HF.out 5 rfl (by simp [hdep])
        simp only [E5, Act.put, List.toList_toArray, List.take_succ_cons, List.take_zero, List.drop_succ_cons, List.drop_zero, List.cons_append, List.nil_append, List.setIfInBounds_toArray, List.set_cons_zero, List.set_cons_succ]
        go_simp
        exact hKK _ _ ⟨fun zz => cond (Nat.beq zz 6) (.bool true) (cond (Nat.beq zz 5) (.bool true) (zf zz)), rfl, hB, Lib.hid (upd_factP (i := 6) (v := .bool true) (cond_factP (j := 5) (v := .bool true) HF.out rfl) rfl)⟩
      · intro D aa wx HI hD hdep KK hKK
        obtain ⟨zf, rfl, hB, HF⟩ := HI
        simp [Region.binds] at hdep
        have E6 : zf 6 = .bool true := HF.out 6 rfl (by simp [hdep])
        simp only [E6, Act.put, List.toList_toArray, List.take_succ_cons, List.take_zero, List.drop_succ_cons, List.drop_zero, List.cons_append, List.nil_append, List.setIfInBounds_toArray, List.set_cons_zero, List.set_cons_succ]
        go_simp
        exact hKK _ _ ⟨fun zz => cond (Nat.beq zz 7) (.int .i64 Y) (cond (Nat.beq zz 6) (.bool true) (zf zz)), rfl, hB, Lib.hid (upd_factP (i := 7) (v := .int .i64 Y) (cond_factP (j := 6) (v := .bool true) HF.out rfl) rfl)⟩
      · intro D aa wx HI hD hdep KK hKK
        obtain ⟨zf, rfl, hB, HF⟩ := HI
        simp [Region.binds] at hdep
        have E6 : zf 6 = .bool true := HF.out 6 rfl (by simp [hdep])
        simp only [E6, Act.put, List.toList_toArray, List.take_succ_cons, List.take_zero, List.drop_succ_cons, List.drop_zero, List.cons_append, List.nil_append, List.setIfInBounds_toArray, List.set_cons_zero, List.set_cons_succ]
        go_simp
        exact hKK _ _ ⟨fun zz => cond (Nat.beq zz 8) (.int .i64 Y) (cond (Nat.beq zz 6) (.bool true) (zf zz)), rfl, hB, Lib.hid (upd_factP (i := 8) (v := .int .i64 Y) (cond_factP (j := 6) (v := .bool true) HF.out rfl) rfl)⟩
      · intro D aa wx HI hD hdep KK hKK
        obtain ⟨zf, rfl, hB, HF⟩ := HI
        simp [Region.binds] at hdep
        have E6 : zf 6 = .bool true := HF.out 6 rfl (by simp [hdep])
        have E7 : zf 7 = .int .i64 Y := HF.out 7 rfl (by simp [hdep])
        have E8 : zf 8 = .int .i64 Y := HF.out 8 rfl (by simp [hdep])
        simp only [E6, E7, E8, Act.put, List.toList_toArray, List.take_succ_cons, List.take_zero, List.drop_succ_cons, List.drop_zero, List.cons_append, List.nil_append, List.setIfInBounds_toArray, List.set_cons_zero, List.set_cons_succ]
        go_simp
        exact hKK _ _ ⟨fun zz => cond (Nat.beq zz 9) (.bool true) (cond (Nat.beq zz 8) (.int .i64 Y) (cond (Nat.beq zz 7) (.int .i64 Y) (cond (Nat.beq zz 6) (.bool true) (zf zz)))), rfl, hB, Lib.hid (upd_factP (i := 9) (v := .bool true) (cond_factP (j := 8) (v := .int .i64 Y) (cond_factP (j := 7) (v := .int .i64 Y) (cond_factP (j := 6) (v := .bool true) HF.out rfl) rfl) rfl) rfl)⟩
      · intro D aa wx HI hD hdep KK hKK
        obtain ⟨zf, rfl, hB, HF⟩ := HI
        simp [Region.binds] at hdep
        have E6 : zf 6 = .bool true := HF.out 6 rfl (by simp [hdep])
        have E9 : zf 9 = .bool true := HF.out 9 rfl (by simp [hdep])
        simp only [E6, E9, Act.put, List.toList_toArray, List.take_succ_cons, List.take_zero, List.drop_succ_cons, List.drop_zero, List.cons_append, List.nil_append, List.setIfInBounds_toArray, List.set_cons_zero, List.set_cons_succ]
        go_simp
        exact hKK _ _ ⟨fun zz => cond (Nat.beq zz 10) (.bool true) (cond (Nat.beq zz 9) (.bool true) (cond (Nat.beq zz 6) (.bool true) (zf zz))), rfl, hB, Lib.hid (upd_factP (i := 10) (v := .bool true) (cond_factP (j := 9) (v := .bool true) (cond_factP (j := 6) (v := .bool true) HF.out rfl) rfl) rfl)⟩
      · intro D aa wx HI hD hdep KK hKK
        obtain ⟨zf, rfl, hB, HF⟩ := HI
        simp [Region.binds] at hdep
        have E10 : zf 10 = .bool true := HF.out 10 rfl (by simp [hdep])
        simp only [E10, Act.put, List.toList_toArray, List.take_succ_cons, List.take_zero, List.drop_succ_cons, List.drop_zero, List.cons_append, List.nil_append, List.setIfInBounds_toArray, List.set_cons_zero, List.set_cons_succ]
        go_simp
        exact hKK _ _ ⟨fun zz => cond (Nat.beq zz 11) (.bool true) (cond (Nat.beq zz 10) (.bool true) (zf zz)), rfl, hB, Lib.hid (upd_factP (i := 11) (v := .bool true) (cond_factP (j := 10) (v := .bool true) HF.out rfl) rfl)⟩
      · intro D aa wx HI hD hdep KK hKK
        obtain ⟨zf, rfl, hB, HF⟩ := HI
        simp [Region.binds] at hdep
        have E11 : zf 11 = .bool true := HF.out 11 rfl (by simp [hdep])
        have c0 := (NP.out.below hB).c0
        have c1 := (NP.out.below hB).c1
        simp only [E11, Act.put, List.toList_toArray, List.take_succ_cons, List.take_zero, List.drop_succ_cons, List.drop_zero, List.cons_append, List.nil_append, List.setIfInBounds_toArray, List.set_cons_zero, List.set_cons_succ]
        go_simp
        exact hKK _ _ ⟨fun zz => cond (Nat.beq zz 12) ((.agg #[.slice pa pn pc, .slice pka pkn pkc])) (cond (Nat.beq zz 11) (.bool true) (zf zz)), rfl, hB, Lib.hid (upd_factP (i := 12) (v := (.agg #[.slice pa pn pc, .slice pka pkn pkc])) (cond_factP (j := 11) (v := .bool true) HF.out rfl) rfl)⟩
      · intro D aa wx HI hD hdep KK hKK
        obtain ⟨zf, rfl, hB, HF⟩ := HI
        simp [Region.binds] at hdep
        have E11 : zf 11 = .bool true := HF.out 11 rfl (by simp [hdep])
        have c0 := (NR.out.below hB).c0
        have c1 := (NR.out.below hB).c1
        simp only [E11, Act.put, List.toList_toArray, List.take_succ_cons, List.take_zero, List.drop_succ_cons, List.drop_zero, List.cons_append, List.nil_append, List.setIfInBounds_toArray, List.set_cons_zero, List.set_cons_succ]
        go_simp
        exact hKK _ _ ⟨fun zz => cond (Nat.beq zz 13) ((.agg #[.slice ra rn rc, .slice rka rkn rkc])) (cond (Nat.beq zz 11) (.bool true) (zf zz)), rfl, hB, Lib.hid (upd_factP (i := 13) (v := (.agg #[.slice ra rn rc, .slice rka rkn rkc])) (cond_factP (j := 11) (v := .bool true) HF.out rfl) rfl)⟩
      · intro D aa wx HI hD hdep KK hKK
        obtain ⟨zf, rfl, hB, HF⟩ := HI
        simp [Region.binds] at hdep
        have E11 : zf 11 = .bool true := HF.out 11 rfl (by simp [hdep])
        have E12 : zf 12 = (.agg #[.slice pa pn pc, .slice pka pkn pkc]) := HF.out 12 rfl (by simp [hdep])
        have E13 : zf 13 = (.agg #[.slice ra rn rc, .slice rka rkn rkc]) := HF.out 13 rfl (by simp [hdep])
        simp only [E11, E12, E13, Act.put, List.toList_toArray, List.take_succ_cons, List.take_zero, List.drop_succ_cons, List.drop_zero, List.cons_append, List.nil_append, List.setIfInBounds_toArray, List.set_cons_zero, List.set_cons_succ]
        go_simp
        refine (same_ex1 (IP.out.1.below hB) (IP.out.2.below hB) (IR.out.1.below hB) (IR.out.2.below hB) hs3 hs4).mono ?_
        rintro e w5 ⟨rfl, hb⟩
        exact hKK _ _ ⟨fun zz => cond (Nat.beq zz 14) (.bool true) (cond (Nat.beq zz 13) ((.agg #[.slice ra rn rc, .slice rka rkn rkc])) (cond (Nat.beq zz 12) ((.agg #[.slice pa pn pc, .slice pka pkn pkc])) (cond (Nat.beq zz 11) (.bool true) (zf zz)))), rfl, below_to hB hb, Lib.hid (upd_factP (i := 14) (v := .bool true) (cond_factP (j := 13) (v := (.agg #[.slice ra rn rc, .slice rka rkn rkc])) (cond_factP (j := 12) (v := (.agg #[.slice pa pn pc, .slice pka pkn pkc])) (cond_factP (j := 11) (v := .bool true) HF.out rfl) rfl) rfl) rfl)⟩
      · intro D aa wx HI hD hdep KK hKK
        obtain ⟨zf, rfl, hB, HF⟩ := HI
        simp [Region.binds] at hdep
        have E11 : zf 11 = .bool true := HF.out 11 rfl (by simp [hdep])
        have E14 : zf 14 = .bool true := HF.out 14 rfl (by simp [hdep])
        simp only [E11, E14, Act.put, List.toList_toArray, List.take_succ_cons, List.take_zero, List.drop_succ_cons, List.drop_zero, List.cons_append, List.nil_append, List.setIfInBounds_toArray, List.set_cons_zero, List.set_cons_succ]
        go_simp
        exact hKK _ _ ⟨fun zz => cond (Nat.beq zz 15) (.bool true) (cond (Nat.beq zz 14) (.bool true) (cond (Nat.beq zz 11) (.bool true) (zf zz))), rfl, hB, Lib.hid (upd_factP (i := 15) (v := .bool true) (cond_factP (j := 14) (v := .bool true) (cond_factP (j := 11) (v := .bool true) HF.out rfl) rfl) rfl)⟩
      · intro D aa wx HI hD hdep KK hKK
        obtain ⟨zf, rfl, hB, HF⟩ := HI
        simp [Region.binds] at hdep
        have E15 : zf 15 = .bool true := HF.out 15 rfl (by simp [hdep])
        simp only [E15, Act.put, List.toList_toArray, List.take_succ_cons, List.take_zero, List.drop_succ_cons, List.drop_zero, List.cons_append, List.nil_append, List.setIfInBounds_toArray, List.set_cons_zero, List.set_cons_succ]
        go_simp
        exact hKK _ _ ⟨fun zz => cond (Nat.beq zz 16) (.bool true) (cond (Nat.beq zz 15) (.bool true) (zf zz)), rfl, hB, Lib.hid (upd_factP (i := 16) (v := .bool true) (cond_factP (j := 15) (v := .bool true) HF.out rfl) rfl)⟩
      · intro D aa wx HI hD hdep KK hKK
        obtain ⟨zf, rfl, hB, HF⟩ := HI
        simp [Region.binds] at hdep
        have E16 : zf 16 = .bool true := HF.out 16 rfl (by simp [hdep])
        simp only [E16, Act.put, List.toList_toArray, List.take_succ_cons, List.take_zero, List.drop_succ_cons, List.drop_zero, List.cons_append, List.nil_append, List.setIfInBounds_toArray, List.set_cons_zero, List.set_cons_succ]
        go_simp
        exact hKK _ _ ⟨fun zz => cond (Nat.beq zz 17) (.int .i64 Z) (cond (Nat.beq zz 16) (.bool true) (zf zz)), rfl, hB, Lib.hid (upd_factP (i := 17) (v := .int .i64 Z) (cond_factP (j := 16) (v := .bool true) HF.out rfl) rfl)⟩
      · intro D aa wx HI hD hdep KK hKK
        obtain ⟨zf, rfl, hB, HF⟩ := HI
        simp [Region.binds] at hdep
        have E16 : zf 16 = .bool true := HF.out 16 rfl (by simp [hdep])
        simp only [E16, Act.put, List.toList_toArray, List.take_succ_cons, List.take_zero, List.drop_succ_cons, List.drop_zero, List.cons_append, List.nil_append, List.setIfInBounds_toArray, List.set_cons_zero, List.set_cons_succ]
        go_simp
        exact hKK _ _ ⟨fun zz => cond (Nat.beq zz 18) (.int .i64 Z) (cond (Nat.beq zz 16) (.bool true) (zf zz)), rfl, hB, Lib.hid (upd_factP (i := 18) (v := .int .i64 Z) (cond_factP (j := 16) (v := .bool true) HF.out rfl) rfl)⟩
      · intro D aa wx HI hD hdep KK hKK
        obtain ⟨zf, rfl, hB, HF⟩ := HI
        simp [Region.binds] at hdep
        have E16 : zf 16 = .bool true := HF.out 16 rfl (by simp [hdep])
        have E17 : zf 17 = .int .i64 Z := HF.out 17 rfl (by simp [hdep])
        have E18 : zf 18 = .int .i64 Z := HF.out 18 rfl (by simp [hdep])
        simp only [E16, E17, E18, Act.put, List.toList_toArray, List.take_succ_cons, List.take_zero, List.drop_succ_cons, List.drop_zero, List.cons_append, List.nil_append, List.setIfInBounds_toArray, List.set_cons_zero, List.set_cons_succ]
        go_simp
        exact hKK _ _ ⟨fun zz => cond (Nat.beq zz 19) (.bool true) (cond (Nat.beq zz 18) (.int .i64 Z) (cond (Nat.beq zz 17) (.int .i64 Z) (cond (Nat.beq zz 16) (.bool true) (zf zz)))), rfl, hB, Lib.hid (upd_factP (i := 19) (v := .bool true) (cond_factP (j := 18) (v := .int .i64 Z) (cond_factP (j := 17) (v := .int .i64 Z) (cond_factP (j := 16) (v := .bool true) HF.out rfl) rfl) rfl) rfl)⟩
      · intro D aa wx HI hD hdep KK hKK
        obtain ⟨zf, rfl, hB, HF⟩ := HI
        simp [Region.binds] at hdep
        have E16 : zf 16 = .bool true := HF.out 16 rfl (by simp [hdep])
        have E19 : zf 19 = .bool true := HF.out 19 rfl (by simp [hdep])
        simp only [E16, E19, Act.put, List.toList_toArray, List.take_succ_cons, List.take_zero, List.drop_succ_cons, List.drop_zero, List.cons_append, List.nil_append, List.setIfInBounds_toArray, List.set_cons_zero, List.set_cons_succ]
        go_simp
        exact hKK _ _ ⟨fun zz => cond (Nat.beq zz 20) (.bool true) (cond (Nat.beq zz 19) (.bool true) (cond (Nat.beq zz 16) (.bool true) (zf zz))), rfl, hB, Lib.hid (upd_factP (i := 20) (v := .bool true) (cond_factP (j := 19) (v := .bool true) (cond_factP (j := 16) (v := .bool true) HF.out rfl) rfl) rfl)⟩
      · intro D aa wx HI hD hdep KK hKK
        obtain ⟨zf, rfl, hB, HF⟩ := HI
        simp [Region.binds] at hdep
        have E20 : zf 20 = .bool true := HF.out 20 rfl (by simp [hdep])
        simp only [E20, Act.put, List.toList_toArray, List.take_succ_cons, List.take_zero, List.drop_succ_cons, List.drop_zero, List.cons_append, List.nil_append, List.setIfInBounds_toArray, List.set_cons_zero, List.set_cons_succ]
        go_simp
        exact hKK _ _ ⟨fun zz => cond (Nat.beq zz 21) (.bool true) (cond (Nat.beq zz 20) (.bool true) (zf zz)), rfl, hB, Lib.hid (upd_factP (i := 21) (v := .bool true) (cond_factP (j := 20) (v := .bool true) HF.out rfl) rfl)⟩
      · intro D aa wx HI hD hdep KK hKK
        obtain ⟨zf, rfl, hB, HF⟩ := HI
        simp [Region.binds] at hdep
        have E21 : zf 21 = .bool true := HF.out 21 rfl (by simp [hdep])
        have c0 := (NA.out.below hB).c0
        have c1 := (NA.out.below hB).c1
        simp only [E21, Act.put, List.toList_toArray, List.take_succ_cons, List.take_zero, List.drop_succ_cons, List.drop_zero, List.cons_append, List.nil_append, List.setIfInBounds_toArray, List.set_cons_zero, List.set_cons_succ]
        go_simp
        exact hKK _ _ ⟨fun zz => cond (Nat.beq zz 22) ((.agg #[.slice a n c, .slice ka kn kc])) (cond (Nat.beq zz 21) (.bool true) (zf zz)), rfl, hB, Lib.hid (upd_factP (i := 22) (v := (.agg #[.slice a n c, .slice ka kn kc])) (cond_factP (j := 21) (v := .bool true) HF.out rfl) rfl)⟩
      · intro D aa wx HI hD hdep KK hKK
        obtain ⟨zf, rfl, hB, HF⟩ := HI
        simp [Region.binds] at hdep
        have E21 : zf 21 = .bool true := HF.out 21 rfl (by simp [hdep])
        have E22 : zf 22 = (.agg #[.slice a n c, .slice ka kn kc]) := HF.out 22 rfl (by simp [hdep])
        simp only [E21, E22, Act.put, List.toList_toArray, List.take_succ_cons, List.take_zero, List.drop_succ_cons, List.drop_zero, List.cons_append, List.nil_append, List.setIfInBounds_toArray, List.set_cons_zero, List.set_cons_succ]
        go_simp
        refine (HO.out _).mono ?_
        rintro e w5 ⟨rfl, hb⟩
        exact hKK _ _ ⟨fun zz => cond (Nat.beq zz 23) ((.agg #[.slice a n c, .slice ka kn kc])) (cond (Nat.beq zz 22) ((.agg #[.slice a n c, .slice ka kn kc])) (cond (Nat.beq zz 21) (.bool true) (zf zz))), rfl, below_to hB hb, Lib.hid (upd_factP (i := 23) (v := (.agg #[.slice a n c, .slice ka kn kc])) (cond_factP (j := 22) (v := (.agg #[.slice a n c, .slice ka kn kc])) (cond_factP (j := 21) (v := .bool true) HF.out rfl) rfl) rfl)⟩
      · intro D aa wx HI hD hdep KK hKK
        obtain ⟨zf, rfl, hB, HF⟩ := HI
        simp [Region.binds] at hdep
        have E21 : zf 21 = .bool true := HF.out 21 rfl (by simp [hdep])
        have E23 : zf 23 = (.agg #[.slice a n c, .slice ka kn kc]) := HF.out 23 rfl (by simp [hdep])
        simp only [E21, E23, Act.put, List.toList_toArray, List.take_succ_cons, List.take_zero, List.drop_succ_cons, List.drop_zero, List.cons_append, List.nil_append, List.setIfInBounds_toArray, List.set_cons_zero, List.set_cons_succ]
        go_simp
        refine (HS1.out _ (IA.out.1.below hB)).mono ?_
        rintro e w5 ⟨rfl, hb⟩
        exact hKK _ _ ⟨fun zz => cond (Nat.beq zz 24) (.int .i64 (u : Int)) (cond (Nat.beq zz 23) ((.agg #[.slice a n c, .slice ka kn kc])) (cond (Nat.beq zz 21) (.bool true) (zf zz))), rfl, below_to hB hb, Lib.hid (upd_factP (i := 24) (v := .int .i64 (u : Int)) (cond_factP (j := 23) (v := (.agg #[.slice a n c, .slice ka kn kc])) (cond_factP (j := 21) (v := .bool true) HF.out rfl) rfl) rfl)⟩
      · intro D aa wx HI hD hdep KK hKK
        obtain ⟨zf, rfl, hB, HF⟩ := HI
        simp [Region.binds] at hdep
        have E21 : zf 21 = .bool true := HF.out 21 rfl (by simp [hdep])
        have c0 := (NA.out.below hB).c0
        have c1 := (NA.out.below hB).c1
        simp only [E21, Act.put, List.toList_toArray, List.take_succ_cons, List.take_zero, List.drop_succ_cons, List.drop_zero, List.cons_append, List.nil_append, List.setIfInBounds_toArray, List.set_cons_zero, List.set_cons_succ]
        go_simp
        exact hKK _ _ ⟨fun zz => cond (Nat.beq zz 25) ((.agg #[.slice a n c, .slice ka kn kc])) (cond (Nat.beq zz 21) (.bool true) (zf zz)), rfl, hB, Lib.hid (upd_factP (i := 25) (v := (.agg #[.slice a n c, .slice ka kn kc])) (cond_factP (j := 21) (v := .bool true) HF.out rfl) rfl)⟩
      · intro D aa wx HI hD hdep KK hKK
        obtain ⟨zf, rfl, hB, HF⟩ := HI
        simp [Region.binds] at hdep
        have E21 : zf 21 = .bool true := HF.out 21 rfl (by simp [hdep])
        have E25 : zf 25 = (.agg #[.slice a n c, .slice ka kn kc]) := HF.out 25 rfl (by simp [hdep])
        simp only [E21, E25, Act.put, List.toList_toArray, List.take_succ_cons, List.take_zero, List.drop_succ_cons, List.drop_zero, List.cons_append, List.nil_append, List.setIfInBounds_toArray, List.set_cons_zero, List.set_cons_succ]
        go_simp
        refine (HS2.out _ (IA.out.1.below hB)).mono ?_
        rintro e w5 ⟨rfl, hb⟩
        exact hKK _ _ ⟨fun zz => cond (Nat.beq zz 26) (.int .i64 (u : Int)) (cond (Nat.beq zz 25) ((.agg #[.slice a n c, .slice ka kn kc])) (cond (Nat.beq zz 21) (.bool true) (zf zz))), rfl, below_to hB hb, Lib.hid (upd_factP (i := 26) (v := .int .i64 (u : Int)) (cond_factP (j := 25) (v := (.agg #[.slice a n c, .slice ka kn kc])) (cond_factP (j := 21) (v := .bool true) HF.out rfl) rfl) rfl)⟩
      · intro D aa wx HI hD hdep KK hKK
        obtain ⟨zf, rfl, hB, HF⟩ := HI
        simp [Region.binds] at hdep
        have E21 : zf 21 = .bool true := HF.out 21 rfl (by simp [hdep])
        have E24 : zf 24 = .int .i64 (u : Int) := HF.out 24 rfl (by simp [hdep])
        have E26 : zf 26 = .int .i64 (u : Int) := HF.out 26 rfl (by simp [hdep])
        simp only [E21, E24, E26, Act.put, List.toList_toArray, List.take_succ_cons, List.take_zero, List.drop_succ_cons, List.drop_zero, List.cons_append, List.nil_append, List.setIfInBounds_toArray, List.set_cons_zero, List.set_cons_succ]
        go_simp
        exact hKK _ _ ⟨fun zz => cond (Nat.beq zz 27) (.bool true) (cond (Nat.beq zz 26) (.int .i64 (u : Int)) (cond (Nat.beq zz 24) (.int .i64 (u : Int)) (cond (Nat.beq zz 21) (.bool true) (zf zz)))), rfl, hB, Lib.hid (upd_factP (i := 27) (v := .bool true) (cond_factP (j := 26) (v := .int .i64 (u : Int)) (cond_factP (j := 24) (v := .int .i64 (u : Int)) (cond_factP (j := 21) (v := .bool true) HF.out rfl) rfl) rfl) rfl)⟩
      · intro D aa wx HI hD hdep KK hKK
        obtain ⟨zf, rfl, hB, HF⟩ := HI
        simp [Region.binds] at hdep
        have E21 : zf 21 = .bool true := HF.out 21 rfl (by simp [hdep])
        have E27 : zf 27 = .bool true := HF.out 27 rfl (by simp [hdep])
        simp only [E21, E27, Act.put, List.toList_toArray, List.take_succ_cons, List.take_zero, List.drop_succ_cons, List.drop_zero, List.cons_append, List.nil_append, List.setIfInBounds_toArray, List.set_cons_zero, List.set_cons_succ]
        go_simp
        exact hKK _ _ ⟨fun zz => cond (Nat.beq zz 28) (.bool true) (cond (Nat.beq zz 27) (.bool true) (cond (Nat.beq zz 21) (.bool true) (zf zz))), rfl, hB, Lib.hid (upd_factP (i := 28) (v := .bool true) (cond_factP (j := 27) (v := .bool true) (cond_factP (j := 21) (v := .bool true) HF.out rfl) rfl) rfl)⟩
      · intro D aa wx HI hD hdep KK hKK
        obtain ⟨zf, rfl, hB, HF⟩ := HI
        simp [Region.binds] at hdep
        have E28 : zf 28 = .bool true := HF.out 28 rfl (by simp [hdep])
        simp only [E28, Act.put, List.toList_toArray, List.take_succ_cons, List.take_zero, List.drop_succ_cons, List.drop_zero, List.cons_append, List.nil_append, List.setIfInBounds_toArray, List.set_cons_zero, List.set_cons_succ]
        go_simp
        exact hKK _ _ ⟨fun zz => cond (Nat.beq zz 29) (.bool true) (cond (Nat.beq zz 28) (.bool true) (zf zz)), rfl, hB, Lib.hid (upd_factP (i := 29) (v := .bool true) (cond_factP (j := 28) (v := .bool true) HF.out rfl) rfl)⟩
      · intro D aa wx HI hD hdep KK hKK
        obtain ⟨zf, rfl, hB, HF⟩ := HI
        simp [Region.binds] at hdep
        have E29 : zf 29 = .bool true := HF.out 29 rfl (by simp [hdep])
        simp only [E29, Act.put, List.toList_toArray, List.take_succ_cons, List.take_zero, List.drop_succ_cons, List.drop_zero, List.cons_append, List.nil_append, List.setIfInBounds_toArray, List.set_cons_zero, List.set_cons_succ]
        go_simp
        exact hKK _ _ ⟨fun zz => cond (Nat.beq zz 30) (.int .i64 18) (cond (Nat.beq zz 29) (.bool true) (zf zz)), rfl, hB, Lib.hid (upd_factP (i := 30) (v := .int .i64 18) (cond_factP (j := 29) (v := .bool true) HF.out rfl) rfl)⟩
      · intro D aa wx HI hD hdep KK hKK
        obtain ⟨zf, rfl, hB, HF⟩ := HI
        simp [Region.binds] at hdep
        have E29 : zf 29 = .bool true := HF.out 29 rfl (by simp [hdep])
        have E30 : zf 30 = .int .i64 18 := HF.out 30 rfl (by simp [hdep])
        simp only [E29, E30, Act.put, List.toList_toArray, List.take_succ_cons, List.take_zero, List.drop_succ_cons, List.drop_zero, List.cons_append, List.nil_append, List.setIfInBounds_toArray, List.set_cons_zero, List.set_cons_succ]
        go_simp
        exact hKK _ _ ⟨fun zz => cond (Nat.beq zz 31) (.bool false) (cond (Nat.beq zz 30) (.int .i64 18) (cond (Nat.beq zz 29) (.bool true) (zf zz))), rfl, hB, Lib.hid (upd_factP (i := 31) (v := .bool false) (cond_factP (j := 30) (v := .int .i64 18) (cond_factP (j := 29) (v := .bool true) HF.out rfl) rfl) rfl)⟩
      · intro D aa wx HI hD hdep KK hKK
        obtain ⟨zf, rfl, hB, HF⟩ := HI
        simp [Region.binds] at hdep
        have E29 : zf 29 = .bool true := HF.out 29 rfl (by simp [hdep])
        have c0 := (NA.out.below hB).c0
        have c1 := (NA.out.below hB).c1
        simp only [E29, Act.put, List.toList_toArray, List.take_succ_cons, List.take_zero, List.drop_succ_cons, List.drop_zero, List.cons_append, List.nil_append, List.setIfInBounds_toArray, List.set_cons_zero, List.set_cons_succ]
        go_simp
        exact hKK _ _ ⟨fun zz => cond (Nat.beq zz 32) ((.agg #[.slice a n c, .slice ka kn kc])) (cond (Nat.beq zz 29) (.bool true) (zf zz)), rfl, hB, Lib.hid (upd_factP (i := 32) (v := (.agg #[.slice a n c, .slice ka kn kc])) (cond_factP (j := 29) (v := .bool true) HF.out rfl) rfl)⟩
      · intro D aa wx HI hD hdep KK hKK
        obtain ⟨zf, rfl, hB, HF⟩ := HI
        simp [Region.binds] at hdep
        have E29 : zf 29 = .bool true := HF.out 29 rfl (by simp [hdep])
        have E32 : zf 32 = (.agg #[.slice a n c, .slice ka kn kc]) := HF.out 32 rfl (by simp [hdep])
        simp only [E29, E32, Act.put, List.toList_toArray, List.take_succ_cons, List.take_zero, List.drop_succ_cons, List.drop_zero, List.cons_append, List.nil_append, List.setIfInBounds_toArray, List.set_cons_zero, List.set_cons_succ]
        go_simp
        refine (HR.out _ (IA.out.1.below hB) (IA.out.2.below hB)).mono ?_
        rintro e w5 ⟨rfl, hb⟩
        exact hKK _ _ ⟨fun zz => cond (Nat.beq zz 33) (.bool false) (cond (Nat.beq zz 32) ((.agg #[.slice a n c, .slice ka kn kc])) (cond (Nat.beq zz 29) (.bool true) (zf zz))), rfl, below_to hB hb, Lib.hid (upd_factP (i := 33) (v := .bool false) (cond_factP (j := 32) (v := (.agg #[.slice a n c, .slice ka kn kc])) (cond_factP (j := 29) (v := .bool true) HF.out rfl) rfl) rfl)⟩
      · intro D aa wx HI hD hdep KK hKK
        obtain ⟨zf, rfl, hB, HF⟩ := HI
        simp [Region.binds] at hdep
        have E29 : zf 29 = .bool true := HF.out 29 rfl (by simp [hdep])
        have E31 : zf 31 = .bool false := HF.out 31 rfl (by simp [hdep])
        have E33 : zf 33 = .bool false := HF.out 33 rfl (by simp [hdep])
        simp only [E29, E31, E33, Act.put, List.toList_toArray, List.take_succ_cons, List.take_zero, List.drop_succ_cons, List.drop_zero, List.cons_append, List.nil_append, List.setIfInBounds_toArray, List.set_cons_zero, List.set_cons_succ]
        go_simp
        exact hKK _ _ ⟨fun zz => cond (Nat.beq zz 34) (.bool true) (cond (Nat.beq zz 33) (.bool false) (cond (Nat.beq zz 31) (.bool false) (cond (Nat.beq zz 29) (.bool true) (zf zz)))), rfl, hB, Lib.hid (upd_factP (i := 34) (v := .bool true) (cond_factP (j := 33) (v := .bool false) (cond_factP (j := 31) (v := .bool false) (cond_factP (j := 29) (v := .bool true) HF.out rfl) rfl) rfl) rfl)⟩
      · intro D aa wx HI hD hdep KK hKK
        obtain ⟨zf, rfl, hB, HF⟩ := HI
        simp [Region.binds] at hdep
        have E29 : zf 29 = .bool true := HF.out 29 rfl (by simp [hdep])
        have E34 : zf 34 = .bool true := HF.out 34 rfl (by simp [hdep])
        simp only [E29, E34, Act.put, List.toList_toArray, List.take_succ_cons, List.take_zero, List.drop_succ_cons, List.drop_zero, List.cons_append, List.nil_append, List.setIfInBounds_toArray, List.set_cons_zero, List.set_cons_succ]
        go_simp
        exact hKK _ _ ⟨fun zz => cond (Nat.beq zz 35) (.bool true) (cond (Nat.beq zz 34) (.bool true) (cond (Nat.beq zz 29) (.bool true) (zf zz))), rfl, hB, Lib.hid (upd_factP (i := 35) (v := .bool true) (cond_factP (j := 34) (v := .bool true) (cond_factP (j := 29) (v := .bool true) HF.out rfl) rfl) rfl)⟩
      · intro D aa wx HI hD hdep KK hKK
        obtain ⟨zf, rfl, hB, HF⟩ := HI
        simp [Region.binds] at hdep
        have E35 : zf 35 = .bool true := HF.out 35 rfl (by simp [hdep])
        simp only [E35, Act.put, List.toList_toArray, List.take_succ_cons, List.take_zero, List.drop_succ_cons, List.drop_zero, List.cons_append, List.nil_append, List.setIfInBounds_toArray, List.set_cons_zero, List.set_cons_succ]
        go_simp
        exact hKK _ _ ⟨fun zz => cond (Nat.beq zz 36) (.bool true) (cond (Nat.beq zz 35) (.bool true) (zf zz)), rfl, hB, Lib.hid (upd_factP (i := 36) (v := .bool true) (cond_factP (j := 35) (v := .bool true) HF.out rfl) rfl)⟩
      · intro D aa wx HI hD hdep KK hKK
        obtain ⟨zf, rfl, hB, HF⟩ := HI
        simp [Region.binds] at hdep
        have E36 : zf 36 = .bool true := HF.out 36 rfl (by simp [hdep])
        simp only [E36, Act.put, List.toList_toArray, List.take_succ_cons, List.take_zero, List.drop_succ_cons, List.drop_zero, List.cons_append, List.nil_append, List.setIfInBounds_toArray, List.set_cons_zero, List.set_cons_succ]
        go_simp
        exact hKK _ _ ⟨fun zz => cond (Nat.beq zz 37) (.int .i64 18) (cond (Nat.beq zz 36) (.bool true) (zf zz)), rfl, hB, Lib.hid (upd_factP (i := 37) (v := .int .i64 18) (cond_factP (j := 36) (v := .bool true) HF.out rfl) rfl)⟩
      · intro D aa wx HI hD hdep KK hKK
        obtain ⟨zf, rfl, hB, HF⟩ := HI
        simp [Region.binds] at hdep
        have E36 : zf 36 = .bool true := HF.out 36 rfl (by simp [hdep])
        have E37 : zf 37 = .int .i64 18 := HF.out 37 rfl (by simp [hdep])
        simp only [E36, E37, Act.put, List.toList_toArray, List.take_succ_cons, List.take_zero, List.drop_succ_cons, List.drop_zero, List.cons_append, List.nil_append, List.setIfInBounds_toArray, List.set_cons_zero, List.set_cons_succ]
        go_simp
        exact hKK _ _ ⟨fun zz => cond (Nat.beq zz 38) (.bool false) (cond (Nat.beq zz 37) (.int .i64 18) (cond (Nat.beq zz 36) (.bool true) (zf zz))), rfl, hB, Lib.hid (upd_factP (i := 38) (v := .bool false) (cond_factP (j := 37) (v := .int .i64 18) (cond_factP (j := 36) (v := .bool true) HF.out rfl) rfl) rfl)⟩
      · intro D aa wx HI hD hdep KK hKK
        obtain ⟨zf, rfl, hB, HF⟩ := HI
        simp [Region.binds] at hdep
        have E36 : zf 36 = .bool true := HF.out 36 rfl (by simp [hdep])
        have E38 : zf 38 = .bool false := HF.out 38 rfl (by simp [hdep])
        simp only [E36, E38, Act.put, List.toList_toArray, List.take_succ_cons, List.take_zero, List.drop_succ_cons, List.drop_zero, List.cons_append, List.nil_append, List.setIfInBounds_toArray, List.set_cons_zero, List.set_cons_succ]
        go_simp
        exact hKK _ _ ⟨fun zz => cond (Nat.beq zz 39) (.bool false) (cond (Nat.beq zz 38) (.bool false) (cond (Nat.beq zz 36) (.bool true) (zf zz))), rfl, hB, Lib.hid (upd_factP (i := 39) (v := .bool false) (cond_factP (j := 38) (v := .bool false) (cond_factP (j := 36) (v := .bool true) HF.out rfl) rfl) rfl)⟩
      · intro D aa wx HI hD hdep KK hKK
        obtain ⟨zf, rfl, hB, HF⟩ := HI
        simp [Region.binds] at hdep
        have E39 : zf 39 = .bool false := HF.out 39 rfl (by simp [hdep])
        simp only [E39, Act.put, List.toList_toArray, List.take_succ_cons, List.take_zero, List.drop_succ_cons, List.drop_zero, List.cons_append, List.nil_append, List.setIfInBounds_toArray, List.set_cons_zero, List.set_cons_succ]
        go_simp
        exact hKK _ _ ⟨fun zz => cond (Nat.beq zz 40) (.int .i64 18) (cond (Nat.beq zz 39) (.bool false) (zf zz)), rfl, hB, Lib.hid (upd_factP (i := 40) (v := .int .i64 18) (cond_factP (j := 39) (v := .bool false) HF.out rfl) rfl)⟩
      · intro D aa wx HI hD hdep KK hKK
        obtain ⟨zf, rfl, hB, HF⟩ := HI
        simp [Region.binds] at hdep
        have E39 : zf 39 = .bool false := HF.out 39 rfl (by simp [hdep])
        have E40 : zf 40 = .int .i64 18 := HF.out 40 rfl (by simp [hdep])
        simp only [E39, E40, Act.put, List.toList_toArray, List.take_succ_cons, List.take_zero, List.drop_succ_cons, List.drop_zero, List.cons_append, List.nil_append, List.setIfInBounds_toArray, List.set_cons_zero, List.set_cons_succ]
        go_simp
        exact hKK _ _ ⟨fun zz => cond (Nat.beq zz 41) (.bool true) (cond (Nat.beq zz 40) (.int .i64 18) (cond (Nat.beq zz 39) (.bool false) (zf zz))), rfl, hB, Lib.hid (upd_factP (i := 41) (v := .bool true) (cond_factP (j := 40) (v := .int .i64 18) (cond_factP (j := 39) (v := .bool false) HF.out rfl) rfl) rfl)⟩
      · intro D aa wx HI hD hdep KK hKK
        obtain ⟨zf, rfl, hB, HF⟩ := HI
        simp [Region.binds] at hdep
        have E36 : zf 36 = .bool true := HF.out 36 rfl (by simp [hdep])
        have E39 : zf 39 = .bool false := HF.out 39 rfl (by simp [hdep])
        have E41 : zf 41 = .bool true := HF.out 41 rfl (by simp [hdep])
        simp only [E36, E39, E41, Act.put, List.toList_toArray, List.take_succ_cons, List.take_zero, List.drop_succ_cons, List.drop_zero, List.cons_append, List.nil_append, List.setIfInBounds_toArray, List.set_cons_zero, List.set_cons_succ]
        go_simp
        exact hKK _ _ ⟨fun zz => cond (Nat.beq zz 42) (.bool true) (cond (Nat.beq zz 41) (.bool true) (cond (Nat.beq zz 39) (.bool false) (cond (Nat.beq zz 36) (.bool true) (zf zz)))), rfl, hB, Lib.hid (upd_factP (i := 42) (v := .bool true) (cond_factP (j := 41) (v := .bool true) (cond_factP (j := 39) (v := .bool false) (cond_factP (j := 36) (v := .bool true) HF.out rfl) rfl) rfl) rfl)⟩
      · intro D aa wx HI hD hdep KK hKK
        obtain ⟨zf, rfl, hB, HF⟩ := HI
        simp [Region.binds] at hdep
        have E36 : zf 36 = .bool true := HF.out 36 rfl (by simp [hdep])
        have E42 : zf 42 = .bool true := HF.out 42 rfl (by simp [hdep])
        simp only [E36, E42, Act.put, List.toList_toArray, List.take_succ_cons, List.take_zero, List.drop_succ_cons, List.drop_zero, List.cons_append, List.nil_append, List.setIfInBounds_toArray, List.set_cons_zero, List.set_cons_succ]
        go_simp
        exact hKK _ _ ⟨fun zz => cond (Nat.beq zz 43) (.bool true) (cond (Nat.beq zz 42) (.bool true) (cond (Nat.beq zz 36) (.bool true) (zf zz))), rfl, hB, Lib.hid (upd_factP (i := 43) (v := .bool true) (cond_factP (j := 42) (v := .bool true) (cond_factP (j := 36) (v := .bool true) HF.out rfl) rfl) rfl)⟩
      · intro D aa wx HI hD hdep KK hKK
        obtain ⟨zf, rfl, hB, HF⟩ := HI
        simp [Region.binds] at hdep
        have E43 : zf 43 = .bool true := HF.out 43 rfl (by simp [hdep])
        simp only [E43, Act.put, List.toList_toArray, List.take_succ_cons, List.take_zero, List.drop_succ_cons, List.drop_zero, List.cons_append, List.nil_append, List.setIfInBounds_toArray, List.set_cons_zero, List.set_cons_succ]
        go_simp
        exact hKK _ _ ⟨fun zz => cond (Nat.beq zz 44) (.bool true) (cond (Nat.beq zz 43) (.bool true) (zf zz)), rfl, hB, Lib.hid (upd_factP (i := 44) (v := .bool true) (cond_factP (j := 43) (v := .bool true) HF.out rfl) rfl)⟩
    intro D aa wD HI hD
    obtain ⟨zf, rfl, hB, HF⟩ := HI
    have e449 : zf 44 = .bool true := HF.out 44 rfl (hD 44 (by simp))
    simp only [e449, Act.put, List.toList_toArray, List.take_succ_cons, List.take_zero, List.drop_succ_cons, List.drop_zero, List.cons_append, List.nil_append]
    clear HF hD
    go_wp2_with fail
    go_ret
    exact ⟨rfl, below_to BB hB⟩
  | true =>
    refine wp_region_inv0 (InvNT1 wC (.agg #[.slice a n c, .slice ka kn kc]) (.agg #[.slice pa pn pc, .slice pka pkn pkc]) (.agg #[.slice ra rn rc, .slice rka rkn rkc]) T Y Z u) (by kernel_rfl) (by decide) ?_ ?_ ?_
    · exact ⟨fun zz => cond (Nat.beq zz 44) (.bool false) (undef), rfl, (Below.refl _ _).drew, Lib.hid (fun i _ h => by cases h)⟩
    · refine AllI.cons ?_ (AllI.cons ?_ (AllI.cons ?_ (AllI.cons ?_ (AllI.cons ?_ (AllI.cons ?_ (AllI.cons ?_ (AllI.cons ?_ (AllI.cons ?_ (AllI.cons ?_ (AllI.cons ?_ (AllI.cons ?_ (AllI.cons ?_ (AllI.cons ?_ (AllI.cons ?_ (AllI.cons ?_ (AllI.cons ?_ (AllI.cons ?_ (AllI.cons ?_ (AllI.cons ?_ (AllI.cons ?_ (AllI.cons ?_ (AllI.cons ?_ (AllI.cons ?_ (AllI.cons ?_ (AllI.cons ?_ (AllI.cons ?_ (AllI.cons ?_ (AllI.cons ?_ (AllI.cons ?_ (AllI.cons ?_ (AllI.cons ?_ (AllI.cons ?_ (AllI.cons ?_ (AllI.cons ?_ (AllI.cons ?_ (AllI.cons ?_ (AllI.cons ?_ (AllI.cons ?_ (AllI.cons ?_ (AllI.cons ?_ (AllI.cons ?_ (AllI.cons ?_ (AllI.cons ?_ (AllI.cons ?_ AllI.nil))))))))))))))))))))))))))))))))))))))))))))
      · intro D aa wx HI hD hdep KK hKK
        obtain ⟨zf, rfl, hB, HF⟩ := HI
        simp only [Act.put, List.toList_toArray, List.take_succ_cons, List.take_zero, List.drop_succ_cons, List.drop_zero, List.cons_append, List.nil_append, List.setIfInBounds_toArray, List.set_cons_zero, List.set_cons_succ]
        go_simp
        refine (HL.out _).mono ?_
        rintro e w5 ⟨rfl, hb⟩
        exact hKK _ _ ⟨fun zz => cond (Nat.beq zz 0) (.bool true) (zf zz), rfl, below_to hB hb, Lib.hid (upd_factP (i := 0) (v := .bool true) HF.out rfl)⟩
      · intro D aa wx HI hD hdep KK hKK
        obtain ⟨zf, rfl, hB, HF⟩ := HI
        simp [Region.binds] at hdep
        have E0 : zf 0 = .bool true := HF.out 0 rfl (by simp [hdep])
        simp only [E0, Act.put, List.toList_toArray, List.take_succ_cons, List.take_zero, List.drop_succ_cons, List.drop_zero, List.cons_append, List.nil_append, List.setIfInBounds_toArray, List.set_cons_zero, List.set_cons_succ]
        go_simp
        exact hKK _ _ ⟨fun zz => cond (Nat.beq zz 1) (.bool true) (cond (Nat.beq zz 0) (.bool true) (zf zz)), rfl, hB, Lib.hid (upd_factP (i := 1) (v := .bool true) (cond_factP (j := 0) (v := .bool true) HF.out rfl) rfl)⟩
      · intro D aa wx HI hD hdep KK hKK
        obtain ⟨zf, rfl, hB, HF⟩ := HI
        simp [Region.binds] at hdep
        have E1 : zf 1 = .bool true := HF.out 1 rfl (by simp [hdep])
        simp only [E1, Act.put, List.toList_toArray, List.take_succ_cons, List.take_zero, List.drop_succ_cons, List.drop_zero, List.cons_append, List.nil_append, List.setIfInBounds_toArray, List.set_cons_zero, List.set_cons_succ]
        go_simp
        exact hKK _ _ ⟨fun zz => cond (Nat.beq zz 2) (.string T) (cond (Nat.beq zz 1) (.bool true) (zf zz)), rfl, hB, Lib.hid (upd_factP (i := 2) (v := .string T) (cond_factP (j := 1) (v := .bool true) HF.out rfl) rfl)⟩
      · intro D aa wx HI hD hdep KK hKK
        obtain ⟨zf, rfl, hB, HF⟩ := HI
        simp [Region.binds] at hdep
        have E1 : zf 1 = .bool true := HF.out 1 rfl (by simp [hdep])
        simp only [E1, Act.put, List.toList_toArray, List.take_succ_cons, List.take_zero, List.drop_succ_cons, List.drop_zero, List.cons_append, List.nil_append, List.setIfInBounds_toArray, List.set_cons_zero, List.set_cons_succ]
        go_simp
        exact hKK _ _ ⟨fun zz => cond (Nat.beq zz 3) (.string T) (cond (Nat.beq zz 1) (.bool true) (zf zz)), rfl, hB, Lib.hid (upd_factP (i := 3) (v := .string T) (cond_factP (j := 1) (v := .bool true) HF.out rfl) rfl)⟩
      · intro D aa wx HI hD hdep KK hKK
        obtain ⟨zf, rfl, hB, HF⟩ := HI
        simp [Region.binds] at hdep
        have E1 : zf 1 = .bool true := HF.out 1 rfl (by simp [hdep])
        have E2 : zf 2 = .string T := HF.out 2 rfl (by simp [hdep])
        have E3 : zf 3 = .string T := HF.out 3 rfl (by simp [hdep])
        simp only [E1, E2, E3, Act.put, List.toList_toArray, List.take_succ_cons, List.take_zero, List.drop_succ_cons, List.drop_zero, List.cons_append, List.nil_append, List.setIfInBounds_toArray, List.set_cons_zero, List.set_cons_succ]
        go_simp
        exact hKK _ _ ⟨fun zz => cond (Nat.beq zz 4) (.bool true) (cond (Nat.beq zz 3) (.string T) (cond (Nat.beq zz 2) (.string T) (cond (Nat.beq zz 1) (.bool true) (zf zz)))), rfl, hB, Lib.hid (upd_factP (i := 4) (v := .bool true) (cond_factP (j := 3) (v := .string T) (cond_factP (j := 2) (v := .string T) (cond_factP (j := 1) (v := .bool true) HF.out rfl) rfl) rfl) rfl)⟩
      · intro D aa wx HI hD hdep KK hKK
        obtain ⟨zf, rfl, hB, HF⟩ := HI
        simp [Region.binds] at hdep
        have E1 : zf 1 = .bool true := HF.out 1 rfl (by simp [hdep])
        have E4 : zf 4 = .bool true := HF.out 4 rfl (by simp [hdep])
        simp only [E1, E4, Act.put, List.toList_toArray, List.take_succ_cons, List.take_zero, List.drop_succ_cons, List.drop_zero, List.cons_append, List.nil_append, List.setIfInBounds_toArray, List.set_cons_zero, List.set_cons_succ]
        go_simp
        exact hKK _ _ ⟨fun zz => cond (Nat.beq zz 5) (.bool true) (cond (Nat.beq zz 4) (.bool true) (cond (Nat.beq zz 1) (.bool true) (zf zz))), rfl, hB, Lib.hid (upd_factP (i := 5) (v := .bool true) (cond_factP (j := 4) (v := .bool true) (cond_factP (j := 1) (v := .bool true) HF.out rfl) rfl) rfl)⟩
      · intro D aa wx HI hD hdep KK hKK
        obtain ⟨zf, rfl, hB, HF⟩ := HI
        simp [Region.binds] at hdep
        have E5 : zf 5 = .bool true := HF.out 5 rfl (by simp [hdep])
        simp only [E5, Act.put, List.toList_toArray, List.take_succ_cons, List.take_zero, List.drop_succ_cons, List.drop_zero, List.cons_append, List.nil_append, List.setIfInBounds_toArray, List.set_cons_zero, List.set_cons_succ]
        go_simp
        exact hKK _ _ ⟨fun zz => cond (Nat.beq zz 6) (.bool true) (cond (Nat.beq zz 5) (.bool true) (zf zz)), rfl, hB, Lib.hid (upd_factP (i := 6) (v := .bool true) (cond_factP (j := 5) (v := .bool true) HF.out rfl) rfl)⟩
      · intro D aa wx HI hD hdep KK hKK
        obtain ⟨zf, rfl, hB, HF⟩ := HI
        simp [Region.binds] at hdep
        have E6 : zf 6 = .bool true := HF.out 6 rfl (by simp [hdep])
        simp only [E6, Act.put, List.toList_toArray, List.take_succ_cons, List.take_zero, List.drop_succ_cons, List.drop_zero, List.cons_append, List.nil_append, List.setIfInBounds_toArray, List.set_cons_zero, List.set_cons_succ]
        go_simp
        exact hKK _ _ ⟨fun zz => cond (Nat.beq zz 7) (.int .i64 Y) (cond (Nat.beq zz 6) (.bool true) (zf zz)), rfl, hB, Lib.hid (upd_factP (i := 7) (v := .int .i64 Y) (cond_factP (j := 6) (v := .bool true) HF.out rfl) rfl)⟩
      · intro D aa wx HI hD hdep KK hKK
        obtain ⟨zf, rfl, hB, HF⟩ := HI
        simp [Region.binds] at hdep
        have E6 : zf 6 = .bool true := HF.out 6 rfl (by simp [hdep])
        simp only [E6, Act.put, List.toList_toArray, List.take_succ_cons, List.take_zero, List.drop_succ_cons, List.drop_zero, List.cons_append, List.nil_append, List.setIfInBounds_toArray, List.set_cons_zero, List.set_cons_succ]
        go_simp
        exact hKK _ _ ⟨fun zz => cond (Nat.beq zz 8) (.int .i64 Y) (cond (Nat.beq zz 6) (.bool true) (zf zz)), rfl, hB, Lib.hid (upd_factP (i := 8) (v := .int .i64 Y) (cond_factP (j := 6) (v := .bool true) HF.out rfl) rfl)⟩
      · intro D aa wx HI hD hdep KK hKK
        obtain ⟨zf, rfl, hB, HF⟩ := HI
        simp [Region.binds] at hdep
        have E6 : zf 6 = .bool true := HF.out 6 rfl (by simp [hdep])
        have E7 : zf 7 = .int .i64 Y := HF.out 7 rfl (by simp [hdep])
        have E8 : zf 8 = .int .i64 Y := HF.out 8 rfl (by simp [hdep])
        simp only [E6, E7, E8, Act.put, List.toList_toArray, List.take_succ_cons, List.take_zero, List.drop_succ_cons, List.drop_zero, List.cons_append, List.nil_append, List.setIfInBounds_toArray, List.set_cons_zero, List.set_cons_succ]
        go_simp
        exact hKK _ _ ⟨fun zz => cond (Nat.beq zz 9) (.bool true) (cond (Nat.beq zz 8) (.int .i64 Y) (cond (Nat.beq zz 7) (.int .i64 Y) (cond (Nat.beq zz 6) (.bool true) (zf zz)))), rfl, hB, Lib.hid (upd_factP (i := 9) (v := .bool true) (cond_factP (j := 8) (v := .int .i64 Y) (cond_factP (j := 7) (v := .int .i64 Y) (cond_factP (j := 6) (v := .bool true) HF.out rfl) rfl) rfl) rfl)⟩
      · intro D aa wx HI hD hdep KK hKK
        obtain ⟨zf, rfl, hB, HF⟩ := HI
        simp [Region.binds] at hdep
        have E6 : zf 6 = .bool true := HF.out 6 rfl (by simp [hdep])
        have E9 : zf 9 = .bool true := HF.out 9 rfl (by simp [hdep])
        simp only [E6, E9, Act.put, List.toList_toArray, List.take_succ_cons, List.take_zero, List.drop_succ_cons, List.drop_zero, List.cons_append, List.nil_append, List.setIfInBounds_toArray, List.set_cons_zero, List.set_cons_succ]
        go_simp
        exact hKK _ _ ⟨fun zz => cond (Nat.beq zz 10) (.bool true) (cond (Nat.beq zz 9) (.bool true) (cond (Nat.beq zz 6) (.bool true) (zf zz))), rfl, hB, Lib.hid (upd_factP (i := 10) (v := .bool true) (cond_factP (j := 9) (v := .bool true) (cond_factP (j := 6) (v := .bool true) HF.out rfl) rfl) rfl)⟩
      · intro D aa wx HI hD hdep KK hKK
        obtain ⟨zf, rfl, hB, HF⟩ := HI
        simp [Region.binds] at hdep
        have E10 : zf 10 = .bool true := HF.out 10 rfl (by simp [hdep])
        simp only [E10, Act.put, List.toList_toArray, List.take_succ_cons, List.take_zero, List.drop_succ_cons, List.drop_zero, List.cons_append, List.nil_append, List.setIfInBounds_toArray, List.set_cons_zero, List.set_cons_succ]
        go_simp
        exact hKK _ _ ⟨fun zz => cond (Nat.beq zz 11) (.bool true) (cond (Nat.beq zz 10) (.bool true) (zf zz)), rfl, hB, Lib.hid (upd_factP (i := 11) (v := .bool true) (cond_factP (j := 10) (v := .bool true) HF.out rfl) rfl)⟩
      · intro D aa wx HI hD hdep KK hKK
        obtain ⟨zf, rfl, hB, HF⟩ := HI
        simp [Region.binds] at hdep
        have E11 : zf 11 = .bool true := HF.out 11 rfl (by simp [hdep])
        have c0 := (NP.out.below hB).c0
        have c1 := (NP.out.below hB).c1
        simp only [E11, Act.put, List.toList_toArray, List.take_succ_cons, List.take_zero, List.drop_succ_cons, List.drop_zero, List.cons_append, List.nil_append, List.setIfInBounds_toArray, List.set_cons_zero, List.set_cons_succ]
        go_simp
        exact hKK _ _ ⟨fun zz => cond (Nat.beq zz 12) ((.agg #[.slice pa pn pc, .slice pka pkn pkc])) (cond (Nat.beq zz 11) (.bool true) (zf zz)), rfl, hB, Lib.hid (upd_factP (i := 12) (v := (.agg #[.slice pa pn pc, .slice pka pkn pkc])) (cond_factP (j := 11) (v := .bool true) HF.out rfl) rfl)⟩
      · intro D aa wx HI hD hdep KK hKK
        obtain ⟨zf, rfl, hB, HF⟩ := HI
        simp [Region.binds] at hdep
        have E11 : zf 11 = .bool true := HF.out 11 rfl (by simp [hdep])
        have c0 := (NR.out.below hB).c0
        have c1 := (NR.out.below hB).c1
        simp only [E11, Act.put, List.toList_toArray, List.take_succ_cons, List.take_zero, List.drop_succ_cons, List.drop_zero, List.cons_append, List.nil_append, List.setIfInBounds_toArray, List.set_cons_zero, List.set_cons_succ]
        go_simp
        exact hKK _ _ ⟨fun zz => cond (Nat.beq zz 13) ((.agg #[.slice ra rn rc, .slice rka rkn rkc])) (cond (Nat.beq zz 11) (.bool true) (zf zz)), rfl, hB, Lib.hid (upd_factP (i := 13) (v := (.agg #[.slice ra rn rc, .slice rka rkn rkc])) (cond_factP (j := 11) (v := .bool true) HF.out rfl) rfl)⟩
      · intro D aa wx HI hD hdep KK hKK
        obtain ⟨zf, rfl, hB, HF⟩ := HI
        simp [Region.binds] at hdep
        have E11 : zf 11 = .bool true := HF.out 11 rfl (by simp [hdep])
        have E12 : zf 12 = (.agg #[.slice pa pn pc, .slice pka pkn pkc]) := HF.out 12 rfl (by simp [hdep])
        have E13 : zf 13 = (.agg #[.slice ra rn rc, .slice rka rkn rkc]) := HF.out 13 rfl (by simp [hdep])
        simp only [E11, E12, E13, Act.put, List.toList_toArray, List.take_succ_cons, List.take_zero, List.drop_succ_cons, List.drop_zero, List.cons_append, List.nil_append, List.setIfInBounds_toArray, List.set_cons_zero, List.set_cons_succ]
        go_simp
        refine (same_ex1 (IP.out.1.below hB) (IP.out.2.below hB) (IR.out.1.below hB) (IR.out.2.below hB) hs3 hs4).mono ?_
        rintro e w5 ⟨rfl, hb⟩
        exact hKK _ _ ⟨fun zz => cond (Nat.beq zz 14) (.bool true) (cond (Nat.beq zz 13) ((.agg #[.slice ra rn rc, .slice rka rkn rkc])) (cond (Nat.beq zz 12) ((.agg #[.slice pa pn pc, .slice pka pkn pkc])) (cond (Nat.beq zz 11) (.bool true) (zf zz)))), rfl, below_to hB hb, Lib.hid (upd_factP (i := 14) (v := .bool true) (cond_factP (j := 13) (v := (.agg #[.slice ra rn rc, .slice rka rkn rkc])) (cond_factP (j := 12) (v := (.agg #[.slice pa pn pc, .slice pka pkn pkc])) (cond_factP (j := 11) (v := .bool true) HF.out rfl) rfl) rfl) rfl)⟩
      · intro D aa wx HI hD hdep KK hKK
        obtain ⟨zf, rfl, hB, HF⟩ := HI
        simp [Region.binds] at hdep
        have E11 : zf 11 = .bool true := HF.out 11 rfl (by simp [hdep])
        have E14 : zf 14 = .bool true := HF.out 14 rfl (by simp [hdep])
        simp only [E11, E14, Act.put, List.toList_toArray, List.take_succ_cons, List.take_zero, List.drop_succ_cons, List.drop_zero, List.cons_append, List.nil_append, List.setIfInBounds_toArray, List.set_cons_zero, List.set_cons_succ]
        go_simp
        exact hKK _ _ ⟨fun zz => cond (Nat.beq zz 15) (.bool true) (cond (Nat.beq zz 14) (.bool true) (cond (Nat.beq zz 11) (.bool true) (zf zz))), rfl, hB, Lib.hid (upd_factP (i := 15) (v := .bool true) (cond_factP (j := 14) (v := .bool true) (cond_factP (j := 11) (v := .bool true) HF.out rfl) rfl) rfl)⟩
      · intro D aa wx HI hD hdep KK hKK
        obtain ⟨zf, rfl, hB, HF⟩ := HI
        simp [Region.binds] at hdep
        have E15 : zf 15 = .bool true := HF.out 15 rfl (by simp [hdep])
        simp only [E15, Act.put, List.toList_toArray, List.take_succ_cons, List.take_zero, List.drop_succ_cons, List.drop_zero, List.cons_append, List.nil_append, List.setIfInBounds_toArray, List.set_cons_zero, List.set_cons_succ]
        go_simp
        exact hKK _ _ ⟨fun zz => cond (Nat.beq zz 16) (.bool true) (cond (Nat.beq zz 15) (.bool true) (zf zz)), rfl, hB, Lib.hid (upd_factP (i := 16) (v := .bool true) (cond_factP (j := 15) (v := .bool true) HF.out rfl) rfl)⟩
      · intro D aa wx HI hD hdep KK hKK
        obtain ⟨zf, rfl, hB, HF⟩ := HI
        simp [Region.binds] at hdep
        have E16 : zf 16 = .bool true := HF.out 16 rfl (by simp [hdep])
        simp only [E16, Act.put, List.toList_toArray, List.take_succ_cons, List.take_zero, List.drop_succ_cons, List.drop_zero, List.cons_append, List.nil_append, List.setIfInBounds_toArray, List.set_cons_zero, List.set_cons_succ]
        go_simp
        exact hKK _ _ ⟨fun zz => cond (Nat.beq zz 17) (.int .i64 Z) (cond (Nat.beq zz 16) (.bool true) (zf zz)), rfl, hB, Lib.hid (upd_factP (i := 17) (v := .int .i64 Z) (cond_factP (j := 16) (v := .bool true) HF.out rfl) rfl)⟩
      · intro D aa wx HI hD hdep KK hKK
        obtain ⟨zf, rfl, hB, HF⟩ := HI
        simp [Region.binds] at hdep
        have E16 : zf 16 = .bool true := HF.out 16 rfl (by simp [hdep])
        simp only [E16, Act.put, List.toList_toArray, List.take_succ_cons, List.take_zero, List.drop_succ_cons, List.drop_zero, List.cons_append, List.nil_append, List.setIfInBounds_toArray, List.set_cons_zero, List.set_cons_succ]
        go_simp
        exact hKK _ _ ⟨fun zz => cond (Nat.beq zz 18) (.int .i64 Z) (cond (Nat.beq zz 16) (.bool true) (zf zz)), rfl, hB, Lib.hid (upd_factP (i := 18) (v := .int .i64 Z) (cond_factP (j := 16) (v := .bool true) HF.out rfl) rfl)⟩
      · intro D aa wx HI hD hdep KK hKK
        obtain ⟨zf, rfl, hB, HF⟩ := HI
        simp [Region.binds] at hdep
        have E16 : zf 16 = .bool true := HF.out 16 rfl (by simp [hdep])
        have E17 : zf 17 = .int .i64 Z := HF.out 17 rfl (by simp [hdep])
        have E18 : zf 18 = .int .i64 Z := HF.out 18 rfl (by simp [hdep])
        simp only [E16, E17, E18, Act.put, List.toList_toArray, List.take_succ_cons, List.take_zero, List.drop_succ_cons, List.drop_zero, List.cons_append, List.nil_append, List.setIfInBounds_toArray, List.set_cons_zero, List.set_cons_succ]
        go_simp
        exact hKK _ _ ⟨fun zz => cond (Nat.beq zz 19) (.bool true) (cond (Nat.beq zz 18) (.int .i64 Z) (cond (Nat.beq zz 17) (.int .i64 Z) (cond (Nat.beq zz 16) (.bool true) (zf zz)))), rfl, hB, Lib.hid (upd_factP (i := 19) (v := .bool true) (cond_factP (j := 18) (v := .int .i64 Z) (cond_factP (j := 17) (v := .int .i64 Z) (cond_factP (j := 16) (v := .bool true) HF.out rfl) rfl) rfl) rfl)⟩
      · intro D aa wx HI hD hdep KK hKK
        obtain ⟨zf, rfl, hB, HF⟩ := HI
        simp [Region.binds] at hdep
        have E16 : zf 16 = .bool true := HF.out 16 rfl (by simp [hdep])
        have E19 : zf 19 = .bool true := HF.out 19 rfl (by simp [hdep])
        simp only [E16, E19, Act.put, List.toList_toArray, List.take_succ_cons, List.take_zero, List.drop_succ_cons, List.drop_zero, List.cons_append, List.nil_append, List.setIfInBounds_toArray, List.set_cons_zero, List.set_cons_succ]
        go_simp
        exact hKK _ _ ⟨fun zz => cond (Nat.beq zz 20) (.bool true) (cond (Nat.beq zz 19) (.bool true) (cond (Nat.beq zz 16) (.bool true) (zf zz))), rfl, hB, Lib.hid (upd_factP (i := 20) (v := .bool true) (cond_factP (j := 19) (v := .bool true) (cond_factP (j := 16) (v := .bool true) HF.out rfl) rfl) rfl)⟩
      · intro D aa wx HI hD hdep KK hKK
        obtain ⟨zf, rfl, hB, HF⟩ := HI
        simp [Region.binds] at hdep
        have E20 : zf 20 = .bool true := HF.out 20 rfl (by simp [hdep])
        simp only [E20, Act.put, List.toList_toArray, List.take_succ_cons, List.take_zero, List.drop_succ_cons, List.drop_zero, List.cons_append, List.nil_append, List.setIfInBounds_toArray, List.set_cons_zero, List.set_cons_succ]
        go_simp
        exact hKK _ _ ⟨fun zz => cond (Nat.beq zz 21) (.bool true) (cond (Nat.beq zz 20) (.bool true) (zf zz)), rfl, hB, Lib.hid (upd_factP (i := 21) (v := .bool true) (cond_factP (j := 20) (v := .bool true) HF.out rfl) rfl)⟩
      · intro D aa wx HI hD hdep KK hKK
        obtain ⟨zf, rfl, hB, HF⟩ := HI
        simp [Region.binds] at hdep
        have E21 : zf 21 = .bool true := HF.out 21 rfl (by simp [hdep])
        have c0 := (NA.out.below hB).c0
        have c1 := (NA.out.below hB).c1
        simp only [E21, Act.put, List.toList_toArray, List.take_succ_cons, List.take_zero, List.drop_succ_cons, List.drop_zero, List.cons_append, List.nil_append, List.setIfInBounds_toArray, List.set_cons_zero, List.set_cons_succ]
        go_simp
        exact hKK _ _ ⟨fun zz => cond (Nat.beq zz 22) ((.agg #[.slice a n c, .slice ka kn kc])) (cond (Nat.beq zz 21) (.bool true) (zf zz)), rfl, hB, Lib.hid (upd_factP (i := 22) (v := (.agg #[.slice a n c, .slice ka kn kc])) (cond_factP (j := 21) (v := .bool true) HF.out rfl) rfl)⟩
      · intro D aa wx HI hD hdep KK hKK
        obtain ⟨zf, rfl, hB, HF⟩ := HI
        simp [Region.binds] at hdep
        have E21 : zf 21 = .bool true := HF.out 21 rfl (by simp [hdep])
        have E22 : zf 22 = (.agg #[.slice a n c, .slice ka kn kc]) := HF.out 22 rfl (by simp [hdep])
        simp only [E21, E22, Act.put, List.toList_toArray, List.take_succ_cons, List.take_zero, List.drop_succ_cons, List.drop_zero, List.cons_append, List.nil_append, List.setIfInBounds_toArray, List.set_cons_zero, List.set_cons_succ]
        go_simp
        refine (HO.out _).mono ?_
        rintro e w5 ⟨rfl, hb⟩
        exact hKK _ _ ⟨fun zz => cond (Nat.beq zz 23) ((.agg #[.slice a n c, .slice ka kn kc])) (cond (Nat.beq zz 22) ((.agg #[.slice a n c, .slice ka kn kc])) (cond (Nat.beq zz 21) (.bool true) (zf zz))), rfl, below_to hB hb, Lib.hid (upd_factP (i := 23) (v := (.agg #[.slice a n c, .slice ka kn kc])) (cond_factP (j := 22) (v := (.agg #[.slice a n c, .slice ka kn kc])) (cond_factP (j := 21) (v := .bool true) HF.out rfl) rfl) rfl)⟩
      · intro D aa wx HI hD hdep KK hKK
        obtain ⟨zf, rfl, hB, HF⟩ := HI
        simp [Region.binds] at hdep
        have E21 : zf 21 = .bool true := HF.out 21 rfl (by simp [hdep])
        have E23 : zf 23 = (.agg #[.slice a n c, .slice ka kn kc]) := HF.out 23 rfl (by simp [hdep])
        simp only [E21, E23, Act.put, List.toList_toArray, List.take_succ_cons, List.take_zero, List.drop_succ_cons, List.drop_zero, List.cons_append, List.nil_append, List.setIfInBounds_toArray, List.set_cons_zero, List.set_cons_succ]
        go_simp
        refine (HS1.out _ (IA.out.1.below hB)).mono ?_
        rintro e w5 ⟨rfl, hb⟩
        exact hKK _ _ ⟨fun zz => cond (Nat.beq zz 24) (.int .i64 (u : Int)) (cond (Nat.beq zz 23) ((.agg #[.slice a n c, .slice ka kn kc])) (cond (Nat.beq zz 21) (.bool true) (zf zz))), rfl, below_to hB hb, Lib.hid (upd_factP (i := 24) (v := .int .i64 (u : Int)) (cond_factP (j := 23) (v := (.agg #[.slice a n c, .slice ka kn kc])) (cond_factP (j := 21) (v := .bool true) HF.out rfl) rfl) rfl)⟩
      · intro D aa wx HI hD hdep KK hKK
        obtain ⟨zf, rfl, hB, HF⟩ := HI
        simp [Region.binds] at hdep
        have E21 : zf 21 = .bool true := HF.out 21 rfl (by simp [hdep])
        have c0 := (NA.out.below hB).c0
        have c1 := (NA.out.below hB).c1
        simp only [E21, Act.put, List.toList_toArray, List.take_succ_cons, List.take_zero, List.drop_succ_cons, List.drop_zero, List.cons_append, List.nil_append, List.setIfInBounds_toArray, List.set_cons_zero, List.set_cons_succ]
        go_simp
        exact hKK _ _ ⟨fun zz => cond (Nat.beq zz 25) ((.agg #[.slice a n c, .slice ka kn kc])) (cond (Nat.beq zz 21) (.bool true) (zf zz)), rfl, hB, Lib.hid (upd_factP (i := 25) (v := (.agg #[.slice a n c, .slice ka kn kc])) (cond_factP (j := 21) (v := .bool true) HF.out rfl) rfl)⟩
      · intro D aa wx HI hD hdep KK hKK
        obtain ⟨zf, rfl, hB, HF⟩ := HI
        simp [Region.binds] at hdep
        have E21 : zf 21 = .bool true := HF.out 21 rfl (by simp [hdep])
        have E25 : zf 25 = (.agg #[.slice a n c, .slice ka kn kc]) := HF.out 25 rfl (by simp [hdep])
        simp only [E21, E25, Act.put, List.toList_toArray, List.take_succ_cons, List.take_zero, List.drop_succ_cons, List.drop_zero, List.cons_append, List.nil_append, List.setIfInBounds_toArray, List.set_cons_zero, List.set_cons_succ]
        go_simp
        refine (HS2.out _ (IA.out.1.below hB)).mono ?_
        rintro e w5 ⟨rfl, hb⟩
        exact hKK _ _ ⟨fun zz => cond (Nat.beq zz 26) (.int .i64 (u : Int)) (cond (Nat.beq zz 25) ((.agg #[.slice a n c, .slice ka kn kc])) (cond (Nat.beq zz 21) (.bool true) (zf zz))), rfl, below_to hB hb, Lib.hid (upd_factP (i := 26) (v := .int .i64 (u : Int)) (cond_factP (j := 25) (v := (.agg #[.slice a n c, .slice ka kn kc])) (cond_factP (j := 21) (v := .bool true) HF.out rfl) rfl) rfl)⟩
      · intro D aa wx HI hD hdep KK hKK
        obtain ⟨zf, rfl, hB, HF⟩ := HI
        simp [Region.binds] at hdep
        have E21 : zf 21 = .bool true := HF.out 21 rfl (by simp [hdep])
        have E24 : zf 24 = .int .i64 (u : Int) := HF.out 24 rfl (by simp [hdep])
        have E26 : zf 26 = .int .i64 (u : Int) := HF.out 26 rfl (by simp [hdep])
        simp only [E21, E24, E26, Act.put, List.toList_toArray, List.take_succ_cons, List.take_zero, List.drop_succ_cons, List.drop_zero, List.cons_append, List.nil_append, List.setIfInBounds_toArray, List.set_cons_zero, List.set_cons_succ]
        go_simp
        exact hKK _ _ ⟨fun zz => cond (Nat.beq zz 27) (.bool true) (cond (Nat.beq zz 26) (.int .i64 (u : Int)) (cond (Nat.beq zz 24) (.int .i64 (u : Int)) (cond (Nat.beq zz 21) (.bool true) (zf zz)))), rfl, hB, Lib.hid (upd_factP (i := 27) (v := .bool true) (cond_factP (j := 26) (v := .int .i64 (u : Int)) (cond_factP (j := 24) (v := .int .i64 (u : Int)) (cond_factP (j := 21) (v := .bool true) HF.out rfl) rfl) rfl) rfl)⟩
      · intro D aa wx HI hD hdep KK hKK
        obtain ⟨zf, rfl, hB, HF⟩ := HI
        simp [Region.binds] at hdep
        have E21 : zf 21 = .bool true := HF.out 21 rfl (by simp [hdep])
        have E27 : zf 27 = .bool true := HF.out 27 rfl (by simp [hdep])
        simp only [E21, E27, Act.put, List.toList_toArray, List.take_succ_cons, List.take_zero, List.drop_succ_cons, List.drop_zero, List.cons_append, List.nil_append, List.setIfInBounds_toArray, List.set_cons_zero, List.set_cons_succ]
        go_simp
        exact hKK _ _ ⟨fun zz => cond (Nat.beq zz 28) (.bool true) (cond (Nat.beq zz 27) (.bool true) (cond (Nat.beq zz 21) (.bool true) (zf zz))), rfl, hB, Lib.hid (upd_factP (i := 28) (v := .bool true) (cond_factP (j := 27) (v := .bool true) (cond_factP (j := 21) (v := .bool true) HF.out rfl) rfl) rfl)⟩
      · intro D aa wx HI hD hdep KK hKK
        obtain ⟨zf, rfl, hB, HF⟩ := HI
        simp [Region.binds] at hdep
        have E28 : zf 28 = .bool true := HF.out 28 rfl (by simp [hdep])
        simp only [E28, Act.put, List.toList_toArray, List.take_succ_cons, List.take_zero, List.drop_succ_cons, List.drop_zero, List.cons_append, List.nil_append, List.setIfInBounds_toArray, List.set_cons_zero, List.set_cons_succ]
        go_simp
        exact hKK _ _ ⟨fun zz => cond (Nat.beq zz 29) (.bool true) (cond (Nat.beq zz 28) (.bool true) (zf zz)), rfl, hB, Lib.hid (upd_factP (i := 29) (v := .bool true) (cond_factP (j := 28) (v := .bool true) HF.out rfl) rfl)⟩
      · intro D aa wx HI hD hdep KK hKK
        obtain ⟨zf, rfl, hB, HF⟩ := HI
        simp [Region.binds] at hdep
        have E29 : zf 29 = .bool true := HF.out 29 rfl (by simp [hdep])
        simp only [E29, Act.put, List.toList_toArray, List.take_succ_cons, List.take_zero, List.drop_succ_cons, List.drop_zero, List.cons_append, List.nil_append, List.setIfInBounds_toArray, List.set_cons_zero, List.set_cons_succ]
        go_simp
        exact hKK _ _ ⟨fun zz => cond (Nat.beq zz 30) (.int .i64 0) (cond (Nat.beq zz 29) (.bool true) (zf zz)), rfl, hB, Lib.hid (upd_factP (i := 30) (v := .int .i64 0) (cond_factP (j := 29) (v := .bool true) HF.out rfl) rfl)⟩
      · intro D aa wx HI hD hdep KK hKK
        obtain ⟨zf, rfl, hB, HF⟩ := HI
        simp [Region.binds] at hdep
        have E29 : zf 29 = .bool true := HF.out 29 rfl (by simp [hdep])
        have E30 : zf 30 = .int .i64 0 := HF.out 30 rfl (by simp [hdep])
        simp only [E29, E30, Act.put, List.toList_toArray, List.take_succ_cons, List.take_zero, List.drop_succ_cons, List.drop_zero, List.cons_append, List.nil_append, List.setIfInBounds_toArray, List.set_cons_zero, List.set_cons_succ]
        go_simp
        exact hKK _ _ ⟨fun zz => cond (Nat.beq zz 31) (.bool true) (cond (Nat.beq zz 30) (.int .i64 0) (cond (Nat.beq zz 29) (.bool true) (zf zz))), rfl, hB, Lib.hid (upd_factP (i := 31) (v := .bool true) (cond_factP (j := 30) (v := .int .i64 0) (cond_factP (j := 29) (v := .bool true) HF.out rfl) rfl) rfl)⟩
      · intro D aa wx HI hD hdep KK hKK
        obtain ⟨zf, rfl, hB, HF⟩ := HI
        simp [Region.binds] at hdep
        have E29 : zf 29 = .bool true := HF.out 29 rfl (by simp [hdep])
        have c0 := (NA.out.below hB).c0
        have c1 := (NA.out.below hB).c1
        simp only [E29, Act.put, List.toList_toArray, List.take_succ_cons, List.take_zero, List.drop_succ_cons, List.drop_zero, List.cons_append, List.nil_append, List.setIfInBounds_toArray, List.set_cons_zero, List.set_cons_succ]
        go_simp
        exact hKK _ _ ⟨fun zz => cond (Nat.beq zz 32) ((.agg #[.slice a n c, .slice ka kn kc])) (cond (Nat.beq zz 29) (.bool true) (zf zz)), rfl, hB, Lib.hid (upd_factP (i := 32) (v := (.agg #[.slice a n c, .slice ka kn kc])) (cond_factP (j := 29) (v := .bool true) HF.out rfl) rfl)⟩
      · intro D aa wx HI hD hdep KK hKK
        obtain ⟨zf, rfl, hB, HF⟩ := HI
        simp [Region.binds] at hdep
        have E29 : zf 29 = .bool true := HF.out 29 rfl (by simp [hdep])
        have E32 : zf 32 = (.agg #[.slice a n c, .slice ka kn kc]) := HF.out 32 rfl (by simp [hdep])
        simp only [E29, E32, Act.put, List.toList_toArray, List.take_succ_cons, List.take_zero, List.drop_succ_cons, List.drop_zero, List.cons_append, List.nil_append, List.setIfInBounds_toArray, List.set_cons_zero, List.set_cons_succ]
        go_simp
        refine (HR.out _ (IA.out.1.below hB) (IA.out.2.below hB)).mono ?_
        rintro e w5 ⟨rfl, hb⟩
        exact hKK _ _ ⟨fun zz => cond (Nat.beq zz 33) (.bool true) (cond (Nat.beq zz 32) ((.agg #[.slice a n c, .slice ka kn kc])) (cond (Nat.beq zz 29) (.bool true) (zf zz))), rfl, below_to hB hb, Lib.hid (upd_factP (i := 33) (v := .bool true) (cond_factP (j := 32) (v := (.agg #[.slice a n c, .slice ka kn kc])) (cond_factP (j := 29) (v := .bool true) HF.out rfl) rfl) rfl)⟩
      · intro D aa wx HI hD hdep KK hKK
        obtain ⟨zf, rfl, hB, HF⟩ := HI
        simp [Region.binds] at hdep
        have E29 : zf 29 = .bool true := HF.out 29 rfl (by simp [hdep])
        have E31 : zf 31 = .bool true := HF.out 31 rfl (by simp [hdep])
        have E33 : zf 33 = .bool true := HF.out 33 rfl (by simp [hdep])
        simp only [E29, E31, E33, Act.put, List.toList_toArray, List.take_succ_cons, List.take_zero, List.drop_succ_cons, List.drop_zero, List.cons_append, List.nil_append, List.setIfInBounds_toArray, List.set_cons_zero, List.set_cons_succ]
        go_simp
        exact hKK _ _ ⟨fun zz => cond (Nat.beq zz 34) (.bool true) (cond (Nat.beq zz 33) (.bool true) (cond (Nat.beq zz 31) (.bool true) (cond (Nat.beq zz 29) (.bool true) (zf zz)))), rfl, hB, Lib.hid (upd_factP (i := 34) (v := .bool true) (cond_factP (j := 33) (v := .bool true) (cond_factP (j := 31) (v := .bool true) (cond_factP (j := 29) (v := .bool true) HF.out rfl) rfl) rfl) rfl)⟩
      · intro D aa wx HI hD hdep KK hKK
        obtain ⟨zf, rfl, hB, HF⟩ := HI
        simp [Region.binds] at hdep
        have E29 : zf 29 = .bool true := HF.out 29 rfl (by simp [hdep])
        have E34 : zf 34 = .bool true := HF.out 34 rfl (by simp [hdep])
        simp only [E29, E34, Act.put, List.toList_toArray, List.take_succ_cons, List.take_zero, List.drop_succ_cons, List.drop_zero, List.cons_append, List.nil_append, List.setIfInBounds_toArray, List.set_cons_zero, List.set_cons_succ]
        go_simp
        exact hKK _ _ ⟨fun zz => cond (Nat.beq zz 35) (.bool true) (cond (Nat.beq zz 34) (.bool true) (cond (Nat.beq zz 29) (.bool true) (zf zz))), rfl, hB, Lib.hid (upd_factP (i := 35) (v := .bool true) (cond_factP (j := 34) (v := .bool true) (cond_factP (j := 29) (v := .bool true) HF.out rfl) rfl) rfl)⟩
      · intro D aa wx HI hD hdep KK hKK
        obtain ⟨zf, rfl, hB, HF⟩ := HI
        simp [Region.binds] at hdep
        have E35 : zf 35 = .bool true := HF.out 35 rfl (by simp [hdep])
        simp only [E35, Act.put, List.toList_toArray, List.take_succ_cons, List.take_zero, List.drop_succ_cons, List.drop_zero, List.cons_append, List.nil_append, List.setIfInBounds_toArray, List.set_cons_zero, List.set_cons_succ]
        go_simp
        exact hKK _ _ ⟨fun zz => cond (Nat.beq zz 36) (.bool true) (cond (Nat.beq zz 35) (.bool true) (zf zz)), rfl, hB, Lib.hid (upd_factP (i := 36) (v := .bool true) (cond_factP (j := 35) (v := .bool true) HF.out rfl) rfl)⟩
      · intro D aa wx HI hD hdep KK hKK
        obtain ⟨zf, rfl, hB, HF⟩ := HI
        simp [Region.binds] at hdep
        have E36 : zf 36 = .bool true := HF.out 36 rfl (by simp [hdep])
        simp only [E36, Act.put, List.toList_toArray, List.take_succ_cons, List.take_zero, List.drop_succ_cons, List.drop_zero, List.cons_append, List.nil_append, List.setIfInBounds_toArray, List.set_cons_zero, List.set_cons_succ]
        go_simp
        exact hKK _ _ ⟨fun zz => cond (Nat.beq zz 37) (.int .i64 0) (cond (Nat.beq zz 36) (.bool true) (zf zz)), rfl, hB, Lib.hid (upd_factP (i := 37) (v := .int .i64 0) (cond_factP (j := 36) (v := .bool true) HF.out rfl) rfl)⟩
      · intro D aa wx HI hD hdep KK hKK
        obtain ⟨zf, rfl, hB, HF⟩ := HI
        simp [Region.binds] at hdep
        have E36 : zf 36 = .bool true := HF.out 36 rfl (by simp [hdep])
        have E37 : zf 37 = .int .i64 0 := HF.out 37 rfl (by simp [hdep])
        simp only [E36, E37, Act.put, List.toList_toArray, List.take_succ_cons, List.take_zero, List.drop_succ_cons, List.drop_zero, List.cons_append, List.nil_append, List.setIfInBounds_toArray, List.set_cons_zero, List.set_cons_succ]
        go_simp
        exact hKK _ _ ⟨fun zz => cond (Nat.beq zz 38) (.bool true) (cond (Nat.beq zz 37) (.int .i64 0) (cond (Nat.beq zz 36) (.bool true) (zf zz))), rfl, hB, Lib.hid (upd_factP (i := 38) (v := .bool true) (cond_factP (j := 37) (v := .int .i64 0) (cond_factP (j := 36) (v := .bool true) HF.out rfl) rfl) rfl)⟩
      · intro D aa wx HI hD hdep KK hKK
        obtain ⟨zf, rfl, hB, HF⟩ := HI
        simp [Region.binds] at hdep
        have E36 : zf 36 = .bool true := HF.out 36 rfl (by simp [hdep])
        have E38 : zf 38 = .bool true := HF.out 38 rfl (by simp [hdep])
        simp only [E36, E38, Act.put, List.toList_toArray, List.take_succ_cons, List.take_zero, List.drop_succ_cons, List.drop_zero, List.cons_append, List.nil_append, List.setIfInBounds_toArray, List.set_cons_zero, List.set_cons_succ]
        go_simp
        exact hKK _ _ ⟨fun zz => cond (Nat.beq zz 39) (.bool true) (cond (Nat.beq zz 38) (.bool true) (cond (Nat.beq zz 36) (.bool true) (zf zz))), rfl, hB, Lib.hid (upd_factP (i := 39) (v := .bool true) (cond_factP (j := 38) (v := .bool true) (cond_factP (j := 36) (v := .bool true) HF.out rfl) rfl) rfl)⟩
      · intro D aa wx HI hD hdep KK hKK
        obtain ⟨zf, rfl, hB, HF⟩ := HI
        simp [Region.binds] at hdep
        have E39 : zf 39 = .bool true := HF.out 39 rfl (by simp [hdep])
        simp only [E39, Act.put, List.toList_toArray, List.take_succ_cons, List.take_zero, List.drop_succ_cons, List.drop_zero, List.cons_append, List.nil_append, List.setIfInBounds_toArray, List.set_cons_zero, List.set_cons_succ]
        go_simp
        exact hKK _ _ ⟨fun zz => cond (Nat.beq zz 40) (undef) (cond (Nat.beq zz 39) (.bool true) (zf zz)), rfl, hB, Lib.hid (upd_factP (i := 40) (v := undef) (cond_factP (j := 39) (v := .bool true) HF.out rfl) rfl)⟩
      · intro D aa wx HI hD hdep KK hKK
        obtain ⟨zf, rfl, hB, HF⟩ := HI
        simp [Region.binds] at hdep
        have E39 : zf 39 = .bool true := HF.out 39 rfl (by simp [hdep])
        have E40 : zf 40 = undef := HF.out 40 rfl (by simp [hdep])
        simp only [E39, E40, Act.put, List.toList_toArray, List.take_succ_cons, List.take_zero, List.drop_succ_cons, List.drop_zero, List.cons_append, List.nil_append, List.setIfInBounds_toArray, List.set_cons_zero, List.set_cons_succ]
        go_simp
        exact hKK _ _ ⟨fun zz => cond (Nat.beq zz 41) (undef) (cond (Nat.beq zz 40) (undef) (cond (Nat.beq zz 39) (.bool true) (zf zz))), rfl, hB, Lib.hid (upd_factP (i := 41) (v := undef) (cond_factP (j := 40) (v := undef) (cond_factP (j := 39) (v := .bool true) HF.out rfl) rfl) rfl)⟩
      · intro D aa wx HI hD hdep KK hKK
        obtain ⟨zf, rfl, hB, HF⟩ := HI
        simp [Region.binds] at hdep
        have E36 : zf 36 = .bool true := HF.out 36 rfl (by simp [hdep])
        have E39 : zf 39 = .bool true := HF.out 39 rfl (by simp [hdep])
        have E41 : zf 41 = undef := HF.out 41 rfl (by simp [hdep])
        simp only [E36, E39, E41, Act.put, List.toList_toArray, List.take_succ_cons, List.take_zero, List.drop_succ_cons, List.drop_zero, List.cons_append, List.nil_append, List.setIfInBounds_toArray, List.set_cons_zero, List.set_cons_succ]
        go_simp
        exact hKK _ _ ⟨fun zz => cond (Nat.beq zz 42) (.bool true) (cond (Nat.beq zz 41) (undef) (cond (Nat.beq zz 39) (.bool true) (cond (Nat.beq zz 36) (.bool true) (zf zz)))), rfl, hB, Lib.hid (upd_factP (i := 42) (v := .bool true) (cond_factP (j := 41) (v := undef) (cond_factP (j := 39) (v := .bool true) (cond_factP (j := 36) (v := .bool true) HF.out rfl) rfl) rfl) rfl)⟩
      · intro D aa wx HI hD hdep KK hKK
        obtain ⟨zf, rfl, hB, HF⟩ := HI
        simp [Region.binds] at hdep
        have E36 : zf 36 = .bool true := HF.out 36 rfl (by simp [hdep])
        have E42 : zf 42 = .bool true := HF.out 42 rfl (by simp [hdep])
        simp only [E36, E42, Act.put, List.toList_toArray, List.take_succ_cons, List.take_zero, List.drop_succ_cons, List.drop_zero, List.cons_append, List.nil_append, List.setIfInBounds_toArray, List.set_cons_zero, List.set_cons_succ]
        go_simp
        exact hKK _ _ ⟨fun zz => cond (Nat.beq zz 43) (.bool true) (cond (Nat.beq zz 42) (.bool true) (cond (Nat.beq zz 36) (.bool true) (zf zz))), rfl, hB, Lib.hid (upd_factP (i := 43) (v := .bool true) (cond_factP (j := 42) (v := .bool true) (cond_factP (j := 36) (v := .bool true) HF.out rfl) rfl) rfl)⟩
      · intro D aa wx HI hD hdep KK hKK
        obtain ⟨zf, rfl, hB, HF⟩ := HI
        simp [Region.binds] at hdep
        have E43 : zf 43 = .bool true := HF.out 43 rfl (by simp [hdep])
        simp only [E43, Act.put, List.toList_toArray, List.take_succ_cons, List.take_zero, List.drop_succ_cons, List.drop_zero, List.cons_append, List.nil_append, List.setIfInBounds_toArray, List.set_cons_zero, List.set_cons_succ]
        go_simp
        exact hKK _ _ ⟨fun zz => cond (Nat.beq zz 44) (.bool true) (cond (Nat.beq zz 43) (.bool true) (zf zz)), rfl, hB, Lib.hid (upd_factP (i := 44) (v := .bool true) (cond_factP (j := 43) (v := .bool true) HF.out rfl) rfl)⟩
    intro D aa wD HI hD
    obtain ⟨zf, rfl, hB, HF⟩ := HI
    have e449 : zf 44 = .bool true := HF.out 44 rfl (hD 44 (by simp))
    simp only [e449, Act.put, List.toList_toArray, List.take_succ_cons, List.take_zero, List.drop_succ_cons, List.drop_zero, List.cons_append, List.nil_append]
    clear HF hD
    go_wp2_with fail
    go_ret
    exact ⟨rfl, below_to BB hB⟩
end
end Go.Proofs.Ytnjpijihjifkfaa
