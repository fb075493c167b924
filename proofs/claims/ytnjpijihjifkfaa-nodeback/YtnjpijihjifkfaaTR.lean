/- NodeBack: the walk of the whole statement, at every node and item. -/
import Derived.Test.YtnjpijihjifkfaaTQ
namespace Go.Proofs.Ytnjpijihjifkfaa
open Go.RowKit
set_option linter.unusedVariables false
set_option linter.unusedSimpArgs false
/-- An item in a block of memory. -/
structure ItAt (w : World) (g : Nat) (p q : ByteArray) : Prop where
  lt : g < w.heap.size
  c0 : w.cell? ⟨g, 0, none⟩ = some (.string p)
  c1 : w.cell? ⟨g, 1, none⟩ = some (.string q)
theorem ItAt.below {w w1 : World} {g : Nat} {p q : ByteArray} (h : ItAt w g p q) (B : Below w.heap.size w w1) : ItAt w1 g p q :=
  ⟨Nat.lt_of_lt_of_le h.lt B.size, (B.cell (p := ⟨g, 0, none⟩) h.lt).trans h.c0, (B.cell (p := ⟨g, 1, none⟩) h.lt).trans h.c1⟩
theorem small_parts {I : List It} {K : List Int} (h : smallF I K = true) : Short I ∧ I.length ≤ 200 ∧ K.length ≤ 200 := by
  unfold smallF at h
  simp only [Bool.and_eq_true, decide_eq_true_eq, List.all_eq_true] at h
  refine ⟨fun x hx => ?_, h.2.1, h.2.2⟩
  have := h.1 x hx
  unfold smallIt at this
  simp only [Bool.and_eq_true, decide_eq_true_eq] at this
  omega
theorem short_right {I : List It} {K : List Int} (h : RightP I K) : Short I := by
  have h2 := h.2.1.1
  rw [List.all_eq_true] at h2
  intro x hx
  have h1 := of_decide_eq_true (show decide (1 ≤ x.1.size ∧ x.1.size ≤ 64 ∧ x.2.size ≤ if leafK K then 64 else 0) = true from h2 x hx)
  refine ⟨by omega, ?_⟩
  have := h1.2.2
  split at this <;> omega
theorem chk_not {I : List It} {K : List Int} (h : ¬ RightP I K) : chkE I K = 18 := if_neg h
theorem chk_yes {I : List It} {K : List Int} (h : RightP I K) : chkE I K = 0 := if_pos h
/-- Put's region: what has come up. -/
def Inv12 (w1 : World) (va vx : Value) (m : Nat) (P : List It) (a0 : Act) (D : Nat → Bool) (a : Act) (w : World) : Prop :=
  ∃ x64 x65 x66 x67 x10, a = ⟨(a0.tmps.toList.take 10 ++ x10 :: ((a0.tmps.toList.drop 11).take 53 ++ x64 :: x65 :: x66 :: x67 :: a0.tmps.toList.drop 68)).toArray, []⟩ ∧ Below w1.heap.size w1 w ∧ (D 5 = true → ∀ j, j < 5 → D j = true) ∧
    (D 5 = false → (D 0 = true → x64 = va) ∧ (D 1 = true → x65 = va) ∧ (D 2 = true → x66 = vx) ∧ (D 3 = true → HN w w1.heap.size m 0 P [] x67) ∧ (D 4 = true → HC w w1.heap.size x10)) ∧
    (D 5 = true → HF w w1.heap.size m 0 P [] x10)
def Inv14 (w1 : World) (g h NP n uP uI u1 : Nat) (sP sI vP vI v1 : Value) (a0 : Act) (D : Nat → Bool) (a : Act) (w : World) : Prop :=
  ∃ x75 x76 x77 x78 x79 x80 x81 x82 x83 x84 x85 x86 x87 x88 x89 x90 x91 x92 x93 x94 x95 x96 x97 x98 x99 x100 x101 x102 x103 x104 x105 x106, a = ⟨(a0.tmps.toList.take 75 ++ x75 :: x76 :: x77 :: x78 :: x79 :: x80 :: x81 :: x82 :: x83 :: x84 :: x85 :: x86 :: x87 :: x88 :: x89 :: x90 :: x91 :: x92 :: x93 :: x94 :: x95 :: x96 :: x97 :: x98 :: x99 :: x100 :: x101 :: x102 :: x103 :: x104 :: x105 :: x106 :: a0.tmps.toList.drop 107).toArray, []⟩ ∧ Below w1.heap.size w1 w ∧ Hid ((D 0 = true → x75 = .bool true) ∧ (D 1 = true → x76 = .bool false) ∧ (D 2 = true → x77 = .bool false) ∧ (D 3 = true → x78 = .pointer (some ⟨g, 0, none⟩)) ∧ (D 4 = true → x79 = sP) ∧ (D 5 = true → x80 = .int .i64 (NP : Int)) ∧ (D 6 = true → x81 = .pointer (some ⟨h, 0, none⟩)) ∧ (D 7 = true → x82 = sI) ∧ (D 8 = true → x83 = .int .i64 (n : Int)) ∧ (D 9 = true → x84 = .bool false) ∧ (D 10 = true → x85 = .bool false) ∧ (D 11 = true → x86 = .bool false) ∧ (D 12 = true → x87 = .pointer (some ⟨g, 0, none⟩)) ∧ (D 13 = true → x88 = sP) ∧ (D 14 = true → x89 = .int .i64 (NP : Int)) ∧ (D 15 = true → x90 = .pointer (some ⟨h, 0, none⟩)) ∧ (D 16 = true → x91 = sI) ∧ (D 17 = true → x92 = .int .i64 (n : Int)) ∧ (D 18 = true → x93 = .int .i64 ((n : Int) + 1)) ∧ (D 19 = true → x94 = .bool false) ∧ (D 20 = true → x95 = .bool false) ∧ (D 21 = true → x96 = .bool false) ∧ (D 22 = true → x97 = vP) ∧ (D 23 = true → x98 = .int .i64 (uP : Int)) ∧ (D 24 = true → x99 = vI) ∧ (D 25 = true → x100 = vI) ∧ (D 26 = true → x101 = .int .i64 (uI : Int)) ∧ (D 27 = true → x102 = v1) ∧ (D 28 = true → x103 = .int .i64 (u1 : Int)) ∧ (D 29 = true → x104 = .int .i64 ((uI : Int) + (u1 : Int))) ∧ (D 30 = true → x105 = .bool false) ∧ (D 31 = true → x106 = .bool false))
theorem no5 {D : Nat → Bool} (h : D 5 = false) {p : Prop} : D 5 = true → p := fun e => by rw [h] at e; cases e
theorem d5 {D : Nat → Bool} {i : Nat} (H : D 5 = true → ∀ j, j < 5 → D j = true) (hi : i < 5) (h : D i = false) : D 5 = false := by
  cases e : D 5 with
  | false => rfl
  | true => have := H e i hi; rw [h] at this; cases this
section
variable {w : World} {a : Option Addr} {n c : Nat} {ka : Option Addr} {kn kc : Nat} {I : List It} {K : List Int}
set_option maxRecDepth 100000 in
set_option maxHeartbeats 20000000 in
theorem nodeBack_walk (hI : Its w a n I) (hK : Kds w ka kn K) (hnc : n ≤ c) (hkc : kn ≤ kc) (hn : n ≤ 9223372036854775807) (hkn : kn ≤ 9223372036854775807) (hl : ∀ k, k < n → (kq I k).size ≤ 9223372036854775807 ∧ (vq I k).size ≤ 9223372036854775807)
    (p q : ByteArray) :
    Calls Try.prog 5 #[.agg #[.slice a n c, .slice ka kn kc], .agg #[.string p, .string q]] w fun e w' => e = .returned (.bool true) ∧ Below w.heap.size w w' := by
  have A2 := (NodeAt.new (c := c) (kc := kc) hI hK 25).below (new_below _ (.cells #[.string p, .string q] 44))
  have A3 : ItAt ((w.alloc (.cells #[.slice a n c, .slice ka kn kc] 25)).alloc (.cells #[.string p, .string q] 44)) (w.heap.size + 1) p q := ⟨by simp, by simp [go_sem], by simp [go_sem]⟩
  have BB := below_to (new_below w (.cells #[.slice a n c, .slice ka kn kc] 25)) (new_below _ (.cells #[.string p, .string q] 44))
  obtain ⟨sm, hsm⟩ : ∃ b, smallF I K = b := ⟨_, rfl⟩
  have K1 := Lib.hid (fun (w : World) (a c ka kc) (h1 : Its w a n I) (h2 : Kds w ka kn K) => by
    have := small_any (c := c) (kc := kc) h1 h2 hn hkn hl
    rw [hsm] at this; exact this)
  have K2 := Lib.hid (fun w => ours_any a n c ka kn kc w)
  have K0 := Lib.hid (fun w => lives_any w)
  have hn0 := hI.1
  have hk0 := hK.1
  clear hI hK hl
  go_enter Try.func5, Try.ntmps5
  go_wp2_with fail
  generalize (w.alloc (.cells #[.slice a n c, .slice ka kn kc] 25)).alloc (.cells #[.string p, .string q] 44) = w1 at A2 A3 BB ⊢
  refine (K0.out _).mono ?_
  rintro e w2 ⟨rfl, hb⟩
  replace A2 := A2.below hb
  replace A3 := A3.below hb
  replace BB := below_to BB hb
  clear hb
  have c0 := A2.nd.c0
  have c1 := A2.nd.c1
  go_wp2_with fail
  refine (K1.out _ _ _ _ _ A2.its A2.kds).mono ?_
  rintro e w3 ⟨rfl, hb⟩
  replace A2 := A2.below hb
  replace A3 := A3.below hb
  replace BB := below_to BB hb
  clear hb c0 c1
  cases sm with
  | false =>
    go_wp2_with fail
    go_ret
    exact ⟨rfl, BB⟩
  | true =>
  obtain ⟨hS, hI2, hK2⟩ := small_parts hsm
  rw [hn0] at hI2
  rw [hk0] at hK2
  have c0 := A2.nd.c0
  have c1 := A2.nd.c1
  go_wp2_with fail
  refine (K2.out _).mono ?_
  rintro e w4 ⟨rfl, hb⟩
  replace A2 := A2.below hb
  replace A3 := A3.below hb
  replace BB := below_to BB hb
  clear hb c0 c1
  by_cases hR : RightP I K
  case neg =>
    have K3 := Lib.hid (fun (w : World) (a c ka kc) (h1 : Its w a n I) (h2 : Kds w ka kn K) => check_any (c := c) (kc := kc) h1 h2 (by omega) (by omega) hS 18 (chk_not hR))
    go_wp2_with fail
    refine (K3.out _ _ _ _ _ A2.its A2.kds).mono ?_
    rintro e w5 ⟨rfl, hb⟩
    replace BB := below_to BB hb
    clear hb
    go_wp2_with fail
    go_ret
    exact ⟨rfl, BB⟩
  have K3 := Lib.hid (fun (w : World) (a c ka kc) (h1 : Its w a n I) (h2 : Kds w ka kn K) => check_any (c := c) (kc := kc) h1 h2 (by omega) (by omega) hS 0 (chk_yes hR))
  go_wp2_with fail
  refine (K3.out _ _ _ _ _ A2.its A2.kds).mono ?_
  rintro e w5 ⟨rfl, hb⟩
  replace A2 := A2.below hb
  replace A3 := A3.below hb
  replace BB := below_to BB hb
  clear hb
  obtain ⟨T, hT⟩ : ∃ T, bs (encF I K) = T := ⟨_, rfl⟩
  have eT : encR I K = (T, 0) := by unfold encR; rw [if_pos hR, hT]
  have dT : decQ T (readP T) = ((I, K), 0) := by
    rw [← hT, readP_enc hR]; unfold decQ; rw [if_pos ⟨hR, by show encF I K = (encF I K).toArray.toList; simp⟩]
  have sT : T.size ≤ maxLen := by
    rw [← hT, len_enc (by rw [encT_len]; exact hR.2.2.2)]; decide
  have K4 := Lib.hid (fun (w : World) (a c ka kc) (h1 : Its w a n I) (h2 : Kds w ka kn K) => encode_any (c := c) (kc := kc) h1 h2 (by omega) (by omega) hS _ _ eT)
  have K5 := Lib.hid (fun (w : World) => decode_any T w sT _ _ _ dT)
  unfold DecRet at K5
  have K6 := Lib.hid (fun (w : World) (a c ka kc a2 c2 ka2 kc2) (h1 : Its w a n I) (h2 : Its w a2 n I) (h3 : Kds w ka kn K) (h4 : Kds w ka2 kn K) => same_any (c := c) (c' := c2) (kc := kc) (kc' := kc2) h1 h2 h3 h4 (by omega) (by omega))
  clear eT dT sT hT
  have c0 := A2.nd.c0
  have c1 := A2.nd.c1
  go_wp2_with fail
  refine (K2.out _).mono ?_
  rintro e w6 ⟨rfl, hb⟩
  replace A2 := A2.below hb
  replace A3 := A3.below hb
  replace BB := below_to BB hb
  clear hb c0 c1
  go_wp2_with fail
  refine (K4.out _ _ _ _ _ A2.its A2.kds).mono ?_
  rintro e w7 ⟨rfl, hb⟩
  replace A2 := A2.below hb
  replace A3 := A3.below hb
  replace BB := below_to BB hb
  clear hb
  go_wp2_with fail
  refine (K5.out _).mono ?_
  rintro e w8 ⟨a7, n7, c7, ka7, kn7, kc7, rfl, -, -, -, -, hI7, hK7, hb⟩
  obtain rfl : n = n7 := by rw [← hI7.1, hn0]
  obtain rfl : kn = kn7 := by rw [← hK7.1, hk0]
  replace A2 := A2.below hb
  replace A3 := A3.below hb
  replace BB := below_to BB hb
  clear hb
  go_upto_region 7 with (fail)
  have A7 := NodeAt.new (c := c7) (kc := kc7) hI7 hK7 31
  have hb := new_below w8 (.cells #[.slice a7 n c7, .slice ka7 kn kc7] 31)
  replace A2 := A2.below hb
  replace A3 := A3.below hb
  replace BB := below_to BB hb
  clear hb hI7 hK7
  generalize w8.heap.size = g7 at A7 ⊢
  generalize w8.alloc (.cells #[.slice a7 n c7, .slice ka7 kn kc7] 31) = w9 at A2 A3 A7 BB ⊢
  have c0 := A7.nd.c0
  have c1 := A7.nd.c1
  have d0 := A2.nd.c0
  have d1 := A2.nd.c1
  go_wp2_with fail
  refine (K6.out _ _ _ _ _ _ _ _ _ A7.its A2.its A7.kds A2.kds).mono ?_
  rintro e w10 ⟨rfl, hb⟩
  replace A2 := A2.below hb
  replace A3 := A3.below hb
  replace BB := below_to BB hb
  clear hb c0 c1 d0 d1 A7 K0 K1 K4 K5 K6
  have c0 := A3.c0
  have c1 := A3.c1
  go_upto_region 10 with (fail)
  have hb := below_to (new_below w10 (.cells #[.string p, .string q] 44)) (new_below _ (.cells #[.slice (some ⟨w10.heap.size, 0, none⟩) 1 1, .slice none 0 0] 31))
  have A9 := NodeAt.new (w := w10.alloc (.cells #[.string p, .string q] 44)) (a := some ⟨w10.heap.size, 0, none⟩) (n := 1) (c := 1) (ka := none) (kn := 0) (kc := 0) (L := [(p, q)]) (K := [])
    ⟨rfl, .inr ⟨_, 0, rfl, by simp, fun j hj => by
      obtain rfl : j = 0 := by omega
      exact ⟨by simp [go_sem, kq], by simp [go_sem, vq]⟩⟩⟩ ⟨rfl, .inl rfl⟩ 31
  have hs9 : (w10.alloc (.cells #[.string p, .string q] 44)).heap.size = w10.heap.size + 1 := by simp
  rw [hs9] at A9
  replace A2 := A2.below hb
  replace A3 := A3.below hb
  replace BB := below_to BB hb
  clear hb hs9 c0 c1
  generalize (w10.alloc (.cells #[.string p, .string q] 44)).alloc (.cells #[.slice (some ⟨w10.heap.size, 0, none⟩) 1 1, .slice none 0 0] 31) = w11 at A2 A3 A9 BB ⊢
  generalize w10.heap.size = g9 at A9 ⊢
  have c1 := A2.nd.c1
  by_cases hkz : kn = 0
  case neg =>
    have hd : decide ((0 : Int) < (kn : Int)) = true := decide_eq_true (by omega)
    go_wp2_with fail
    go_ret
    exact ⟨rfl, BB⟩
  subst hkz
  have hKe : K = [] := List.length_eq_zero_iff.1 hk0
  subst hKe
  have d0 := A9.nd.c0
  have d1 := A9.nd.c1
  by_cases hR1 : RightP [(p, q)] []
  case neg =>
    have K3 := Lib.hid (fun (w : World) (a c ka kc) (h1 : Its w a 1 [(p, q)]) (h2 : Kds w ka 0 []) => check_free (c := c) (kc := kc) h1 h2 (by omega) (by omega) 18 (chk_not hR1))
    go_wp2_with fail
    refine (K3.out _ _ _ _ _ A9.its A9.kds).mono ?_
    rintro e w12 ⟨rfl, hb⟩
    replace BB := below_to BB hb
    clear hb
    go_wp2_with fail
    go_ret
    exact ⟨rfl, BB⟩
  have hS1 : Short [(p, q)] := short_right hR1
  have K7 := Lib.hid (fun (w : World) (a c ka kc) (h1 : Its w a 1 [(p, q)]) (h2 : Kds w ka 0 []) => check_any (c := c) (kc := kc) h1 h2 (by omega) (by omega) hS1 0 (chk_yes hR1))
  go_wp2_with fail
  refine (K7.out _ _ _ _ _ A9.its A9.kds).mono ?_
  rintro e w12 ⟨rfl, hb⟩
  replace A2 := A2.below hb
  replace A3 := A3.below hb
  replace A9 := A9.below hb
  replace BB := below_to BB hb
  clear hb c1 d0 d1 K3
  go_wp2_with fail
  clear K7
  obtain ⟨hI0, hok, hri, hby⟩ := leaf_parts hR
  obtain ⟨-, hok1, -, hby1⟩ := leaf_parts hR1
  obtain ⟨NP, hNP⟩ : ∃ x, (putL I (p, q)).length = x := ⟨_, rfl⟩
  have K8 := Lib.hid (fun (w : World) (h1 : Its w a n I) => putLeaf_any (ka := ka) (kc := kc) p q h1 (by omega) hnc hri)
  unfold NdRet at K8
  refine wp_region_inv0 (Inv12 w12 (.agg #[.slice a n c, .slice ka 0 kc]) (.agg #[.string p, .string q]) NP (putL I (p, q))) (by kernel_rfl) (by decide) ?_ ?_ ?_
  · exact ⟨undef, undef, undef, undef, undef, rfl, (Below.refl w12.heap.size w12).drew, (by intro h; cases h), fun _ => ⟨(by intro h; cases h), (by intro h; cases h), (by intro h; cases h), (by intro h; cases h), (by intro h; cases h)⟩, (by intro h; cases h)⟩
  · refine AllI.cons ?_ (AllI.cons ?_ (AllI.cons ?_ (AllI.cons ?_ (AllI.cons ?_ (AllI.cons ?_ AllI.nil)))))
    · rintro D aa wx ⟨x64, x65, x66, x67, x10, rfl, hB, hall, hfs, hfin⟩ hD hdep KK hKK
      have hd := d5 hall (show 0 < 5 by omega) hD
      obtain ⟨f0, f1, f2, f3, f4⟩ := hfs hd
      have c0 := (A2.nd.below hB).c0
      have c1 := (A2.nd.below hB).c1
      simp only [Act.put, List.toList_toArray, List.take_succ_cons, List.take_zero, List.drop_succ_cons, List.drop_zero, List.cons_append, List.nil_append, List.setIfInBounds_toArray, List.set_cons_zero, List.set_cons_succ]
      go_simp
      exact hKK _ _ ⟨_, _, _, _, _, rfl, hB, no5 (D := D) hd, fun _ => ⟨fun _ => rfl, (by first | exact f1 | exact fun _ => rfl), (by first | exact f2 | exact fun _ => rfl), (by first | exact f3 | exact fun _ => rfl), (by first | exact f4 | exact fun _ => rfl)⟩, no5 (D := D) hd⟩
    · rintro D aa wx ⟨x64, x65, x66, x67, x10, rfl, hB, hall, hfs, hfin⟩ hD hdep KK hKK
      have hd := d5 hall (show 1 < 5 by omega) hD
      obtain ⟨f0, f1, f2, f3, f4⟩ := hfs hd
      simp [Region.binds] at hdep
      have e0 := f0 (by simp [*])
      subst e0
      simp only [Act.put, List.toList_toArray, List.take_succ_cons, List.take_zero, List.drop_succ_cons, List.drop_zero, List.cons_append, List.nil_append, List.setIfInBounds_toArray, List.set_cons_zero, List.set_cons_succ]
      go_simp
      refine (K2.out _).mono ?_
      rintro e w13 ⟨rfl, hb⟩
      exact hKK _ _ ⟨_, _, _, _, _, rfl, below_to hB hb, no5 (D := D) hd, fun _ => ⟨(by first | exact f0 | exact fun _ => rfl), fun _ => rfl, (by first | exact f2 | exact fun _ => rfl), fun h => (f3 h).below hb, fun h => (f4 h).below hb⟩, no5 (D := D) hd⟩
    · rintro D aa wx ⟨x64, x65, x66, x67, x10, rfl, hB, hall, hfs, hfin⟩ hD hdep KK hKK
      have hd := d5 hall (show 2 < 5 by omega) hD
      obtain ⟨f0, f1, f2, f3, f4⟩ := hfs hd
      have c0 := (A3.below hB).c0
      have c1 := (A3.below hB).c1
      simp only [Act.put, List.toList_toArray, List.take_succ_cons, List.take_zero, List.drop_succ_cons, List.drop_zero, List.cons_append, List.nil_append, List.setIfInBounds_toArray, List.set_cons_zero, List.set_cons_succ]
      go_simp
      exact hKK _ _ ⟨_, _, _, _, _, rfl, hB, no5 (D := D) hd, fun _ => ⟨(by first | exact f0 | exact fun _ => rfl), (by first | exact f1 | exact fun _ => rfl), fun _ => rfl, (by first | exact f3 | exact fun _ => rfl), (by first | exact f4 | exact fun _ => rfl)⟩, no5 (D := D) hd⟩
    · rintro D aa wx ⟨x64, x65, x66, x67, x10, rfl, hB, hall, hfs, hfin⟩ hD hdep KK hKK
      have hd := d5 hall (show 3 < 5 by omega) hD
      obtain ⟨f0, f1, f2, f3, f4⟩ := hfs hd
      simp [Region.binds] at hdep
      have e1 := f1 (by simp [*])
      subst e1
      have e2 := f2 (by simp [*])
      subst e2
      simp only [Act.put, List.toList_toArray, List.take_succ_cons, List.take_zero, List.drop_succ_cons, List.drop_zero, List.cons_append, List.nil_append, List.setIfInBounds_toArray, List.set_cons_zero, List.set_cons_succ]
      go_simp
      refine (K8.out _ (A2.its.below hB)).mono ?_
      rintro e w13 ⟨a1, n1, c1, a3, n3, c3, rfl, hac, hkc, hfa, hfk, hIt, hKt, hb⟩
      obtain rfl : NP = n1 := by rw [← hIt.1, hNP]
      obtain rfl : 0 = n3 := hKt.1
      exact hKK _ _ ⟨_, _, _, _, _, rfl, below_to hB hb, no5 (D := D) hd, fun _ => ⟨(by first | exact f0 | exact fun _ => rfl), (by first | exact f1 | exact fun _ => rfl), (by first | exact f2 | exact fun _ => rfl), fun _ => ⟨_, _, rfl, ⟨a1, c1, rfl, hac, hfa.mono hB.size, hIt⟩, ⟨a3, c3, rfl, hkc, hfk.mono hB.size, hKt⟩⟩, fun h => (f4 h).below hb⟩, no5 (D := D) hd⟩
    · rintro D aa wx ⟨x64, x65, x66, x67, x10, rfl, hB, hall, hfs, hfin⟩ hD hdep KK hKK
      have hd := d5 hall (show 4 < 5 by omega) hD
      obtain ⟨f0, f1, f2, f3, f4⟩ := hfs hd
      simp only [Act.put, List.toList_toArray, List.take_succ_cons, List.take_zero, List.drop_succ_cons, List.drop_zero, List.cons_append, List.nil_append, List.setIfInBounds_toArray, List.set_cons_zero, List.set_cons_succ]
      go_simp
      have hb := new_below wx (.cells #[.slice none 0 0, .slice none 0 0] 31)
      exact hKK _ _ ⟨_, _, _, _, _, rfl, below_to hB hb, no5 (D := D) hd, fun _ => ⟨(by first | exact f0 | exact fun _ => rfl), (by first | exact f1 | exact fun _ => rfl), (by first | exact f2 | exact fun _ => rfl), fun h => (f3 h).below hb, fun _ => ⟨_, rfl, hB.size, Nb.fresh _ _ _ _, heap_new _ _⟩⟩, no5 (D := D) hd⟩
    · rintro D aa wx ⟨x64, x65, x66, x67, x10, rfl, hB, hall, hfs, hfin⟩ hD hdep KK hKK
      obtain ⟨f0, f1, f2, f3, f4⟩ := hfs hD
      have hq := List.all_eq_true.1 hdep
      have hal : ∀ j, j < 5 → D j = true := by
        intro j hj
        have : j = 0 ∨ j = 1 ∨ j = 2 ∨ j = 3 ∨ j = 4 := by omega
        rcases this with rfl | rfl | rfl | rfl | rfl
        · simpa [Region.binds] using hq ⟨0, Ground.phase⟩ (by simp)
        · simpa [Region.binds] using hq ⟨1, Ground.phase⟩ (by simp)
        · simpa [Region.binds] using hq ⟨2, Ground.phase⟩ (by simp)
        · simpa [Region.binds] using hq ⟨3, Ground.phase⟩ (by simp)
        · simpa [Region.binds] using hq ⟨4, Ground.phase⟩ (by simp)
      obtain ⟨y, z, rfl, ⟨a1, c1, rfl, h1, h2, h3⟩, ⟨a3, c3, rfl, h4, h5, h6⟩⟩ := f3 (hal 3 (by omega))
      obtain ⟨g, rfl, hg, hNb, hgb⟩ := f4 (hal 4 (by omega))
      have y0 := hNb.c0
      have y1 := hNb.c1
      have z0 := hNb.f0
      have z1 := hNb.f1
      have hfn := Lib.hid (show HF ((wx.setCell ⟨g, 0, none⟩ (.slice a1 NP c1)).setCell ⟨g, 1, none⟩ (.slice a3 0 c3)) w12.heap.size NP 0 (putL I (p, q)) [] (.pointer (some ⟨g, 0, none⟩)) from ⟨g, _, _, rfl, hg, (hNb.set0 _).set1 _, ⟨a1, c1, rfl, h1, h2, its_put h3 hgb⟩, ⟨a3, c3, rfl, h4, h5, kds_put h6 hgb⟩⟩)
      have hB2 := Lib.hid ((hB.setCell (p := ⟨g, 0, none⟩) hg (.slice a1 NP c1)).setCell (p := ⟨g, 1, none⟩) hg (.slice a3 0 c3))
      have hal := Lib.hid hal
      clear f0 f1 f2 f3 f4 hfs hfin hdep hq
      simp only [Act.put, List.toList_toArray, List.take_succ_cons, List.take_zero, List.drop_succ_cons, List.drop_zero, List.cons_append, List.nil_append, List.setIfInBounds_toArray, List.set_cons_zero, List.set_cons_succ]
      go_simp
      refine hKK _ _ ⟨_, _, _, _, _, rfl, hB2.out, fun _ j hj => ?_, (by intro h; cases h), fun _ => hfn.out⟩
      show (if j = 5 then true else D j) = true
      rw [if_neg (by omega)]; exact hal.out j hj
  rintro D aa w13 ⟨x64, x65, x66, x67, x10, rfl, hB, hall, hfs, hfin⟩ hD
  obtain ⟨g, y, z, rfl, hg, hNb, ⟨a1, c1, rfl, h1, h2, h3⟩, ⟨a3, c3, rfl, h4, h5, h6⟩⟩ := hfin (hD 5 (by simp))
  simp only [Act.put, List.toList_toArray, List.take_succ_cons, List.take_zero, List.drop_succ_cons, List.drop_zero, List.cons_append, List.nil_append]
  clear hall hfs hfin hD
  replace A2 := A2.below hB
  replace A3 := A3.below hB
  replace A9 := A9.below hB
  replace BB := below_to BB hB
  have A10 : NodeAt w13 g a1 NP c1 a3 0 c3 (putL I (p, q)) [] := ⟨⟨hNb.lt, hNb.c0, hNb.c1⟩, h3, h6⟩
  clear hB hNb h3 h6 hg h2 h5 h4
  obtain ⟨hokP, hriP, hbyP, hln1, hln2, hln3, hhas, hSP, hszP, hone⟩ := back_math hR hR1 hS hS1 rfl
  have hrs := right_size hokP hriP hln3
  obtain ⟨P, hP⟩ : ∃ P, putL I (p, q) = P := ⟨_, rfl⟩
  rw [hP] at A10 hokP hriP hbyP hln1 hln2 hln3 hhas hSP hszP hone hrs hNP
  rw [hNP] at hln1 hln2 hln3 hone
  rw [hn0] at hln1 hln2
  obtain ⟨fi, hfi⟩ : ∃ i, (findN true P p).1 = i := ⟨_, rfl⟩
  have hfind : findN true P p = (fi, true) := by rw [← hfi]; exact Prod.ext rfl hhas
  have KF := Lib.hid (fun (w : World) (h1 : Its w a1 NP P) => find_any (c := c1) (ka := a3) (kn := 0) (kc := c3) p h1 (by omega) hriP true rfl fi true hfind)
  obtain ⟨uP, huP⟩ : ∃ u, sizeN true P = u := ⟨_, rfl⟩
  obtain ⟨uI, huI⟩ : ∃ u, sizeN true I = u := ⟨_, rfl⟩
  obtain ⟨u1, hu1⟩ : ∃ u, sizeN true [(p, q)] = u := ⟨_, rfl⟩
  have KSP := Lib.hid (fun (w : World) (h1 : Its w a1 NP P) => size_any (c := c1) (ka := a3) (kn := 0) (kc := c3) (b := true) h1 (by omega) hSP rfl uP huP)
  have KSI := Lib.hid (fun (w : World) (h1 : Its w a n I) => size_any (c := c) (ka := ka) (kn := 0) (kc := kc) (b := true) h1 (by omega) hS rfl uI huI)
  have KS1 := Lib.hid (fun (w : World) (h1 : Its w (some ⟨g9, 0, none⟩) 1 [(p, q)]) => size_any (c := 1) (ka := none) (kn := 0) (kc := 0) (b := true) h1 (by omega) hS1 rfl u1 hu1)
  have huI2 : uI ≤ 480 := by rw [← huI]; exact hR.2.2.2
  have hu12 : u1 ≤ 480 := by rw [← hu1]; exact hR1.2.2.2
  rw [huP, huI, hu1] at hszP
  rw [huP] at hrs
  have c0 := A10.nd.c0
  have c1' := A10.nd.c1
  have d0 := A3.c0
  have d1 := A3.c1
  go_wp2_with fail
  refine (KF.out _ A10.its).mono ?_
  rintro e w14 ⟨rfl, hb⟩
  replace A2 := A2.below hb
  replace A3 := A3.below hb
  replace A9 := A9.below hb
  replace A10 := A10.below hb
  replace BB := below_to BB hb
  clear hb c0 c1' d0 d1 hP hNP hfi hfind K8
  go_upto_region 14 with (fail)
  have q1 : decide ((NP : Int) < (n : Int)) = false := decide_eq_false (by omega)
  have q1n : decide (NP < n) = false := decide_eq_false (by omega)
  have q2n : decide (n + 1 < NP) = false := decide_eq_false (by omega)
  have q3n : decide (uI + u1 < uP) = false := decide_eq_false (by omega)
  have q2 : decide ((n : Int) + 1 < (NP : Int)) = false := decide_eq_false (by omega)
  have q3 : decide ((uI : Int) + (u1 : Int) < (uP : Int)) = false := decide_eq_false (by omega)
  have q4 : IntKind.i64.wrap ((n : Int) + 1) = (n : Int) + 1 := IntWalk.i64_in _ (by omega)
  have q5 : IntKind.i64.wrap ((uI : Int) + (u1 : Int)) = (uI : Int) + (u1 : Int) := IntWalk.i64_in _ (by omega)
  refine wp_region_inv0 (Inv14 w14 g w.heap.size NP n uP uI u1 (.slice a1 NP c1) (.slice a n c) (.agg #[.slice a1 NP c1, .slice a3 0 c3]) (.agg #[.slice a n c, .slice ka 0 kc]) (.agg #[.slice (some ⟨g9, 0, none⟩) 1 1, .slice none 0 0])) (by kernel_rfl) (by decide) ?_ ?_ ?_
  · exact ⟨undef, undef, undef, undef, undef, undef, undef, undef, undef, undef, undef, undef, undef, undef, undef, undef, undef, undef, undef, undef, undef, undef, undef, undef, undef, undef, undef, undef, undef, undef, undef, undef, rfl, (Below.refl w14.heap.size w14).drew, Lib.hid ⟨(by intro h; cases h), (by intro h; cases h), (by intro h; cases h), (by intro h; cases h), (by intro h; cases h), (by intro h; cases h), (by intro h; cases h), (by intro h; cases h), (by intro h; cases h), (by intro h; cases h), (by intro h; cases h), (by intro h; cases h), (by intro h; cases h), (by intro h; cases h), (by intro h; cases h), (by intro h; cases h), (by intro h; cases h), (by intro h; cases h), (by intro h; cases h), (by intro h; cases h), (by intro h; cases h), (by intro h; cases h), (by intro h; cases h), (by intro h; cases h), (by intro h; cases h), (by intro h; cases h), (by intro h; cases h), (by intro h; cases h), (by intro h; cases h), (by intro h; cases h), (by intro h; cases h), (by intro h; cases h)⟩⟩
  · refine AllI.cons ?_ (AllI.cons ?_ (AllI.cons ?_ (AllI.cons ?_ (AllI.cons ?_ (AllI.cons ?_ (AllI.cons ?_ (AllI.cons ?_ (AllI.cons ?_ (AllI.cons ?_ (AllI.cons ?_ (AllI.cons ?_ (AllI.cons ?_ (AllI.cons ?_ (AllI.cons ?_ (AllI.cons ?_ (AllI.cons ?_ (AllI.cons ?_ (AllI.cons ?_ (AllI.cons ?_ (AllI.cons ?_ (AllI.cons ?_ (AllI.cons ?_ (AllI.cons ?_ (AllI.cons ?_ (AllI.cons ?_ (AllI.cons ?_ (AllI.cons ?_ (AllI.cons ?_ (AllI.cons ?_ (AllI.cons ?_ (AllI.cons ?_ AllI.nil)))))))))))))))))))))))))))))))
    · rintro D aa wx ⟨x75, x76, x77, x78, x79, x80, x81, x82, x83, x84, x85, x86, x87, x88, x89, x90, x91, x92, x93, x94, x95, x96, x97, x98, x99, x100, x101, x102, x103, x104, x105, x106, rfl, hB, HF⟩ hD hdep KK hKK
      simp only [Act.put, List.toList_toArray, List.take_succ_cons, List.take_zero, List.drop_succ_cons, List.drop_zero, List.cons_append, List.nil_append, List.setIfInBounds_toArray, List.set_cons_zero, List.set_cons_succ]
      go_simp
      exact hKK _ _ ⟨_, _, _, _, _, _, _, _, _, _, _, _, _, _, _, _, _, _, _, _, _, _, _, _, _, _, _, _, _, _, _, _, rfl, hB, Lib.hid (by obtain ⟨f0, f1, f2, f3, f4, f5, f6, f7, f8, f9, f10, f11, f12, f13, f14, f15, f16, f17, f18, f19, f20, f21, f22, f23, f24, f25, f26, f27, f28, f29, f30, f31⟩ := HF.out; exact ⟨fun _ => rfl, f1, f2, f3, f4, f5, f6, f7, f8, f9, f10, f11, f12, f13, f14, f15, f16, f17, f18, f19, f20, f21, f22, f23, f24, f25, f26, f27, f28, f29, f30, f31⟩)⟩
    · rintro D aa wx ⟨x75, x76, x77, x78, x79, x80, x81, x82, x83, x84, x85, x86, x87, x88, x89, x90, x91, x92, x93, x94, x95, x96, x97, x98, x99, x100, x101, x102, x103, x104, x105, x106, rfl, hB, HF⟩ hD hdep KK hKK
      simp [Region.binds] at hdep
      have h0 : D 0 = true := by simp [hdep]
      have HE := Lib.hid (show x75 = .bool true by obtain ⟨f0, f1, f2, f3, f4, f5, f6, f7, f8, f9, f10, f11, f12, f13, f14, f15, f16, f17, f18, f19, f20, f21, f22, f23, f24, f25, f26, f27, f28, f29, f30, f31⟩ := HF.out; exact f0 h0)
      obtain rfl := HE.out
      clear HE
      simp only [Act.put, List.toList_toArray, List.take_succ_cons, List.take_zero, List.drop_succ_cons, List.drop_zero, List.cons_append, List.nil_append, List.setIfInBounds_toArray, List.set_cons_zero, List.set_cons_succ]
      go_simp
      exact hKK _ _ ⟨_, _, _, _, _, _, _, _, _, _, _, _, _, _, _, _, _, _, _, _, _, _, _, _, _, _, _, _, _, _, _, _, rfl, hB, Lib.hid (by obtain ⟨f0, f1, f2, f3, f4, f5, f6, f7, f8, f9, f10, f11, f12, f13, f14, f15, f16, f17, f18, f19, f20, f21, f22, f23, f24, f25, f26, f27, f28, f29, f30, f31⟩ := HF.out; exact ⟨fun _ => rfl, fun _ => rfl, f2, f3, f4, f5, f6, f7, f8, f9, f10, f11, f12, f13, f14, f15, f16, f17, f18, f19, f20, f21, f22, f23, f24, f25, f26, f27, f28, f29, f30, f31⟩)⟩
    · rintro D aa wx ⟨x75, x76, x77, x78, x79, x80, x81, x82, x83, x84, x85, x86, x87, x88, x89, x90, x91, x92, x93, x94, x95, x96, x97, x98, x99, x100, x101, x102, x103, x104, x105, x106, rfl, hB, HF⟩ hD hdep KK hKK
      simp [Region.binds] at hdep
      have h1 : D 1 = true := by simp [hdep]
      have HE := Lib.hid (show x76 = .bool false by obtain ⟨f0, f1, f2, f3, f4, f5, f6, f7, f8, f9, f10, f11, f12, f13, f14, f15, f16, f17, f18, f19, f20, f21, f22, f23, f24, f25, f26, f27, f28, f29, f30, f31⟩ := HF.out; exact f1 h1)
      obtain rfl := HE.out
      clear HE
      simp only [Act.put, List.toList_toArray, List.take_succ_cons, List.take_zero, List.drop_succ_cons, List.drop_zero, List.cons_append, List.nil_append, List.setIfInBounds_toArray, List.set_cons_zero, List.set_cons_succ]
      go_simp
      exact hKK _ _ ⟨_, _, _, _, _, _, _, _, _, _, _, _, _, _, _, _, _, _, _, _, _, _, _, _, _, _, _, _, _, _, _, _, rfl, hB, Lib.hid (by obtain ⟨f0, f1, f2, f3, f4, f5, f6, f7, f8, f9, f10, f11, f12, f13, f14, f15, f16, f17, f18, f19, f20, f21, f22, f23, f24, f25, f26, f27, f28, f29, f30, f31⟩ := HF.out; exact ⟨f0, fun _ => rfl, fun _ => rfl, f3, f4, f5, f6, f7, f8, f9, f10, f11, f12, f13, f14, f15, f16, f17, f18, f19, f20, f21, f22, f23, f24, f25, f26, f27, f28, f29, f30, f31⟩)⟩
    · rintro D aa wx ⟨x75, x76, x77, x78, x79, x80, x81, x82, x83, x84, x85, x86, x87, x88, x89, x90, x91, x92, x93, x94, x95, x96, x97, x98, x99, x100, x101, x102, x103, x104, x105, x106, rfl, hB, HF⟩ hD hdep KK hKK
      simp [Region.binds] at hdep
      have h2 : D 2 = true := by simp [hdep]
      have HE := Lib.hid (show x77 = .bool false by obtain ⟨f0, f1, f2, f3, f4, f5, f6, f7, f8, f9, f10, f11, f12, f13, f14, f15, f16, f17, f18, f19, f20, f21, f22, f23, f24, f25, f26, f27, f28, f29, f30, f31⟩ := HF.out; exact f2 h2)
      obtain rfl := HE.out
      clear HE
      simp only [Act.put, List.toList_toArray, List.take_succ_cons, List.take_zero, List.drop_succ_cons, List.drop_zero, List.cons_append, List.nil_append, List.setIfInBounds_toArray, List.set_cons_zero, List.set_cons_succ]
      go_simp
      exact hKK _ _ ⟨_, _, _, _, _, _, _, _, _, _, _, _, _, _, _, _, _, _, _, _, _, _, _, _, _, _, _, _, _, _, _, _, rfl, hB, Lib.hid (by obtain ⟨f0, f1, f2, f3, f4, f5, f6, f7, f8, f9, f10, f11, f12, f13, f14, f15, f16, f17, f18, f19, f20, f21, f22, f23, f24, f25, f26, f27, f28, f29, f30, f31⟩ := HF.out; exact ⟨f0, f1, fun _ => rfl, fun _ => rfl, f4, f5, f6, f7, f8, f9, f10, f11, f12, f13, f14, f15, f16, f17, f18, f19, f20, f21, f22, f23, f24, f25, f26, f27, f28, f29, f30, f31⟩)⟩
    · rintro D aa wx ⟨x75, x76, x77, x78, x79, x80, x81, x82, x83, x84, x85, x86, x87, x88, x89, x90, x91, x92, x93, x94, x95, x96, x97, x98, x99, x100, x101, x102, x103, x104, x105, x106, rfl, hB, HF⟩ hD hdep KK hKK
      simp [Region.binds] at hdep
      have h2 : D 2 = true := by simp [hdep]
      have h3 : D 3 = true := by simp [hdep]
      have HE := Lib.hid (show x77 = .bool false ∧ x78 = .pointer (some ⟨g, 0, none⟩) by obtain ⟨f0, f1, f2, f3, f4, f5, f6, f7, f8, f9, f10, f11, f12, f13, f14, f15, f16, f17, f18, f19, f20, f21, f22, f23, f24, f25, f26, f27, f28, f29, f30, f31⟩ := HF.out; exact ⟨f2 h2, f3 h3⟩)
      obtain ⟨rfl, rfl⟩ := HE.out
      clear HE
      have c0 := (A10.nd.below hB).c0
      simp only [Act.put, List.toList_toArray, List.take_succ_cons, List.take_zero, List.drop_succ_cons, List.drop_zero, List.cons_append, List.nil_append, List.setIfInBounds_toArray, List.set_cons_zero, List.set_cons_succ]
      go_simp
      exact hKK _ _ ⟨_, _, _, _, _, _, _, _, _, _, _, _, _, _, _, _, _, _, _, _, _, _, _, _, _, _, _, _, _, _, _, _, rfl, hB, Lib.hid (by obtain ⟨f0, f1, f2, f3, f4, f5, f6, f7, f8, f9, f10, f11, f12, f13, f14, f15, f16, f17, f18, f19, f20, f21, f22, f23, f24, f25, f26, f27, f28, f29, f30, f31⟩ := HF.out; exact ⟨f0, f1, fun _ => rfl, fun _ => rfl, fun _ => rfl, f5, f6, f7, f8, f9, f10, f11, f12, f13, f14, f15, f16, f17, f18, f19, f20, f21, f22, f23, f24, f25, f26, f27, f28, f29, f30, f31⟩)⟩
    · rintro D aa wx ⟨x75, x76, x77, x78, x79, x80, x81, x82, x83, x84, x85, x86, x87, x88, x89, x90, x91, x92, x93, x94, x95, x96, x97, x98, x99, x100, x101, x102, x103, x104, x105, x106, rfl, hB, HF⟩ hD hdep KK hKK
      simp [Region.binds] at hdep
      have h2 : D 2 = true := by simp [hdep]
      have h4 : D 4 = true := by simp [hdep]
      have HE := Lib.hid (show x77 = .bool false ∧ x79 = .slice a1 NP c1 by obtain ⟨f0, f1, f2, f3, f4, f5, f6, f7, f8, f9, f10, f11, f12, f13, f14, f15, f16, f17, f18, f19, f20, f21, f22, f23, f24, f25, f26, f27, f28, f29, f30, f31⟩ := HF.out; exact ⟨f2 h2, f4 h4⟩)
      obtain ⟨rfl, rfl⟩ := HE.out
      clear HE
      simp only [Act.put, List.toList_toArray, List.take_succ_cons, List.take_zero, List.drop_succ_cons, List.drop_zero, List.cons_append, List.nil_append, List.setIfInBounds_toArray, List.set_cons_zero, List.set_cons_succ]
      go_simp
      exact hKK _ _ ⟨_, _, _, _, _, _, _, _, _, _, _, _, _, _, _, _, _, _, _, _, _, _, _, _, _, _, _, _, _, _, _, _, rfl, hB, Lib.hid (by obtain ⟨f0, f1, f2, f3, f4, f5, f6, f7, f8, f9, f10, f11, f12, f13, f14, f15, f16, f17, f18, f19, f20, f21, f22, f23, f24, f25, f26, f27, f28, f29, f30, f31⟩ := HF.out; exact ⟨f0, f1, fun _ => rfl, f3, fun _ => rfl, fun _ => rfl, f6, f7, f8, f9, f10, f11, f12, f13, f14, f15, f16, f17, f18, f19, f20, f21, f22, f23, f24, f25, f26, f27, f28, f29, f30, f31⟩)⟩
    · rintro D aa wx ⟨x75, x76, x77, x78, x79, x80, x81, x82, x83, x84, x85, x86, x87, x88, x89, x90, x91, x92, x93, x94, x95, x96, x97, x98, x99, x100, x101, x102, x103, x104, x105, x106, rfl, hB, HF⟩ hD hdep KK hKK
      simp [Region.binds] at hdep
      have h2 : D 2 = true := by simp [hdep]
      have HE := Lib.hid (show x77 = .bool false by obtain ⟨f0, f1, f2, f3, f4, f5, f6, f7, f8, f9, f10, f11, f12, f13, f14, f15, f16, f17, f18, f19, f20, f21, f22, f23, f24, f25, f26, f27, f28, f29, f30, f31⟩ := HF.out; exact f2 h2)
      obtain rfl := HE.out
      clear HE
      simp only [Act.put, List.toList_toArray, List.take_succ_cons, List.take_zero, List.drop_succ_cons, List.drop_zero, List.cons_append, List.nil_append, List.setIfInBounds_toArray, List.set_cons_zero, List.set_cons_succ]
      go_simp
      exact hKK _ _ ⟨_, _, _, _, _, _, _, _, _, _, _, _, _, _, _, _, _, _, _, _, _, _, _, _, _, _, _, _, _, _, _, _, rfl, hB, Lib.hid (by obtain ⟨f0, f1, f2, f3, f4, f5, f6, f7, f8, f9, f10, f11, f12, f13, f14, f15, f16, f17, f18, f19, f20, f21, f22, f23, f24, f25, f26, f27, f28, f29, f30, f31⟩ := HF.out; exact ⟨f0, f1, fun _ => rfl, f3, f4, f5, fun _ => rfl, f7, f8, f9, f10, f11, f12, f13, f14, f15, f16, f17, f18, f19, f20, f21, f22, f23, f24, f25, f26, f27, f28, f29, f30, f31⟩)⟩
    · rintro D aa wx ⟨x75, x76, x77, x78, x79, x80, x81, x82, x83, x84, x85, x86, x87, x88, x89, x90, x91, x92, x93, x94, x95, x96, x97, x98, x99, x100, x101, x102, x103, x104, x105, x106, rfl, hB, HF⟩ hD hdep KK hKK
      simp [Region.binds] at hdep
      have h2 : D 2 = true := by simp [hdep]
      have h6 : D 6 = true := by simp [hdep]
      have HE := Lib.hid (show x77 = .bool false ∧ x81 = .pointer (some ⟨w.heap.size, 0, none⟩) by obtain ⟨f0, f1, f2, f3, f4, f5, f6, f7, f8, f9, f10, f11, f12, f13, f14, f15, f16, f17, f18, f19, f20, f21, f22, f23, f24, f25, f26, f27, f28, f29, f30, f31⟩ := HF.out; exact ⟨f2 h2, f6 h6⟩)
      obtain ⟨rfl, rfl⟩ := HE.out
      clear HE
      have c0 := (A2.nd.below hB).c0
      simp only [Act.put, List.toList_toArray, List.take_succ_cons, List.take_zero, List.drop_succ_cons, List.drop_zero, List.cons_append, List.nil_append, List.setIfInBounds_toArray, List.set_cons_zero, List.set_cons_succ]
      go_simp
      exact hKK _ _ ⟨_, _, _, _, _, _, _, _, _, _, _, _, _, _, _, _, _, _, _, _, _, _, _, _, _, _, _, _, _, _, _, _, rfl, hB, Lib.hid (by obtain ⟨f0, f1, f2, f3, f4, f5, f6, f7, f8, f9, f10, f11, f12, f13, f14, f15, f16, f17, f18, f19, f20, f21, f22, f23, f24, f25, f26, f27, f28, f29, f30, f31⟩ := HF.out; exact ⟨f0, f1, fun _ => rfl, f3, f4, f5, fun _ => rfl, fun _ => rfl, f8, f9, f10, f11, f12, f13, f14, f15, f16, f17, f18, f19, f20, f21, f22, f23, f24, f25, f26, f27, f28, f29, f30, f31⟩)⟩
    · rintro D aa wx ⟨x75, x76, x77, x78, x79, x80, x81, x82, x83, x84, x85, x86, x87, x88, x89, x90, x91, x92, x93, x94, x95, x96, x97, x98, x99, x100, x101, x102, x103, x104, x105, x106, rfl, hB, HF⟩ hD hdep KK hKK
      simp [Region.binds] at hdep
      have h2 : D 2 = true := by simp [hdep]
      have h7 : D 7 = true := by simp [hdep]
      have HE := Lib.hid (show x77 = .bool false ∧ x82 = .slice a n c by obtain ⟨f0, f1, f2, f3, f4, f5, f6, f7, f8, f9, f10, f11, f12, f13, f14, f15, f16, f17, f18, f19, f20, f21, f22, f23, f24, f25, f26, f27, f28, f29, f30, f31⟩ := HF.out; exact ⟨f2 h2, f7 h7⟩)
      obtain ⟨rfl, rfl⟩ := HE.out
      clear HE
      simp only [Act.put, List.toList_toArray, List.take_succ_cons, List.take_zero, List.drop_succ_cons, List.drop_zero, List.cons_append, List.nil_append, List.setIfInBounds_toArray, List.set_cons_zero, List.set_cons_succ]
      go_simp
      exact hKK _ _ ⟨_, _, _, _, _, _, _, _, _, _, _, _, _, _, _, _, _, _, _, _, _, _, _, _, _, _, _, _, _, _, _, _, rfl, hB, Lib.hid (by obtain ⟨f0, f1, f2, f3, f4, f5, f6, f7, f8, f9, f10, f11, f12, f13, f14, f15, f16, f17, f18, f19, f20, f21, f22, f23, f24, f25, f26, f27, f28, f29, f30, f31⟩ := HF.out; exact ⟨f0, f1, fun _ => rfl, f3, f4, f5, f6, fun _ => rfl, fun _ => rfl, f9, f10, f11, f12, f13, f14, f15, f16, f17, f18, f19, f20, f21, f22, f23, f24, f25, f26, f27, f28, f29, f30, f31⟩)⟩
    · rintro D aa wx ⟨x75, x76, x77, x78, x79, x80, x81, x82, x83, x84, x85, x86, x87, x88, x89, x90, x91, x92, x93, x94, x95, x96, x97, x98, x99, x100, x101, x102, x103, x104, x105, x106, rfl, hB, HF⟩ hD hdep KK hKK
      simp [Region.binds] at hdep
      have h2 : D 2 = true := by simp [hdep]
      have h5 : D 5 = true := by simp [hdep]
      have h8 : D 8 = true := by simp [hdep]
      have HE := Lib.hid (show x77 = .bool false ∧ x80 = .int .i64 (NP : Int) ∧ x83 = .int .i64 (n : Int) by obtain ⟨f0, f1, f2, f3, f4, f5, f6, f7, f8, f9, f10, f11, f12, f13, f14, f15, f16, f17, f18, f19, f20, f21, f22, f23, f24, f25, f26, f27, f28, f29, f30, f31⟩ := HF.out; exact ⟨f2 h2, f5 h5, f8 h8⟩)
      obtain ⟨rfl, rfl, rfl⟩ := HE.out
      clear HE
      simp only [Act.put, List.toList_toArray, List.take_succ_cons, List.take_zero, List.drop_succ_cons, List.drop_zero, List.cons_append, List.nil_append, List.setIfInBounds_toArray, List.set_cons_zero, List.set_cons_succ]
      go_simp
      exact hKK _ _ ⟨_, _, _, _, _, _, _, _, _, _, _, _, _, _, _, _, _, _, _, _, _, _, _, _, _, _, _, _, _, _, _, _, rfl, hB, Lib.hid (by obtain ⟨f0, f1, f2, f3, f4, f5, f6, f7, f8, f9, f10, f11, f12, f13, f14, f15, f16, f17, f18, f19, f20, f21, f22, f23, f24, f25, f26, f27, f28, f29, f30, f31⟩ := HF.out; exact ⟨f0, f1, fun _ => rfl, f3, f4, fun _ => rfl, f6, f7, fun _ => rfl, fun _ => rfl, f10, f11, f12, f13, f14, f15, f16, f17, f18, f19, f20, f21, f22, f23, f24, f25, f26, f27, f28, f29, f30, f31⟩)⟩
    · rintro D aa wx ⟨x75, x76, x77, x78, x79, x80, x81, x82, x83, x84, x85, x86, x87, x88, x89, x90, x91, x92, x93, x94, x95, x96, x97, x98, x99, x100, x101, x102, x103, x104, x105, x106, rfl, hB, HF⟩ hD hdep KK hKK
      simp [Region.binds] at hdep
      have h2 : D 2 = true := by simp [hdep]
      have h9 : D 9 = true := by simp [hdep]
      have HE := Lib.hid (show x77 = .bool false ∧ x84 = .bool false by obtain ⟨f0, f1, f2, f3, f4, f5, f6, f7, f8, f9, f10, f11, f12, f13, f14, f15, f16, f17, f18, f19, f20, f21, f22, f23, f24, f25, f26, f27, f28, f29, f30, f31⟩ := HF.out; exact ⟨f2 h2, f9 h9⟩)
      obtain ⟨rfl, rfl⟩ := HE.out
      clear HE
      simp only [Act.put, List.toList_toArray, List.take_succ_cons, List.take_zero, List.drop_succ_cons, List.drop_zero, List.cons_append, List.nil_append, List.setIfInBounds_toArray, List.set_cons_zero, List.set_cons_succ]
      go_simp
      exact hKK _ _ ⟨_, _, _, _, _, _, _, _, _, _, _, _, _, _, _, _, _, _, _, _, _, _, _, _, _, _, _, _, _, _, _, _, rfl, hB, Lib.hid (by obtain ⟨f0, f1, f2, f3, f4, f5, f6, f7, f8, f9, f10, f11, f12, f13, f14, f15, f16, f17, f18, f19, f20, f21, f22, f23, f24, f25, f26, f27, f28, f29, f30, f31⟩ := HF.out; exact ⟨f0, f1, fun _ => rfl, f3, f4, f5, f6, f7, f8, fun _ => rfl, fun _ => rfl, f11, f12, f13, f14, f15, f16, f17, f18, f19, f20, f21, f22, f23, f24, f25, f26, f27, f28, f29, f30, f31⟩)⟩
    · rintro D aa wx ⟨x75, x76, x77, x78, x79, x80, x81, x82, x83, x84, x85, x86, x87, x88, x89, x90, x91, x92, x93, x94, x95, x96, x97, x98, x99, x100, x101, x102, x103, x104, x105, x106, rfl, hB, HF⟩ hD hdep KK hKK
      simp [Region.binds] at hdep
      have h10 : D 10 = true := by simp [hdep]
      have HE := Lib.hid (show x85 = .bool false by obtain ⟨f0, f1, f2, f3, f4, f5, f6, f7, f8, f9, f10, f11, f12, f13, f14, f15, f16, f17, f18, f19, f20, f21, f22, f23, f24, f25, f26, f27, f28, f29, f30, f31⟩ := HF.out; exact f10 h10)
      obtain rfl := HE.out
      clear HE
      simp only [Act.put, List.toList_toArray, List.take_succ_cons, List.take_zero, List.drop_succ_cons, List.drop_zero, List.cons_append, List.nil_append, List.setIfInBounds_toArray, List.set_cons_zero, List.set_cons_succ]
      go_simp
      exact hKK _ _ ⟨_, _, _, _, _, _, _, _, _, _, _, _, _, _, _, _, _, _, _, _, _, _, _, _, _, _, _, _, _, _, _, _, rfl, hB, Lib.hid (by obtain ⟨f0, f1, f2, f3, f4, f5, f6, f7, f8, f9, f10, f11, f12, f13, f14, f15, f16, f17, f18, f19, f20, f21, f22, f23, f24, f25, f26, f27, f28, f29, f30, f31⟩ := HF.out; exact ⟨f0, f1, f2, f3, f4, f5, f6, f7, f8, f9, fun _ => rfl, fun _ => rfl, f12, f13, f14, f15, f16, f17, f18, f19, f20, f21, f22, f23, f24, f25, f26, f27, f28, f29, f30, f31⟩)⟩
    · rintro D aa wx ⟨x75, x76, x77, x78, x79, x80, x81, x82, x83, x84, x85, x86, x87, x88, x89, x90, x91, x92, x93, x94, x95, x96, x97, x98, x99, x100, x101, x102, x103, x104, x105, x106, rfl, hB, HF⟩ hD hdep KK hKK
      simp [Region.binds] at hdep
      have h11 : D 11 = true := by simp [hdep]
      have HE := Lib.hid (show x86 = .bool false by obtain ⟨f0, f1, f2, f3, f4, f5, f6, f7, f8, f9, f10, f11, f12, f13, f14, f15, f16, f17, f18, f19, f20, f21, f22, f23, f24, f25, f26, f27, f28, f29, f30, f31⟩ := HF.out; exact f11 h11)
      obtain rfl := HE.out
      clear HE
      simp only [Act.put, List.toList_toArray, List.take_succ_cons, List.take_zero, List.drop_succ_cons, List.drop_zero, List.cons_append, List.nil_append, List.setIfInBounds_toArray, List.set_cons_zero, List.set_cons_succ]
      go_simp
      exact hKK _ _ ⟨_, _, _, _, _, _, _, _, _, _, _, _, _, _, _, _, _, _, _, _, _, _, _, _, _, _, _, _, _, _, _, _, rfl, hB, Lib.hid (by obtain ⟨f0, f1, f2, f3, f4, f5, f6, f7, f8, f9, f10, f11, f12, f13, f14, f15, f16, f17, f18, f19, f20, f21, f22, f23, f24, f25, f26, f27, f28, f29, f30, f31⟩ := HF.out; exact ⟨f0, f1, f2, f3, f4, f5, f6, f7, f8, f9, f10, fun _ => rfl, fun _ => rfl, f13, f14, f15, f16, f17, f18, f19, f20, f21, f22, f23, f24, f25, f26, f27, f28, f29, f30, f31⟩)⟩
    · rintro D aa wx ⟨x75, x76, x77, x78, x79, x80, x81, x82, x83, x84, x85, x86, x87, x88, x89, x90, x91, x92, x93, x94, x95, x96, x97, x98, x99, x100, x101, x102, x103, x104, x105, x106, rfl, hB, HF⟩ hD hdep KK hKK
      simp [Region.binds] at hdep
      have h11 : D 11 = true := by simp [hdep]
      have h12 : D 12 = true := by simp [hdep]
      have HE := Lib.hid (show x86 = .bool false ∧ x87 = .pointer (some ⟨g, 0, none⟩) by obtain ⟨f0, f1, f2, f3, f4, f5, f6, f7, f8, f9, f10, f11, f12, f13, f14, f15, f16, f17, f18, f19, f20, f21, f22, f23, f24, f25, f26, f27, f28, f29, f30, f31⟩ := HF.out; exact ⟨f11 h11, f12 h12⟩)
      obtain ⟨rfl, rfl⟩ := HE.out
      clear HE
      have c0 := (A10.nd.below hB).c0
      simp only [Act.put, List.toList_toArray, List.take_succ_cons, List.take_zero, List.drop_succ_cons, List.drop_zero, List.cons_append, List.nil_append, List.setIfInBounds_toArray, List.set_cons_zero, List.set_cons_succ]
      go_simp
      exact hKK _ _ ⟨_, _, _, _, _, _, _, _, _, _, _, _, _, _, _, _, _, _, _, _, _, _, _, _, _, _, _, _, _, _, _, _, rfl, hB, Lib.hid (by obtain ⟨f0, f1, f2, f3, f4, f5, f6, f7, f8, f9, f10, f11, f12, f13, f14, f15, f16, f17, f18, f19, f20, f21, f22, f23, f24, f25, f26, f27, f28, f29, f30, f31⟩ := HF.out; exact ⟨f0, f1, f2, f3, f4, f5, f6, f7, f8, f9, f10, fun _ => rfl, fun _ => rfl, fun _ => rfl, f14, f15, f16, f17, f18, f19, f20, f21, f22, f23, f24, f25, f26, f27, f28, f29, f30, f31⟩)⟩
    · rintro D aa wx ⟨x75, x76, x77, x78, x79, x80, x81, x82, x83, x84, x85, x86, x87, x88, x89, x90, x91, x92, x93, x94, x95, x96, x97, x98, x99, x100, x101, x102, x103, x104, x105, x106, rfl, hB, HF⟩ hD hdep KK hKK
      simp [Region.binds] at hdep
      have h11 : D 11 = true := by simp [hdep]
      have h13 : D 13 = true := by simp [hdep]
      have HE := Lib.hid (show x86 = .bool false ∧ x88 = .slice a1 NP c1 by obtain ⟨f0, f1, f2, f3, f4, f5, f6, f7, f8, f9, f10, f11, f12, f13, f14, f15, f16, f17, f18, f19, f20, f21, f22, f23, f24, f25, f26, f27, f28, f29, f30, f31⟩ := HF.out; exact ⟨f11 h11, f13 h13⟩)
      obtain ⟨rfl, rfl⟩ := HE.out
      clear HE
      simp only [Act.put, List.toList_toArray, List.take_succ_cons, List.take_zero, List.drop_succ_cons, List.drop_zero, List.cons_append, List.nil_append, List.setIfInBounds_toArray, List.set_cons_zero, List.set_cons_succ]
      go_simp
      exact hKK _ _ ⟨_, _, _, _, _, _, _, _, _, _, _, _, _, _, _, _, _, _, _, _, _, _, _, _, _, _, _, _, _, _, _, _, rfl, hB, Lib.hid (by obtain ⟨f0, f1, f2, f3, f4, f5, f6, f7, f8, f9, f10, f11, f12, f13, f14, f15, f16, f17, f18, f19, f20, f21, f22, f23, f24, f25, f26, f27, f28, f29, f30, f31⟩ := HF.out; exact ⟨f0, f1, f2, f3, f4, f5, f6, f7, f8, f9, f10, fun _ => rfl, f12, fun _ => rfl, fun _ => rfl, f15, f16, f17, f18, f19, f20, f21, f22, f23, f24, f25, f26, f27, f28, f29, f30, f31⟩)⟩
    · rintro D aa wx ⟨x75, x76, x77, x78, x79, x80, x81, x82, x83, x84, x85, x86, x87, x88, x89, x90, x91, x92, x93, x94, x95, x96, x97, x98, x99, x100, x101, x102, x103, x104, x105, x106, rfl, hB, HF⟩ hD hdep KK hKK
      simp [Region.binds] at hdep
      have h11 : D 11 = true := by simp [hdep]
      have HE := Lib.hid (show x86 = .bool false by obtain ⟨f0, f1, f2, f3, f4, f5, f6, f7, f8, f9, f10, f11, f12, f13, f14, f15, f16, f17, f18, f19, f20, f21, f22, f23, f24, f25, f26, f27, f28, f29, f30, f31⟩ := HF.out; exact f11 h11)
      obtain rfl := HE.out
      clear HE
      simp only [Act.put, List.toList_toArray, List.take_succ_cons, List.take_zero, List.drop_succ_cons, List.drop_zero, List.cons_append, List.nil_append, List.setIfInBounds_toArray, List.set_cons_zero, List.set_cons_succ]
      go_simp
      exact hKK _ _ ⟨_, _, _, _, _, _, _, _, _, _, _, _, _, _, _, _, _, _, _, _, _, _, _, _, _, _, _, _, _, _, _, _, rfl, hB, Lib.hid (by obtain ⟨f0, f1, f2, f3, f4, f5, f6, f7, f8, f9, f10, f11, f12, f13, f14, f15, f16, f17, f18, f19, f20, f21, f22, f23, f24, f25, f26, f27, f28, f29, f30, f31⟩ := HF.out; exact ⟨f0, f1, f2, f3, f4, f5, f6, f7, f8, f9, f10, fun _ => rfl, f12, f13, f14, fun _ => rfl, f16, f17, f18, f19, f20, f21, f22, f23, f24, f25, f26, f27, f28, f29, f30, f31⟩)⟩
    · rintro D aa wx ⟨x75, x76, x77, x78, x79, x80, x81, x82, x83, x84, x85, x86, x87, x88, x89, x90, x91, x92, x93, x94, x95, x96, x97, x98, x99, x100, x101, x102, x103, x104, x105, x106, rfl, hB, HF⟩ hD hdep KK hKK
      simp [Region.binds] at hdep
      have h11 : D 11 = true := by simp [hdep]
      have h15 : D 15 = true := by simp [hdep]
      have HE := Lib.hid (show x86 = .bool false ∧ x90 = .pointer (some ⟨w.heap.size, 0, none⟩) by obtain ⟨f0, f1, f2, f3, f4, f5, f6, f7, f8, f9, f10, f11, f12, f13, f14, f15, f16, f17, f18, f19, f20, f21, f22, f23, f24, f25, f26, f27, f28, f29, f30, f31⟩ := HF.out; exact ⟨f11 h11, f15 h15⟩)
      obtain ⟨rfl, rfl⟩ := HE.out
      clear HE
      have c0 := (A2.nd.below hB).c0
      simp only [Act.put, List.toList_toArray, List.take_succ_cons, List.take_zero, List.drop_succ_cons, List.drop_zero, List.cons_append, List.nil_append, List.setIfInBounds_toArray, List.set_cons_zero, List.set_cons_succ]
      go_simp
      exact hKK _ _ ⟨_, _, _, _, _, _, _, _, _, _, _, _, _, _, _, _, _, _, _, _, _, _, _, _, _, _, _, _, _, _, _, _, rfl, hB, Lib.hid (by obtain ⟨f0, f1, f2, f3, f4, f5, f6, f7, f8, f9, f10, f11, f12, f13, f14, f15, f16, f17, f18, f19, f20, f21, f22, f23, f24, f25, f26, f27, f28, f29, f30, f31⟩ := HF.out; exact ⟨f0, f1, f2, f3, f4, f5, f6, f7, f8, f9, f10, fun _ => rfl, f12, f13, f14, fun _ => rfl, fun _ => rfl, f17, f18, f19, f20, f21, f22, f23, f24, f25, f26, f27, f28, f29, f30, f31⟩)⟩
    · rintro D aa wx ⟨x75, x76, x77, x78, x79, x80, x81, x82, x83, x84, x85, x86, x87, x88, x89, x90, x91, x92, x93, x94, x95, x96, x97, x98, x99, x100, x101, x102, x103, x104, x105, x106, rfl, hB, HF⟩ hD hdep KK hKK
      simp [Region.binds] at hdep
      have h11 : D 11 = true := by simp [hdep]
      have h16 : D 16 = true := by simp [hdep]
      have HE := Lib.hid (show x86 = .bool false ∧ x91 = .slice a n c by obtain ⟨f0, f1, f2, f3, f4, f5, f6, f7, f8, f9, f10, f11, f12, f13, f14, f15, f16, f17, f18, f19, f20, f21, f22, f23, f24, f25, f26, f27, f28, f29, f30, f31⟩ := HF.out; exact ⟨f11 h11, f16 h16⟩)
      obtain ⟨rfl, rfl⟩ := HE.out
      clear HE
      simp only [Act.put, List.toList_toArray, List.take_succ_cons, List.take_zero, List.drop_succ_cons, List.drop_zero, List.cons_append, List.nil_append, List.setIfInBounds_toArray, List.set_cons_zero, List.set_cons_succ]
      go_simp
      exact hKK _ _ ⟨_, _, _, _, _, _, _, _, _, _, _, _, _, _, _, _, _, _, _, _, _, _, _, _, _, _, _, _, _, _, _, _, rfl, hB, Lib.hid (by obtain ⟨f0, f1, f2, f3, f4, f5, f6, f7, f8, f9, f10, f11, f12, f13, f14, f15, f16, f17, f18, f19, f20, f21, f22, f23, f24, f25, f26, f27, f28, f29, f30, f31⟩ := HF.out; exact ⟨f0, f1, f2, f3, f4, f5, f6, f7, f8, f9, f10, fun _ => rfl, f12, f13, f14, f15, fun _ => rfl, fun _ => rfl, f18, f19, f20, f21, f22, f23, f24, f25, f26, f27, f28, f29, f30, f31⟩)⟩
    · rintro D aa wx ⟨x75, x76, x77, x78, x79, x80, x81, x82, x83, x84, x85, x86, x87, x88, x89, x90, x91, x92, x93, x94, x95, x96, x97, x98, x99, x100, x101, x102, x103, x104, x105, x106, rfl, hB, HF⟩ hD hdep KK hKK
      simp [Region.binds] at hdep
      have h11 : D 11 = true := by simp [hdep]
      have h17 : D 17 = true := by simp [hdep]
      have HE := Lib.hid (show x86 = .bool false ∧ x92 = .int .i64 (n : Int) by obtain ⟨f0, f1, f2, f3, f4, f5, f6, f7, f8, f9, f10, f11, f12, f13, f14, f15, f16, f17, f18, f19, f20, f21, f22, f23, f24, f25, f26, f27, f28, f29, f30, f31⟩ := HF.out; exact ⟨f11 h11, f17 h17⟩)
      obtain ⟨rfl, rfl⟩ := HE.out
      clear HE
      simp only [Act.put, List.toList_toArray, List.take_succ_cons, List.take_zero, List.drop_succ_cons, List.drop_zero, List.cons_append, List.nil_append, List.setIfInBounds_toArray, List.set_cons_zero, List.set_cons_succ]
      go_simp
      exact hKK _ _ ⟨_, _, _, _, _, _, _, _, _, _, _, _, _, _, _, _, _, _, _, _, _, _, _, _, _, _, _, _, _, _, _, _, rfl, hB, Lib.hid (by obtain ⟨f0, f1, f2, f3, f4, f5, f6, f7, f8, f9, f10, f11, f12, f13, f14, f15, f16, f17, f18, f19, f20, f21, f22, f23, f24, f25, f26, f27, f28, f29, f30, f31⟩ := HF.out; exact ⟨f0, f1, f2, f3, f4, f5, f6, f7, f8, f9, f10, fun _ => rfl, f12, f13, f14, f15, f16, fun _ => rfl, fun _ => rfl, f19, f20, f21, f22, f23, f24, f25, f26, f27, f28, f29, f30, f31⟩)⟩
    · rintro D aa wx ⟨x75, x76, x77, x78, x79, x80, x81, x82, x83, x84, x85, x86, x87, x88, x89, x90, x91, x92, x93, x94, x95, x96, x97, x98, x99, x100, x101, x102, x103, x104, x105, x106, rfl, hB, HF⟩ hD hdep KK hKK
      simp [Region.binds] at hdep
      have h11 : D 11 = true := by simp [hdep]
      have h14 : D 14 = true := by simp [hdep]
      have h18 : D 18 = true := by simp [hdep]
      have HE := Lib.hid (show x86 = .bool false ∧ x89 = .int .i64 (NP : Int) ∧ x93 = .int .i64 ((n : Int) + 1) by obtain ⟨f0, f1, f2, f3, f4, f5, f6, f7, f8, f9, f10, f11, f12, f13, f14, f15, f16, f17, f18, f19, f20, f21, f22, f23, f24, f25, f26, f27, f28, f29, f30, f31⟩ := HF.out; exact ⟨f11 h11, f14 h14, f18 h18⟩)
      obtain ⟨rfl, rfl, rfl⟩ := HE.out
      clear HE
      simp only [Act.put, List.toList_toArray, List.take_succ_cons, List.take_zero, List.drop_succ_cons, List.drop_zero, List.cons_append, List.nil_append, List.setIfInBounds_toArray, List.set_cons_zero, List.set_cons_succ]
      go_simp
      exact hKK _ _ ⟨_, _, _, _, _, _, _, _, _, _, _, _, _, _, _, _, _, _, _, _, _, _, _, _, _, _, _, _, _, _, _, _, rfl, hB, Lib.hid (by obtain ⟨f0, f1, f2, f3, f4, f5, f6, f7, f8, f9, f10, f11, f12, f13, f14, f15, f16, f17, f18, f19, f20, f21, f22, f23, f24, f25, f26, f27, f28, f29, f30, f31⟩ := HF.out; exact ⟨f0, f1, f2, f3, f4, f5, f6, f7, f8, f9, f10, fun _ => rfl, f12, f13, fun _ => rfl, f15, f16, f17, fun _ => rfl, fun _ => rfl, f20, f21, f22, f23, f24, f25, f26, f27, f28, f29, f30, f31⟩)⟩
    · rintro D aa wx ⟨x75, x76, x77, x78, x79, x80, x81, x82, x83, x84, x85, x86, x87, x88, x89, x90, x91, x92, x93, x94, x95, x96, x97, x98, x99, x100, x101, x102, x103, x104, x105, x106, rfl, hB, HF⟩ hD hdep KK hKK
      simp [Region.binds] at hdep
      have h11 : D 11 = true := by simp [hdep]
      have h19 : D 19 = true := by simp [hdep]
      have HE := Lib.hid (show x86 = .bool false ∧ x94 = .bool false by obtain ⟨f0, f1, f2, f3, f4, f5, f6, f7, f8, f9, f10, f11, f12, f13, f14, f15, f16, f17, f18, f19, f20, f21, f22, f23, f24, f25, f26, f27, f28, f29, f30, f31⟩ := HF.out; exact ⟨f11 h11, f19 h19⟩)
      obtain ⟨rfl, rfl⟩ := HE.out
      clear HE
      simp only [Act.put, List.toList_toArray, List.take_succ_cons, List.take_zero, List.drop_succ_cons, List.drop_zero, List.cons_append, List.nil_append, List.setIfInBounds_toArray, List.set_cons_zero, List.set_cons_succ]
      go_simp
      exact hKK _ _ ⟨_, _, _, _, _, _, _, _, _, _, _, _, _, _, _, _, _, _, _, _, _, _, _, _, _, _, _, _, _, _, _, _, rfl, hB, Lib.hid (by obtain ⟨f0, f1, f2, f3, f4, f5, f6, f7, f8, f9, f10, f11, f12, f13, f14, f15, f16, f17, f18, f19, f20, f21, f22, f23, f24, f25, f26, f27, f28, f29, f30, f31⟩ := HF.out; exact ⟨f0, f1, f2, f3, f4, f5, f6, f7, f8, f9, f10, fun _ => rfl, f12, f13, f14, f15, f16, f17, f18, fun _ => rfl, fun _ => rfl, f21, f22, f23, f24, f25, f26, f27, f28, f29, f30, f31⟩)⟩
    · rintro D aa wx ⟨x75, x76, x77, x78, x79, x80, x81, x82, x83, x84, x85, x86, x87, x88, x89, x90, x91, x92, x93, x94, x95, x96, x97, x98, x99, x100, x101, x102, x103, x104, x105, x106, rfl, hB, HF⟩ hD hdep KK hKK
      simp [Region.binds] at hdep
      have h20 : D 20 = true := by simp [hdep]
      have HE := Lib.hid (show x95 = .bool false by obtain ⟨f0, f1, f2, f3, f4, f5, f6, f7, f8, f9, f10, f11, f12, f13, f14, f15, f16, f17, f18, f19, f20, f21, f22, f23, f24, f25, f26, f27, f28, f29, f30, f31⟩ := HF.out; exact f20 h20)
      obtain rfl := HE.out
      clear HE
      simp only [Act.put, List.toList_toArray, List.take_succ_cons, List.take_zero, List.drop_succ_cons, List.drop_zero, List.cons_append, List.nil_append, List.setIfInBounds_toArray, List.set_cons_zero, List.set_cons_succ]
      go_simp
      exact hKK _ _ ⟨_, _, _, _, _, _, _, _, _, _, _, _, _, _, _, _, _, _, _, _, _, _, _, _, _, _, _, _, _, _, _, _, rfl, hB, Lib.hid (by obtain ⟨f0, f1, f2, f3, f4, f5, f6, f7, f8, f9, f10, f11, f12, f13, f14, f15, f16, f17, f18, f19, f20, f21, f22, f23, f24, f25, f26, f27, f28, f29, f30, f31⟩ := HF.out; exact ⟨f0, f1, f2, f3, f4, f5, f6, f7, f8, f9, f10, f11, f12, f13, f14, f15, f16, f17, f18, f19, fun _ => rfl, fun _ => rfl, f22, f23, f24, f25, f26, f27, f28, f29, f30, f31⟩)⟩
    · rintro D aa wx ⟨x75, x76, x77, x78, x79, x80, x81, x82, x83, x84, x85, x86, x87, x88, x89, x90, x91, x92, x93, x94, x95, x96, x97, x98, x99, x100, x101, x102, x103, x104, x105, x106, rfl, hB, HF⟩ hD hdep KK hKK
      simp [Region.binds] at hdep
      have h21 : D 21 = true := by simp [hdep]
      have HE := Lib.hid (show x96 = .bool false by obtain ⟨f0, f1, f2, f3, f4, f5, f6, f7, f8, f9, f10, f11, f12, f13, f14, f15, f16, f17, f18, f19, f20, f21, f22, f23, f24, f25, f26, f27, f28, f29, f30, f31⟩ := HF.out; exact f21 h21)
      obtain rfl := HE.out
      clear HE
      have c0 := (A10.nd.below hB).c0
      have c1 := (A10.nd.below hB).c1
      simp only [Act.put, List.toList_toArray, List.take_succ_cons, List.take_zero, List.drop_succ_cons, List.drop_zero, List.cons_append, List.nil_append, List.setIfInBounds_toArray, List.set_cons_zero, List.set_cons_succ]
      go_simp
      exact hKK _ _ ⟨_, _, _, _, _, _, _, _, _, _, _, _, _, _, _, _, _, _, _, _, _, _, _, _, _, _, _, _, _, _, _, _, rfl, hB, Lib.hid (by obtain ⟨f0, f1, f2, f3, f4, f5, f6, f7, f8, f9, f10, f11, f12, f13, f14, f15, f16, f17, f18, f19, f20, f21, f22, f23, f24, f25, f26, f27, f28, f29, f30, f31⟩ := HF.out; exact ⟨f0, f1, f2, f3, f4, f5, f6, f7, f8, f9, f10, f11, f12, f13, f14, f15, f16, f17, f18, f19, f20, fun _ => rfl, fun _ => rfl, f23, f24, f25, f26, f27, f28, f29, f30, f31⟩)⟩
    · rintro D aa wx ⟨x75, x76, x77, x78, x79, x80, x81, x82, x83, x84, x85, x86, x87, x88, x89, x90, x91, x92, x93, x94, x95, x96, x97, x98, x99, x100, x101, x102, x103, x104, x105, x106, rfl, hB, HF⟩ hD hdep KK hKK
      simp [Region.binds] at hdep
      have h21 : D 21 = true := by simp [hdep]
      have h22 : D 22 = true := by simp [hdep]
      have HE := Lib.hid (show x96 = .bool false ∧ x97 = .agg #[.slice a1 NP c1, .slice a3 0 c3] by obtain ⟨f0, f1, f2, f3, f4, f5, f6, f7, f8, f9, f10, f11, f12, f13, f14, f15, f16, f17, f18, f19, f20, f21, f22, f23, f24, f25, f26, f27, f28, f29, f30, f31⟩ := HF.out; exact ⟨f21 h21, f22 h22⟩)
      obtain ⟨rfl, rfl⟩ := HE.out
      clear HE
      simp only [Act.put, List.toList_toArray, List.take_succ_cons, List.take_zero, List.drop_succ_cons, List.drop_zero, List.cons_append, List.nil_append, List.setIfInBounds_toArray, List.set_cons_zero, List.set_cons_succ]
      go_simp
      refine (KSP.out _ (A10.its.below hB)).mono ?_
      rintro e w14 ⟨rfl, hb⟩
      exact hKK _ _ ⟨_, _, _, _, _, _, _, _, _, _, _, _, _, _, _, _, _, _, _, _, _, _, _, _, _, _, _, _, _, _, _, _, rfl, below_to hB hb, Lib.hid (by obtain ⟨f0, f1, f2, f3, f4, f5, f6, f7, f8, f9, f10, f11, f12, f13, f14, f15, f16, f17, f18, f19, f20, f21, f22, f23, f24, f25, f26, f27, f28, f29, f30, f31⟩ := HF.out; exact ⟨f0, f1, f2, f3, f4, f5, f6, f7, f8, f9, f10, f11, f12, f13, f14, f15, f16, f17, f18, f19, f20, fun _ => rfl, fun _ => rfl, fun _ => rfl, f24, f25, f26, f27, f28, f29, f30, f31⟩)⟩
    · rintro D aa wx ⟨x75, x76, x77, x78, x79, x80, x81, x82, x83, x84, x85, x86, x87, x88, x89, x90, x91, x92, x93, x94, x95, x96, x97, x98, x99, x100, x101, x102, x103, x104, x105, x106, rfl, hB, HF⟩ hD hdep KK hKK
      simp [Region.binds] at hdep
      have h21 : D 21 = true := by simp [hdep]
      have HE := Lib.hid (show x96 = .bool false by obtain ⟨f0, f1, f2, f3, f4, f5, f6, f7, f8, f9, f10, f11, f12, f13, f14, f15, f16, f17, f18, f19, f20, f21, f22, f23, f24, f25, f26, f27, f28, f29, f30, f31⟩ := HF.out; exact f21 h21)
      obtain rfl := HE.out
      clear HE
      have c0 := (A2.nd.below hB).c0
      have c1 := (A2.nd.below hB).c1
      simp only [Act.put, List.toList_toArray, List.take_succ_cons, List.take_zero, List.drop_succ_cons, List.drop_zero, List.cons_append, List.nil_append, List.setIfInBounds_toArray, List.set_cons_zero, List.set_cons_succ]
      go_simp
      exact hKK _ _ ⟨_, _, _, _, _, _, _, _, _, _, _, _, _, _, _, _, _, _, _, _, _, _, _, _, _, _, _, _, _, _, _, _, rfl, hB, Lib.hid (by obtain ⟨f0, f1, f2, f3, f4, f5, f6, f7, f8, f9, f10, f11, f12, f13, f14, f15, f16, f17, f18, f19, f20, f21, f22, f23, f24, f25, f26, f27, f28, f29, f30, f31⟩ := HF.out; exact ⟨f0, f1, f2, f3, f4, f5, f6, f7, f8, f9, f10, f11, f12, f13, f14, f15, f16, f17, f18, f19, f20, fun _ => rfl, f22, f23, fun _ => rfl, f25, f26, f27, f28, f29, f30, f31⟩)⟩
    · rintro D aa wx ⟨x75, x76, x77, x78, x79, x80, x81, x82, x83, x84, x85, x86, x87, x88, x89, x90, x91, x92, x93, x94, x95, x96, x97, x98, x99, x100, x101, x102, x103, x104, x105, x106, rfl, hB, HF⟩ hD hdep KK hKK
      simp [Region.binds] at hdep
      have h21 : D 21 = true := by simp [hdep]
      have h24 : D 24 = true := by simp [hdep]
      have HE := Lib.hid (show x96 = .bool false ∧ x99 = .agg #[.slice a n c, .slice ka 0 kc] by obtain ⟨f0, f1, f2, f3, f4, f5, f6, f7, f8, f9, f10, f11, f12, f13, f14, f15, f16, f17, f18, f19, f20, f21, f22, f23, f24, f25, f26, f27, f28, f29, f30, f31⟩ := HF.out; exact ⟨f21 h21, f24 h24⟩)
      obtain ⟨rfl, rfl⟩ := HE.out
      clear HE
      simp only [Act.put, List.toList_toArray, List.take_succ_cons, List.take_zero, List.drop_succ_cons, List.drop_zero, List.cons_append, List.nil_append, List.setIfInBounds_toArray, List.set_cons_zero, List.set_cons_succ]
      go_simp
      refine (K2.out _).mono ?_
      rintro e w14 ⟨rfl, hb⟩
      exact hKK _ _ ⟨_, _, _, _, _, _, _, _, _, _, _, _, _, _, _, _, _, _, _, _, _, _, _, _, _, _, _, _, _, _, _, _, rfl, below_to hB hb, Lib.hid (by obtain ⟨f0, f1, f2, f3, f4, f5, f6, f7, f8, f9, f10, f11, f12, f13, f14, f15, f16, f17, f18, f19, f20, f21, f22, f23, f24, f25, f26, f27, f28, f29, f30, f31⟩ := HF.out; exact ⟨f0, f1, f2, f3, f4, f5, f6, f7, f8, f9, f10, f11, f12, f13, f14, f15, f16, f17, f18, f19, f20, fun _ => rfl, f22, f23, fun _ => rfl, fun _ => rfl, f26, f27, f28, f29, f30, f31⟩)⟩
    · rintro D aa wx ⟨x75, x76, x77, x78, x79, x80, x81, x82, x83, x84, x85, x86, x87, x88, x89, x90, x91, x92, x93, x94, x95, x96, x97, x98, x99, x100, x101, x102, x103, x104, x105, x106, rfl, hB, HF⟩ hD hdep KK hKK
      simp [Region.binds] at hdep
      have h21 : D 21 = true := by simp [hdep]
      have h25 : D 25 = true := by simp [hdep]
      have HE := Lib.hid (show x96 = .bool false ∧ x100 = .agg #[.slice a n c, .slice ka 0 kc] by obtain ⟨f0, f1, f2, f3, f4, f5, f6, f7, f8, f9, f10, f11, f12, f13, f14, f15, f16, f17, f18, f19, f20, f21, f22, f23, f24, f25, f26, f27, f28, f29, f30, f31⟩ := HF.out; exact ⟨f21 h21, f25 h25⟩)
      obtain ⟨rfl, rfl⟩ := HE.out
      clear HE
      simp only [Act.put, List.toList_toArray, List.take_succ_cons, List.take_zero, List.drop_succ_cons, List.drop_zero, List.cons_append, List.nil_append, List.setIfInBounds_toArray, List.set_cons_zero, List.set_cons_succ]
      go_simp
      refine (KSI.out _ (A2.its.below hB)).mono ?_
      rintro e w14 ⟨rfl, hb⟩
      exact hKK _ _ ⟨_, _, _, _, _, _, _, _, _, _, _, _, _, _, _, _, _, _, _, _, _, _, _, _, _, _, _, _, _, _, _, _, rfl, below_to hB hb, Lib.hid (by obtain ⟨f0, f1, f2, f3, f4, f5, f6, f7, f8, f9, f10, f11, f12, f13, f14, f15, f16, f17, f18, f19, f20, f21, f22, f23, f24, f25, f26, f27, f28, f29, f30, f31⟩ := HF.out; exact ⟨f0, f1, f2, f3, f4, f5, f6, f7, f8, f9, f10, f11, f12, f13, f14, f15, f16, f17, f18, f19, f20, fun _ => rfl, f22, f23, f24, fun _ => rfl, fun _ => rfl, f27, f28, f29, f30, f31⟩)⟩
    · rintro D aa wx ⟨x75, x76, x77, x78, x79, x80, x81, x82, x83, x84, x85, x86, x87, x88, x89, x90, x91, x92, x93, x94, x95, x96, x97, x98, x99, x100, x101, x102, x103, x104, x105, x106, rfl, hB, HF⟩ hD hdep KK hKK
      simp [Region.binds] at hdep
      have h21 : D 21 = true := by simp [hdep]
      have HE := Lib.hid (show x96 = .bool false by obtain ⟨f0, f1, f2, f3, f4, f5, f6, f7, f8, f9, f10, f11, f12, f13, f14, f15, f16, f17, f18, f19, f20, f21, f22, f23, f24, f25, f26, f27, f28, f29, f30, f31⟩ := HF.out; exact f21 h21)
      obtain rfl := HE.out
      clear HE
      have c0 := (A9.nd.below hB).c0
      have c1 := (A9.nd.below hB).c1
      simp only [Act.put, List.toList_toArray, List.take_succ_cons, List.take_zero, List.drop_succ_cons, List.drop_zero, List.cons_append, List.nil_append, List.setIfInBounds_toArray, List.set_cons_zero, List.set_cons_succ]
      go_simp
      exact hKK _ _ ⟨_, _, _, _, _, _, _, _, _, _, _, _, _, _, _, _, _, _, _, _, _, _, _, _, _, _, _, _, _, _, _, _, rfl, hB, Lib.hid (by obtain ⟨f0, f1, f2, f3, f4, f5, f6, f7, f8, f9, f10, f11, f12, f13, f14, f15, f16, f17, f18, f19, f20, f21, f22, f23, f24, f25, f26, f27, f28, f29, f30, f31⟩ := HF.out; exact ⟨f0, f1, f2, f3, f4, f5, f6, f7, f8, f9, f10, f11, f12, f13, f14, f15, f16, f17, f18, f19, f20, fun _ => rfl, f22, f23, f24, f25, f26, fun _ => rfl, f28, f29, f30, f31⟩)⟩
    · rintro D aa wx ⟨x75, x76, x77, x78, x79, x80, x81, x82, x83, x84, x85, x86, x87, x88, x89, x90, x91, x92, x93, x94, x95, x96, x97, x98, x99, x100, x101, x102, x103, x104, x105, x106, rfl, hB, HF⟩ hD hdep KK hKK
      simp [Region.binds] at hdep
      have h21 : D 21 = true := by simp [hdep]
      have h27 : D 27 = true := by simp [hdep]
      have HE := Lib.hid (show x96 = .bool false ∧ x102 = .agg #[.slice (some ⟨g9, 0, none⟩) 1 1, .slice none 0 0] by obtain ⟨f0, f1, f2, f3, f4, f5, f6, f7, f8, f9, f10, f11, f12, f13, f14, f15, f16, f17, f18, f19, f20, f21, f22, f23, f24, f25, f26, f27, f28, f29, f30, f31⟩ := HF.out; exact ⟨f21 h21, f27 h27⟩)
      obtain ⟨rfl, rfl⟩ := HE.out
      clear HE
      simp only [Act.put, List.toList_toArray, List.take_succ_cons, List.take_zero, List.drop_succ_cons, List.drop_zero, List.cons_append, List.nil_append, List.setIfInBounds_toArray, List.set_cons_zero, List.set_cons_succ]
      go_simp
      refine (KS1.out _ (A9.its.below hB)).mono ?_
      rintro e w14 ⟨rfl, hb⟩
      exact hKK _ _ ⟨_, _, _, _, _, _, _, _, _, _, _, _, _, _, _, _, _, _, _, _, _, _, _, _, _, _, _, _, _, _, _, _, rfl, below_to hB hb, Lib.hid (by obtain ⟨f0, f1, f2, f3, f4, f5, f6, f7, f8, f9, f10, f11, f12, f13, f14, f15, f16, f17, f18, f19, f20, f21, f22, f23, f24, f25, f26, f27, f28, f29, f30, f31⟩ := HF.out; exact ⟨f0, f1, f2, f3, f4, f5, f6, f7, f8, f9, f10, f11, f12, f13, f14, f15, f16, f17, f18, f19, f20, fun _ => rfl, f22, f23, f24, f25, f26, fun _ => rfl, fun _ => rfl, f29, f30, f31⟩)⟩
    · rintro D aa wx ⟨x75, x76, x77, x78, x79, x80, x81, x82, x83, x84, x85, x86, x87, x88, x89, x90, x91, x92, x93, x94, x95, x96, x97, x98, x99, x100, x101, x102, x103, x104, x105, x106, rfl, hB, HF⟩ hD hdep KK hKK
      simp [Region.binds] at hdep
      have h21 : D 21 = true := by simp [hdep]
      have h26 : D 26 = true := by simp [hdep]
      have h28 : D 28 = true := by simp [hdep]
      have HE := Lib.hid (show x96 = .bool false ∧ x101 = .int .i64 (uI : Int) ∧ x103 = .int .i64 (u1 : Int) by obtain ⟨f0, f1, f2, f3, f4, f5, f6, f7, f8, f9, f10, f11, f12, f13, f14, f15, f16, f17, f18, f19, f20, f21, f22, f23, f24, f25, f26, f27, f28, f29, f30, f31⟩ := HF.out; exact ⟨f21 h21, f26 h26, f28 h28⟩)
      obtain ⟨rfl, rfl, rfl⟩ := HE.out
      clear HE
      simp only [Act.put, List.toList_toArray, List.take_succ_cons, List.take_zero, List.drop_succ_cons, List.drop_zero, List.cons_append, List.nil_append, List.setIfInBounds_toArray, List.set_cons_zero, List.set_cons_succ]
      go_simp
      exact hKK _ _ ⟨_, _, _, _, _, _, _, _, _, _, _, _, _, _, _, _, _, _, _, _, _, _, _, _, _, _, _, _, _, _, _, _, rfl, hB, Lib.hid (by obtain ⟨f0, f1, f2, f3, f4, f5, f6, f7, f8, f9, f10, f11, f12, f13, f14, f15, f16, f17, f18, f19, f20, f21, f22, f23, f24, f25, f26, f27, f28, f29, f30, f31⟩ := HF.out; exact ⟨f0, f1, f2, f3, f4, f5, f6, f7, f8, f9, f10, f11, f12, f13, f14, f15, f16, f17, f18, f19, f20, fun _ => rfl, f22, f23, f24, f25, fun _ => rfl, f27, fun _ => rfl, fun _ => rfl, f30, f31⟩)⟩
    · rintro D aa wx ⟨x75, x76, x77, x78, x79, x80, x81, x82, x83, x84, x85, x86, x87, x88, x89, x90, x91, x92, x93, x94, x95, x96, x97, x98, x99, x100, x101, x102, x103, x104, x105, x106, rfl, hB, HF⟩ hD hdep KK hKK
      simp [Region.binds] at hdep
      have h21 : D 21 = true := by simp [hdep]
      have h23 : D 23 = true := by simp [hdep]
      have h29 : D 29 = true := by simp [hdep]
      have HE := Lib.hid (show x96 = .bool false ∧ x98 = .int .i64 (uP : Int) ∧ x104 = .int .i64 ((uI : Int) + (u1 : Int)) by obtain ⟨f0, f1, f2, f3, f4, f5, f6, f7, f8, f9, f10, f11, f12, f13, f14, f15, f16, f17, f18, f19, f20, f21, f22, f23, f24, f25, f26, f27, f28, f29, f30, f31⟩ := HF.out; exact ⟨f21 h21, f23 h23, f29 h29⟩)
      obtain ⟨rfl, rfl, rfl⟩ := HE.out
      clear HE
      simp only [Act.put, List.toList_toArray, List.take_succ_cons, List.take_zero, List.drop_succ_cons, List.drop_zero, List.cons_append, List.nil_append, List.setIfInBounds_toArray, List.set_cons_zero, List.set_cons_succ]
      go_simp
      exact hKK _ _ ⟨_, _, _, _, _, _, _, _, _, _, _, _, _, _, _, _, _, _, _, _, _, _, _, _, _, _, _, _, _, _, _, _, rfl, hB, Lib.hid (by obtain ⟨f0, f1, f2, f3, f4, f5, f6, f7, f8, f9, f10, f11, f12, f13, f14, f15, f16, f17, f18, f19, f20, f21, f22, f23, f24, f25, f26, f27, f28, f29, f30, f31⟩ := HF.out; exact ⟨f0, f1, f2, f3, f4, f5, f6, f7, f8, f9, f10, f11, f12, f13, f14, f15, f16, f17, f18, f19, f20, fun _ => rfl, f22, fun _ => rfl, f24, f25, f26, f27, f28, fun _ => rfl, fun _ => rfl, f31⟩)⟩
    · rintro D aa wx ⟨x75, x76, x77, x78, x79, x80, x81, x82, x83, x84, x85, x86, x87, x88, x89, x90, x91, x92, x93, x94, x95, x96, x97, x98, x99, x100, x101, x102, x103, x104, x105, x106, rfl, hB, HF⟩ hD hdep KK hKK
      simp [Region.binds] at hdep
      have h21 : D 21 = true := by simp [hdep]
      have h30 : D 30 = true := by simp [hdep]
      have HE := Lib.hid (show x96 = .bool false ∧ x105 = .bool false by obtain ⟨f0, f1, f2, f3, f4, f5, f6, f7, f8, f9, f10, f11, f12, f13, f14, f15, f16, f17, f18, f19, f20, f21, f22, f23, f24, f25, f26, f27, f28, f29, f30, f31⟩ := HF.out; exact ⟨f21 h21, f30 h30⟩)
      obtain ⟨rfl, rfl⟩ := HE.out
      clear HE
      simp only [Act.put, List.toList_toArray, List.take_succ_cons, List.take_zero, List.drop_succ_cons, List.drop_zero, List.cons_append, List.nil_append, List.setIfInBounds_toArray, List.set_cons_zero, List.set_cons_succ]
      go_simp
      exact hKK _ _ ⟨_, _, _, _, _, _, _, _, _, _, _, _, _, _, _, _, _, _, _, _, _, _, _, _, _, _, _, _, _, _, _, _, rfl, hB, Lib.hid (by obtain ⟨f0, f1, f2, f3, f4, f5, f6, f7, f8, f9, f10, f11, f12, f13, f14, f15, f16, f17, f18, f19, f20, f21, f22, f23, f24, f25, f26, f27, f28, f29, f30, f31⟩ := HF.out; exact ⟨f0, f1, f2, f3, f4, f5, f6, f7, f8, f9, f10, f11, f12, f13, f14, f15, f16, f17, f18, f19, f20, fun _ => rfl, f22, f23, f24, f25, f26, f27, f28, f29, fun _ => rfl, fun _ => rfl⟩)⟩
  rintro D aa w15 ⟨x75, x76, x77, x78, x79, x80, x81, x82, x83, x84, x85, x86, x87, x88, x89, x90, x91, x92, x93, x94, x95, x96, x97, x98, x99, x100, x101, x102, x103, x104, x105, x106, rfl, hb, HF⟩ hD
  have e31 : x106 = .bool false := by obtain ⟨f0, f1, f2, f3, f4, f5, f6, f7, f8, f9, f10, f11, f12, f13, f14, f15, f16, f17, f18, f19, f20, f21, f22, f23, f24, f25, f26, f27, f28, f29, f30, f31⟩ := HF.out; exact f31 (hD 31 (by simp))
  subst e31
  simp only [Act.put, List.toList_toArray, List.take_succ_cons, List.take_zero, List.drop_succ_cons, List.drop_zero, List.cons_append, List.nil_append]
  clear HF hD
  replace A2 := A2.below hb
  replace A3 := A3.below hb
  replace A9 := A9.below hb
  replace A10 := A10.below hb
  replace BB := below_to BB hb
  clear hb q1 q2 q3 q4 q5 q1n q2n q3n KF KSI KS1 A3 A9 A2 K2
  have h1' : NP ≤ c1 := h1
  have hnP : P.length = NP := A10.its.1
  by_cases h2 : NP < 2
  case pos =>
    have hRP : RightP P [] := by rw [hone h2]; exact hR1
    obtain rfl : NP = 1 := by omega
    have KC := Lib.hid (fun (w : World) (h1 : Its w a1 1 P) (h2 : Kds w a3 0 []) => check_any (c := c1) (kc := c3) h1 h2 (by omega) (by omega) hSP 0 (chk_yes hRP))
    have c0 := A10.nd.c0
    have c1' := A10.nd.c1
    clear KSP hrs hone hln1 hln2 hhas
    go_wp2_with fail
    refine (KC.out _ A10.its A10.kds).mono ?_
    rintro e w16 ⟨rfl, hb⟩
    replace A10 := A10.below hb
    replace BB := below_to BB hb
    clear hb c0 c1'
    have c0 := A10.nd.c0
    have c1' := A10.nd.c1
    go_wp2_with fail
    refine (KC.out _ A10.its A10.kds).mono ?_
    rintro e w17 ⟨rfl, hb⟩
    replace BB := below_to BB hb
    clear hb c0 c1'
    go_wp2_with fail
    go_ret
    exact ⟨rfl, BB⟩
  obtain ⟨x, hx⟩ : ∃ x, halfN true P = x := ⟨_, rfl⟩
  obtain ⟨hx1, hxn, hRa, hRb, hbig, hka, hkb⟩ := cut_math hokP hriP hbyP (by omega) hx
  rw [hnP] at hxn
  have K9 := Lib.hid (fun (w : World) (h1 : Its w a1 NP P) => cutLeaf_any (ka := a3) (kc := c3) h1 (by omega) (by omega) h1' hSP x hx)
  unfold CutRet at K9
  have hdl : decide ((NP : Int) < 2) = false := decide_eq_false (by omega)
  have hxr := hxn
  obtain ⟨rn, hrn⟩ : ∃ r, NP - x = r := ⟨_, rfl⟩
  obtain ⟨xp, hxp⟩ : ∃ r, x - 1 = r := ⟨_, rfl⟩
  obtain ⟨pk, hpk⟩ : ∃ r, kq P x = r := ⟨_, rfl⟩
  obtain ⟨pa, hpa⟩ : ∃ r, kq (P.take x) xp = r := ⟨_, rfl⟩
  rw [hxp] at hka
  rw [hpa, hpk] at hka
  rw [hpk] at K9
  have hlt : Op.bytesLess pa.toList pk.toList = true := by
    rw [ByteArray.toList_eq, ByteArray.toList_eq]; exact hka
  have hSa : Short (P.take x) := fun y hy => hSP y (List.mem_of_mem_take hy)
  have hSb : Short (P.drop x) := fun y hy => hSP y (List.mem_of_mem_drop hy)
  by_cases hRP : RightP P []
  case pos =>
    have hu := hrs.1 hRP
    have hdu : decide ((uP : Int) ≤ 480) = true := by simp; omega
    have KC := Lib.hid (fun (w : World) (h1 : Its w a1 NP P) (h2 : Kds w a3 0 []) => check_any (c := c1) (kc := c3) h1 h2 (by omega) (by omega) hSP 0 (chk_yes hRP))
    have KJ := Lib.hid (fun (w : World) (ca cc cka ckc da dc dka dkc) (h1 : Its w ca x (P.take x)) (h2 : Its w da rn (P.drop x)) (h3 : Kds w cka 0 []) (h4 : Kds w dka 0 []) => joinLeaf_any (c := cc) (kc := ckc) (c2 := dc) (kc2 := dkc) h1 h2 h3 h4 pk rfl rfl (by omega) (by omega) (by omega) (by omega) P (by simp) hSP [] rfl)
    unfold JoinRet at KJ
    have c0 := A10.nd.c0
    have c1' := A10.nd.c1
    go_wp2_with fail
    refine (KC.out _ A10.its A10.kds).mono ?_
    rintro e w16 ⟨rfl, hb⟩
    replace A10 := A10.below hb
    replace BB := below_to BB hb
    clear hb c0 c1' KC
    have c0 := A10.nd.c0
    have c1' := A10.nd.c1
    go_wp2_with fail
    refine (K9.out _ A10.its).mono ?_
    rintro e w17 ⟨ca, cn, cc, cka, ckn, ckc, da, dn, dc, dka, dkn, dkc, rfl, ⟨k1, k2, k3, k4⟩, ⟨f1, f2, f3, f4⟩, hI1, hK1, hI2, hK2, hb⟩
    obtain rfl : x = cn := by rw [← hI1.1, List.length_take, hnP]; omega
    obtain rfl : 0 = ckn := hK1.1
    obtain rfl : rn = dn := by rw [← hI2.1, List.length_drop, hnP]; exact hrn.symm
    obtain rfl : 0 = dkn := hK2.1
    replace A10 := A10.below hb
    replace BB := below_to BB hb
    clear hb c0 c1' k1 k2 k3 k4 f1 f2 f3 f4 K9
    go_upto_region 19 with (fail)
    have hb := below_to (new_below w17 (.cells #[.slice ca x cc, .slice cka 0 ckc] 31)) (new_below _ (.cells #[.slice da rn dc, .slice dka 0 dkc] 31))
    have A13 := (NodeAt.new (c := cc) (kc := ckc) hI1 hK1 31).below (new_below _ (.cells #[.slice da rn dc, .slice dka 0 dkc] 31))
    have A15 := NodeAt.new (w := w17.alloc (.cells #[.slice ca x cc, .slice cka 0 ckc] 31)) (c := dc) (kc := dkc) (hI2.below (new_below _ _)) (hK2.below (new_below _ _)) 31
    have hs : (w17.alloc (.cells #[.slice ca x cc, .slice cka 0 ckc] 31)).heap.size = w17.heap.size + 1 := by simp
    rw [hs] at A15
    replace A10 := A10.below hb
    replace BB := below_to BB hb
    clear hb hs hI1 hK1 hI2 hK2
    generalize (w17.alloc (.cells #[.slice ca x cc, .slice cka 0 ckc] 31)).alloc (.cells #[.slice da rn dc, .slice dka 0 dkc] 31) = w18 at A10 A13 A15 BB ⊢
    generalize w17.heap.size = g13 at A13 A15 ⊢
    have c0 := A13.nd.c0
    have c1' := A13.nd.c1
    have d0 := A15.nd.c0
    have d1 := A15.nd.c1
    go_wp2_with fail
    refine (KJ.out _ _ _ _ _ _ _ _ _ A13.its A15.its A13.kds A15.kds).mono ?_
    rintro e w19 ⟨ja, jn, jc, jka, jkn, jkc, rfl, jl1, jl2, jf1, jf2, hJI, hJK, hb⟩
    rw [if_pos hRP] at hJI hJK
    rw [decide_eq_true hRP]
    obtain rfl : NP = jn := by rw [← hJI.1, hnP]
    obtain rfl : 0 = jkn := hJK.1
    replace A10 := A10.below hb
    replace A13 := A13.below hb
    replace A15 := A15.below hb
    replace BB := below_to BB hb
    clear hb c0 c1' d0 d1 jl1 jl2 jf1 jf2 KJ
    go_upto_region 20 with (fail)
    have hb := new_below w19 (.cells #[.slice ja NP jc, .slice jka 0 jkc] 31)
    have A16 := NodeAt.new (c := jc) (kc := jkc) hJI hJK 31
    replace A10 := A10.below hb
    replace A13 := A13.below hb
    replace A15 := A15.below hb
    replace BB := below_to BB hb
    clear hb hJI hJK
    generalize w19.alloc (.cells #[.slice ja NP jc, .slice jka 0 jkc] 31) = w20 at A10 A13 A15 A16 BB ⊢
    generalize w19.heap.size = g16 at A16 ⊢
    have KA := Lib.hid (fun (w : World) (h1 : Its w ca x (P.take x)) (h2 : Kds w cka 0 []) => check_any (c := cc) (kc := ckc) h1 h2 (by omega) (by omega) hSa 0 (chk_yes hRa))
    have KB := Lib.hid (fun (w : World) (h1 : Its w da rn (P.drop x)) (h2 : Kds w dka 0 []) => check_any (c := dc) (kc := dkc) h1 h2 (by omega) (by omega) hSb 0 (chk_yes hRb))
    have c0 := A13.nd.c0
    have c1' := A13.nd.c1
    go_wp2_with fail
    refine (KA.out _ A13.its A13.kds).mono ?_
    rintro e w21 ⟨rfl, hb⟩
    replace A10 := A10.below hb
    replace A13 := A13.below hb
    replace A15 := A15.below hb
    replace A16 := A16.below hb
    replace BB := below_to BB hb
    clear hb c0 c1' KA
    have c0 := A15.nd.c0
    have c1' := A15.nd.c1
    go_wp2_with fail
    refine (KB.out _ A15.its A15.kds).mono ?_
    rintro e w22 ⟨rfl, hb⟩
    replace A10 := A10.below hb
    replace A13 := A13.below hb
    replace A15 := A15.below hb
    replace A16 := A16.below hb
    replace BB := below_to BB hb
    clear hb c0 c1' KB
    have c0 := A10.nd.c0
    have c1' := A10.nd.c1
    go_wp2_with fail
    refine (KSP.out _ A10.its).mono ?_
    rintro e w23 ⟨rfl, hb⟩
    replace A10 := A10.below hb
    replace A13 := A13.below hb
    replace A15 := A15.below hb
    replace A16 := A16.below hb
    replace BB := below_to BB hb
    clear hb c0 c1'
    have KM := Lib.hid (fun (w : World) (h1 : Its w ja NP P) (h2 : Its w a1 NP P) (h3 : Kds w jka 0 []) => same_any (c := jc) (c' := c1) (kc := jkc) (kc' := 0) h1 h2 h3 (show Kds w none 0 [] from ⟨rfl, .inl rfl⟩) (by omega) (by omega))
    have c0 := A10.nd.c0
    have c1' := A10.nd.c1
    have d0 := A16.nd.c0
    have d1 := A16.nd.c1
    go_wp2_with fail
    refine (KM.out _ A16.its A10.its A16.kds).mono ?_
    rintro e w24 ⟨rfl, hb⟩
    replace A10 := A10.below hb
    replace A13 := A13.below hb
    replace A15 := A15.below hb
    replace A16 := A16.below hb
    replace BB := below_to BB hb
    clear hb c0 c1' d0 d1 KM
    obtain ⟨ba, oa, rfl, hba, ea, -⟩ := A13.its.at (show xp < x by omega)
    obtain ⟨bb, ob, rfl, hbb, eb, -⟩ := A15.its.at (show 0 < rn by omega)
    rw [hpa] at ea
    rw [hkb, hpk] at eb
    have c0 := A13.nd.c0
    have d0 := A15.nd.c0
    have e0 := A10.nd.c0
    have e1 := A10.nd.c1
    rw [Nat.zero_mul, Nat.add_zero] at eb
    have q1 : IntKind.i64.wrap ((x : Int) + (rn : Int)) = (NP : Int) := by rw [show (x : Int) + (rn : Int) = (NP : Int) by omega]; exact IntWalk.i64_in _ (by omega)
    have q2 : IntKind.i64.wrap ((x : Int) - 1) = (xp : Int) := by rw [show (x : Int) - 1 = (xp : Int) by omega]; exact IntWalk.i64_in _ (by omega)
    have q3 : xp < x := by omega
    have q4 : 0 < rn := by omega
    have q5 : rn ≤ 4096 := by omega
    clear hka hkb hpa hpk hxp hrn
    go_wp2_with fail
    refine (KSP.out _ A10.its).mono ?_
    rintro e w25 ⟨rfl, hb⟩
    replace A10 := A10.below hb
    replace A13 := A13.below hb
    replace A15 := A15.below hb
    replace BB := below_to BB hb
    clear hb c0 d0 e0 e1 ea eb
    go_wp2_with fail
    go_ret
    exact ⟨rfl, BB⟩
  case neg =>
    have hu : ¬ uP ≤ 480 := fun h => hRP (hrs.2 h)
    have hdu : decide ((uP : Int) ≤ 480) = false := by simp; omega
    have KC := Lib.hid (fun (w : World) (h1 : Its w a1 NP P) (h2 : Kds w a3 0 []) => check_any (c := c1) (kc := c3) h1 h2 (by omega) (by omega) hSP 18 (chk_not hRP))
    have KJ := Lib.hid (fun (w : World) (ca cc cka ckc da dc dka dkc) (h1 : Its w ca x (P.take x)) (h2 : Its w da rn (P.drop x)) (h3 : Kds w cka 0 []) (h4 : Kds w dka 0 []) => joinLeaf_any (c := cc) (kc := ckc) (c2 := dc) (kc2 := dkc) h1 h2 h3 h4 pk rfl rfl (by omega) (by omega) (by omega) (by omega) P (by simp) hSP [] rfl)
    unfold JoinRet at KJ
    have c0 := A10.nd.c0
    have c1' := A10.nd.c1
    go_wp2_with fail
    refine (KC.out _ A10.its A10.kds).mono ?_
    rintro e w16 ⟨rfl, hb⟩
    replace A10 := A10.below hb
    replace BB := below_to BB hb
    clear hb c0 c1' KC
    have c0 := A10.nd.c0
    have c1' := A10.nd.c1
    go_wp2_with fail
    refine (KSP.out _ A10.its).mono ?_
    rintro e w16b ⟨rfl, hb⟩
    replace A10 := A10.below hb
    replace BB := below_to BB hb
    clear hb c0 c1'
    have c0 := A10.nd.c0
    have c1' := A10.nd.c1
    go_wp2_with fail
    refine (K9.out _ A10.its).mono ?_
    rintro e w17 ⟨ca, cn, cc, cka, ckn, ckc, da, dn, dc, dka, dkn, dkc, rfl, ⟨k1, k2, k3, k4⟩, ⟨f1, f2, f3, f4⟩, hI1, hK1, hI2, hK2, hb⟩
    obtain rfl : x = cn := by rw [← hI1.1, List.length_take, hnP]; omega
    obtain rfl : 0 = ckn := hK1.1
    obtain rfl : rn = dn := by rw [← hI2.1, List.length_drop, hnP]; exact hrn.symm
    obtain rfl : 0 = dkn := hK2.1
    replace A10 := A10.below hb
    replace BB := below_to BB hb
    clear hb c0 c1' k1 k2 k3 k4 f1 f2 f3 f4 K9
    go_upto_region 19 with (fail)
    have hb := below_to (new_below w17 (.cells #[.slice ca x cc, .slice cka 0 ckc] 31)) (new_below _ (.cells #[.slice da rn dc, .slice dka 0 dkc] 31))
    have A13 := (NodeAt.new (c := cc) (kc := ckc) hI1 hK1 31).below (new_below _ (.cells #[.slice da rn dc, .slice dka 0 dkc] 31))
    have A15 := NodeAt.new (w := w17.alloc (.cells #[.slice ca x cc, .slice cka 0 ckc] 31)) (c := dc) (kc := dkc) (hI2.below (new_below _ _)) (hK2.below (new_below _ _)) 31
    have hs : (w17.alloc (.cells #[.slice ca x cc, .slice cka 0 ckc] 31)).heap.size = w17.heap.size + 1 := by simp
    rw [hs] at A15
    replace A10 := A10.below hb
    replace BB := below_to BB hb
    clear hb hs hI1 hK1 hI2 hK2
    generalize (w17.alloc (.cells #[.slice ca x cc, .slice cka 0 ckc] 31)).alloc (.cells #[.slice da rn dc, .slice dka 0 dkc] 31) = w18 at A10 A13 A15 BB ⊢
    generalize w17.heap.size = g13 at A13 A15 ⊢
    have c0 := A13.nd.c0
    have c1' := A13.nd.c1
    have d0 := A15.nd.c0
    have d1 := A15.nd.c1
    go_wp2_with fail
    refine (KJ.out _ _ _ _ _ _ _ _ _ A13.its A15.its A13.kds A15.kds).mono ?_
    rintro e w19 ⟨ja, jn, jc, jka, jkn, jkc, rfl, jl1, jl2, jf1, jf2, hJI, hJK, hb⟩
    rw [if_neg hRP] at hJI hJK
    rw [decide_eq_false hRP]
    obtain rfl : 0 = jn := hJI.1
    obtain rfl : 0 = jkn := hJK.1
    replace A10 := A10.below hb
    replace A13 := A13.below hb
    replace A15 := A15.below hb
    replace BB := below_to BB hb
    clear hb c0 c1' d0 d1 jl1 jl2 jf1 jf2 KJ
    go_upto_region 20 with (fail)
    have hb := new_below w19 (.cells #[.slice ja 0 jc, .slice jka 0 jkc] 31)
    have A16 := NodeAt.new (c := jc) (kc := jkc) hJI hJK 31
    replace A10 := A10.below hb
    replace A13 := A13.below hb
    replace A15 := A15.below hb
    replace BB := below_to BB hb
    clear hb hJI hJK
    generalize w19.alloc (.cells #[.slice ja 0 jc, .slice jka 0 jkc] 31) = w20 at A10 A13 A15 A16 BB ⊢
    generalize w19.heap.size = g16 at A16 ⊢
    have KA := Lib.hid (fun (w : World) (h1 : Its w ca x (P.take x)) (h2 : Kds w cka 0 []) => check_any (c := cc) (kc := ckc) h1 h2 (by omega) (by omega) hSa 0 (chk_yes hRa))
    have KB := Lib.hid (fun (w : World) (h1 : Its w da rn (P.drop x)) (h2 : Kds w dka 0 []) => check_any (c := dc) (kc := dkc) h1 h2 (by omega) (by omega) hSb 0 (chk_yes hRb))
    have c0 := A13.nd.c0
    have c1' := A13.nd.c1
    go_wp2_with fail
    refine (KA.out _ A13.its A13.kds).mono ?_
    rintro e w21 ⟨rfl, hb⟩
    replace A10 := A10.below hb
    replace A13 := A13.below hb
    replace A15 := A15.below hb
    replace A16 := A16.below hb
    replace BB := below_to BB hb
    clear hb c0 c1' KA
    have c0 := A15.nd.c0
    have c1' := A15.nd.c1
    go_wp2_with fail
    refine (KB.out _ A15.its A15.kds).mono ?_
    rintro e w22 ⟨rfl, hb⟩
    replace A10 := A10.below hb
    replace A13 := A13.below hb
    replace A15 := A15.below hb
    replace A16 := A16.below hb
    replace BB := below_to BB hb
    clear hb c0 c1' KB
    have c0 := A10.nd.c0
    have c1' := A10.nd.c1
    go_wp2_with fail
    refine (KSP.out _ A10.its).mono ?_
    rintro e w23 ⟨rfl, hb⟩
    replace A10 := A10.below hb
    replace A13 := A13.below hb
    replace A15 := A15.below hb
    replace A16 := A16.below hb
    replace BB := below_to BB hb
    clear hb c0 c1'
    obtain ⟨ba, oa, rfl, hba, ea, -⟩ := A13.its.at (show xp < x by omega)
    obtain ⟨bb, ob, rfl, hbb, eb, -⟩ := A15.its.at (show 0 < rn by omega)
    rw [hpa] at ea
    rw [hkb, hpk] at eb
    have c0 := A13.nd.c0
    have d0 := A15.nd.c0
    have e0 := A10.nd.c0
    have e1 := A10.nd.c1
    rw [Nat.zero_mul, Nat.add_zero] at eb
    have q1 : IntKind.i64.wrap ((x : Int) + (rn : Int)) = (NP : Int) := by rw [show (x : Int) + (rn : Int) = (NP : Int) by omega]; exact IntWalk.i64_in _ (by omega)
    have q2 : IntKind.i64.wrap ((x : Int) - 1) = (xp : Int) := by rw [show (x : Int) - 1 = (xp : Int) by omega]; exact IntWalk.i64_in _ (by omega)
    have q3 : xp < x := by omega
    have q4 : 0 < rn := by omega
    have q5 : rn ≤ 4096 := by omega
    clear hka hkb hpa hpk hxp hrn
    go_wp2_with fail
    refine (KSP.out _ A10.its).mono ?_
    rintro e w25 ⟨rfl, hb⟩
    replace A10 := A10.below hb
    replace A13 := A13.below hb
    replace A15 := A15.below hb
    replace BB := below_to BB hb
    clear hb c0 d0 e0 e1 ea eb
    obtain ⟨ua, hua⟩ : ∃ u, sizeN true (P.take x) = u := ⟨_, rfl⟩
    obtain ⟨ub, hub⟩ : ∃ u, sizeN true (P.drop x) = u := ⟨_, rfl⟩
    have hbg := hbig (by omega)
    rw [hua, hub] at hbg
    have ga : decide ((100 : Int) ≤ (ua : Int)) = true := decide_eq_true (by omega)
    have gb : decide ((100 : Int) ≤ (ub : Int)) = true := decide_eq_true (by omega)
    have KA := Lib.hid (fun (w : World) (h1 : Its w (some ⟨ba, oa, none⟩) x (P.take x)) => size_any (c := cc) (ka := cka) (kn := 0) (kc := ckc) (b := true) h1 (by omega) hSa rfl ua hua)
    have KB := Lib.hid (fun (w : World) (h1 : Its w (some ⟨bb, ob, none⟩) rn (P.drop x)) => size_any (c := dc) (ka := dka) (kn := 0) (kc := dkc) (b := true) h1 (by omega) hSb rfl ub hub)
    have c0 := A13.nd.c0
    have c1' := A13.nd.c1
    go_wp2_with fail
    refine (KA.out _ A13.its).mono ?_
    rintro e w26 ⟨rfl, hb⟩
    replace A15 := A15.below hb
    replace BB := below_to BB hb
    clear hb c0 c1' KA A13
    have c0 := A15.nd.c0
    have c1' := A15.nd.c1
    go_wp2_with fail
    refine (KB.out _ A15.its).mono ?_
    rintro e w27 ⟨rfl, hb⟩
    replace BB := below_to BB hb
    clear hb c0 c1' KB A15
    go_wp2_with fail
    go_ret
    exact ⟨rfl, BB⟩
end
end Go.Proofs.Ytnjpijihjifkfaa
