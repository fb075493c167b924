/- Contract: lives. -/
import Derived.Test.YtnjpijihjifkfaaTO
namespace Go.Proofs.Ytnjpijihjifkfaa
open Go.RowKit
set_option linter.unusedVariables false
theorem str_nbeq {a b : ByteArray} (h : a ≠ b) : (a.toList == b.toList) = false := by
  rw [beq_eq_false_iff_ne]; intro e; apply h; rw [ByteArray.toList_eq, ByteArray.toList_eq] at e; exact ba_ext e
set_option maxRecDepth 100000 in
set_option maxHeartbeats 1000000 in
theorem lives_any (w : World) : Calls Try.prog 8 #[] w fun e w' => e = .returned (.bool true) ∧ Below w.heap.size w w' := by
  obtain ⟨T0, hT0⟩ : ∃ x, bs (encF L0 []) = x := ⟨_, rfl⟩
  obtain ⟨U0, hU0⟩ : ∃ x, bs (encF B0 [2, 258]) = x := ⟨_, rfl⟩
  have eT : encR L0 [] = (T0, 0) := by unfold encR; rw [if_pos right_L0, hT0]
  have eU : encR B0 [2, 258] = (U0, 0) := by unfold encR; rw [if_pos right_B0, hU0]
  have eN : encR [] [] = (ByteArray.empty, 18) := by unfold encR; rw [if_neg right_nil]
  have sT : T0.size = 480 := by rw [← hT0]; exact len_enc (by rw [encT_L0]; decide)
  have sU : U0.size = 480 := by rw [← hU0]; exact len_enc (by rw [encT_B0]; decide)
  have xT : T0.extract 0 11 = ⟨#[1, 2, 1, 97, 2, 120, 121, 1, 99, 0, 0]⟩ := by rw [← hT0]; exact enc_L0
  have xU : U0.extract 0 9 = ⟨#[2, 2, 0, 2, 1, 109, 1, 2, 0]⟩ := by rw [← hU0]; exact enc_B0
  have dT : decQ T0 (readP T0) = ((L0, []), 0) := by
    rw [← hT0, readP_enc right_L0]; unfold decQ; rw [if_pos ⟨right_L0, by show encF L0 [] = (encF L0 []).toArray.toList; simp⟩]
  have K1 := Lib.hid (fun (w : World) (a c ka kc) (h1 : Its w a 2 L0) (h2 : Kds w ka 0 []) => encode_any (c := c) (kc := kc) h1 h2 (by omega) (by omega) short_L0 _ _ eT)
  have K2 := Lib.hid (fun (w : World) => decode_any T0 w (by rw [sT]; decide) _ _ _ dT)
  have K3 := Lib.hid (fun (w : World) (a c ka kc) (h1 : Its w a 1 B0) (h2 : Kds w ka 2 [2, 258]) => encode_any (c := c) (kc := kc) h1 h2 (by omega) (by omega) short_B0 _ _ eU)
  have K4 := Lib.hid (fun (w : World) (a c ka kc) (h1 : Its w a 2 L0) => find_any (c := c) (ka := ka) (kn := 0) (kc := kc) ⟨#[98]⟩ h1 (by omega) rise_L0 true rfl 1 false find_L0)
  have K5 := Lib.hid (fun (w : World) (a c ka kc) (h1 : Its w a 1 B0) => find_any (c := c) (ka := ka) (kn := 2) (kc := kc) ⟨#[109]⟩ h1 (by omega) rise_B0 false rfl 1 true find_B0)
  have K6 := Lib.hid (fun (w : World) (a ka kc) (h1 : Its w a 2 L0) => by
    have := putLeaf_any (c := 2) (ka := ka) (kc := kc) ⟨#[98]⟩ ⟨#[49]⟩ h1 (by omega) (Nat.le_refl _) rise_L0
    rw [put_P0] at this; exact this)
  have K7 := Lib.hid (fun (w : World) => encode_any (w := w) (n := 0) (kn := 0) (c := 0) (kc := 0) (a := none) (ka := none) ⟨rfl, .inl rfl⟩ ⟨rfl, .inl rfl⟩ (by omega) (by omega) (by intro x hx; cases hx) _ _ eN)
  have hx0 : ∃ x, halfN true P0 = x := ⟨_, rfl⟩
  obtain ⟨x, hx⟩ := hx0
  have hx12 : x = 1 ∨ x = 2 := by rw [← hx]; exact half_P0
  have hkey : kq P0 x ≠ ⟨#[]⟩ := by rcases hx12 with rfl | rfl <;> decide
  have hfl : [P0.take x, ([] : List It), P0.drop x].flatten = P0 := by simp
  have hxl : (P0.take x).length ≤ 2000 ∧ (P0.drop x).length ≤ 2000 := by rcases hx12 with rfl | rfl <;> decide
  obtain ⟨ky, hky⟩ : ∃ y, kq P0 x = y := ⟨_, rfl⟩
  have K8 := Lib.hid (fun (w : World) (a c ka kc) (h1 : Its w a 3 P0) (hc : 3 ≤ c) => by
    have := cutLeaf_any (ka := ka) (kc := kc) h1 (by omega) (by omega) hc short_P0 x hx
    rw [hky] at this; exact this)
  rw [hky] at hkey
  obtain ⟨P1, hP1⟩ : ∃ y, P0.take x = y := ⟨_, rfl⟩
  obtain ⟨P2, hP2⟩ : ∃ y, P0.drop x = y := ⟨_, rfl⟩
  rw [hP1, hP2] at K8 hfl hxl
  have K9 := Lib.hid (fun (w : World) (a n c ka kc a2 n2 c2 ka2 kc2) (h1 : Its w a n P1) (h2 : Its w a2 n2 P2) => by
    have := joinLeaf_any (c := c) (c2 := c2) (ka := ka) (ka2 := ka2) (kn := 0) (kn2 := 0) (kc := kc) (kc2 := kc2) (K := []) (K2 := []) h1 h2 ⟨rfl, .inl rfl⟩ ⟨rfl, .inl rfl⟩ ky rfl rfl (by have := h1.1; omega) (by have := h2.1; omega) (by omega) (by omega) P0 hfl short_P0 [] rfl
    unfold JoinRet at this
    rw [decide_eq_true right_P0, if_pos right_P0, if_pos right_P0] at this
    exact this)
  have K10 := Lib.hid (fun (w : World) (a c ka kc a2 c2 ka2 kc2) (h1 : Its w a 2 L0) (h2 : Its w a2 2 L0) => same_any (c := c) (c' := c2) (ka := ka) (ka' := ka2) (kn := 0) (kc := kc) (kc' := kc2) (K := []) h1 h2 ⟨rfl, .inl rfl⟩ ⟨rfl, .inl rfl⟩ (by omega) (by omega))
  have K11 := Lib.hid (fun (w : World) (a c ka kc a2 c2 ka2 kc2) (h1 : Its w a 3 P0) (h2 : Its w a2 3 P0) => same_any (c := c) (c' := c2) (ka := ka) (ka' := ka2) (kn := 0) (kc := kc) (kc' := kc2) (K := []) h1 h2 ⟨rfl, .inl rfl⟩ ⟨rfl, .inl rfl⟩ (by omega) (by omega))
  have K12 := Lib.hid (fun (w : World) (a c ka kc) (h1 : Its w a 2 L0) => size_any (c := c) (ka := ka) (kn := 0) (kc := kc) (b := true) h1 (by omega) short_L0 rfl 10 size_L0)
  have K13 := Lib.hid (fun (w : World) (a c ka kc) (h1 : Its w a 1 B0) => size_any (c := c) (ka := ka) (kn := 2) (kc := kc) (b := false) h1 (by omega) short_B0 rfl 8 size_B0)
  have K14 := Lib.hid (fun (w : World) (a c ka kc) (h1 : Its w a 2 L0) => check_any (c := c) (ka := ka) (kn := 0) (kc := kc) (K := []) h1 ⟨rfl, .inl rfl⟩ (by omega) (by omega) short_L0 0 (if_pos right_L0))
  clear hfl hxl hP1 hP2 hx hky hx12
  unfold NdRet at K6
  unfold CutRet at K8
  unfold DecRet at K2
  clear eT eU eN dT hT0 hU0
  go_enter Try.func8, Try.ntmps8
  go_upto_region 2 with (fail)
  have A1 : NodeAt ((w.alloc (.cells #[.string ⟨#[97]⟩, .string ⟨#[120, 121]⟩, .string ⟨#[99]⟩, .string ⟨#[]⟩] 44)).alloc (.cells #[.slice (some ⟨w.heap.size, 0, none⟩) 2 2, .slice none 0 0] 31)) (w.heap.size + 1) (some ⟨w.heap.size, 0, none⟩) 2 2 none 0 0 L0 [] := by
    have := NodeAt.new (w := w.alloc (.cells #[.string ⟨#[97]⟩, .string ⟨#[120, 121]⟩, .string ⟨#[99]⟩, .string ⟨#[]⟩] 44)) (a := some ⟨w.heap.size, 0, none⟩) (n := 2) (c := 2) (ka := none) (kn := 0) (kc := 0) (L := L0) (K := []) ⟨rfl, .inr ⟨_, 0, rfl, by simp, fun j hj => by
      have : j = 0 ∨ j = 1 := by omega
      rcases this with rfl | rfl <;> exact ⟨by simp [go_sem, kq, L0], by simp [go_sem, vq, L0]⟩⟩⟩ ⟨rfl, .inl rfl⟩ 31
    simpa using this
  have BB := below_to (new_below w (.cells #[.string ⟨#[97]⟩, .string ⟨#[120, 121]⟩, .string ⟨#[99]⟩, .string ⟨#[]⟩] 44)) (new_below _ (.cells #[.slice (some ⟨w.heap.size, 0, none⟩) 2 2, .slice none 0 0] 31))
  generalize (w.alloc (.cells #[.string ⟨#[97]⟩, .string ⟨#[120, 121]⟩, .string ⟨#[99]⟩, .string ⟨#[]⟩] 44)).alloc (.cells #[.slice (some ⟨w.heap.size, 0, none⟩) 2 2, .slice none 0 0] 31) = w1 at A1 BB ⊢
  have c0 := A1.nd.c0
  have c1 := A1.nd.c1
  go_wp2_with fail
  refine (K1.out _ _ _ _ _ A1.its A1.kds).mono ?_
  rintro e w2 ⟨rfl, hb⟩
  replace A1 := A1.below hb
  replace BB := below_to BB hb
  clear hb c0 c1
  go_wp2_with fail
  refine (K2.out _).mono ?_
  rintro e w3 ⟨a4, n4, c4, ka4, kn4, kc4, rfl, hac, hkc, -, -, hI4, hK4, hb⟩
  obtain rfl : n4 = 2 := hI4.1.symm
  obtain rfl : kn4 = 0 := hK4.1.symm
  replace A1 := A1.below hb
  replace BB := below_to BB hb
  clear hb
  go_upto_region 4 with (fail)
  have hb := new_below w3 (.cells #[.slice a4 2 c4, .slice ka4 0 kc4] 31)
  have A4 := NodeAt.new (c := c4) (kc := kc4) hI4 hK4 31
  replace A1 := A1.below hb
  replace BB := below_to BB hb
  clear hb hI4 hK4
  generalize hg4 : w3.heap.size = g4 at A4 ⊢
  clear hg4
  generalize w3.alloc (.cells #[.slice a4 2 c4, .slice ka4 0 kc4] 31) = w4 at A1 A4 BB ⊢
  go_upto_region 5 with (fail)
  have A6 := NodeAt.new (w := (w4.alloc (.cells #[.string ⟨#[109]⟩, .string ⟨#[]⟩] 44)).alloc (.cells #[.int .i64 2, .int .i64 258] 3)) (a := some ⟨w4.heap.size, 0, none⟩) (n := 1) (c := 1) (ka := some ⟨w4.heap.size + 1, 0, none⟩) (kn := 2) (kc := 2) (L := B0) (K := [2, 258])
    ⟨rfl, .inr ⟨_, 0, rfl, by simp; omega, fun j hj => by
      obtain rfl : j = 0 := by omega
      exact ⟨by simp [go_sem, kq, B0], by simp [go_sem, vq, B0]⟩⟩⟩ ⟨rfl, .inr ⟨_, 0, rfl, by simp, fun j hj => by
      have : j = 0 ∨ j = 1 := by omega
      rcases this with rfl | rfl <;> simp [go_sem]⟩⟩ 31
  have hs6 : ((w4.alloc (.cells #[.string ⟨#[109]⟩, .string ⟨#[]⟩] 44)).alloc (.cells #[.int .i64 2, .int .i64 258] 3)).heap.size = w4.heap.size + 1 + 1 := by simp
  rw [hs6] at A6
  have hb := below_to (below_to (new_below w4 (.cells #[.string ⟨#[109]⟩, .string ⟨#[]⟩] 44)) (new_below _ (.cells #[.int .i64 2, .int .i64 258] 3))) (new_below _ (.cells #[.slice (some ⟨w4.heap.size, 0, none⟩) 1 1, .slice (some ⟨w4.heap.size + 1, 0, none⟩) 2 2] 31))
  replace A1 := A1.below hb
  replace A4 := A4.below hb
  replace BB := below_to BB hb
  clear hb hs6
  generalize ((w4.alloc (.cells #[.string ⟨#[109]⟩, .string ⟨#[]⟩] 44)).alloc (.cells #[.int .i64 2, .int .i64 258] 3)).alloc (.cells #[.slice (some ⟨w4.heap.size, 0, none⟩) 1 1, .slice (some ⟨w4.heap.size + 1, 0, none⟩) 2 2] 31) = w5 at A1 A4 A6 BB ⊢
  generalize w4.heap.size = g6 at A6 ⊢
  have c0 := A6.nd.c0
  have c1 := A6.nd.c1
  go_wp2_with fail
  refine (K3.out _ _ _ _ _ A6.its A6.kds).mono ?_
  rintro e w6 ⟨rfl, hb⟩
  replace A1 := A1.below hb
  replace A4 := A4.below hb
  replace A6 := A6.below hb
  replace BB := below_to BB hb
  clear hb c0 c1
  have c0 := A1.nd.c0
  have c1 := A1.nd.c1
  go_wp2_with fail
  refine (K4.out _ _ _ _ _ A1.its).mono ?_
  rintro e w7 ⟨rfl, hb⟩
  replace A1 := A1.below hb
  replace A4 := A4.below hb
  replace A6 := A6.below hb
  replace BB := below_to BB hb
  clear hb c0 c1
  have c0 := A6.nd.c0
  have c1 := A6.nd.c1
  go_wp2_with fail
  refine (K5.out _ _ _ _ _ A6.its).mono ?_
  rintro e w8 ⟨rfl, hb⟩
  replace A1 := A1.below hb
  replace A4 := A4.below hb
  replace A6 := A6.below hb
  replace BB := below_to BB hb
  clear hb c0 c1
  have c0 := A1.nd.c0
  have c1 := A1.nd.c1
  go_wp2_with fail
  refine (K6.out _ _ _ _ A1.its).mono ?_
  rintro e w9 ⟨a7, n7, c7, ka7, kn7, kc7, rfl, hac7, hkc7, -, -, hI7, hK7, hb⟩
  obtain rfl : n7 = 3 := hI7.1.symm
  obtain rfl : kn7 = 0 := hK7.1.symm
  replace A1 := A1.below hb
  replace A4 := A4.below hb
  replace A6 := A6.below hb
  replace BB := below_to BB hb
  clear hb c0 c1
  go_upto_region 9 with (fail)
  have hb := new_below w9 (.cells #[.slice a7 3 c7, .slice ka7 0 kc7] 31)
  have A7 := NodeAt.new (c := c7) (kc := kc7) hI7 hK7 31
  replace A1 := A1.below hb
  replace A4 := A4.below hb
  replace A6 := A6.below hb
  replace BB := below_to BB hb
  clear hb hI7 hK7
  generalize w9.heap.size = g7 at A7 ⊢
  generalize w9.alloc (.cells #[.slice a7 3 c7, .slice ka7 0 kc7] 31) = w10 at A1 A4 A6 A7 BB ⊢
  have c0 := A7.nd.c0
  have c1 := A7.nd.c1
  go_wp2_with fail
  refine (K8.out _ _ _ _ _ A7.its hac7).mono ?_
  rintro e w11 ⟨a8, n8, c8, ka8, kn8, kc8, a9, n9, c9, ka9, kn9, kc9, rfl, -, -, hI8, hK8, hI9, hK9, hb⟩
  obtain rfl : kn8 = 0 := hK8.1.symm
  obtain rfl : kn9 = 0 := hK9.1.symm
  replace A1 := A1.below hb
  replace A4 := A4.below hb
  replace A6 := A6.below hb
  replace A7 := A7.below hb
  replace BB := below_to BB hb
  clear hb c0 c1
  go_upto_region 10 with (fail)
  have hb := below_to (new_below w11 (.cells #[.slice a8 n8 c8, .slice ka8 0 kc8] 31)) (new_below _ (.cells #[.slice a9 n9 c9, .slice ka9 0 kc9] 31))
  have A8 := (NodeAt.new (c := c8) (kc := kc8) hI8 hK8 31).below (new_below _ (.cells #[.slice a9 n9 c9, .slice ka9 0 kc9] 31))
  have A9 := NodeAt.new (w := w11.alloc (.cells #[.slice a8 n8 c8, .slice ka8 0 kc8] 31)) (c := c9) (kc := kc9) (hI9.below (new_below _ _)) (hK9.below (new_below _ _)) 31
  have hs9 : (w11.alloc (.cells #[.slice a8 n8 c8, .slice ka8 0 kc8] 31)).heap.size = w11.heap.size + 1 := by simp
  rw [hs9] at A9
  replace A1 := A1.below hb
  replace A4 := A4.below hb
  replace A6 := A6.below hb
  replace A7 := A7.below hb
  replace BB := below_to BB hb
  clear hb hI8 hK8 hI9 hK9 hs9
  generalize (w11.alloc (.cells #[.slice a8 n8 c8, .slice ka8 0 kc8] 31)).alloc (.cells #[.slice a9 n9 c9, .slice ka9 0 kc9] 31) = w12 at A1 A4 A6 A7 A8 A9 BB ⊢
  generalize w11.heap.size = g8 at A8 A9 ⊢
  have c0 := A8.nd.c0
  have c1 := A8.nd.c1
  have d0 := A9.nd.c0
  have d1 := A9.nd.c1
  go_wp2_with fail
  refine (K9.out _ _ _ _ _ _ _ _ _ _ _ A8.its A9.its).mono ?_
  rintro e w13 ⟨a10, n10, c10, ka10, kn10, kc10, rfl, -, -, -, -, hI10, hK10, hb⟩
  obtain rfl : n10 = 3 := hI10.1.symm
  obtain rfl : kn10 = 0 := hK10.1.symm
  replace A1 := A1.below hb
  replace A4 := A4.below hb
  replace A6 := A6.below hb
  replace A7 := A7.below hb
  replace BB := below_to BB hb
  clear hb c0 c1 d0 d1 A8 A9
  go_upto_region 11 with (fail)
  have hb := new_below w13 (.cells #[.slice a10 3 c10, .slice ka10 0 kc10] 31)
  have A10 := NodeAt.new (c := c10) (kc := kc10) hI10 hK10 31
  replace A1 := A1.below hb
  replace A4 := A4.below hb
  replace A6 := A6.below hb
  replace A7 := A7.below hb
  replace BB := below_to BB hb
  clear hb hI10 hK10
  generalize w13.heap.size = g10 at A10 ⊢
  generalize w13.alloc (.cells #[.slice a10 3 c10, .slice ka10 0 kc10] 31) = w14 at A1 A4 A6 A7 A10 BB ⊢
  go_wp2_with fail
  refine (K7.out _).mono ?_
  rintro e w15 ⟨rfl, hb⟩
  replace A1 := A1.below hb
  replace A4 := A4.below hb
  replace A6 := A6.below hb
  replace A7 := A7.below hb
  replace A10 := A10.below hb
  replace BB := below_to BB hb
  clear hb
  have st : (T0.size : Int) = 480 := by omega
  have su : (U0.size : Int) = 480 := by omega
  clear K1 K2 K3 K4 K5 K6 K7 K8 K9
  have c0 := A4.nd.c0
  have c1 := A4.nd.c1
  have d0 := A1.nd.c0
  have xT2 : ¬ ((T0.size : Int) < 11) := by omega
  have xU2 : ¬ ((U0.size : Int) < 9) := by omega
  go_wp2_with fail
  refine (K10.out _ _ _ _ _ _ _ _ _ A4.its A1.its).mono ?_
  rintro e w16 ⟨rfl, hb⟩
  replace A1 := A1.below hb
  replace A4 := A4.below hb
  replace A6 := A6.below hb
  replace A7 := A7.below hb
  replace A10 := A10.below hb
  replace BB := below_to BB hb
  clear hb c0 c1 d0
  have c0 := A10.nd.c0
  have c1 := A10.nd.c1
  have d0 := A7.nd.c0
  have hk1 : (ky.toList == (⟨#[]⟩ : ByteArray).toList) = false := str_nbeq hkey
  rw [show (⟨#[]⟩ : ByteArray).toList = [] from ByteArray.toList_eq _] at hk1
  go_wp2_with fail
  refine (K11.out _ _ _ _ _ _ _ _ _ A10.its A7.its).mono ?_
  rintro e w17 ⟨rfl, hb⟩
  replace A1 := A1.below hb
  replace A4 := A4.below hb
  replace A6 := A6.below hb
  replace A7 := A7.below hb
  replace A10 := A10.below hb
  replace BB := below_to BB hb
  clear hb c0 c1 d0
  have c0 := A1.nd.c0
  have c1 := A1.nd.c1
  go_wp2_with fail
  refine (K12.out _ _ _ _ _ A1.its).mono ?_
  rintro e w18 ⟨rfl, hb⟩
  replace A1 := A1.below hb
  replace A6 := A6.below hb
  replace BB := below_to BB hb
  clear hb c0 c1
  have c0 := A6.nd.c0
  have c1 := A6.nd.c1
  go_wp2_with fail
  refine (K13.out _ _ _ _ _ A6.its).mono ?_
  rintro e w19 ⟨rfl, hb⟩
  replace A1 := A1.below hb
  replace A6 := A6.below hb
  replace BB := below_to BB hb
  clear hb c0 c1
  have c0 := A1.nd.c0
  have c1 := A1.nd.c1
  go_wp2_with fail
  refine (K14.out _ _ _ _ _ A1.its).mono ?_
  rintro e w20 ⟨rfl, hb⟩
  replace A1 := A1.below hb
  replace A6 := A6.below hb
  replace BB := below_to BB hb
  go_wp2_with fail
  go_ret
  exact ⟨rfl, BB⟩
end Go.Proofs.Ytnjpijihjifkfaa
