/- BitmapTakes, walked. -/
import Derived.Test.YtbgpkddobnldlaaBD
namespace Go.Proofs.Ytbgpkddobnldlaa
open Go.RowKit
theorem low_any (s : ByteArray) (a b k : Int) (w : World) (hk : k ≤ 9223372036854775807) : Calls Try.prog 13 #[.string s, .int .i64 a, .int .i64 b, .int .i64 k] w fun e w' => LowRet w (lowF s.data.toList a b k).1 (lowF s.data.toList a b k).2 e w' := by
  by_cases h : s.size = 480 ∧ 0 ≤ k ∧ 0 ≤ a ∧ a ≤ b ∧ b ≤ 3840
  · obtain ⟨h1, h2, h3, h4, h5⟩ := h
    obtain ⟨k', rfl⟩ := Int.eq_ofNat_of_zero_le h2
    obtain ⟨a', rfl⟩ := Int.eq_ofNat_of_zero_le h3
    obtain ⟨b', rfl⟩ := Int.eq_ofNat_of_zero_le (show 0 ≤ b by omega)
    exact low_yes s a' b' k' w h1 (by omega) (by omega) (by omega)
  · rw [inB_no _ a b k (by rw [← blen]; exact h)]
    refine (low_no s a b k w h).mono ?_
    rintro e w' ⟨he, rfl⟩
    exact ⟨none, 0, he, ⟨rfl, .inl rfl⟩, Below.refl _ _⟩
theorem rlow_any (s : ByteArray) (a b k : Int) (w : World) (hk : k ≤ 9223372036854775807) : Calls Try.prog 14 #[.string s, .int .i64 a, .int .i64 b, .int .i64 k] w fun e w' => LowRet w (lowF s.data.toList a b k).1 (lowF s.data.toList a b k).2 e w' := by
  by_cases h : s.size = 480 ∧ 0 ≤ k ∧ 0 ≤ a ∧ a ≤ b ∧ b ≤ 3840
  · obtain ⟨h1, h2, h3, h4, h5⟩ := h
    obtain ⟨k', rfl⟩ := Int.eq_ofNat_of_zero_le h2
    obtain ⟨a', rfl⟩ := Int.eq_ofNat_of_zero_le h3
    obtain ⟨b', rfl⟩ := Int.eq_ofNat_of_zero_le (show 0 ≤ b by omega)
    exact rlow_yes s a' b' k' w h1 (by omega) (by omega) (by omega)
  · rw [inB_no _ a b k (by rw [← blen]; exact h)]
    refine (rlow_no s a b k w h).mono ?_
    rintro e w' ⟨he, rfl⟩
    exact ⟨none, 0, he, ⟨rfl, .inl rfl⟩, Below.refl _ _⟩
theorem take_any (s : ByteArray) (a b k : Int) (w : World) (hk : k ≤ 9223372036854775807) : Calls Try.prog 15 #[.string s, .int .i64 a, .int .i64 b, .int .i64 k] w fun e w' => TakeRet w (lowF s.data.toList a b k).1 (takeB s.data.toList a b k) (lowF s.data.toList a b k).2 e w' := by
  by_cases h : s.size = 480 ∧ 0 ≤ k ∧ 0 ≤ a ∧ a ≤ b ∧ b ≤ 3840
  · obtain ⟨h1, h2, h3, h4, h5⟩ := h
    obtain ⟨k', rfl⟩ := Int.eq_ofNat_of_zero_le h2
    obtain ⟨a', rfl⟩ := Int.eq_ofNat_of_zero_le h3
    obtain ⟨b', rfl⟩ := Int.eq_ofNat_of_zero_le (show 0 ≤ b by omega)
    exact take_yes s a' b' k' w h1 (by omega) (by omega) (by omega)
  · unfold takeB
    rw [inB_no _ a b k (by rw [← blen]; exact h)]
    refine (take_no s a b k w h).mono ?_
    rintro e w' ⟨he, rfl⟩
    exact ⟨none, 0, he, ⟨rfl, .inl rfl⟩, Below.refl _ _⟩
theorem giveS_size (l : List UInt8) (zs : List Int) (h : l.length ≠ 480) : giveS l zs = [] ∧ giveE l zs = 18 := by
  unfold giveS giveE; rw [if_neg h, if_neg h]; exact ⟨rfl, rfl⟩
theorem give_any (s : ByteArray) (a : Option Addr) (len cap : Nat) (zs : List Int) (w : World) (hI : Ints w a len zs) (hl : len ≤ 1000000) :
    Calls Try.prog 16 #[.string s, .slice a len cap] w fun e w' => e = strErr (bs (giveS s.data.toList zs)) (giveE s.data.toList zs) ∧ Below w.heap.size w w' := by
  by_cases hs : s.size = 480
  · exact give_yes s a len cap zs w hs hI hl
  · obtain ⟨h1, h2⟩ := giveS_size s.data.toList zs (by rw [← blen]; exact hs)
    rw [h1, h2]
    refine (give_no s a len cap w hs).mono ?_
    rintro e w' ⟨he, rfl⟩
    exact ⟨he, Below.refl _ _⟩
theorem rgive_any (s : ByteArray) (a : Option Addr) (len cap : Nat) (zs : List Int) (w : World) (hI : Ints w a len zs) (hl : len ≤ 1000000) :
    Calls Try.prog 17 #[.string s, .slice a len cap] w fun e w' => e = strErr (bs (giveS s.data.toList zs)) (giveE s.data.toList zs) ∧ Below w.heap.size w w' := by
  by_cases hs : s.size = 480
  · exact rgive_yes s a len cap zs w hs hI hl
  · obtain ⟨h1, h2⟩ := giveS_size s.data.toList zs (by rw [← blen]; exact hs)
    rw [h1, h2]
    refine (rgive_no s a len cap w hs).mono ?_
    rintro e w' ⟨he, rfl⟩
    exact ⟨he, Below.refl _ _⟩
theorem spF_no (l : List UInt8) (a b : Int) (h : ¬ (l.length = 480 ∧ 0 ≤ a ∧ a ≤ b ∧ b ≤ 3840)) : spF l a b = [] := by
  unfold spF inB; rw [if_neg (by rw [decide_eq_true_iff]; intro x; exact h ⟨x.1, x.2.2⟩)]
theorem spF_yes (l : List UInt8) (a b : Nat) (h : l.length = 480 ∧ a ≤ b ∧ b ≤ 3840) : spF l (a : Int) (b : Int) = spS l b a := by
  unfold spF inB; rw [if_pos (by rw [decide_eq_true_iff]; omega)]; simp
theorem spans_any (s : ByteArray) (a b : Int) (w : World) : Calls Try.prog 20 #[.string s, .int .i64 a, .int .i64 b] w fun e w' => SpRet w (spF s.data.toList a b) e w' := by
  by_cases h : s.size = 480 ∧ 0 ≤ a ∧ a ≤ b ∧ b ≤ 3840
  · obtain ⟨h1, h3, h4, h5⟩ := h
    obtain ⟨a', rfl⟩ := Int.eq_ofNat_of_zero_le h3
    obtain ⟨b', rfl⟩ := Int.eq_ofNat_of_zero_le (show 0 ≤ b by omega)
    rw [spF_yes _ a' b' ⟨by rw [← blen]; exact h1, by omega, by omega⟩]
    exact spans_yes s a' b' w h1 (by omega) (by omega)
  · rw [spF_no _ a b (by rw [← blen]; exact h)]
    refine (spans_no s a b w h).mono ?_
    rintro e w' ⟨he, rfl⟩
    exact ⟨none, 0, he, .inl rfl, Below.refl _ _⟩
theorem rspans_any (s : ByteArray) (a b : Int) (w : World) : Calls Try.prog 21 #[.string s, .int .i64 a, .int .i64 b] w fun e w' => SpRet w (spF s.data.toList a b) e w' := by
  by_cases h : s.size = 480 ∧ 0 ≤ a ∧ a ≤ b ∧ b ≤ 3840
  · obtain ⟨h1, h3, h4, h5⟩ := h
    obtain ⟨a', rfl⟩ := Int.eq_ofNat_of_zero_le h3
    obtain ⟨b', rfl⟩ := Int.eq_ofNat_of_zero_le (show 0 ≤ b by omega)
    rw [spF_yes _ a' b' ⟨by rw [← blen]; exact h1, by omega, by omega⟩]
    exact rspans_yes s a' b' w h1 (by omega) (by omega)
  · rw [spF_no _ a b (by rw [← blen]; exact h)]
    exact rspans_no s a b w h
/-- When Lowest has found pages. -/
theorem lowF_ok (l : List UInt8) (a b k : Int) (h : (lowF l a b k).2 = 0) : l.length = 480 ∧ (lowF l a b k).1.length ≤ 3840 ∧ ∀ x ∈ (lowF l a b k).1, x < 3840 := by
  by_cases hh : l.length = 480 ∧ 0 ≤ k ∧ 0 ≤ a ∧ a ≤ b ∧ b ≤ 3840
  · obtain ⟨h1, h2, h3, h4, h5⟩ := hh
    obtain ⟨k', rfl⟩ := Int.eq_ofNat_of_zero_le h2
    obtain ⟨a', rfl⟩ := Int.eq_ofNat_of_zero_le h3
    obtain ⟨b', rfl⟩ := Int.eq_ofNat_of_zero_le (show 0 ≤ b by omega)
    refine ⟨h1, lowF_len l a' b' k' h1 (by omega) (by omega), fun x hx => ?_⟩
    have := lowF_mem l a' b' k' h1 (by omega) (by omega) x hx
    omega
  · rw [inB_no l a b k hh] at h
    cases h
theorem spF_len (l : List UInt8) (a b : Int) : (spF l a b).length ≤ 3840 := by
  have hN : ∀ f i b, (spN l b f i).length ≤ f := by
    intro f
    induction f with
    | zero => intro i b; simp [spN]
    | succ f ih =>
      intro i b
      unfold spN
      split
      · split
        · have := ih (i + 1) b; omega
        · have := ih (endS l b i + 1) b; simp; omega
      · simp
  unfold spF
  split
  · next h =>
    unfold inB at h
    rw [decide_eq_true_iff] at h
    unfold spS
    have := hN (b.toNat - a.toNat) a.toNat b.toNat
    omega
  · simp
set_option maxRecDepth 100000 in
set_option maxHeartbeats 4000000 in
theorem bitmapTakes_main (s : ByteArray) (a b k : Int) (za : Option Addr) (len cap : Nat) (zs : List Int) (w : World) (hs : ¬ 4096 < s.size) (hk : k ≤ 9223372036854775807) (hl : len ≤ 100) (hz : Ints w za len zs) :
    Calls Try.prog 4 #[.string s, .int .i64 a, .int .i64 b, .int .i64 k, .slice za len cap] w fun e w' => e = .returned (.bool true) ∧ Below w.heap.size w w' := by
  have hok := lowF_ok s.data.toList a b k
  have hsl := spF_len s.data.toList a b
  have h1 := fun w => low_any s a b k w hk
  have h2 := fun w => rlow_any s a b k w hk
  have h3 := fun w => take_any s a b k w hk
  have h4 := fun w hI => give_any s za len cap zs w hI (by omega)
  have h5 := fun w hI => rgive_any s za len cap zs w hI (by omega)
  have h6 := fun w => spans_any s a b w
  have h7 := fun w => rspans_any s a b w
  have hT : ∀ t, takeB s.data.toList a b k = t → (if (lowF s.data.toList a b k).2 = 0 then setsL s.data.toList true (lowF s.data.toList a b k).1 else []) = t := fun t h => h
  have hER := lowF_err s.data.toList a b k
  obtain ⟨t, ht⟩ : ∃ t, takeB s.data.toList a b k = t := ⟨_, rfl⟩
  replace hT := hT t ht
  rw [ht] at h3
  obtain ⟨fl, fe, hf⟩ : ∃ fl fe, lowF s.data.toList a b k = (fl, fe) := ⟨_, _, rfl⟩
  rw [hf] at h1 h2 h3 hok hT hER
  obtain ⟨sp, hsp⟩ : ∃ sp, spF s.data.toList a b = sp := ⟨_, rfl⟩
  rw [hsp] at h6 h7 hsl
  obtain ⟨gs, hgs⟩ : ∃ gs, bs (giveS s.data.toList zs) = gs := ⟨_, rfl⟩
  obtain ⟨ge, hge⟩ : ∃ ge, giveE s.data.toList zs = ge := ⟨_, rfl⟩
  rw [hgs, hge] at h4 h5
  have H1 := Lib.hid h1
  have H2 := Lib.hid h2
  have H3 := Lib.hid h3
  have H4 := Lib.hid h4
  have H5 := Lib.hid h5
  have H6 := Lib.hid h6
  have H7 := Lib.hid h7
  have HOK := Lib.hid hok
  have HT := Lib.hid hT
  have HER := Lib.hid hER
  clear h1 h2 h3 h4 h5 h6 h7 ht hf hsp hgs hge hok hT hER
  go_enter Try.func4, Try.ntmps4
  go_wp2_with fail
  refine (H1.out _).mono ?_
  rintro e w1 ⟨a1, c1, rfl, I1, B1⟩
  have Z1 := hz.below B1
  go_wp2_with fail
  refine (H2.out _).mono ?_
  rintro e w2 ⟨a2, c2, rfl, I2, hb⟩
  have Z2 := Z1.below hb
  have B2 := below_to B1 hb
  replace I1 := I1.below hb
  clear hb B1 Z1
  go_wp2_with fail
  refine (H3.out _).mono ?_
  rintro e w3 ⟨a3, c3, rfl, I3, hb⟩
  have Z3 := Z2.below hb
  have B3 := below_to B2 hb
  replace I1 := I1.below hb
  replace I2 := I2.below hb
  clear hb B2 Z2
  go_wp2_with fail
  refine (H4.out _ Z3).mono ?_
  rintro e w4 ⟨rfl, hb⟩
  unfold strErr
  have Z4 := Z3.below hb
  have B4 := below_to B3 hb
  replace I1 := I1.below hb
  replace I2 := I2.below hb
  replace I3 := I3.below hb
  clear hb B3 Z3
  go_wp2_with fail
  refine (H5.out _ Z4).mono ?_
  rintro e w5 ⟨rfl, hb⟩
  unfold strErr
  have B5 := below_to B4 hb
  replace I1 := I1.below hb
  replace I2 := I2.below hb
  replace I3 := I3.below hb
  clear hb B4 Z4
  have hfl : fl.length ≤ 1000000 := by
    by_cases h : fe = 0
    · have := (HOK.out h).2.1; omega
    · rw [HER.out h]; simp
  by_cases he : fe = 0
  · subst he
    obtain ⟨hs480, hll, hm⟩ := HOK.out rfl
    have h2 : setsL s.data.toList true fl = t := by have := HT.out; rwa [if_pos rfl] at this
    have HS := Lib.hid (show s.size = 480 by rw [blen]; exact hs480)
    have HM := Lib.hid hm
    have H22 := Lib.hid h2
    clear hs480 hll hm h2
    go_wp2_with fail
    refine (all_any s true a2 fl.length c2 (zsOf fl) _ HS.out I2 hfl (fun z hz => by have := zsOf_mem fl 3840 (fun x hx => HM.out x hx) z hz; omega)).mono ?_
    rintro e w6 ⟨rfl, hb⟩
    rw [zsOf_toNat, H22.out]
    have B6 := below_to B5 hb
    replace I1 := I1.below hb
    replace I2 := I2.below hb
    replace I3 := I3.below hb
    clear hb B5
    go_wp2_with fail
    refine (same_yes a1 a2 fl.length c1 c2 (zsOf fl) _ I1 I2 hfl).mono ?_
    rintro e w7 ⟨rfl, hb⟩
    have B7 := below_to B6 hb
    replace I1 := I1.below hb
    replace I2 := I2.below hb
    replace I3 := I3.below hb
    clear hb B6
    go_wp2_with fail
    refine (same_yes a3 a2 fl.length c3 c2 (zsOf fl) _ I3 I2 hfl).mono ?_
    rintro e w8 ⟨rfl, hb⟩
    have B8 := below_to B7 hb
    clear hb B7 I1 I2 I3
    go_wp2_with fail
    refine (H6.out _).mono ?_
    rintro e w9 ⟨p1, d1, rfl, P1, hb⟩
    have B9 := below_to B8 hb
    clear hb B8
    go_wp2_with fail
    refine (H7.out _).mono ?_
    rintro e w10 ⟨p2, d2, rfl, P2, hb⟩
    have B10 := below_to B9 hb
    replace P1 := P1.below hb
    clear hb B9
    go_wp2_with fail
    go_loopw [127] (fun i wx => ∃ j : Nat, j ≤ sp.length ∧ Below w10.heap.size w10 wx ∧ i = .int .i64 (j : Int)) (fun i _ => sp.length - (intOf i).toNat)
    case atStart => exact ⟨0, by omega, Below.refl _ _, rfl⟩
    case round =>
      obtain ⟨j, hj, HW, rfl⟩ := hrel
      by_cases hlt : j < sp.length
      · rcases P1.below HW with h0 | ⟨g1, hg1, hgl1, hc1⟩
        · omega
        rcases P2.below HW with h0 | ⟨g2, hg2, hgl2, hc2⟩
        · omega
        subst hg1 hg2
        obtain ⟨x, hx⟩ : ∃ x : Nat, sp[j].1 = x := ⟨_, rfl⟩
        obtain ⟨y, hy⟩ : ∃ y : Nat, sp[j].2 = y := ⟨_, rfl⟩
        have e1 := hc1 j hlt
        have e2 := hc2 j hlt
        rw [hx, hy] at e1 e2
        unfold intV at e1 e2
        obtain ⟨e11, e12⟩ := e1
        obtain ⟨e21, e22⟩ := e2
        have q := fun w => eq40 (x : Int) (y : Int) w
        clear hc1 hc2 hx hy
        go_wp2_with fail
        go_quiet (fail)
        go_wp2
        go_roundw
        case rel => exact ⟨j + 1, by omega, below_to HW (below_drewN _ _), by go_num⟩
        case measure => simp [intOf]; omega
      · go_wp2_with fail
        refine (lives_any _).mono ?_
        rintro e w11 ⟨rfl, hb⟩
        have B11 := below_to (below_to B10 HW) hb
        go_wp2_with fail
        go_ret
        exact ⟨rfl, B11⟩
  · have hne : (fe == 0) = false := by rw [beq_eq_false_iff_ne]; exact he
    have ht : [] = t := by have := HT.out; rwa [if_neg he] at this
    subst ht
    have w6 := w5
    have B6 := B5
    clear he
    rw [show bs [] = ⟨#[]⟩ from rfl]
    go_wp2_with fail
    refine (same_yes a1 a2 fl.length c1 c2 (zsOf fl) _ I1 I2 hfl).mono ?_
    rintro e w7 ⟨rfl, hb⟩
    have B7 := below_to B6 hb
    replace I1 := I1.below hb
    replace I2 := I2.below hb
    replace I3 := I3.below hb
    clear hb B6
    go_wp2_with fail
    refine (same_yes a3 a2 fl.length c3 c2 (zsOf fl) _ I3 I2 hfl).mono ?_
    rintro e w8 ⟨rfl, hb⟩
    have B8 := below_to B7 hb
    clear hb B7 I1 I2 I3
    go_wp2_with fail
    refine (H6.out _).mono ?_
    rintro e w9 ⟨p1, d1, rfl, P1, hb⟩
    have B9 := below_to B8 hb
    clear hb B8
    go_wp2_with fail
    refine (H7.out _).mono ?_
    rintro e w10 ⟨p2, d2, rfl, P2, hb⟩
    have B10 := below_to B9 hb
    replace P1 := P1.below hb
    clear hb B9
    go_wp2_with fail
    go_loopw [127] (fun i wx => ∃ j : Nat, j ≤ sp.length ∧ Below w10.heap.size w10 wx ∧ i = .int .i64 (j : Int)) (fun i _ => sp.length - (intOf i).toNat)
    case atStart => exact ⟨0, by omega, Below.refl _ _, rfl⟩
    case round =>
      obtain ⟨j, hj, HW, rfl⟩ := hrel
      by_cases hlt : j < sp.length
      · rcases P1.below HW with h0 | ⟨g1, hg1, hgl1, hc1⟩
        · omega
        rcases P2.below HW with h0 | ⟨g2, hg2, hgl2, hc2⟩
        · omega
        subst hg1 hg2
        obtain ⟨x, hx⟩ : ∃ x : Nat, sp[j].1 = x := ⟨_, rfl⟩
        obtain ⟨y, hy⟩ : ∃ y : Nat, sp[j].2 = y := ⟨_, rfl⟩
        have e1 := hc1 j hlt
        have e2 := hc2 j hlt
        rw [hx, hy] at e1 e2
        unfold intV at e1 e2
        obtain ⟨e11, e12⟩ := e1
        obtain ⟨e21, e22⟩ := e2
        have q := fun w => eq40 (x : Int) (y : Int) w
        clear hc1 hc2 hx hy
        go_wp2_with fail
        go_quiet (fail)
        go_wp2
        go_roundw
        case rel => exact ⟨j + 1, by omega, below_to HW (below_drewN _ _), by go_num⟩
        case measure => simp [intOf]; omega
      · go_wp2_with fail
        refine (lives_any _).mono ?_
        rintro e w11 ⟨rfl, hb⟩
        have B11 := below_to (below_to B10 HW) hb
        go_wp2_with fail
        go_ret
        exact ⟨rfl, B11⟩
theorem bitmapTakes_walk (s : ByteArray) (_ : s.size ≤ maxLen) (a : Int) (_ : -9223372036854775808 ≤ a ∧ a ≤ 9223372036854775807) (b : Int) (_ : -9223372036854775808 ≤ b ∧ b ≤ 9223372036854775807) (k : Int) (hk : -9223372036854775808 ≤ k ∧ k ≤ 9223372036854775807) (za : Option Addr) (len cap : Nat) (zs : List Int) (hl : len ≤ 9223372036854775807) {w : World} (hz : Ints w za len zs) :
    Calls Try.prog 4 #[.string s, .int .i64 a, .int .i64 b, .int .i64 k, .slice za len cap] w fun e w' => e = .returned (.bool true) ∧ Below w.heap.size w w' := by
  by_cases hs : 4096 < s.size
  · go_enter Try.func4, Try.ntmps4
    go_wp2_with (go_at_call 6; refine (lives_any _).mono ?_; rintro e w1 ⟨rfl, B1⟩)
    go_ret
    exact ⟨rfl, B1⟩
  · by_cases hl2 : 100 < len
    · go_enter Try.func4, Try.ntmps4
      go_wp2_with (go_at_call 6; refine (lives_any _).mono ?_; rintro e w1 ⟨rfl, B1⟩)
      go_ret
      exact ⟨rfl, B1⟩
    · exact bitmapTakes_main s a b k za len cap zs w hs hk.2 (by omega) hz
end Go.Proofs.Ytbgpkddobnldlaa
