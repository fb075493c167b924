/- GaugeSorts, walked. -/
import Derived.Test.YtmhfbgcfagfmbaaSJ
namespace Go.Proofs.Ytmhfbgcfagfmbaa
open Go.RowKit
theorem MeanAt.later {w wx w1 : World} {zs : List Nat} {k s c : Nat} (h : MeanAt w zs k s c wx) (b : Below wx.heap.size wx w1) : MeanAt w zs k s c w1 := ⟨h.sum, h.count, h.fit, h.le, below_on h.below b⟩
set_option maxHeartbeats 1000000 in
theorem rmean_any (a : Option Addr) (len cap : Nat) (zs : List Nat) (w : World) (hm : len ≤ 9223372036854775807) (hz : Flts w a len zs) :
    Calls Try.prog 47 #[.slice a len cap] w (MRet (good zs) w) := by
  obtain ⟨hlen, hfit, hz⟩ := hz
  have HL := Lib.hid hlen
  have HF := Lib.hid hfit
  clear hlen hfit
  go_enter Try.func47, Try.ntmps47
  go_wp2
  go_loopw [4, 5, 6] (fun t n i wx => ∃ (k s c : Nat), k ≤ len ∧ MeanAt w zs k s c wx ∧ t = .float .f64 s ∧ n = .int .i64 (c : Int) ∧ i = .int .i64 (k : Int)) (fun _ _ i _ => len - (intOf i).toNat)
  case atStart => exact ⟨0, 0, 0, by omega, ⟨by simp [good, FSF], by simp [good], fit0, by omega, Below.refl _ _⟩, rfl, rfl, rfl⟩
  case round =>
    obtain ⟨k, s, c, hk, hM, rfl, rfl, rfl⟩ := hrel
    have hle := hM.le
    by_cases hlt : k < len
    · rcases hz with hz | ⟨b, off, ha, hc⟩
      · omega
      · subst ha
        have hck := hc k hlt
        have hbl := World.block_lt_of_cell? w _ hck
        have gx := (hM.below.cell (p := ⟨b, off + k, none⟩) hbl).trans hck
        clear hck hc
        have hf : Fit (zs.getD k 0) := by
          have hk' : k < zs.length := by rw [HL.out]; exact hlt
          rw [show zs.getD k 0 = zs[k] by simp [hk']]; exact HF.out _ (List.getElem_mem hk')
        generalize hX : zs.getD k 0 = x at gx hf
        have HX := Lib.hid hX
        clear hX
        have h6 := kind6 hf
        have hkl : k < zs.length := by rw [HL.out]; exact hlt
        rcases hn : nanB x
        · rw [hn] at h6
          have h7 : (kindF x != 6) = true := by rw [bne, h6]; rfl
          clear h6
          go_wp2_with fail
          refine (rkind_any x hf _).mono ?_
          rintro e w0 ⟨rfl, hb⟩
          have gx0 := below_cell hb gx
          have hM0 := hM.later hb
          clear hb gx
          obtain ⟨t, w1, q1, ft, a1⟩ := run_arith .add (.inl rfl) 45 s x w0
          obtain ⟨r1, b1⟩ := toAR a1
          have HM := hM0.add hkl HX.out hn ft r1 (hM0.below.trans (b1.mono hM0.below.size))
          clear a1 r1 b1
          go_wp2_with fail
          go_roundw
          case rel => exact ⟨k + 1, t, c + 1, by omega, HM, rfl, by go_num, by go_num⟩
          case measure => simp [intOf]; omega
        · rw [hn] at h6
          have h7 : (kindF x != 6) = false := by rw [bne, h6]; rfl
          clear h6
          go_wp2_with fail
          refine (rkind_any x hf _).mono ?_
          rintro e w0 ⟨rfl, hb⟩
          have HM := (hM.later hb).skip hkl HX.out hn
          clear hb
          go_wp2_with fail
          go_roundw
          case rel => exact ⟨k + 1, s, c, by omega, HM, rfl, rfl, by go_num⟩
          case measure => simp [intOf]; omega
    · have hkl : k = len := by omega
      subst hkl
      have e1 : zs.take k = zs := List.take_of_length_le (by rw [HL.out]; exact Nat.le_refl _)
      have hsum := hM.sum
      have hcount := hM.count
      rw [e1] at hsum hcount
      have HS := Lib.hid hsum
      have HC := Lib.hid hcount
      clear hsum hcount e1
      by_cases h0 : c = 0
      · subst h0
        go_wp2_with fail
        refine (rnan_any _).mono ?_
        rintro e w1 ⟨b, n, fb, rfl, hb⟩
        have hB := below_on hM.below hb
        go_wp2_with fail
        go_ret2
        have hg : good zs = [] := List.eq_nil_of_length_eq_zero HC.out.symm
        exact ⟨b, .inl ⟨hg, n⟩, fb, tuple_ret (by rw [hg]; rfl), hB⟩
      · have g0 : ((c : Int) == 0) = false := by simp; omega
        obtain ⟨t, w1, q1, ft, a1⟩ := run_arith .quo (.inr (.inr (.inr rfl))) 45 s (floatOfInt .f64 (c : Int)) wr
        obtain ⟨r1, b1⟩ := toAR a1
        have HR : Hid (MeanIs (good zs) t) := Lib.hid (.inr ⟨fun h => by have := HC.out; rw [h] at this; simp at this; omega, s, hM.fit, HS.out, by rw [← HC.out]; exact r1⟩)
        have HB := hM.below.trans (b1.mono hM.below.size)
        clear a1 r1 b1
        go_wp2
        go_ret2
        exact ⟨t, HR.out, ft, tuple_ret (by rw [HC.out]), HB⟩
theorem keep7s {W W' : World} (hb : Below W.heap.size W W') {p0 p1 p2 p3 p4 p5 p6 : Addr} {v0 v1 v2 v3 v4 v5 v6 : Value} (h : W.cell? p0 = some v0 ∧ W.cell? p1 = some v1 ∧ W.cell? p2 = some v2 ∧ W.cell? p3 = some v3 ∧ W.cell? p4 = some v4 ∧ W.cell? p5 = some v5 ∧ W.cell? p6 = some v6) : W'.cell? p0 = some v0 ∧ W'.cell? p1 = some v1 ∧ W'.cell? p2 = some v2 ∧ W'.cell? p3 = some v3 ∧ W'.cell? p4 = some v4 ∧ W'.cell? p5 = some v5 ∧ W'.cell? p6 = some v6 :=
  ⟨below_cell hb h.1, below_cell hb h.2.1, below_cell hb h.2.2.1, below_cell hb h.2.2.2.1, below_cell hb h.2.2.2.2.1, below_cell hb h.2.2.2.2.2.1, below_cell hb h.2.2.2.2.2.2⟩
theorem least_is {zs : List Nat} {b y : Nat} (h : (zs = [] ∧ NaN b) ∨ (b ∈ zs ∧ ∀ z ∈ zs, tk b ≤ tk z)) (k : y ∈ zs ∧ ∀ z ∈ zs, tk y ≤ tk z) : decide (tk b = tk y) = true := by
  rcases h with ⟨h, _⟩ | h
  · rw [h] at k; simp at k
  · have h1 := h.2 y k.1
    have h2 := k.2 b h.1
    exact decide_eq_true (by omega)
theorem greatest_is {zs : List Nat} {b y : Nat} (h : (zs = [] ∧ NaN b) ∨ (b ∈ zs ∧ ∀ z ∈ zs, tk z ≤ tk b)) (k : y ∈ zs ∧ ∀ z ∈ zs, tk z ≤ tk y) : decide (tk b = tk y) = true := by
  rcases h with ⟨h, _⟩ | h
  · rw [h] at k; simp at k
  · have h1 := h.2 y k.1
    have h2 := k.2 b h.1
    exact decide_eq_true (by omega)
theorem cntK_next {zs : List Nat} {k x i : Nat} {c : Nat → Nat} (h : ∀ j, j < 7 → c j = cntK (j : Int) (zs.take k)) (hk : k < zs.length) (hx : zs.getD k 0 = x) (hi : kindF x = (i : Int)) : ∀ j, j < 7 → (if j = i then c i + 1 else c j) = cntK (j : Int) (zs.take (k + 1)) := by
  intro j hj
  rw [take_snoc_nat zs k hk, hx, cntK_snoc, hi]
  by_cases e : j = i
  · subst e; rw [if_pos rfl, if_pos rfl, h j hj]
  · rw [if_neg e, if_neg (by omega), h j hj]; rfl
set_option linter.unusedVariables false in
set_option maxRecDepth 100000 in
set_option maxHeartbeats 4000000 in
theorem sorts_main (a : Option Addr) (len cap : Nat) (zs : List Nat) (w : World) (hm : len ≤ 200) (hz : Flts w a len zs) :
    Calls Try.prog 9 #[.slice a len cap] w fun e w' => e = .returned (.bool true) ∧ Below w.heap.size w w' := by
  have HZL := Lib.hid hz.1
  have HZF := Lib.hid hz.2.1
  go_enter Try.func9, Try.ntmps9
  go_wp2_with fail
  refine (rsort_any a len cap zs _ hm hz).mono ?_
  rintro e w1 ⟨a1, c1, ys, rfl, F1, P1, A1, B1⟩
  have HP1 := Lib.hid P1
  have HA1 := Lib.hid (Asc.of (l := ys) (fun i j h1 h2 => A1 i j h1 (by rw [← F1.1]; exact h2)))
  have Z1 := hz.later B1
  clear P1 A1 hz
  go_wp2_with fail
  refine (mean_any a len cap zs _ (by omega) Z1).mono ?_
  rintro e w2 ⟨m, hMI, fm, rfl, hb⟩
  have B2 := below_on B1 hb
  have Z2 := Z1.later hb
  replace F1 := F1.later hb
  clear hb B1 Z1
  go_wp2_with fail
  refine (rmean_any a len cap zs _ (by omega) Z2).mono ?_
  rintro e w3 ⟨p, hMJ, fp, rfl, hb⟩
  have B3 := below_on B2 hb
  have Z3 := Z2.later hb
  replace F1 := F1.later hb
  have HMP := Lib.hid (decide_eq_true (alik_tk fm fp (hMI.alik hMJ)))
  have hgl : (good zs).length ≤ 200 := by unfold good; exact Nat.le_trans (List.length_filter_le _ _) (by rw [HZL.out]; exact hm)
  generalize (good zs).length = gl at hgl ⊢
  clear hb B2 Z2 hMI hMJ
  go_wp2_with fail
  refine (gsort_all a len cap zs _ hm Z3).mono ?_
  rintro e w4 ⟨a2, c2, xs, rfl, F2, P2, A2, hb⟩
  have B4 := below_on B3 hb
  have Z4 := Z3.later hb
  replace F1 := F1.later hb
  have HEQ := Lib.hid (fun j (hj : j < len) => asc_alike (Asc.of (l := xs) (fun i j h1 h2 => A2 i j h1 (by rw [← F2.1]; exact h2))) HA1.out (P2.trans HP1.out.symm) j (by rw [F2.1]; exact hj))
  clear hb B3 Z3 P2 A2
  go_wp2_with fail
  refine (sameList_any a2 a1 len c2 c1 xs ys _ (by omega) F2 F1 HEQ.out).mono ?_
  rintro e w5 ⟨rfl, hb⟩
  have B5 := below_on B4 hb
  have Z5 := Z4.later hb
  replace F1 := F1.later hb
  clear hb B4 Z4 F2
  go_wp2_with fail
  refine (same_any m p fm fp _).mono ?_
  rintro e w6 ⟨rfl, hb⟩
  rw [HMP.out]
  have B6 := below_on B5 hb
  have Z6 := Z5.later hb
  replace F1 := F1.later hb
  clear hb B5 Z5
  have HZ6 := Lib.hid Z6
  have HF6 := Lib.hid F1
  clear Z6 F1
  go_wp2_with fail
  go_loopw [45] (fun i wx => ∃ (k : Nat) (c : Nat → Nat), k ≤ len ∧ Hid (∀ j, j < 7 → c j = cntK (j : Int) (zs.take k)) ∧ Seven w6.heap.size c wx ∧ Below w6.heap.size w6 wx ∧ i = .int .i64 (k : Int)) (fun i _ => len - (intOf i).toNat)
  case atStart => exact ⟨0, fun _ => 0, by omega, Lib.hid (fun j _ => by simp [cntK]), Seven.new w6, (Below.refl _ _).alloc (Nat.le_refl _) _, rfl⟩
  case round =>
    obtain ⟨k, c, hk, HC, HV, HW, rfl⟩ := hrel
    by_cases hlt : k < len
    · have Zr := HZ6.out.later HW
      rcases Zr.2.2 with h0 | ⟨b, off, ha, hc⟩
      · omega
      subst ha
      have hkl : k < zs.length := by rw [HZL.out]; exact hlt
      obtain ⟨x, hx⟩ : ∃ x, zs.getD k 0 = x := ⟨_, rfl⟩
      have fx : Fit x := by rw [← hx, show zs.getD k 0 = zs[k] by simp [hkl]]; exact HZF.out _ (List.getElem_mem hkl)
      have gx : wr.cell? ⟨b, off + k, none⟩ = some (.float .f64 x) := by rw [← hx]; exact hc k hlt
      obtain ⟨i, hi7, hki⟩ := kind_nat fx
      have HC2 := Lib.hid (cntK_next HC.out hkl hx hki)
      have hci : c i ≤ 200 := by rw [HC.out i hi7]; exact Nat.le_trans (cntK_le _ _) (by rw [List.length_take]; omega)
      have hK := fun w => rkind_any x fx w
      rw [hki] at hK
      have HK := Lib.hid hK
      clear hc hx Zr hki hK
      go_wp2_with fail
      refine (HK.out _).mono ?_
      rintro e w8 ⟨rfl, hb⟩
      have HV8 := HV.below hb
      have HW8 := below_on HW hb
      have g8 := HV8.cell i hi7
      have f8 := HV8.frozen i hi7
      clear hb gx
      have hi8 : (i : Int) < 7 := by omega
      go_wp2_with fail
      go_roundw
      case rel => exact ⟨k + 1, _, by omega, HC2, HV8.add i hi7, HW8.setCell (p := ⟨w6.heap.size, i, none⟩) (Nat.le_refl _) _, by go_num⟩
      case measure => simp [intOf]; omega
    · obtain rfl : k = len := by omega
      have hC := HC.out
      rw [List.take_of_length_le (by rw [HZL.out]; exact Nat.le_refl _)] at hC
      have hK := fun w h => kinds_any a k cap zs w hm h
      unfold cells7 at hK
      have v0 := HV.cell 0 (by omega)
      have v1 := HV.cell 1 (by omega)
      have v2 := HV.cell 2 (by omega)
      have v3 := HV.cell 3 (by omega)
      have v4 := HV.cell 4 (by omega)
      have v5 := HV.cell 5 (by omega)
      have v6 := HV.cell 6 (by omega)
      rw [hC 0 (by omega)] at v0
      rw [hC 1 (by omega)] at v1
      rw [hC 2 (by omega)] at v2
      rw [hC 3 (by omega)] at v3
      rw [hC 4 (by omega)] at v4
      rw [hC 5 (by omega)] at v5
      rw [hC 6 (by omega)] at v6
      rw [show (((0 : Nat) : Int)) = 0 from rfl] at v0
      rw [show (((1 : Nat) : Int)) = 1 from rfl] at v1
      rw [show (((2 : Nat) : Int)) = 2 from rfl] at v2
      rw [show (((3 : Nat) : Int)) = 3 from rfl] at v3
      rw [show (((4 : Nat) : Int)) = 4 from rfl] at v4
      rw [show (((5 : Nat) : Int)) = 5 from rfl] at v5
      rw [show (((6 : Nat) : Int)) = 6 from rfl] at v6
      generalize cntK 0 zs = d0 at hK v0
      generalize cntK 1 zs = d1 at hK v1
      generalize cntK 2 zs = d2 at hK v2
      generalize cntK 3 zs = d3 at hK v3
      generalize cntK 4 zs = d4 at hK v4
      generalize cntK 5 zs = d5 at hK v5
      generalize cntK 6 zs = d6 at hK v6
      have HK := Lib.hid hK
      have q58 := fun w => eq58 (d0 : Int) (d1 : Int) (d2 : Int) (d3 : Int) (d4 : Int) (d5 : Int) (d6 : Int) w
      have Zr : Flts wr.drew a k zs := HZ6.out.later HW.drew
      clear hC hK
      go_wp2_with fail
      go_region_held3 (fun w' => w'.cell? ⟨w6.heap.size, 0, none⟩ = some (.int .i64 (d0 : Int)) ∧ w'.cell? ⟨w6.heap.size, 1, none⟩ = some (.int .i64 (d1 : Int)) ∧ w'.cell? ⟨w6.heap.size, 2, none⟩ = some (.int .i64 (d2 : Int)) ∧ w'.cell? ⟨w6.heap.size, 3, none⟩ = some (.int .i64 (d3 : Int)) ∧ w'.cell? ⟨w6.heap.size, 4, none⟩ = some (.int .i64 (d4 : Int)) ∧ w'.cell? ⟨w6.heap.size, 5, none⟩ = some (.int .i64 (d5 : Int)) ∧ w'.cell? ⟨w6.heap.size, 6, none⟩ = some (.int .i64 (d6 : Int)))
        (first | exact ⟨v0, v1, v2, v3, v4, v5, v6⟩ | exact keep7s hb (by assumption))
        ((go_at_call 50; refine (HK.out _ Zr).mono ?_; rintro e w8 ⟨rfl, hb⟩))
      have HW8 := below_on HW.drew hb
      have B8 := below_on B6 HW8
      have Z8 := HZ6.out.later HW8
      have F8 := HF6.out.later HW8
      clear hb Zr v0 v1 v2 v3 v4 v5 v6 HV
      by_cases h0 : k = 0
      · have hk0 : ((k : Int) == 0) = true := by rw [beq_iff_eq]; omega
        clear h0 q58
        go_wp2_with fail
        refine (least_any none 0 0 [] _ (by omega) ⟨rfl, by simp, .inl rfl⟩).mono ?_
        rintro e w' ⟨rfl, b1, fb1, rfl, hl1⟩
        have n1 : NaN b1 := by
          rcases hl1 with ⟨_, h⟩ | ⟨h, _⟩
          · exact h
          · simp at h
        have hk1 : kindF b1 = 6 := by have := kind6 fb1; rw [nanB_true n1] at this; exact beq_iff_eq.1 this
        have HK1 := Lib.hid (fun w => hk1 ▸ kind_any b1 fb1 w)
        clear hl1 n1 hk1
        go_wp2_with fail
        refine (HK1.out _).mono ?_
        rintro e w' ⟨rfl, rfl⟩
        go_wp2_with fail
        refine (greatest_any none 0 0 [] _ (by omega) ⟨rfl, by simp, .inl rfl⟩).mono ?_
        rintro e w' ⟨rfl, b2, fb2, rfl, hl2⟩
        have n2 : NaN b2 := by
          rcases hl2 with ⟨_, h⟩ | ⟨h, _⟩
          · exact h
          · simp at h
        have hk2 : kindF b2 = 6 := by have := kind6 fb2; rw [nanB_true n2] at this; exact beq_iff_eq.1 this
        have HK2 := Lib.hid (fun w => hk2 ▸ kind_any b2 fb2 w)
        clear hl2 n2 hk2
        go_wp2_with fail
        refine (HK2.out _).mono ?_
        rintro e w' ⟨rfl, rfl⟩
        go_wp2_with fail
        refine (lives2_any _).mono ?_
        rintro e w9 ⟨rfl, hb9⟩
        have B9 := below_on B8 hb9
        go_wp2_with fail
        go_ret
        exact ⟨rfl, B9⟩
      · obtain ⟨n, hn⟩ : ∃ n, k = n + 1 := ⟨k - 1, by omega⟩
        have hk0 : ((k : Int) == 0) = false := by rw [beq_eq_false_iff_ne]; omega
        have hk2 : 0 < k := by omega
        have hyl : ys.length = n + 1 := by rw [← hn]; exact F8.1
        rcases F8.2.2 with h | ⟨g, off, ha, hc⟩
        · omega
        subst ha
        have g0 : w8.cell? ⟨g, off, none⟩ = some (.float .f64 (ys.getD 0 0)) := hc 0 (by omega)
        have g1 : w8.cell? ⟨g, off + n, none⟩ = some (.float .f64 (ys.getD n 0)) := hc n (by omega)
        have e0 := ends_first HP1.out HA1.out (by omega)
        have e1 := ends_last HP1.out HA1.out hyl
        have f0 : Fit (ys.getD 0 0) := HZF.out _ e0.1
        have f1 : Fit (ys.getD n 0) := HZF.out _ e1.1
        generalize ys.getD 0 0 = y0 at g0 e0 f0
        generalize ys.getD n 0 = y1 at g1 e1 f1
        have HE0 := Lib.hid e0
        have HE1 := Lib.hid e1
        have Zd : Flts w8.drew a k zs := Z8.later ((Below.refl _ w8).drew)
        have q2 : IntKind.i64.wrap ((k : Int) - 1) = (n : Int) := by rw [IntWalk.i64_in _ (by omega)]; omega
        have q4 : n < k := by omega
        have q5 : (n : Int) < (k : Int) := by omega
        have q6 : (0 : Int) ≤ (n : Int) := by omega
        have Q2 := Lib.hid q2
        clear h0 q58 hc e0 e1 hyl F8 hn q2
        go_wp2_with fail
        have q2 := Q2.out
        have g0d : w8.drew.cell? ⟨g, off, none⟩ = some (.float .f64 y0) := g0
        have g1d : w8.drew.cell? ⟨g, off + n, none⟩ = some (.float .f64 y1) := g1
        go_region_held3 (fun w' => w'.cell? ⟨g, off, none⟩ = some (.float .f64 y0) ∧ w'.cell? ⟨g, off + n, none⟩ = some (.float .f64 y1))
          (first | with_reducible exact ⟨g0d, g1d⟩ | with_reducible assumption | with_reducible exact keep2 hb9 (by assumption) | with_reducible exact keep2 hbA (by assumption) | with_reducible exact keep2 hbB (by assumption))
          (first
            | (go_at_call 51; refine (least_any a k cap zs _ (by omega) Zd).mono ?_; rintro e w' ⟨rfl, b1, fb1, rfl, hl1⟩)
            | (go_at_call 52; refine (greatest_any a k cap zs _ (by omega) (Zd.later hb9)).mono ?_; rintro e w' ⟨rfl, b2, fb2, rfl, hl2⟩)
            | (go_at_call 36; ((with_reducible refine (same_any b1 y0 fb1 f0 _).mono ?_); rintro e w9 ⟨rfl, hb9⟩; rw [least_is hl1 HE0.out]))
            | (go_at_call 36; ((with_reducible refine (same_any b2 y1 fb2 f1 _).mono ?_); rintro e wA ⟨rfl, hbA⟩; rw [greatest_is hl2 HE1.out]))
            | (go_at_call 35; refine (lives2_any _).mono ?_; rintro e wB ⟨rfl, hbB⟩))
        have B9 := below_on (below_on (below_on B8.drew hb9) hbA) hbB
        go_wp2_with fail
        go_ret
        exact ⟨rfl, B9⟩
theorem gaugeSorts_walk {w : World} (a : Option Addr) (len cap : Nat) (zs : List Nat) (hm : len ≤ 9223372036854775807) (hz : Flts w a len zs) :
    Calls Try.prog 9 #[.slice a len cap] w fun e w' => e = .returned (.bool true) ∧ Below w.heap.size w w' := by
  by_cases hl : 200 < len
  · go_enter Try.func9, Try.ntmps9
    go_wp2_with (go_at_call 35; refine (lives2_any _).mono ?_; rintro e w1 ⟨rfl, B1⟩)
    go_ret
    exact ⟨rfl, B1⟩
  · exact sorts_main a len cap zs w (by omega) hz
end Go.Proofs.Ytmhfbgcfagfmbaa
