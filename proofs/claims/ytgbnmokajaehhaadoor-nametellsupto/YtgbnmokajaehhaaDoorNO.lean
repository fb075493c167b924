/- Contracts: the reference's Words, Unword. -/
import Derived.Test.YtgbnmokajaehhaaDoorNN
import Derived.Test.YtgbnmokajaehhaaDoorNG
namespace Go.Proofs.YtgbnmokajaehhaaDoor
open Go.RowKit Go.Sort
set_option linter.unusedVariables false
set_option maxRecDepth 100000
theorem ext_mid (s : ByteArray) (f i : Nat) : (s.extract f i).data.toList = (s.data.toList.drop f).take (i - f) := by
  rw [ByteArray.data_extract, Array.toList_extract, List.extract]
set_option maxHeartbeats 1000000 in
theorem rwords_any (s : ByteArray) (hs : s.size ≤ 2048) (w : World) : Calls Tryd.prog 15 #[.string s] w fun e w' => ∃ a n c out, e = .returned (.slice a n c) ∧ Strs w' a n out ∧ out.map (·.data.toList) = splitA s.data.toList ∧ Below w.heap.size w w' := by
  obtain ⟨i0, hi0, hz0, hz1, hz2⟩ := info_parts info9
  go_enter Tryd.func15, Tryd.ntmps15
  go_wp2
  go_loopw [3, 4, 5] (fun v f i wx => ∃ (k m n : Nat) (out : List ByteArray), k ≤ s.size + 1 ∧ m ≤ k ∧ n ≤ k ∧ Hid (WAt s.data.toList k m out) ∧ SRow w out v n wx ∧ f = .int .i64 (m : Int) ∧ i = .int .i64 (k : Int)) (fun _ _ i _ => s.size + 1 - (intOf i).toNat)
  case atStart => exact ⟨0, 0, 0, [], by omega, by omega, by omega, Lib.hid (.inl ⟨Nat.zero_le _, Nat.le_refl _, by simp, by simp⟩), SRow.fresh w, rfl, rfl⟩
  case round =>
    obtain ⟨k, m, n, out, hk, hmk, hnk, HA, HR, rfl, rfl⟩ := hrel
    by_cases hlt : k ≤ s.size
    · have hms : m ≤ s.size := by omega
      have HM := Lib.hid (ext_mid s m k)
      by_cases he : k = s.size
      · have t1 : ((k : Int) == (s.size : Int)) = true := by rw [beq_iff_eq]; omega
        have t2 : (k == s.size) = true := by rw [beq_iff_eq]; exact he
        have HA2 := Lib.hid (HA.out.last (s.extract m k) HM.out (by rw [← blen]; exact he))
        clear he
        go_wp2_with (at_builtin; refine wpList_append_own _ rfl _ _ 22 rfl w.heap.size 9 i0 (.string ByteArray.empty) 1 16 Tryd.underlying22 hi0 hz0 hz1 hz2 rfl (by decide) _ _ _ rfl (HR.own.alloc _) ⟨wr.heap.size, 0, none⟩ 1 1 [.string (s.extract m k)] rfl rfl ?c1 ?c2 ?c3 ?c4 ?c5 ?_)
        case c1 =>
          intro j u hj
          match j, hj with
          | 0, hj => simp at hj; subst hj; simp [Addr.add]
        case c2 => intro u hu; simp at hu; subst hu; rfl
        case c3 => unfold maxLen; omega
        case c4 => omega
        case c5 => have := HR.below.size; simp; omega
        intro v' w4 hown' hgrow _
        have HR2 := HR.snoc hown' hgrow
        clear hown' hgrow
        go_wp2_with fail
        go_roundw
        case rel => exact ⟨k + 1, k + 1, n + 1, _, by omega, by omega, by omega, HA2, HR2, by go_num, by go_num⟩
        case measure => simp [intOf]; omega
      · have hkl : k < s.size := by omega
        have t1 : ((k : Int) == (s.size : Int)) = false := by rw [beq_eq_false_iff_ne]; omega
        have t2 : (k == s.size) = false := by rw [beq_eq_false_iff_ne]; exact he
        have hkd : k < s.data.toList.length := by rw [← blen]; exact hkl
        have hsk : s.data.toList[k] = s[k] := by simp [ByteArray.getElem_eq_getElem_data]
        clear he
        by_cases hc : s[k] = 32
        · have t3 : ((s[k].toNat : Int) == 32) = true := by rw [hc]; rfl
          have HA2 := Lib.hid (HA.out.hit (s.extract m k) HM.out hkd (by rw [hsk]; exact hc))
          clear hc hsk
          go_wp2_with (at_builtin; refine wpList_append_own _ rfl _ _ 22 rfl w.heap.size 9 i0 (.string ByteArray.empty) 1 16 Tryd.underlying22 hi0 hz0 hz1 hz2 rfl (by decide) _ _ _ rfl (HR.own.alloc _) ⟨wr.heap.size, 0, none⟩ 1 1 [.string (s.extract m k)] rfl rfl ?c1 ?c2 ?c3 ?c4 ?c5 ?_)
          case c1 =>
            intro j u hj
            match j, hj with
            | 0, hj => simp at hj; subst hj; simp [Addr.add]
          case c2 => intro u hu; simp at hu; subst hu; rfl
          case c3 => unfold maxLen; omega
          case c4 => omega
          case c5 => have := HR.below.size; simp; omega
          intro v' w4 hown' hgrow _
          have HR2 := HR.snoc hown' hgrow
          clear hown' hgrow
          go_wp2_with fail
          go_roundw
          case rel => exact ⟨k + 1, k + 1, n + 1, _, by omega, by omega, by omega, HA2, HR2, by go_num, by go_num⟩
          case measure => simp [intOf]; omega
        · have t3 : ((s[k].toNat : Int) == 32) = false := by rw [beq_eq_false_iff_ne]; intro e; exact hc (UInt8.toNat_inj.1 (show s[k].toNat = _ from Int.ofNat.inj e))
          have HA2 := Lib.hid (HA.out.go hkd (by rw [hsk]; exact hc))
          clear hc hsk
          go_wp2_with fail
          go_roundw
          case rel => exact ⟨k + 1, m, n, out, by omega, by omega, by omega, HA2, HR, rfl, by go_num⟩
          case measure => simp [intOf]; omega
    · obtain ⟨a, c, hv, hS⟩ := HR.strs
      subst hv
      have hend : out.map (·.data.toList) = splitA s.data.toList := by
        rcases HA.out with ⟨h1, _⟩ | ⟨_, h2⟩
        · rw [← blen] at h1; omega
        · exact h2
      have HEND := Lib.hid hend
      have HB := HR.below
      clear hend
      go_wp2_with fail
      go_ret
      exact ⟨a, n, c, out, rfl, hS, HEND.out, HB⟩
theorem ByRow.fresh (w : World) : ByRow w [] (.slice (some ⟨w.heap.size, 0, none⟩) 0 0) (w.alloc (.cells #[] 5)) :=
  ⟨World.ownsRow_made w #[] 0 (Nat.le_refl _) (by decide) (by simp), (Below.refl _ _).alloc (Nat.le_refl _) _⟩
theorem own_of {w w1 : World} {b T sz n : Nat} {v : Value} {xs : List Value} (h : w.ownsRow b T sz v n xs) (B : Below w.heap.size w w1) : w1.ownsRow b T sz v n xs := by
  refine ⟨h.1, ?_⟩
  rcases h.2 with hn | ⟨g, cap, cur, hv, h1, h2, h3⟩
  · exact .inl hn
  · exact .inr ⟨g, cap, cur, hv, h1, (B.block g (Array.getElem?_eq_some_iff.1 h2).1).trans h2, h3⟩
theorem esc_add (a b : UInt8) : 16 * (hexV a : Int) + (hexV b : Int) = ((escB a b).toNat : Int) := by
  have h1 := hexV_lt a
  have h2 := hexV_lt b
  unfold escB
  rw [UInt8.toNat_ofNat']
  omega
theorem drop_1 (s : ByteArray) (k : Nat) (h : k < s.size) : s.data.toList.drop k = s[k] :: s.data.toList.drop (k + 1) := by
  rw [List.drop_eq_getElem_cons (by rw [← blen]; exact h)]
  simp [ByteArray.getElem_eq_getElem_data]
set_option maxHeartbeats 2000000 in
theorem runword_loop (s : ByteArray) (hs : s.size ≤ 2048) (h0 : 0 < s.size) (h37 : (s.toList == [37]) = false) (w : World) :
    Calls Tryd.prog 9 #[.string s] w fun e w' => e = .returned (.tuple #[.string (bs (unwS s.data.toList).1), .int .i64 (unwS s.data.toList).2]) ∧ Below w.heap.size w w' := by
  obtain ⟨i0, hi, hz0, hz1, hz2⟩ := info_parts info5
  have h37b : (!(s.toList == [37])) = true := by rw [h37]; rfl
  have HQ := Lib.hid (show (s.toList != [37]) = true by rw [bne, h37]; rfl)
  go_enter Tryd.func9, Tryd.ntmps9
  go_wp2_with fail
  go_loopw [4, 5] (fun v i wx => ∃ (k : Nat) (l : List UInt8), k ≤ s.size ∧ l.length ≤ k ∧ Hid (l ++ unescL (s.data.toList.drop k) = unescL s.data.toList) ∧ ByRow w l v wx ∧ i = .int .i64 (k : Int)) (fun _ i _ => s.size - (intOf i).toNat)
  case atStart => exact ⟨0, [], by omega, by simp, Lib.hid (by simp), ByRow.fresh w, rfl⟩
  case round =>
    obtain ⟨k, l, hk, hlk, HL, HR, rfl⟩ := hrel
    by_cases hlt : k < s.size
    · have hd1 := drop_1 s k hlt
      by_cases he : s[k] = 37 ∧ k + 2 < s.size
      · obtain ⟨he1, he2⟩ := he
        have hd2 := drop_1 s (k + 1) (by omega)
        have hd3 := drop_1 s (k + 2) (by omega)
        have HU := Lib.hid (show unescL (s.data.toList.drop k) = escB s[k + 1] s[k + 2] :: unescL (s.data.toList.drop (k + 3)) by
          rw [hd1, hd2, hd3, he1, unescL_esc])
        have t1 : ((s[k].toNat : Int) == 37) = true := by rw [he1]; rfl
        have t2 : (k : Int) + 2 < (s.size : Int) := by omega
        obtain ⟨p, hp⟩ : ∃ p, k + 1 = p := ⟨_, rfl⟩
        obtain ⟨q, hq⟩ : ∃ q, k + 2 = q := ⟨_, rfl⟩
        have hpl : p < s.size := by omega
        have hql : q < s.size := by omega
        have hw1 : IntKind.i64.wrap ((k : Int) + 1) = (p : Int) := by rw [IntWalk.i64_in _ (by omega)]; omega
        have hw2 : IntKind.i64.wrap ((k : Int) + 2) = (q : Int) := by rw [IntWalk.i64_in _ (by omega)]; omega
        have hesc := esc_add s[p] s[q]
        have ha := hexV_lt s[p]
        have hb := hexV_lt s[q]
        have HU2 : Hid (unescL (s.data.toList.drop k) = escB s[p] s[q] :: unescL (s.data.toList.drop (k + 3))) := by subst hp hq; exact HU
        have K1 := Lib.hid (fun w => rvalue_any s[p] w)
        have K2 := Lib.hid (fun w => rvalue_any s[q] w)
        generalize hexV s[p] = a at hesc ha K1
        generalize hexV s[q] = b at hesc hb K2
        generalize escB s[p] s[q] = c at hesc HU2
        obtain ⟨m, hm⟩ : ∃ m, 16 * a = m := ⟨_, rfl⟩
        have hw3 : IntKind.u8.wrap (16 * (a : Int)) = (m : Int) := by rw [IntKind.wrap_u8]; omega
        have hw4 : IntKind.u8.wrap ((m : Int) + (b : Int)) = (c.toNat : Int) := by rw [IntKind.wrap_u8]; have := c.toNat_lt; omega
        have HW1 := Lib.hid hw1
        have HW2 := Lib.hid hw2
        clear hd1 hd2 hd3 he1 HU hesc hp hq hw1 hw2 hm
        go_wp2_with fail
        have hw1 := HW1.out
        have hw2 := HW2.out
        have hS0 : ByRow w l u4 wr.drew := ⟨HR.own, HR.below.drew⟩
        have hown := hS0.own
        have hH : w.heap.size ≤ wr.heap.size := hS0.below.size
        have hnews := World.news_of_block (heap_alloc_new wr.drew (.cells #[u8V c] 5))
        have h1c : ∀ u ∈ [u8V c], u.oneCell' = true := by intro u hu; simp at hu; subst hu; rfl
        have HO := Lib.hid hown
        have HN := Lib.hid hnews
        have H1C := Lib.hid h1c
        clear hown hnews h1c
        go_region_held_law (fun _ => True) (trivial) (first
          | (refine step_append_lies _ (by rfl) (.tmp 24) (.tmp 37) 42 (by rfl) w.heap.size 5 i0 (.int .u8 0) 1 1 Tryd.underlying42 hi hz0 hz1 hz2 (by rfl) (by decide) u4 l.length (l.map u8V) (by rfl) (HO.out.alloc _) ⟨wr.heap.size, 0, none⟩ 1 1 [u8V c] (by rfl) (by rfl) HN.out H1C.out (by decide) (by unfold maxLen; omega) (by omega) (by simp; omega) _ (by rfl) ?_; intro g cap w4 hown' hgrow hat hlt4)
          | (go_simp; go_at_call 42; ((with_reducible refine (K1.out _).mono ?_); rintro e w' ⟨rfl, rfl⟩))
          | (go_simp; go_at_call 42; ((with_reducible refine (K2.out _).mono ?_); rintro e w' ⟨rfl, rfl⟩)))
        all_goals
          have hS' := hS0.snoc (m := [c]) hown' hgrow
          clear hown' hgrow hS0 hat hlt4 hw1 hw2 hw3 hw4
          go_wp2_with fail
          go_roundw
          case rel => exact ⟨k + 3, _, by omega, by simp; omega, Lib.hid (by rw [← HL.out, HU2.out, List.append_assoc]; rfl), hS', by go_num⟩
          case measure => simp [intOf]; omega
      · have HU := Lib.hid (show unescL (s.data.toList.drop k) = s[k] :: unescL (s.data.toList.drop (k + 1)) by
          rw [hd1]
          apply unescL_plain
          by_cases h : s[k] = 37
          · right; rw [List.length_drop, ← blen]; have : ¬ k + 2 < s.size := fun x => he ⟨h, x⟩; omega
          · exact .inl h)
        have hown := HR.own
        clear hd1
        by_cases h : s[k] = 37
        · have t1 : ((s[k].toNat : Int) == 37) = true := by rw [h]; rfl
          have t2 : ¬ (k : Int) + 2 < (s.size : Int) := by have : ¬ k + 2 < s.size := fun x => he ⟨h, x⟩; omega
          have t3 : decide ((k : Int) + 2 < (s.size : Int)) = false := by rw [decide_eq_false_iff_not]; exact t2
          clear h he
          go_wp2_with (at_builtin; refine wpList_append_own _ rfl _ _ 42 rfl w.heap.size 5 i0 (.int .u8 0) 1 1 Tryd.underlying42 hi hz0 hz1 hz2 rfl (by decide) _ _ _ rfl (hown.alloc _) ⟨wr.heap.size, 0, none⟩ 1 1 [u8V s[k]] rfl rfl ?c1 ?c2 ?c3 ?c4 ?c5 ?_)
          case c1 =>
            intro j u hj
            match j, hj with
            | 0, hj => simp at hj; subst hj; simp [u8V]
          case c2 => first | (intro u hu; simp at hu; subst hu; rfl) | rfl | simp [u8V]
          case c3 => unfold maxLen; omega
          case c4 => omega
          case c5 => have := HR.below.size; simp; omega
          intro v' w4 hown' hgrow _
          have hS' := HR.snoc (m := [s[k]]) hown' hgrow
          clear hown' hgrow hown
          go_wp2_with fail
          go_roundw
          case rel => exact ⟨k + 1, _, by omega, by simp; omega, Lib.hid (by rw [← HL.out, HU.out, List.append_assoc]; rfl), hS', by go_num⟩
          case measure => simp [intOf]; omega
        · have t1 : ((s[k].toNat : Int) == 37) = false := by rw [beq_eq_false_iff_ne]; intro e; exact h (UInt8.toNat_inj.1 (show s[k].toNat = _ from Int.ofNat.inj e))
          clear h he
          go_wp2_with (at_builtin; refine wpList_append_own _ rfl _ _ 42 rfl w.heap.size 5 i0 (.int .u8 0) 1 1 Tryd.underlying42 hi hz0 hz1 hz2 rfl (by decide) _ _ _ rfl (hown.alloc _) ⟨wr.heap.size, 0, none⟩ 1 1 [u8V s[k]] rfl rfl ?c1 ?c2 ?c3 ?c4 ?c5 ?_)
          case c1 =>
            intro j u hj
            match j, hj with
            | 0, hj => simp at hj; subst hj; simp [Addr.add, u8V]
          case c2 => first | (intro u hu; simp at hu; subst hu; rfl) | rfl | simp [u8V]
          case c3 => unfold maxLen; omega
          case c4 => omega
          case c5 => have := HR.below.size; simp; omega
          intro v' w4 hown' hgrow _
          have hS' := HR.snoc (m := [s[k]]) hown' hgrow
          clear hown' hgrow hown
          go_wp2_with fail
          go_roundw
          case rel => exact ⟨k + 1, _, by omega, by simp; omega, Lib.hid (by rw [← HL.out, HU.out, List.append_assoc]; rfl), hS', by go_num⟩
          case measure => simp [intOf]; omega
    · obtain rfl : k = s.size := by omega
      have hl2 : l = unescL s.data.toList := by
        have h := HL.out
        rw [List.drop_of_length_le (by rw [← blen]; exact Nat.le_refl _)] at h
        simpa [unescL] using h
      subst hl2
      have hul := unescL_le s.data.toList
      rw [← blen] at hul
      have hup := unescL_pos s.data.toList (by rw [← blen]; exact h0)
      have hcv := HR.str hup
      have K1 := Lib.hid (fun w => rword_all (bs (unescL s.data.toList)) (by rw [bs_size]; omega) w)
      have hwS : wordS (unescL s.data.toList) = wordL (unescL s.data.toList) := by
        cases hu : unescL s.data.toList with
        | nil => rw [hu] at hup; simp at hup
        | cons c r => rfl
      have HB := HR.below
      have h37n : s.data.toList ≠ [37] := by
        intro e
        rw [ByteArray.toList_eq, e] at h37
        simp at h37
      have h0n : s.data.toList ≠ [] := by intro e; rw [blen, e] at h0; simp at h0
      by_cases hw : wordL (unescL s.data.toList) = s.data.toList
      · have hun : unwS s.data.toList = (unescL s.data.toList, 0) := by unfold unwS; rw [if_neg h37n, if_neg h0n, if_pos hw]
        have K2 := Lib.hid (fun w => by have h := K1.out w; rw [bs_toList, hwS, hw, bs_of] at h; exact h)
        have HUN := Lib.hid hun
        have HRR := Lib.hid HR
        have HUP := Lib.hid hup
        clear hw hun hwS HL h37n h0n HR hup
        generalize unescL s.data.toList = U at *
        go_wp2_with fail
        refine (K2.out _).mono ?_
        rintro e w5 ⟨rfl, hb5⟩
        have hR5 : ByRow w U u4 w5 := ⟨own_of HRR.out.own hb5, below_to HRR.out.below hb5⟩
        have hcv5 := hR5.str HUP.out
        have HB5 := hR5.below
        go_wp2_with fail
        go_ret2
        exact ⟨by rw [HUN.out]; rfl, HB5⟩
      · have hun : unwS s.data.toList = ([], 19) := by unfold unwS; rw [if_neg h37n, if_neg h0n, if_neg hw]
        have K2 := Lib.hid (fun w => by have h := K1.out w; rw [bs_toList, hwS] at h; exact h)
        have HUN := Lib.hid hun
        have hne : (!((bs (wordL (unescL s.data.toList))).toList == s.toList)) = true := str_neq (by rw [bs_toList]; exact hw)
        clear hw hun hwS HL h37n h0n hup
        generalize bs (wordL (unescL s.data.toList)) = WW at hne K2
        go_wp2_with fail
        refine (K2.out _).mono ?_
        rintro e w5 ⟨rfl, hb5⟩
        have HB5 := below_to HB hb5
        go_wp2_with fail
        go_ret2
        exact ⟨by rw [HUN.out]; rfl, HB5⟩
end Go.Proofs.YtgbnmokajaehhaaDoor
