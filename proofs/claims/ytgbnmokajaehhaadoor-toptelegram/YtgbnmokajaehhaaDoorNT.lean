/- TopTelegram, walked. -/
import Derived.Test.YtgbnmokajaehhaaDoorNT1
namespace Go.Proofs.YtgbnmokajaehhaaDoor
open Go.RowKit Go.Sort
set_option linter.unusedVariables false
theorem own_below {wr w1 : World} {T : TypeId} {sz n : Nat} {v : Value} {xs : List Value} {b : Nat} (h : wr.ownsRow b T sz v n xs) (B : Below wr.heap.size wr w1) : w1.ownsRow b T sz v n xs := by
  refine ⟨h.1, ?_⟩
  rcases h.2 with hn | ⟨g, cap, cur, hv, h1, h2, h3⟩
  · exact .inl hn
  · exact .inr ⟨g, cap, cur, hv, h1, (B.block g (Array.getElem?_eq_some_iff.1 h2).1).trans h2, h3⟩
theorem SRow.later {w0 wr w1 : World} {ps : List ByteArray} {v : Value} {n : Nat} (h : SRow w0 ps v n wr) (B : Below wr.heap.size wr w1) : SRow w0 ps v n w1 :=
  ⟨own_below h.own B, below_to h.below B⟩
theorem joins (l : List UInt8) (m : List UInt8) : bs l ++ bs m = bs (l ++ m) := bs_app l m
set_option maxRecDepth 100000 in
set_option maxHeartbeats 8000000 in
theorem telegram_main (a : Option Addr) (len cap : Nat) (ps : List ByteArray) (c : Option Addr) (len2 cap2 : Nat) (ns : List Nat) (w : World) (hE : Env w) (hl : len ≤ 20) (hl2 : len2 ≤ 20)
    (hz : Strs w a len ps) (hn : Nums w c len2 ns) :
    Calls Tryd.prog 6 #[.slice a len cap, .slice c len2 cap2] w fun e w' => e = .returned (.bool true) ∧ Below w.heap.size w w' := by
  obtain ⟨i0, hi0, hz0, hz1, hz2⟩ := info_parts info9
  have HZ := Lib.hid hz
  have HN := Lib.hid hn
  have HL := Lib.hid hz.1
  have HL2 := Lib.hid hn.1
  clear hz hn
  go_enter Tryd.func6, Tryd.ntmps6
  go_wp2_with fail
  refine (te_begins _).mono ?_
  rintro e w1 ⟨rfl, B1⟩
  go_wp2_with fail
  go_loopw [5, 6, 7, 39] (fun v t s i wx => ∃ (k u : Nat) (q : ByteArray), k ≤ len ∧ q.size ≤ k * 502 ∧ u < 4294967296 ∧ Hid (q.data.toList = teL (ps.take k) []) ∧ Hid (Oc.sumN (teL (ps.take k) []) = u) ∧ Hid (∀ p ∈ ps.take k, p.size ≤ 500) ∧ SRow w1 (wds (ps.take k) []) v k wx ∧ i = .int .i64 (k : Int) ∧ t = .string q ∧ s = .int .u32 (u : Int)) (fun _ _ _ i _ => len - (intOf i).toNat)
  case atStart => exact ⟨0, 0, ByteArray.empty, by omega, by decide, by omega, Lib.hid rfl, Lib.hid (by rw [List.take_zero]; decide +kernel), Lib.hid (by simp), ⟨World.ownsRow_nil _ _ _ _, Below.refl _ _⟩, rfl, rfl, rfl⟩
  case round =>
    obtain ⟨k, u, q, hk, hq, hu, HQ, HU, HS, HR, rfl, rfl, rfl⟩ := hrel
    have BB := below_to B1 HR.below
    by_cases hlt : k < len
    · obtain ⟨b, off, rfl, hc⟩ := (HZ.out.below BB).at hlt
      obtain ⟨p, hp⟩ : ∃ p, ps.getD k ByteArray.empty = p := ⟨_, rfl⟩
      rw [hp] at hc
      have hkl : k < ps.length := by rw [HL.out]; exact hlt
      have htk := take_snoc_str ps k hkl
      rw [hp] at htk
      clear hp
      by_cases hs : p.size ≤ 500
      · obtain ⟨t, ht⟩ : ∃ t, bs (eT p) = t := ⟨_, rfl⟩
        obtain ⟨x, hx⟩ : ∃ x, wdT p = x := ⟨_, rfl⟩
        obtain ⟨y, hy⟩ : ∃ y, Oc.sumN (eT p) = y := ⟨_, rfl⟩
        obtain ⟨z, hzz⟩ : ∃ z, Oc.sumN (teL (ps.take (k + 1)) []) = z := ⟨_, rfl⟩
        have hzl : z < 4294967296 := by rw [← hzz]; exact Oc.sumN_lt _
        have hyl : y < 4294967296 := by rw [← hy]; exact Oc.sumN_lt _
        have hts : t.size = 2 + p.size := by rw [← ht, bs_size, eT_len]
        have HT := Lib.hid ht
        have HX := Lib.hid hx
        have HTL := Lib.hid (show t.data.toList = eT p by rw [← ht, bs_toList])
        have HY := Lib.hid (show Oc.sumN t.data.toList = y by rw [HTL.out]; exact hy)
        have hcat : teL (ps.take (k + 1)) [] = teL (ps.take k) [] ++ eT p := by rw [htk, teL_snocT]
        have HJ := Lib.hid (fun w => te_join (teL (ps.take k) []) (eT p) (t.size : Int) u y z (by rw [hts, eT_len]) (by rw [eT_len]; omega) HU.out hy (by rw [← hcat]; exact hzz) w)
        have HQ2 := Lib.hid (show (q ++ t).data.toList = teL (ps.take (k + 1)) [] by rw [toList_append, HQ.out, HTL.out, hcat])
        have HU2 := Lib.hid hzz
        have HS2 := Lib.hid (show ∀ p ∈ ps.take (k + 1), p.size ≤ 500 by
          rw [htk]; intro r hr
          rcases List.mem_append.1 hr with hr | hr
          · exact HS.out r hr
          · rw [List.mem_singleton] at hr; subst hr; exact hs)
        have HW2 := Lib.hid (show wds (ps.take (k + 1)) [] = wds (ps.take k) [] ++ [x] by rw [htk, wds_snocT, hx])
        have hts2 : t.size ≤ 502 := by omega
        clear ht hx hy hzz hts hcat htk
        go_wp2_with fail
        refine (te_word p x HX.out hs _).mono ?_
        rintro e w2 ⟨rfl, hb⟩
        have HR2 := HR.later hb
        clear hb hc HR BB
        go_wp2_with (at_builtin; refine wpList_append_own _ rfl _ _ 22 rfl w1.heap.size 9 i0 (.string ByteArray.empty) 1 16 Tryd.underlying22 hi0 hz0 hz1 hz2 rfl (by decide) _ _ _ rfl (HR2.own.alloc _) ⟨w2.heap.size, 0, none⟩ 1 1 [.string x] rfl rfl ?c1 ?c2 ?c3 ?c4 ?c5 ?_)
        case c1 =>
          intro j u hj
          match j, hj with
          | 0, hj => simp at hj; subst hj; simp [Addr.add]
        case c2 => intro u hu; simp at hu; subst hu; rfl
        case c3 => unfold maxLen; omega
        case c4 => omega
        case c5 => have := HR2.below.size; simp; omega
        intro v' w4 hown' hgrow _
        have HR4 := HR2.snoc hown' hgrow
        clear hown' hgrow HR2
        go_wp2_with fail
        refine (te_text p t HT.out hs _).mono ?_
        rintro e w5 ⟨rfl, hb⟩
        have HR5 := HR4.later hb
        clear hb HR4
        go_wp2_with fail
        refine (te_sum t y HY.out (by omega) _).mono ?_
        rintro e w6 ⟨rfl, hb⟩
        have HR6 := HR5.later hb
        clear hb HR5
        go_wp2_with fail
        refine (HJ.out _).mono ?_
        rintro e w' ⟨rfl, rfl⟩
        go_wp2_with fail
        go_roundw
        case rel => exact ⟨k + 1, z, q ++ t, by omega, by rw [ByteArray.size_append]; omega, hzl, HQ2, HU2, HS2, by rw [HW2.out]; exact HR6, by go_num, rfl, rfl⟩
        case measure => simp [intOf]; omega
      · clear htk
        go_wp2_with fail
        go_ret
        exact ⟨rfl, BB⟩
    · obtain rfl : k = len := by omega
      have htk : ps.take k = ps := List.take_of_length_le (by rw [HL.out]; exact Nat.le_refl _)
      rw [htk] at HQ HU HS HR
      have hqa : q.size ≤ 10040 := by omega
      clear htk hq
      go_wp2_with fail
      go_loopw [5, 6, 7, 70] (fun v t s i wx => ∃ (j u : Nat) (q : ByteArray), j ≤ len2 ∧ q.size ≤ 10040 + j * 8 ∧ u < 4294967296 ∧ Hid (q.data.toList = teL ps (ns.take j)) ∧ Hid (Oc.sumN (teL ps (ns.take j)) = u) ∧ SRow w1 (wds ps (ns.take j)) v (k + j) wx ∧ i = .int .i64 (j : Int) ∧ t = .string q ∧ s = .int .u32 (u : Int)) (fun _ _ _ i _ => len2 - (intOf i).toNat)
      case atStart => exact ⟨0, u, q, by omega, by omega, hu, HQ, HU, HR, rfl, rfl, rfl⟩
      case round =>
        clear HQ HU HR BB hu hqa
        obtain ⟨j, u, q, hj, hq, hu, HQ, HU, HR, rfl, rfl, rfl⟩ := hrel
        have BB := below_to B1 HR.below
        by_cases hlt2 : j < len2
        · obtain ⟨b, off, n, rfl, hc, hnx, hn⟩ := (HN.out.below BB).at hlt2
          have hjl : j < ns.length := by rw [HL2.out]; exact hlt2
          have htk := take_snoc_num ns j hjl
          rw [hnx] at htk
          obtain ⟨t, ht⟩ : ∃ t, bs (Oc.numL 8 n) = t := ⟨_, rfl⟩
          obtain ⟨x, hx⟩ : ∃ x, wdN n = x := ⟨_, rfl⟩
          obtain ⟨y, hy⟩ : ∃ y, Oc.sumN (Oc.numL 8 n) = y := ⟨_, rfl⟩
          obtain ⟨z, hzz⟩ : ∃ z, Oc.sumN (teL ps (ns.take (j + 1))) = z := ⟨_, rfl⟩
          have hzl : z < 4294967296 := by rw [← hzz]; exact Oc.sumN_lt _
          have hyl : y < 4294967296 := by rw [← hy]; exact Oc.sumN_lt _
          have hts : t.size = 8 := by rw [← ht, bs_size, Oc.numL_length]
          have HT := Lib.hid ht
          have HX := Lib.hid hx
          have HTL := Lib.hid (show t.data.toList = Oc.numL 8 n by rw [← ht, bs_toList])
          have HY := Lib.hid (show Oc.sumN t.data.toList = y by rw [HTL.out]; exact hy)
          have hcat : teL ps (ns.take (j + 1)) = teL ps (ns.take j) ++ Oc.numL 8 n := by rw [htk, teL_snocN]
          have HJ := Lib.hid (fun w => te_join (teL ps (ns.take j)) (Oc.numL 8 n) (t.size : Int) u y z (by rw [hts, Oc.numL_length]) (by rw [Oc.numL_length]; omega) HU.out hy (by rw [← hcat]; exact hzz) w)
          have HQ2 := Lib.hid (show (q ++ t).data.toList = teL ps (ns.take (j + 1)) by rw [toList_append, HQ.out, HTL.out, hcat])
          have HU2 := Lib.hid hzz
          have HW2 := Lib.hid (show wds ps (ns.take (j + 1)) = wds ps (ns.take j) ++ [x] by rw [htk, wds_snocN, hx])
          have hts2 : t.size ≤ 8 := by omega
          clear ht hx hy hzz hts hcat htk hnx
          go_wp2_with fail
          refine (te_digits n x HX.out hn _ (hE.below BB)).mono ?_
          rintro e w2 ⟨rfl, hb⟩
          have HR2 := HR.later hb
          clear hb hc HR BB
          go_wp2_with (at_builtin; refine wpList_append_own _ rfl _ _ 22 rfl w1.heap.size 9 i0 (.string ByteArray.empty) 1 16 Tryd.underlying22 hi0 hz0 hz1 hz2 rfl (by decide) _ _ _ rfl (HR2.own.alloc _) ⟨w2.heap.size, 0, none⟩ 1 1 [.string x] rfl rfl ?c1 ?c2 ?c3 ?c4 ?c5 ?_)
          case c1 =>
            intro j u hj
            match j, hj with
            | 0, hj => simp at hj; subst hj; simp [Addr.add]
          case c2 => intro u hu; simp at hu; subst hu; rfl
          case c3 => unfold maxLen; omega
          case c4 => omega
          case c5 => have := HR2.below.size; simp; omega
          intro v' w4 hown' hgrow _
          have HR4 := HR2.snoc hown' hgrow
          clear hown' hgrow HR2
          go_wp2_with fail
          refine (te_rise n t HT.out hn _).mono ?_
          rintro e w5 ⟨rfl, hb⟩
          have HR5 := HR4.later hb
          clear hb HR4
          go_wp2_with fail
          refine (te_sum t y HY.out (by omega) _).mono ?_
          rintro e w6 ⟨rfl, hb⟩
          have HR6 := HR5.later hb
          clear hb HR5
          go_wp2_with fail
          refine (HJ.out _).mono ?_
          rintro e w' ⟨rfl, rfl⟩
          go_wp2_with fail
          go_roundw
          case rel => exact ⟨j + 1, z, q ++ t, by omega, by rw [ByteArray.size_append]; omega, hzl, HQ2, HU2, by rw [HW2.out]; exact HR6, by go_num, rfl, rfl⟩
          case measure => simp [intOf]; omega
        · obtain rfl : j = len2 := by omega
          have htk : ns.take j = ns := List.take_of_length_le (by rw [HL2.out]; exact Nat.le_refl _)
          rw [htk] at HQ HU HR
          have hqa : q.size ≤ 10200 := by omega
          obtain ⟨t, ht⟩ : ∃ t, bs (Oc.numL 4 u) = t := ⟨_, rfl⟩
          have hts : t.size = 4 := by rw [← ht, bs_size, Oc.numL_length]
          have HT := Lib.hid ht
          have HA := Lib.hid (show (q ++ t).data.toList = teL ps ns ++ Oc.numL 4 u by rw [toList_append, HQ.out, ← ht, bs_toList])
          have HQS := Lib.hid (show Oc.sumN q.data.toList = u by rw [HQ.out]; exact HU.out)
          have hts4 : t.size ≤ 4 := by omega
          have has : (q ++ t).size ≤ 10204 := by rw [ByteArray.size_append]; omega
          obtain ⟨A, hA⟩ : ∃ A, q ++ t = A := ⟨_, rfl⟩
          rw [hA] at HA has
          have HAE := Lib.hid hA
          clear htk hq ht hA hts
          go_wp2_with fail
          refine (te_num u t HT.out hu _).mono ?_
          rintro e w2 ⟨rfl, hb⟩
          have HR2 := HR.later hb
          clear hb HR BB
          go_wp2_with fail
          rw [HAE.out]
          refine (Oc.open_any _ _).mono ?_
          rintro e w3 ⟨rfl, R3, hb, hsz⟩
          have HR3 := HR2.later hb
          have hlo : w.heap.size ≤ w2.heap.size := (below_to B1 HR2.below).size
          clear hb hsz HR2
          obtain ⟨wo, hwo⟩ : ∃ b, b = w2.heap.size := ⟨_, rfl⟩
          rw [← hwo] at R3 hlo ⊢
          have hwolt : wo < w3.heap.size := R3.lt
          clear hwo
          have hls : ps.length = k := HL.out
          have hln : ns.length = j := HL2.out
          obtain ⟨m, hm⟩ : ∃ m, k + j = m := ⟨_, rfl⟩
          rw [hm] at HR3
          by_cases h0 : m = 0
          · subst h0
            obtain ⟨a0, c0, hv, _⟩ := HR3.strs
            subst hv
            have B3 := below_to B1 HR3.below
            clear hm hls hln HR3
            go_wp2_with fail
            refine (line_zero _ _ _).mono ?_
            rintro e w' ⟨rfl, rfl⟩
            go_wp2_with fail
            refine (te_words_nil _ (hE.below B3)).mono ?_
            rintro e w4 ⟨⟨v, rfl⟩, hb⟩
            go_wp2_with fail
            go_ret
            exact ⟨rfl, below_to B3 hb⟩
          · obtain ⟨a0, c0, hv, hc0, hS3⟩ := HR3.at (by omega)
            subst hv
            have B3 := below_to B1 HR3.below
            have hsum := wds_sum ps ns HS.out (by have := HN.out.2.1; exact this)
            rw [hls, hln, hm] at hsum
            have hm40 : m ≤ 40 := by omega
            have hsum2 : ((wds ps ns).map (·.data.toList.length)).sum + (wds ps ns).length ≤ 60080 := by omega
            obtain ⟨J, hJ⟩ : ∃ J, bs (Lib.join ((wds ps ns).map (·.data.toList)) [32]) = J := ⟨_, rfl⟩
            have hJs : J.size ≤ 60080 := by
              rw [← hJ, bs_size]
              have h1 := join_len ((wds ps ns).map (·.data.toList))
              rw [List.map_map, List.length_map] at h1
              have h2 : ((wds ps ns).map (List.length ∘ fun x : ByteArray => x.data.toList)).sum = ((wds ps ns).map (·.data.toList.length)).sum := rfl
              omega
            have HJ := Lib.hid hJ
            have HLn := Lib.hid (te_line a0 m c0 (wds ps ns) J hJ w3 hS3 (by omega) hc0 (by omega))
            have HWd := Lib.hid (fun w hE => te_words (wds ps ns) J m hJ (by rw [wds_len, hls, hln]; exact hm) (by omega) (wds_clean ps ns) (by omega) w hE)
            have HWL := Lib.hid (show (wds ps ns).length = m by rw [wds_len, hls, hln]; exact hm)
            have hm0 : ((m : Int) == 0) = false := by rw [beq_eq_false_iff_ne]; omega
            have HMM := Lib.hid hm
            clear hJ hsum hsum2 hS3 HR3 hm hls hln
            go_wp2_with fail
            refine HLn.out.mono ?_
            rintro e w4 ⟨rfl, hb⟩
            have B4 := below_to B3 hb
            have R4 := R3.below hb
            have hg4 : wo < w4.heap.size := R4.lt
            clear hb R3
            go_wp2_with fail
            refine (HWd.out _ (hE.below B4)).mono ?_
            rintro e w5 ⟨rfl, A5, hb⟩
            have B5 := below_to B4 hb
            have R5 := R4.below hb
            clear hb R4
            obtain ⟨g, hg⟩ : ∃ g, g = w4.heap.size := ⟨_, rfl⟩
            rw [← hg] at A5 hg4 ⊢
            clear hg
            have hgo : g ≠ wo := by omega
            go_wp2_with fail
            go_loopw [116] (fun i wx => ∃ (x : Nat) (r : ByteArray), x ≤ k ∧ r.size ≤ 10204 ∧ Hid (r.data.toList = teL (ps.drop x) ns ++ Oc.numL 4 u) ∧ Oc.Rd wx wo r 0 ∧ At wx g (wds ps ns) ∧ Below w.heap.size w wx ∧ i = .int .i64 (x : Int)) (fun i _ => k - (intOf i).toNat)
            case atStart => exact ⟨0, A, by omega, has, HA, R5, A5, B5, rfl⟩
            case round =>
              clear R5 A5 B5 has HA
              obtain ⟨x, r, hx, hr, HRR, hR, hA, hB, rfl⟩ := hrel
              by_cases hlt3 : x < k
              · obtain ⟨b, off, rfl, hc⟩ := (HZ.out.below hB).at hlt3
                obtain ⟨p, hp⟩ : ∃ p, ps.getD x ByteArray.empty = p := ⟨_, rfl⟩
                rw [hp] at hc
                have hxl : x < ps.length := by rw [HL.out]; exact hlt3
                have hps : p.size ≤ 500 := HS.out p (by rw [← hp]; exact mem_getD_str ps x hxl)
                obtain ⟨y, hy⟩ : ∃ y, wdT p = y := ⟨_, rfl⟩
                have hcl : wr.cell? ⟨g, x, none⟩ = some (.string y) := by
                  have := hA.2 x (by rw [HWL.out]; have := HMM.out; omega)
                  rwa [wds_atT ps ns x hxl, hp, hy] at this
                have hxm : x < m := by have := HMM.out; omega
                have hrr := HRR.out
                rw [drop_cons_str ps x hxl, hp, teL_consT, List.append_assoc] at hrr
                have HTX := Lib.hid (oc_text r p _ hrr hps)
                have hsz : (bs (teL (ps.drop (x + 1)) ns ++ Oc.numL 4 u)).size ≤ 10204 := by
                  have h1 := congrArg List.length hrr
                  rw [← blen, List.length_append] at h1
                  rw [bs_size]; omega
                have HRR2 := Lib.hid (show (bs (teL (ps.drop (x + 1)) ns ++ Oc.numL 4 u)).data.toList = teL (ps.drop (x + 1)) ns ++ Oc.numL 4 u by rw [bs_toList])
                generalize bs (teL (ps.drop (x + 1)) ns ++ Oc.numL 4 u) = r2 at HTX hsz HRR2
                have HY := Lib.hid hy
                clear hp hy hrr HRR
                go_wp2_with fail
                refine (te_unword p y HY.out hps _).mono ?_
                rintro e w7 ⟨rfl, hb⟩
                have R7 := hR.below hb
                have A7 := hA.below hb
                have B7 := below_to hB hb
                clear hb hR hA hB hc hcl
                go_wp2_with fail
                refine (te_rtext wo r r2 p HTX.out _ R7 (by omega)).mono ?_
                rintro e w8 ⟨rfl, R8, o8⟩
                have A8 := A7.only o8 hgo
                have B8 := o8.below B7 hlo (Nat.le_trans hlo (Nat.le_of_lt R7.lt))
                clear o8 R7 A7 B7
                go_wp2_with fail
                go_roundw
                case rel => exact ⟨x + 1, r2, by omega, hsz, HRR2, R8, A8, B8, by go_num⟩
                case measure => simp [intOf]; omega
              · obtain rfl : x = k := by omega
                have HR0 := Lib.hid (show r.data.toList = teL [] (ns.drop 0) ++ Oc.numL 4 u by rw [HRR.out, List.drop_of_length_le (by rw [HL.out]; exact Nat.le_refl _), List.drop_zero])
                clear HRR
                go_wp2_with fail
                go_loopw [145] (fun i wx => ∃ (y : Nat) (r : ByteArray), y ≤ j ∧ r.size ≤ 10204 ∧ Hid (r.data.toList = teL [] (ns.drop y) ++ Oc.numL 4 u) ∧ Oc.Rd wx wo r 0 ∧ At wx g (wds ps ns) ∧ Below w.heap.size w wx ∧ i = .int .i64 (y : Int)) (fun i _ => j - (intOf i).toNat)
                case atStart => exact ⟨0, r, by omega, hr, HR0, hR, hA, hB, rfl⟩
                case round =>
                  clear hR hA hB hr HR0
                  obtain ⟨y, r, hy, hr, HRR, hR, hA, hB, rfl⟩ := hrel
                  by_cases hlt4 : y < j
                  · obtain ⟨b, off, n, rfl, hc, hnx, hn⟩ := (HN.out.below hB).at hlt4
                    have hyl : y < ns.length := by rw [HL2.out]; exact hlt4
                    obtain ⟨t, ht⟩ : ∃ t, wdN n = t := ⟨_, rfl⟩
                    obtain ⟨z, hz⟩ : ∃ z, x + y = z := ⟨_, rfl⟩
                    have hcl : wr.cell? ⟨g, z, none⟩ = some (.string t) := by
                      have e : z = ps.length + y := by rw [HL.out]; omega
                      have := hA.2 (ps.length + y) (by rw [HWL.out, HL.out]; have := HMM.out; omega)
                      rw [wds_atN ps ns y hyl, hnx, ht] at this
                      rw [e]; exact this
                    have hzm : z < m := by have := HMM.out; omega
                    have hzi : (x : Int) + (y : Int) = (z : Int) := by omega
                    have hrr := HRR.out
                    rw [drop_cons_num ns y hyl, hnx, teL_consN, List.append_assoc] at hrr
                    have HTX := Lib.hid (oc_eight r n _ hrr)
                    have hsz : (bs (teL [] (ns.drop (y + 1)) ++ Oc.numL 4 u)).size ≤ 10204 := by
                      have h1 := congrArg List.length hrr
                      rw [← blen, List.length_append] at h1
                      rw [bs_size]; omega
                    have HRR2 := Lib.hid (show (bs (teL [] (ns.drop (y + 1)) ++ Oc.numL 4 u)).data.toList = teL [] (ns.drop (y + 1)) ++ Oc.numL 4 u by rw [bs_toList])
                    generalize bs (teL [] (ns.drop (y + 1)) ++ Oc.numL 4 u) = r2 at HTX hsz HRR2
                    obtain ⟨d, hd⟩ : ∃ d, bs (Oc.numL 8 n) = d := ⟨_, rfl⟩
                    rw [hd] at HTX
                    have HD := Lib.hid hd
                    have HT := Lib.hid ht
                    clear ht hrr HRR hnx hd hz
                    go_wp2_with fail
                    refine (te_number n t HT.out hn _ (hE.below hB)).mono ?_
                    rintro e w7 ⟨rfl, hb⟩
                    have R7 := hR.below hb
                    have A7 := hA.below hb
                    have B7 := below_to hB hb
                    clear hb hR hA hB hc hcl
                    go_wp2_with fail
                    refine (te_raw wo r r2 d HTX.out _ R7 (by omega)).mono ?_
                    rintro e w8 ⟨rfl, R8, o8⟩
                    have A8 := A7.only o8 hgo
                    have B8 := o8.below B7 hlo (Nat.le_trans hlo (Nat.le_of_lt R7.lt))
                    clear o8 R7 A7 B7
                    go_wp2_with fail
                    refine (te_ofRise n d HD.out hn _).mono ?_
                    rintro e w' ⟨rfl, rfl⟩
                    go_wp2_with fail
                    go_roundw
                    case rel => exact ⟨y + 1, r2, by omega, hsz, HRR2, R8, A8, B8, by go_num⟩
                    case measure => simp [intOf]; omega
                  · have hrr := HRR.out
                    rw [List.drop_of_length_le (by rw [HL2.out]; omega)] at hrr
                    have hnn := oc_num r 4 u [] (by rw [hrr]; simp [teL]) (by omega) (by omega)
                    rw [Nat.mod_eq_of_lt (by omega)] at hnn
                    have HNN := Lib.hid hnn
                    have HNZ := Lib.hid (show (bs ([] : List UInt8)).size = 0 by rfl)
                    clear hrr HRR hnn
                    go_wp2_with fail
                    refine (te_rnum wo r _ u HNN.out _ hR (by omega)).mono ?_
                    rintro e w8 ⟨rfl, R8, o8⟩
                    have B8 := o8.below hB hlo (Nat.le_trans hlo (Nat.le_of_lt hR.lt))
                    clear o8 hR hA hB
                    go_wp2_with fail
                    refine (te_sum q u HQS.out (by omega) _).mono ?_
                    rintro e w9 ⟨rfl, hb⟩
                    have R9 := R8.below hb
                    have B9 := below_to B8 hb
                    clear hb R8 B8
                    go_wp2_with fail
                    refine (te_end wo _ HNZ.out _ R9).mono ?_
                    rintro e w' ⟨rfl, rfl⟩
                    go_wp2_with fail
                    go_ret
                    exact ⟨rfl, B9⟩
end Go.Proofs.YtgbnmokajaehhaaDoor
