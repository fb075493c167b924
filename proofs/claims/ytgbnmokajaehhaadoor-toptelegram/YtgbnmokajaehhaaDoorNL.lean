/- NameBack, walked. -/
import Derived.Test.YtgbnmokajaehhaaDoorNK
namespace Go.Proofs.YtgbnmokajaehhaaDoor
open Go.RowKit Go.Sort
set_option linter.unusedVariables false
theorem words_join (ps : List ByteArray) (x : ByteArray) (r : List ByteArray) (hp : ps = x :: r) (h : ∀ y ∈ ps, (32 : UInt8) ∉ y.data.toList) :
    Lib.countB (bs (Lib.join (ps.map (·.data.toList)) [32])) ⟨#[32]⟩ = r.length ∧ Lib.splitB ⟨#[32]⟩ 0 r.length (bs (Lib.join (ps.map (·.data.toList)) [32])) = ps := by
  subst hp
  have h' : ∀ y ∈ x.data.toList :: r.map (·.data.toList), (32 : UInt8) ∉ y := by
    intro y hy
    have hy2 : y ∈ (x :: r).map (·.data.toList) := hy
    obtain ⟨z, hz, rfl⟩ := List.mem_map.1 hy2
    exact h z hz
  have e1 := count_join (r.map (·.data.toList)) x.data.toList h'
  have e2 := split_join (r.map (·.data.toList)) x.data.toList h'
  rw [List.length_map] at e1 e2
  refine ⟨?_, ?_⟩
  · show Lib.count (bs _).data.toList [32] = _
    rw [bs_toList, Lib.count_one]
    exact e1
  · have e3 := Lib.splitB_data ⟨#[32]⟩ 0 r.length (bs (Lib.join ((x :: r).map (·.data.toList)) [32]))
    rw [bs_toList] at e3
    have e4 : (Lib.splitB ⟨#[32]⟩ 0 r.length (bs (Lib.join ((x :: r).map (·.data.toList)) [32]))).map (·.data.toList) = (x :: r).map (·.data.toList) := by rw [e3]; exact e2
    have inj : ∀ (a b : List ByteArray), a.map (·.data.toList) = b.map (·.data.toList) → a = b := by
      intro a
      induction a with
      | nil => intro b hb; cases b with | nil => rfl | cons y b => simp at hb
      | cons z a ih =>
        intro b hb
        cases b with
        | nil => simp at hb
        | cons y b =>
          simp only [List.map_cons, List.cons.injEq] at hb
          rw [str_eq hb.1, ih b hb.2]
    exact inj _ _ e4
theorem Strs.split (w : World) (ps : List ByteArray) (T : TypeId) : Strs (w.alloc (.cells (ps.map Value.string).toArray T)) (some ⟨w.heap.size, 0, none⟩) ps.length ps := by
  refine ⟨rfl, .inr ⟨w.heap.size, 0, rfl, by simp, fun j hj => ?_⟩⟩
  have hg : (w.alloc (.cells (ps.map Value.string).toArray T)).heap[w.heap.size]? = some (.cells (ps.map Value.string).toArray T (0, 0)) := by
    show (w.heap.push _)[w.heap.size]? = _
    simp
  rw [Nat.zero_add, cell_of_row _ _ j _ _ _ hg]
  simp [hj]
theorem size_le_sum : ∀ (ps : List ByteArray) (k : Nat) (h : k < ps.length), ps[k].data.toList.length ≤ (ps.map (·.data.toList.length)).sum
  | x :: r, 0, _ => by simp
  | x :: r, k + 1, h => by
    have := size_le_sum r k (by simpa using h)
    simp only [List.getElem_cons_succ, List.map_cons, List.sum_cons]
    omega
theorem not_mem_take (l : List UInt8) (k : Nat) (h : k < l.length) (h1 : (32 : UInt8) ∉ l.take k) (h2 : l[k] ≠ 32) : (32 : UInt8) ∉ l.take (k + 1) := by
  rw [List.take_add_one, List.getElem?_eq_getElem h]
  intro hm
  rcases List.mem_append.1 hm with hm | hm
  · exact h1 hm
  · simp at hm; exact h2 hm.symm
theorem all_take (ps : List ByteArray) (k : Nat) (h : k < ps.length) (h1 : ∀ x ∈ ps.take k, (32 : UInt8) ∉ x.data.toList) (h2 : (32 : UInt8) ∉ ps[k].data.toList) : ∀ x ∈ ps.take (k + 1), (32 : UInt8) ∉ x.data.toList := by
  rw [List.take_add_one, List.getElem?_eq_getElem h]
  intro x hx
  rcases List.mem_append.1 hx with hx | hx
  · exact h1 x hx
  · simp only [Option.toList_some, List.mem_singleton] at hx; rw [hx]; exact h2
set_option maxRecDepth 100000 in
set_option maxHeartbeats 4000000 in
theorem back_main (s v : ByteArray) (n : Nat) (za : Option Addr) (len cap : Nat) (ps : List ByteArray) (w : World) (hE : Env w) (hs : s.size ≤ 2048) (hv : v.size ≤ 2048) (hn : n < 18446744073709551616) (hl : len ≤ 100) (hc : len ≤ cap) (hz : Strs w za len ps) (hsum : (ps.map (·.data.toList.length)).sum + ps.length ≤ 1048576) :
    Calls Tryd.prog 5 #[.string s, .string v, .int .u64 (n : Int), .slice za len cap] w fun e w' => e = .returned (.bool true) ∧ Below w.heap.size w w' := by
  obtain ⟨X, hX⟩ : ∃ X, bs (wordS s.data.toList) = X := ⟨_, rfl⟩
  have hXs : X.size ≤ 6145 := by rw [← hX, bs_size]; have := wordS_le s.data.toList; rw [← blen] at this; omega
  have hXl : X.data.toList = wordS s.data.toList := by rw [← hX, bs_toList]
  have k1 := fun w => word_all s (by omega) w
  have k2 := fun w => unword_all X (by omega) w
  rw [hX] at k1
  rw [hXl, unw_back] at k2
  simp only at k2
  rw [bs_of] at k2
  have hcl := wordS_clean s.data.toList
  rw [← hXl] at hcl
  have k3 := digits_any n hn
  have k4 := fun w hE => number_any (bs (Lib.decDigits n)) (by rw [bs_size]; have := nDigits_le n hn; omega) w hE
  rw [bs_toList, num_back n hn] at k4
  unfold numR at k4
  simp only at k4
  obtain ⟨i, hi, hi1, hi2⟩ : ∃ i, wrap64 (n : Int) = i ∧ -9223372036854775808 ≤ i ∧ i ≤ 9223372036854775807 := ⟨_, rfl, (wrap64_bd _).1, (wrap64_bd _).2⟩
  have k5 := signed_any i hi1 hi2
  have k6 := fun w hE => whole_any (bs (Lib.itoa i)) (by rw [bs_size]; have := itoa_len i hi1 hi2; omega) w hE
  rw [bs_toList, int_back i hi1 hi2] at k6
  unfold intR at k6
  simp only at k6
  have k7 := fun w => unword_all v (by omega) w
  have huw := unw_word v.data.toList
  have hul := unw_len v.data.toList
  obtain ⟨U, y, hU⟩ : ∃ U y, unwS v.data.toList = (U, y) := ⟨_, _, rfl⟩
  rw [hU] at k7 huw hul
  simp only at k7 huw hul
  have k8 := fun w => word_all (bs U) (by rw [bs_size]; rw [← blen] at hul; omega) w
  rw [bs_toList] at k8
  generalize bs (Lib.decDigits n) = D at k3 k4
  generalize bs (Lib.itoa i) = T at k5 k6
  have K1 := Lib.hid k1
  have K2 := Lib.hid k2
  have K3 := Lib.hid k3
  have K4 := Lib.hid k4
  have K5 := Lib.hid k5
  have K6 := Lib.hid k6
  have K7 := Lib.hid k7
  have K8 := Lib.hid k8
  have HCL := Lib.hid hcl
  have HUW := Lib.hid huw
  have HZ := Lib.hid hz
  have HSUM := Lib.hid hsum
  clear k1 k2 k3 k4 k5 k6 k7 k8 hX hXl hcl huw hul hU hz hsum
  go_enter Tryd.func5, Tryd.ntmps5
  go_wp2_with fail
  refine (lives_any _ hE).mono ?_
  rintro e w1 ⟨rfl, B1⟩
  go_wp2_with fail
  refine (K1.out _).mono ?_
  rintro e w2 ⟨rfl, hb⟩
  have B2 := below_to B1 hb
  clear hb B1
  go_wp2_with fail
  refine (K2.out _).mono ?_
  rintro e w3 ⟨rfl, hb⟩
  have B3 := below_to B2 hb
  clear hb B2
  go_wp2_with fail
  refine (K3.out _ (hE.below B3)).mono ?_
  rintro e w4 ⟨rfl, hb⟩
  have B4 := below_to B3 hb
  clear hb B3
  go_wp2_with fail
  refine (K4.out _ (hE.below B4)).mono ?_
  rintro e w5 ⟨rfl, hb⟩
  have B5 := below_to B4 hb
  clear hb B4
  go_wp2_with fail
  refine (K5.out _ (hE.below B5)).mono ?_
  rintro e w6 ⟨rfl, hb⟩
  have B6 := below_to B5 hb
  clear hb B5
  go_wp2_with fail
  refine (K6.out _ (hE.below B6)).mono ?_
  rintro e w7 ⟨rfl, hb⟩
  have B7 := below_to B6 hb
  clear hb B6
  go_wp2_with fail
  refine (K1.out _).mono ?_
  rintro e w8 ⟨rfl, hb⟩
  have B8 := below_to B7 hb
  clear hb B7
  have kc := run_bytes_of_string (P := Tryd.prog) w8 9 42 5 X Tryd.underlying9 Tryd.underlying42 Tryd.underlying5
  have BR : BRd (w8.alloc (.cells (bytesRow X (grownCap w8 X.size 0 5)) 5 ((bytesRow X (grownCap w8 X.size 0 5)).size, (bytesRow X (grownCap w8 X.size 0 5)).size + 1))).drew w8.heap.size X.data.toList := BRd.new w8 X (grownCap w8 X.size 0 5) 5
  have B9 : Below w.heap.size w (w8.alloc (.cells (bytesRow X (grownCap w8 X.size 0 5)) 5 ((bytesRow X (grownCap w8 X.size 0 5)).size, (bytesRow X (grownCap w8 X.size 0 5)).size + 1))).drew := (B8.alloc B8.size _).drew
  go_wp2_with fail
  clear kc
  generalize (w8.alloc (.cells (bytesRow X (grownCap w8 X.size 0 5)) 5 ((bytesRow X (grownCap w8 X.size 0 5)).size, (bytesRow X (grownCap w8 X.size 0 5)).size + 1))).drew = w9 at BR B9 ⊢
  have HBR := Lib.hid BR
  clear BR
  go_loop [87] (fun j => ∃ k : Nat, k ≤ X.size ∧ j = .int .i64 (k : Int)) (fun j => X.size - (intOf j).toNat)
  case atStart => exact ⟨0, by omega, rfl⟩
  case round =>
    obtain ⟨k, hk, rfl⟩ := hrel
    by_cases hlt : k < X.size
    · have hkl : k < X.data.toList.length := by rw [← blen]; exact hlt
      have hcell := HBR.out k hkl
      have hcc := HCL.out _ (List.getElem_mem hkl)
      generalize X.data.toList[k] = c at hcell hcc
      have t1 : ((c.toNat : Int) == 32) = false := by rw [beq_eq_false_iff_ne]; intro e; exact hcc.1 (UInt8.toNat_inj.1 (show c.toNat = _ from Int.ofNat.inj e))
      have t2 : ((c.toNat : Int) == 10) = false := by rw [beq_eq_false_iff_ne]; intro e; exact hcc.2 (UInt8.toNat_inj.1 (show c.toNat = _ from Int.ofNat.inj e))
      clear hcc
      go_wp2_with fail
      go_round
      case rel => exact ⟨k + 1, by omega, by go_num⟩
      case measure => simp [intOf]; omega
    · go_wp2_with fail
      refine (K7.out _).mono ?_
      rintro e w10 ⟨rfl, hb⟩
      have B10 := below_to B9 hb
      clear hb
      by_cases hy : y = 0
      · subst hy
        have K8e := Lib.hid (fun w => by have h := K8.out w; rw [show wordS U = v.data.toList from HUW.out rfl, bs_of] at h; exact h)
        go_wp2_with fail
        refine (K8e.out _).mono ?_
        rintro e w11 ⟨rfl, hb⟩
        have B11 := below_to B10 hb
        clear hb
        go_wp2_with fail
        go_loopw [113] (fun j wx => ∃ k : Nat, k ≤ len ∧ Hid (∀ x ∈ ps.take k, (32 : UInt8) ∉ x.data.toList) ∧ Below w.heap.size w wx ∧ j = .int .i64 (k : Int)) (fun j _ => len - (intOf j).toNat)
        case atStart => exact ⟨0, by omega, Lib.hid (by simp), B11, rfl⟩
        case round =>
          obtain ⟨k2, hk2, HN, HW, rfl⟩ := hrel
          by_cases hlt2 : k2 < len
          · have ZR := HZ.out.below HW
            obtain ⟨b, off, ha, hbl, hcs⟩ := ZR.2.resolve_left (by omega)
            subst ha
            have hkp : k2 < ps.length := by rw [ZR.1]; exact hlt2
            obtain ⟨x, hx⟩ : ∃ x, ps.getD k2 ByteArray.empty = x := ⟨_, rfl⟩
            have gx : wr.cell? ⟨b, off + k2, none⟩ = some (.string x) := by rw [← hx]; exact hcs k2 hlt2
            have hxe : ps[k2] = x := by rw [← hx, List.getD_eq_getElem?_getD, List.getElem?_eq_getElem hkp]; rfl
            have hxs : x.size ≤ 1048576 := by
              have h1 := size_le_sum ps k2 hkp
              rw [hxe, ← blen] at h1
              have := HSUM.out
              omega
            have HXE := Lib.hid hxe
            have kc := run_bytes_of_string (P := Tryd.prog) wr 9 42 5 x Tryd.underlying9 Tryd.underlying42 Tryd.underlying5
            have BR : BRd (wr.alloc (.cells (bytesRow x (grownCap wr x.size 0 5)) 5 ((bytesRow x (grownCap wr x.size 0 5)).size, (bytesRow x (grownCap wr x.size 0 5)).size + 1))).drew wr.heap.size x.data.toList := BRd.new wr x (grownCap wr x.size 0 5) 5
            have BX : Below w.heap.size w (wr.alloc (.cells (bytesRow x (grownCap wr x.size 0 5)) 5 ((bytesRow x (grownCap wr x.size 0 5)).size, (bytesRow x (grownCap wr x.size 0 5)).size + 1))).drew := (HW.alloc HW.size _).drew
            clear hcs hx hxe ZR
            go_wp2_with fail
            clear kc gx
            generalize (wr.alloc (.cells (bytesRow x (grownCap wr x.size 0 5)) 5 ((bytesRow x (grownCap wr x.size 0 5)).size, (bytesRow x (grownCap wr x.size 0 5)).size + 1))).drew = wx at BR BX ⊢
            have HBX := Lib.hid BR
            clear BR
            go_loop [120] (fun j => ∃ k3 : Nat, k3 ≤ x.size ∧ Hid ((32 : UInt8) ∉ x.data.toList.take k3) ∧ j = .int .i64 (k3 : Int)) (fun j => x.size - (intOf j).toNat)
            case atStart => exact ⟨0, by omega, Lib.hid (by simp), rfl⟩
            case round =>
              obtain ⟨k3, hk3, HT, rfl⟩ := hrel
              by_cases hlt3 : k3 < x.size
              · have hkl : k3 < x.data.toList.length := by rw [← blen]; exact hlt3
                have hcell := HBX.out k3 hkl
                obtain ⟨c, hcq⟩ : ∃ c, x.data.toList[k3] = c := ⟨_, rfl⟩
                rw [hcq] at hcell
                by_cases hc32 : c = 32
                · have t1 : ((c.toNat : Int) == 32) = true := by rw [hc32]; rfl
                  clear hcq hc32
                  go_wp2_with fail
                  go_ret
                  exact ⟨rfl, BX⟩
                · have t1 : ((c.toNat : Int) == 32) = false := by rw [beq_eq_false_iff_ne]; intro e; exact hc32 (UInt8.toNat_inj.1 (show c.toNat = _ from Int.ofNat.inj e))
                  have HT2 := Lib.hid (not_mem_take x.data.toList k3 hkl HT.out (by rw [hcq]; exact hc32))
                  clear hcq hc32
                  go_wp2_with fail
                  go_round
                  case rel => exact ⟨k3 + 1, by omega, HT2, by go_num⟩
                  case measure => simp [intOf]; omega
              · have HN2 := Lib.hid (all_take ps k2 hkp HN.out (by rw [HXE.out]; have h := HT.out; rw [List.take_of_length_le (by rw [← blen]; omega)] at h; exact h))
                go_wp2_with fail
                go_roundw
                case rel => exact ⟨k2 + 1, by omega, HN2, BX, by go_num⟩
                case measure => simp [intOf]; omega
          · obtain rfl : k2 = len := by omega
            have hall := HN.out
            rw [List.take_of_length_le (by rw [HZ.out.1]; exact Nat.le_refl _)] at hall
            by_cases h0 : k2 = 0
            · have t0 : ((k2 : Int) == 0) = true := by rw [beq_iff_eq]; omega
              go_wp2_with fail
              go_ret
              exact ⟨rfl, HW⟩
            · have t0 : ((k2 : Int) == 0) = false := by rw [beq_eq_false_iff_ne]; omega
              have ZR := HZ.out.below HW
              obtain ⟨x, r, hpr⟩ : ∃ x r, ps = x :: r := by
                cases hps : ps with
                | nil => have := ZR.1; rw [hps] at this; simp at this; omega
                | cons x r => exact ⟨x, r, rfl⟩
              have hJ := words_join ps x r hpr hall
              have hjl : (bs (Lib.join (ps.map (·.data.toList)) [32])).size ≤ 1048576 := by
                rw [bs_size]
                have h1 := join_len (ps.map (·.data.toList))
                rw [List.map_map, List.length_map] at h1
                have h2 : (ps.map (List.length ∘ fun x : ByteArray => x.data.toList)).sum = (ps.map (·.data.toList.length)).sum := rfl
                have := HSUM.out
                omega
              have HL := Lib.hid (line_any za k2 cap ps wr ZR (by omega) hc (by have := HSUM.out; omega))
              have hWd := fun w hE => words_any (bs (Lib.join (ps.map (·.data.toList)) [32])) hjl w hE
              have hrl : r.length + 1 = k2 := by have := ZR.1; rw [hpr] at this; simpa using this
              rw [hJ.1, hJ.2, hrl] at hWd
              have HWD := Lib.hid hWd
              have HLK := Lib.hid (show ps.length = k2 from ZR.1)
              clear hWd hJ hpr hrl hall h0 ZR
              generalize bs (Lib.join (ps.map (·.data.toList)) [32]) = J at HL HWD
              go_wp2_with fail
              refine HL.out.mono ?_
              rintro e wa ⟨rfl, hb⟩
              have BA := below_to HW hb
              clear hb
              go_wp2_with fail
              refine (HWD.out _ (hE.below BA)).mono ?_
              rintro e wb ⟨rfl, rfl⟩
              have hS1 := Strs.split wa ps 9
              rw [HLK.out] at hS1
              have BB : Below w.heap.size w (wa.alloc (.cells (ps.map Value.string).toArray 9)) := BA.alloc BA.size _
              have hS2 := HZ.out.below BB
              generalize (wa.alloc (.cells (ps.map Value.string).toArray 9)) = wc at hS1 BB hS2 ⊢
              go_wp2_with fail
              refine (same_strs _ za k2 k2 cap ps _ hS1 hS2 (by omega)).mono ?_
              rintro e wd ⟨rfl, hb⟩
              have BD := below_to BB hb
              go_wp2_with fail
              go_ret
              exact ⟨rfl, BD⟩
      · have ty : (y == 0) = false := by rw [beq_eq_false_iff_ne]; exact hy
        clear hy
        go_wp2_with fail
        go_loopw [113] (fun j wx => ∃ k : Nat, k ≤ len ∧ Hid (∀ x ∈ ps.take k, (32 : UInt8) ∉ x.data.toList) ∧ Below w.heap.size w wx ∧ j = .int .i64 (k : Int)) (fun j _ => len - (intOf j).toNat)
        case atStart => exact ⟨0, by omega, Lib.hid (by simp), B10, rfl⟩
        case round =>
          obtain ⟨k2, hk2, HN, HW, rfl⟩ := hrel
          by_cases hlt2 : k2 < len
          · have ZR := HZ.out.below HW
            obtain ⟨b, off, ha, hbl, hcs⟩ := ZR.2.resolve_left (by omega)
            subst ha
            have hkp : k2 < ps.length := by rw [ZR.1]; exact hlt2
            obtain ⟨x, hx⟩ : ∃ x, ps.getD k2 ByteArray.empty = x := ⟨_, rfl⟩
            have gx : wr.cell? ⟨b, off + k2, none⟩ = some (.string x) := by rw [← hx]; exact hcs k2 hlt2
            have hxe : ps[k2] = x := by rw [← hx, List.getD_eq_getElem?_getD, List.getElem?_eq_getElem hkp]; rfl
            have hxs : x.size ≤ 1048576 := by
              have h1 := size_le_sum ps k2 hkp
              rw [hxe, ← blen] at h1
              have := HSUM.out
              omega
            have HXE := Lib.hid hxe
            have kc := run_bytes_of_string (P := Tryd.prog) wr 9 42 5 x Tryd.underlying9 Tryd.underlying42 Tryd.underlying5
            have BR : BRd (wr.alloc (.cells (bytesRow x (grownCap wr x.size 0 5)) 5 ((bytesRow x (grownCap wr x.size 0 5)).size, (bytesRow x (grownCap wr x.size 0 5)).size + 1))).drew wr.heap.size x.data.toList := BRd.new wr x (grownCap wr x.size 0 5) 5
            have BX : Below w.heap.size w (wr.alloc (.cells (bytesRow x (grownCap wr x.size 0 5)) 5 ((bytesRow x (grownCap wr x.size 0 5)).size, (bytesRow x (grownCap wr x.size 0 5)).size + 1))).drew := (HW.alloc HW.size _).drew
            clear hcs hx hxe ZR
            go_wp2_with fail
            clear kc gx
            generalize (wr.alloc (.cells (bytesRow x (grownCap wr x.size 0 5)) 5 ((bytesRow x (grownCap wr x.size 0 5)).size, (bytesRow x (grownCap wr x.size 0 5)).size + 1))).drew = wx at BR BX ⊢
            have HBX := Lib.hid BR
            clear BR
            go_loop [120] (fun j => ∃ k3 : Nat, k3 ≤ x.size ∧ Hid ((32 : UInt8) ∉ x.data.toList.take k3) ∧ j = .int .i64 (k3 : Int)) (fun j => x.size - (intOf j).toNat)
            case atStart => exact ⟨0, by omega, Lib.hid (by simp), rfl⟩
            case round =>
              obtain ⟨k3, hk3, HT, rfl⟩ := hrel
              by_cases hlt3 : k3 < x.size
              · have hkl : k3 < x.data.toList.length := by rw [← blen]; exact hlt3
                have hcell := HBX.out k3 hkl
                obtain ⟨c, hcq⟩ : ∃ c, x.data.toList[k3] = c := ⟨_, rfl⟩
                rw [hcq] at hcell
                by_cases hc32 : c = 32
                · have t1 : ((c.toNat : Int) == 32) = true := by rw [hc32]; rfl
                  clear hcq hc32
                  go_wp2_with fail
                  go_ret
                  exact ⟨rfl, BX⟩
                · have t1 : ((c.toNat : Int) == 32) = false := by rw [beq_eq_false_iff_ne]; intro e; exact hc32 (UInt8.toNat_inj.1 (show c.toNat = _ from Int.ofNat.inj e))
                  have HT2 := Lib.hid (not_mem_take x.data.toList k3 hkl HT.out (by rw [hcq]; exact hc32))
                  clear hcq hc32
                  go_wp2_with fail
                  go_round
                  case rel => exact ⟨k3 + 1, by omega, HT2, by go_num⟩
                  case measure => simp [intOf]; omega
              · have HN2 := Lib.hid (all_take ps k2 hkp HN.out (by rw [HXE.out]; have h := HT.out; rw [List.take_of_length_le (by rw [← blen]; omega)] at h; exact h))
                go_wp2_with fail
                go_roundw
                case rel => exact ⟨k2 + 1, by omega, HN2, BX, by go_num⟩
                case measure => simp [intOf]; omega
          · obtain rfl : k2 = len := by omega
            have hall := HN.out
            rw [List.take_of_length_le (by rw [HZ.out.1]; exact Nat.le_refl _)] at hall
            by_cases h0 : k2 = 0
            · have t0 : ((k2 : Int) == 0) = true := by rw [beq_iff_eq]; omega
              go_wp2_with fail
              go_ret
              exact ⟨rfl, HW⟩
            · have t0 : ((k2 : Int) == 0) = false := by rw [beq_eq_false_iff_ne]; omega
              have ZR := HZ.out.below HW
              obtain ⟨x, r, hpr⟩ : ∃ x r, ps = x :: r := by
                cases hps : ps with
                | nil => have := ZR.1; rw [hps] at this; simp at this; omega
                | cons x r => exact ⟨x, r, rfl⟩
              have hJ := words_join ps x r hpr hall
              have hjl : (bs (Lib.join (ps.map (·.data.toList)) [32])).size ≤ 1048576 := by
                rw [bs_size]
                have h1 := join_len (ps.map (·.data.toList))
                rw [List.map_map, List.length_map] at h1
                have h2 : (ps.map (List.length ∘ fun x : ByteArray => x.data.toList)).sum = (ps.map (·.data.toList.length)).sum := rfl
                have := HSUM.out
                omega
              have HL := Lib.hid (line_any za k2 cap ps wr ZR (by omega) hc (by have := HSUM.out; omega))
              have hWd := fun w hE => words_any (bs (Lib.join (ps.map (·.data.toList)) [32])) hjl w hE
              have hrl : r.length + 1 = k2 := by have := ZR.1; rw [hpr] at this; simpa using this
              rw [hJ.1, hJ.2, hrl] at hWd
              have HWD := Lib.hid hWd
              have HLK := Lib.hid (show ps.length = k2 from ZR.1)
              clear hWd hJ hpr hrl hall h0 ZR
              generalize bs (Lib.join (ps.map (·.data.toList)) [32]) = J at HL HWD
              go_wp2_with fail
              refine HL.out.mono ?_
              rintro e wa ⟨rfl, hb⟩
              have BA := below_to HW hb
              clear hb
              go_wp2_with fail
              refine (HWD.out _ (hE.below BA)).mono ?_
              rintro e wb ⟨rfl, rfl⟩
              have hS1 := Strs.split wa ps 9
              rw [HLK.out] at hS1
              have BB : Below w.heap.size w (wa.alloc (.cells (ps.map Value.string).toArray 9)) := BA.alloc BA.size _
              have hS2 := HZ.out.below BB
              generalize (wa.alloc (.cells (ps.map Value.string).toArray 9)) = wc at hS1 BB hS2 ⊢
              go_wp2_with fail
              refine (same_strs _ za k2 k2 cap ps _ hS1 hS2 (by omega)).mono ?_
              rintro e wd ⟨rfl, hb⟩
              have BD := below_to BB hb
              go_wp2_with fail
              go_ret
              exact ⟨rfl, BD⟩
set_option maxRecDepth 100000 in
theorem nameBack_walk (s v : ByteArray) (n : Nat) (za : Option Addr) (len cap : Nat) (ps : List ByteArray) (w : World) (hE : Env w) (hs : s.size ≤ maxLen) (hv : v.size ≤ maxLen) (hn : n < 18446744073709551616) (hm : len ≤ 9223372036854775807) (hc : len ≤ cap) (hz : Strs w za len ps) (hsum : (ps.map (·.data.toList.length)).sum + ps.length ≤ 1048576) :
    Calls Tryd.prog 5 #[.string s, .string v, .int .u64 (n : Int), .slice za len cap] w fun e w' => e = .returned (.bool true) ∧ Below w.heap.size w w' := by
  by_cases h1 : 2048 < s.size
  · clear hz hsum
    go_enter Tryd.func5, Tryd.ntmps5
    go_wp2_with fail
    refine (lives_any _ hE).mono ?_
    rintro e w1 ⟨rfl, B1⟩
    go_wp2_with fail
    go_ret
    exact ⟨rfl, B1⟩
  · by_cases h2 : 2048 < v.size
    · clear hz hsum
      go_enter Tryd.func5, Tryd.ntmps5
      go_wp2_with fail
      refine (lives_any _ hE).mono ?_
      rintro e w1 ⟨rfl, B1⟩
      go_wp2_with fail
      go_ret
      exact ⟨rfl, B1⟩
    · by_cases h3 : 100 < len
      · clear hz hsum
        go_enter Tryd.func5, Tryd.ntmps5
        go_wp2_with fail
        refine (lives_any _ hE).mono ?_
        rintro e w1 ⟨rfl, B1⟩
        go_wp2_with fail
        go_ret
        exact ⟨rfl, B1⟩
      · exact back_main s v n za len cap ps w hE (by omega) (by omega) hn (by omega) hc hz hsum
end Go.Proofs.YtgbnmokajaehhaaDoor
