/- BitmapBack, walked. -/
import Derived.Test.YtbgpkddobnldlaaBQ
import Derived.Test.YtbgpkddobnldlaaBF
import Derived.Laws.AppendOwnNone
namespace Go.Proofs.Ytbgpkddobnldlaa
open Go.RowKit
set_option maxRecDepth 100000 in
theorem back_no (s : ByteArray) (a b k : Int) (w : World) (h : ¬ (s.size = 480 ∧ 0 ≤ k ∧ 0 ≤ a ∧ a ≤ b ∧ b ≤ 3840)) :
    Calls Try.prog 5 #[.string s, .int .i64 a, .int .i64 b, .int .i64 k] w fun e w' => e = .returned (.bool true) ∧ Below w.heap.size w w' := by
  have H := Lib.hid h
  clear h
  go_enter Try.func5, Try.ntmps5
  go_wp2_with fail
  refine (lives_any _).mono ?_
  rintro e w1 ⟨rfl, B1⟩
  go_wp2_with fail
  refine (take_no s a b k _ H.out).mono ?_
  rintro e w2 ⟨rfl, rfl⟩
  go_wp2_with fail
  go_ret
  exact ⟨rfl, B1⟩
set_option maxRecDepth 100000 in
theorem back_few (s : ByteArray) (a b k : Nat) (w : World) (hs : s.size = 480) (hab : a ≤ b) (hb : b ≤ 3840) (hk : k < 9223372036854775808) (hf : (freeN s.data.toList a b).length < k) :
    Calls Try.prog 5 #[.string s, .int .i64 (a : Int), .int .i64 (b : Int), .int .i64 (k : Int)] w fun e w' => e = .returned (.bool true) ∧ Below w.heap.size w w' := by
  have hln : s.data.toList.length = 480 := by rw [← blen]; exact hs
  have hL := inB_yes s.data.toList a b k hln hab hb
  rw [if_pos hf] at hL
  have hT := fun w => take_yes s a b k w hs hab hb hk
  have hM := fun w => many_any s (a : Int) (b : Int) w (by omega)
  rw [many_used _ a b hln hab hb] at hM
  have hU := used_free s.data.toList a b
  have htb : takeB s.data.toList (a : Int) (b : Int) (k : Int) = [] := by unfold takeB; rw [hL]; rfl
  rw [hL, htb] at hT
  generalize usedN s.data.toList a b = m at hM hU
  generalize (freeN s.data.toList a b).length = f at hU hf
  have HT := Lib.hid hT
  have HM := Lib.hid hM
  have hd : (b : Int) - (a : Int) - (m : Int) < (k : Int) := by omega
  clear hT hM hL htb hln hs
  have hm2 : m ≤ 3840 := by omega
  clear hU hf
  go_enter Try.func5, Try.ntmps5
  go_wp2_with fail
  refine (lives_any _).mono ?_
  rintro e w1 ⟨rfl, B1⟩
  go_wp2_with fail
  refine (HT.out _).mono ?_
  rintro e w2 ⟨ra, rc, rfl, I2, hb2⟩
  rw [show bs [] = ⟨#[]⟩ from rfl]
  have B2 := below_to B1 hb2
  clear hb2 B1 I2
  go_wp2_with fail
  refine (HM.out _).mono ?_
  rintro e w3 ⟨rfl, hb2⟩
  have B3 := below_to B2 hb2
  clear hb2 B2
  go_wp2_with fail
  go_ret
  first | exact ⟨rfl, B3⟩ | exact ⟨ret_bool (by simp; omega), B3⟩
theorem RowOf.snoc0 {w0 wr w1 : World} {T sz n m : Nat} {v v' : Value} {xs ys : List Value} (h : RowOf w0 T sz v n xs wr) (hown : w1.ownsRow w0.heap.size T sz v' (n + m) (xs ++ ys)) (hg : wr.grownBy w1 v.ownBlock) : RowOf w0 T sz v' (n + m) (xs ++ ys) w1 :=
  ⟨hown, h.below.grown hg h.below.size (fun j hj => (h.own.lt j hj).1)⟩
theorem intV_one (fl : List Nat) : ∀ u ∈ fl.map intV, u.oneCell' = true := by
  intro u hu
  obtain ⟨x, _, rfl⟩ := List.mem_map.1 hu
  rfl
theorem add_off (b off n : Nat) : Addr.add ⟨b, off, none⟩ n = ⟨b, off + n, none⟩ := by
  unfold Addr.add
  by_cases h : n = 0
  · subst h; simp
  · simp [h]
theorem zs_get (fl : List Nat) (j : Nat) (h : j < fl.length) : (zsOf fl).getD j 0 = (fl[j] : Int) := by
  unfold zsOf
  rw [List.getD_eq_getElem?_getD, List.getElem?_map, List.getElem?_eq_getElem h]
  rfl
theorem low_zero (s : ByteArray) (a b : Nat) (w : World) (hs : s.size = 480) (hab : a ≤ b) (hb : b ≤ 3840) :
    Calls Try.prog 13 #[.string s, .int .i64 (a : Int), .int .i64 (b : Int), .int .i64 0] w fun e w' => e = .returned (.tuple #[.slice none 0 0, .int .i64 0]) ∧ Below w.heap.size w w' := by
  have HS := Lib.hid hs
  clear hs
  go_enter Try.func13, Try.ntmps13
  go_wp2_with (first | (go_at_call 22; refine (isBitmap_yes _ _ HS.out).mono ?_; rintro e w' ⟨rfl, rfl⟩) | (go_at_call 26; refine (isRange_yes _ _ _ (by omega) (by omega) (by omega)).mono ?_; rintro e w' ⟨rfl, rfl⟩))
  refine (freeIn_any s _).mono ?_
  rintro e w1 ⟨rfl, hcl, B1, hsz⟩
  clear hcl
  go_wp2_with fail
  go_loopw [11, 12] (fun v j wx => wx = w1 ∧ v = .slice none 0 0 ∧ j = .int .i64 (a : Int)) (fun _ _ _ => 0)
  case atStart => exact ⟨rfl, rfl, rfl⟩
  case round =>
    obtain ⟨rfl, rfl, rfl⟩ := hrel
    by_cases h : a < b
    · go_wp2_with fail
      go_ret2
      exact ⟨rfl, B1⟩
    · go_wp2_with fail
      go_ret2
      exact ⟨rfl, B1⟩
theorem take_zero (s : ByteArray) (a b : Nat) (w : World) (hs : s.size = 480) (hab : a ≤ b) (hb : b ≤ 3840) :
    Calls Try.prog 15 #[.string s, .int .i64 (a : Int), .int .i64 (b : Int), .int .i64 0] w fun e w' => e = .returned (.tuple #[.slice none 0 0, .string s, .int .i64 0]) ∧ Below w.heap.size w w' := by
  have HS := Lib.hid hs
  clear hs
  go_enter Try.func15, Try.ntmps15
  go_wp2_with fail
  refine (low_zero s a b _ HS.out hab hb).mono ?_
  rintro e w1 ⟨rfl, B1⟩
  go_wp2_with fail
  refine (set_any s true none 0 0 [] _ HS.out ⟨rfl, .inl rfl⟩ (by omega) (fun z hz => by simp at hz)).mono ?_
  rintro e w2 ⟨rfl, hb2⟩
  rw [show setsL s.data.toList true ([].map Int.toNat) = s.data.toList from rfl, bs_of]
  have B2 := below_to B1 hb2
  go_wp2_with fail
  go_ret3
  exact ⟨rfl, B2⟩
set_option maxRecDepth 100000 in
set_option maxHeartbeats 4000000 in
theorem back_zero (s : ByteArray) (a b : Nat) (w : World) (hs : s.size = 480) (hab : a ≤ b) (hb : b ≤ 3840) :
    Calls Try.prog 5 #[.string s, .int .i64 (a : Int), .int .i64 (b : Int), .int .i64 0] w fun e w' => e = .returned (.bool true) ∧ Below w.heap.size w w' := by
  have hln : s.data.toList.length = 480 := by rw [← blen]; exact hs
  have hT := fun w => take_zero s a b w hs hab hb
  obtain ⟨i0, hi0, hz0, hz1, hz2⟩ := info_parts info3
  have hM := fun w => many_any s 0 3840 w (by omega)
  have hm : manyL s.data.toList 0 3840 ≤ 3840 := manyTo_le s.data.toList 0 3840 3840
  generalize manyL s.data.toList 0 3840 = m at hM hm
  have hG := fun (ra : Option Addr) rc w hI => give_yes s ra 0 rc [] w hs hI (by omega)
  have hg1 : giveS s.data.toList [] = s.data.toList := by unfold giveS; rw [if_pos hln]; rfl
  have hg2 : giveE s.data.toList [] = 0 := by unfold giveE; rw [if_pos hln]; rfl
  rw [hg1, hg2, bs_of] at hG
  have HT := Lib.hid hT
  have HM := Lib.hid hM
  have HG := Lib.hid hG
  clear hT hM hG hg1 hg2 hln hs
  go_enter Try.func5, Try.ntmps5
  go_wp2_with fail
  refine (lives_any _).mono ?_
  rintro e w1 ⟨rfl, B1⟩
  go_wp2_with fail
  refine (HT.out _).mono ?_
  rintro e w2 ⟨rfl, hb2⟩
  have B2 := below_to B1 hb2
  clear hb2 B1
  go_wp2_with fail
  refine (HM.out _).mono ?_
  rintro e w3 ⟨rfl, hb2⟩
  have B3 := below_to B2 hb2
  clear hb2 B2
  go_wp2_with fail
  refine (HM.out _).mono ?_
  rintro e w4 ⟨rfl, hb2⟩
  have B4 := below_to B3 hb2
  clear hb2 B3
  go_wp2_with fail
  go_loopw [73] (fun i wx => wx = w4 ∧ i = .int .i64 0) (fun _ _ => 0)
  case atStart => exact ⟨rfl, rfl⟩
  case round =>
    obtain ⟨rfl, rfl⟩ := hrel
    go_wp2_with fail
    go_quiet (fail)
    go_wp2_with fail
    refine (HG.out none 0 _ ⟨rfl, .inl rfl⟩).mono ?_
    rintro e w5 ⟨rfl, hb5⟩
    unfold strErr
    have B5 := below_to (below_to B4 (below_drewN _ _)) hb5
    clear hb5
    have hRF := RowOf.fresh w5 3 1
    go_wp2_with (at_builtin; refine wpList_append_own_none rfl _ _ 29 rfl w5.heap.size 3 i0 1 Try.underlying29 hi0 _ 0 [] rfl hRF.own rfl ?_)
    refine (HG.out _ 0 _ ⟨rfl, .inl rfl⟩).mono ?_
    rintro e w6 ⟨rfl, hb6⟩
    unfold strErr
    have B6 := below_to (below_to B5 hRF.below) hb6
    go_wp2_with fail
    go_ret
    exact ⟨rfl, B6⟩
set_option maxRecDepth 100000 in
set_option maxHeartbeats 4000000 in
theorem back_some (s : ByteArray) (a b k : Nat) (fl : List Nat) (w : World) (hs : s.size = 480) (hab : a ≤ b) (hb : b ≤ 3840) (hk : fl.length = k) (hk0 : 0 < k) (hL : lowF s.data.toList (a : Int) (b : Int) (k : Int) = (fl, 0)) (hTk : Took s.data.toList a b fl) :
    Calls Try.prog 5 #[.string s, .int .i64 (a : Int), .int .i64 (b : Int), .int .i64 (k : Int)] w fun e w' => e = .returned (.bool true) ∧ Below w.heap.size w w' := by
  have hln : s.data.toList.length = 480 := by rw [← blen]; exact hs
  obtain ⟨i0, hi0, hz0, hz1, hz2⟩ := info_parts info3
  have hkl : k ≤ 3840 := by have := lowF_len s.data.toList a b k hln hab hb; rw [hL, hk] at this; exact this
  have hT := fun w => take_yes s a b k w hs hab hb (by omega)
  have htb : takeB s.data.toList (a : Int) (b : Int) (k : Int) = setsL s.data.toList true fl := by unfold takeB; rw [hL]; rfl
  rw [hL, htb] at hT
  obtain ⟨B, hB⟩ : ∃ B, setsL s.data.toList true fl = B := ⟨_, rfl⟩
  have hBl : (bs B).size = 480 := by rw [bs_size, ← hB, setsL_length]; exact hln
  have hmany := hTk.many
  have hback := hTk.back
  have htwice := hTk.twice (by omega)
  have hnew := hTk.used_new
  have hupto := hTk.upto
  rw [hB] at hT hmany hback htwice hnew hupto
  have hM1 := fun w => many_any (bs B) 0 3840 w (by omega)
  have hM2 := fun w => many_any s 0 3840 w (by omega)
  rw [bs_toList] at hM1
  have hm1 := manyTo_le s.data.toList 0 3840 3840
  change manyL s.data.toList 0 3840 ≤ 3840 at hm1
  generalize manyL s.data.toList 0 3840 = m at hM2 hmany hm1
  rw [hmany, hk] at hM1
  have HT : Hid (∀ w, Calls Try.prog 15 #[.string s, .int .i64 (a : Int), .int .i64 (b : Int), .int .i64 (k : Int)] w fun e w' => TakeRet w fl B 0 e w') := Lib.hid hT
  have HM1 := Lib.hid hM1
  have HM2 := Lib.hid hM2
  have HBA := Lib.hid hback
  have HTW := Lib.hid htwice
  have HNEW := Lib.hid hnew
  have HUP := Lib.hid hupto
  have HTK := Lib.hid hTk
  have HK := Lib.hid hk
  have HBL := Lib.hid hBl
  clear hT hM1 hM2 hback htwice hnew hupto hTk hL htb hB hBl hmany hln hs
  go_enter Try.func5, Try.ntmps5
  go_wp2_with fail
  refine (lives_any _).mono ?_
  rintro e w1 ⟨rfl, B1⟩
  go_wp2_with fail
  refine (HT.out _).mono ?_
  rintro e w2 ⟨ra, rc, rfl, I2, hb2⟩
  rw [HK.out] at I2 ⊢
  have B2 := below_to B1 hb2
  clear hb2 B1
  go_wp2_with fail
  refine (HM1.out _).mono ?_
  rintro e w3 ⟨rfl, hb2⟩
  have B3 := below_to B2 hb2
  replace I2 := I2.below hb2
  clear hb2 B2
  go_wp2_with fail
  refine (HM2.out _).mono ?_
  rintro e w4 ⟨rfl, hb2⟩
  have B4 := below_to B3 hb2
  replace I2 := I2.below hb2
  clear hb2 B3
  obtain ⟨g, off, hra, hgw, hc⟩ := I2.at hk0
  subst hra
  have HC := Lib.hid hc
  clear hc hk
  go_wp2_with fail
  go_loopw [73] (fun i wx => ∃ j : Nat, j ≤ k ∧ Below w4.heap.size w4 wx ∧ i = .int .i64 (j : Int)) (fun i _ => k - (intOf i).toNat)
  case atStart => exact ⟨0, by omega, Below.refl _ _, rfl⟩
  case round =>
    obtain ⟨j, hj, HW, rfl⟩ := hrel
    by_cases hlt : j < k
    · have hjl : j < fl.length := by rw [HK.out]; exact hlt
      obtain ⟨x, hx⟩ : ∃ x, fl[j] = x := ⟨_, rfl⟩
      have hxm : x ∈ fl := by rw [← hx]; exact List.getElem_mem _
      have hcj : wr.cell? ⟨g, off + j, none⟩ = some (.int .i64 (x : Int)) := by
        rw [← hx, ← zs_get fl j hjl]; exact (HW.cell (p := ⟨g, off + j, none⟩) hgw).trans (HC.out j hlt)
      have hxr := HTK.out.mem x hxm
      have h1 : ¬ (x : Int) < (a : Int) := by omega
      have h2 : ¬ (b : Int) ≤ (x : Int) := by omega
      have HU1 := Lib.hid (fun w => used_lit s (x : Int) false w (HTK.out.used_old x hxm))
      have HU2 := Lib.hid (fun w => used_lit (bs B) (x : Int) true w (by rw [bs_toList]; exact HNEW.out x hxm))
      have hx3 : x < 3840 := by omega
      by_cases hj0 : j = 0
      · have hjn : ¬ (0 : Int) < (j : Int) := by omega
        clear hx hxr hj0
        go_wp2_with fail
        refine (HU1.out _).mono ?_
        rintro e w5 ⟨rfl, hb5⟩
        have HW5 := below_to HW hb5
        clear hb5
        go_wp2_with fail
        refine (HU2.out _).mono ?_
        rintro e w6 ⟨rfl, hb6⟩
        have HW6 := below_to HW5 hb6
        clear hb6
        go_wp2_with fail
        go_roundw
        case rel => exact ⟨j + 1, by omega, HW6, by go_num⟩
        case measure => simp [intOf]; omega
      · obtain ⟨i, rfl⟩ : ∃ i, j = i + 1 := ⟨j - 1, by omega⟩
        obtain ⟨y, hy⟩ : ∃ y, fl[i] = y := ⟨_, rfl⟩
        have hxy : y < x := by
          rw [← hx, ← hy]; exact List.pairwise_iff_getElem.1 HTK.out.up i (i + 1) (by omega) hjl (by omega)
        have hci : w4.cell? ⟨g, off + i, none⟩ = some (.int .i64 (y : Int)) := by
          rw [← hy, ← zs_get fl i (by omega)]; exact HC.out i (by omega)
        have HCI := Lib.hid hci
        clear hx hxr hy hj0 hci
        go_wp2_with fail
        refine (HU1.out _).mono ?_
        rintro e w5 ⟨rfl, hb5⟩
        have HW5 := below_to HW hb5
        clear hb5
        go_wp2_with fail
        refine (HU2.out _).mono ?_
        rintro e w6 ⟨rfl, hb6⟩
        have HW6 := below_to HW5 hb6
        have hci : w6.cell? ⟨g, off + i, none⟩ = some (.int .i64 (y : Int)) := (HW6.cell (p := ⟨g, off + i, none⟩) hgw).trans HCI.out
        have hle : ¬ (x : Int) ≤ (y : Int) := by omega
        clear hb6
        go_wp2_with fail
        go_roundw
        case rel => exact ⟨i + 1 + 1, by omega, HW6, by go_num⟩
        case measure => simp [intOf]; omega
    · obtain rfl : j = k := by omega
      have hjl : j - 1 < fl.length := by rw [HK.out]; omega
      obtain ⟨i, rfl⟩ : ∃ i, j = i + 1 := ⟨j - 1, by omega⟩
      obtain ⟨x, hx⟩ : ∃ x, fl[i]'(by have := HK.out; omega) = x := ⟨_, rfl⟩
      have hxm : x ∈ fl := by rw [← hx]; exact List.getElem_mem _
      have hxr := HTK.out.mem x hxm
      have hcx : wr.cell? ⟨g, off + i, none⟩ = some (.int .i64 (x : Int)) := by
        rw [← hx, ← zs_get fl i (by have := HK.out; omega)]; exact (HW.cell (p := ⟨g, off + i, none⟩) hgw).trans (HC.out i (by omega))
      have hMX := fun w => manyq_any (bs B) (a : Int) ((x : Int) + 1) w (by omega)
      rw [bs_toList, HUP.out x hxm] at hMX
      have hxa : ((x + 1 - a : Nat) : Int) = (x : Int) + 1 - (a : Int) := by omega
      rw [hxa] at hMX
      have HMX := Lib.hid hMX
      have hx3 : x < 3840 := by omega
      have hax : a ≤ x := hxr.1
      have hGV := fun w hI => give_yes (bs B) (some ⟨g, off, none⟩) (i + 1) rc (zsOf fl) w HBL.out hI (by omega)
      have hGW := fun ra rc n w hI hn => give_yes (bs B) ra n rc (zsOf fl ++ zsOf fl) w HBL.out hI hn
      rw [bs_toList] at hGV hGW
      rw [show giveS B (zsOf fl) = s.data.toList from HBA.out.1, show giveE B (zsOf fl) = 0 from HBA.out.2, bs_of] at hGV
      rw [show giveE B (zsOf fl ++ zsOf fl) = 18 from HTW.out] at hGW
      generalize bs (giveS B (zsOf fl ++ zsOf fl)) = SS at hGW
      have HGV := Lib.hid hGV
      have HGW := Lib.hid hGW
      have HFL := Lib.hid (show fl.length = i + 1 from HK.out)
      have HIN := Lib.hid (I2.below HW)
      clear hMX hxa hx hxr hjl hlt hGV hGW
      go_wp2_with fail
      have q1 : IntKind.i64.wrap ((i : Int) + 1 - 1) = (i : Int) := by rw [IntWalk.i64_in _ (by omega)]; omega
      have q2 : IntKind.i64.wrap (((i + 1 : Nat) : Int) - 1) = (i : Int) := by rw [IntWalk.i64_in _ (by omega)]; omega
      have q3 : IntKind.i64.wrap (i : Int) = (i : Int) := IntWalk.i64_in _ (by omega)
      have q4 : IntKind.i64.wrap ((x : Int) + 1) = (x : Int) + 1 := IntWalk.i64_in _ (by omega)
      have q5 : IntKind.i64.wrap ((x : Int) + 1 - (a : Int)) = (x : Int) + 1 - (a : Int) := IntWalk.i64_in _ (by omega)
      have q6 : (0 : Int) < ((i + 1 : Nat) : Int) := by omega
      go_quiet ((go_at_call 11; exact Calls.quiet_of (HMX.out _)))
      clear q1 q2 q3 q4 q5
      go_wp2_with fail
      refine (HGV.out _ (HIN.out.below (below_drewN _ _))).mono ?_
      rintro e w5 ⟨rfl, hb5⟩
      unfold strErr
      have HW5 := below_to (below_to HW (below_drewN _ _)) hb5
      clear hb5
      have HI5 := I2.below HW5
      have hRF := RowOf.fresh w5 3 1
      have hcells : ∀ (w9 : World), Below w5.heap.size w5 w9 → ∀ j u, (fl.map intV)[j]? = some u → w9.cell? ((⟨g, off, none⟩ : Addr).add j) = some u := by
        intro w9 hb9 j u hu
        rw [List.getElem?_map] at hu
        obtain ⟨y, hy, rfl⟩ := Option.map_eq_some_iff.1 hu
        obtain ⟨hjl, rfl⟩ := List.getElem?_eq_some_iff.1 hy
        have hj2 : j < i + 1 := by rw [← HFL.out]; exact hjl
        rw [add_off]
        have e1 := HW5.cell (p := ⟨g, off + j, none⟩) hgw
        have e2 := hb9.cell (p := ⟨g, off + j, none⟩) (Nat.lt_of_lt_of_le hgw HW5.size)
        rw [e2, e1, HC.out j hj2, zs_get fl j hjl]
        rfl
      have HCE := Lib.hid hcells
      clear hcells
      go_wp2_with (at_builtin; refine wpList_append_own _ rfl _ _ 29 rfl w5.heap.size 3 i0 (.int .i64 0) 1 8 Try.underlying29 hi0 hz0 hz1 hz2 rfl (by decide) _ 0 [] rfl hRF.own ⟨g, off, none⟩ (i + 1) rc (fl.map intV) rfl ?d1 ?d2 ?d3 ?d4 ?d5 ?d6 ?_)
      case d1 => rw [List.length_map, HFL.out]; omega
      case d2 => exact HCE.out _ hRF.below
      case d3 => exact intV_one fl
      case d4 => unfold maxLen; omega
      case d5 => omega
      case d6 => have := hRF.below.size; exact this
      intro v2 w6 hown2 hgrow2 hnil2
      have hR6 : RowOf w5 3 1 v2 (i + 1) (fl.map intV) w6 := ⟨hown2, hRF.below.grown hgrow2 hRF.below.size (fun j hj => (hRF.own.lt j hj).1)⟩
      clear hown2 hgrow2 hnil2
      go_wp2_with (at_builtin; refine wpList_append_own _ rfl _ _ 29 rfl w5.heap.size 3 i0 (.int .i64 0) 1 8 Try.underlying29 hi0 hz0 hz1 hz2 rfl (by decide) _ _ _ rfl hR6.own ⟨g, off, none⟩ (i + 1) rc (fl.map intV) rfl ?d1 ?d2 ?d3 ?d4 ?d5 ?d6 ?_)
      case d1 => rw [List.length_map, HFL.out]; omega
      case d2 => exact HCE.out _ hR6.below
      case d3 => exact intV_one fl
      case d4 => unfold maxLen; omega
      case d5 => omega
      case d6 => exact hR6.below.size
      intro v3 w7 hown3 hgrow3 hnil3
      have hR7 := hR6.snoc0 hown3 hgrow3
      clear hown3 hgrow3 hnil3
      rw [← List.map_append] at hR7
      obtain ⟨r7, c7, rfl, hI7, hl7, _⟩ := hR7.ints
      have hz7 : zsOf (fl ++ fl) = zsOf fl ++ zsOf fl := by simp [zsOf]
      rw [hz7] at hI7
      have B7 := below_to (below_to B4 HW5) hR7.below
      clear hz7 hl7
      go_wp2_with fail
      refine (HGW.out _ _ _ _ hI7 (by omega)).mono ?_
      rintro e w8 ⟨rfl, hb8⟩
      unfold strErr
      have B8 := below_to B7 hb8
      clear hb8
      go_wp2_with fail
      go_ret
      exact ⟨rfl, B8⟩
theorem bitmapBack_walk (s : ByteArray) (_ : s.size ≤ maxLen) (a : Int) (_ : -9223372036854775808 ≤ a ∧ a ≤ 9223372036854775807) (b : Int) (_ : -9223372036854775808 ≤ b ∧ b ≤ 9223372036854775807) (k : Int) (hk : -9223372036854775808 ≤ k ∧ k ≤ 9223372036854775807) (w : World) :
    Calls Try.prog 5 #[.string s, .int .i64 a, .int .i64 b, .int .i64 k] w fun e w' => e = .returned (.bool true) ∧ Below w.heap.size w w' := by
  by_cases h : s.size = 480 ∧ 0 ≤ k ∧ 0 ≤ a ∧ a ≤ b ∧ b ≤ 3840
  · obtain ⟨h1, h2, h3, h4, h5⟩ := h
    obtain ⟨k', rfl⟩ := Int.eq_ofNat_of_zero_le h2
    obtain ⟨a', rfl⟩ := Int.eq_ofNat_of_zero_le h3
    obtain ⟨b', rfl⟩ := Int.eq_ofNat_of_zero_le (show 0 ≤ b by omega)
    have hln : s.data.toList.length = 480 := by rw [← blen]; exact h1
    by_cases hf : (freeN s.data.toList a' b').length < k'
    · exact back_few s a' b' k' w h1 (by omega) (by omega) (by omega) hf
    · by_cases hk0 : k' = 0
      · subst hk0
        exact back_zero s a' b' w h1 (by omega) (by omega)
      · have hL := inB_yes s.data.toList a' b' k' hln (by omega) (by omega)
        rw [if_neg hf] at hL
        exact back_some s a' b' k' _ w h1 (by omega) (by omega) (by rw [List.length_take]; omega) (by omega) hL (took_of s.data.toList a' b' k' hln (by omega))
  · exact back_no s a b k w h
end Go.Proofs.Ytbgpkddobnldlaa
