/- Contracts: the reference's Give; Same of lists alike; freeIn. -/
import Derived.Test.YtbgpkddobnldlaaB6
namespace Go.Proofs.Ytbgpkddobnldlaa
open Go.RowKit
theorem gives_snoc (l : List UInt8) (zs : List Int) (k : Nat) (hk : k < zs.length) (h : Gives l (zs.take k)) (hu : usedL l (zs.getD k 0) = true) (hd : ∀ m, m < k → zs.getD m 0 ≠ zs.getD k 0) : Gives l (zs.take (k + 1)) := by
  rw [take_snocI zs k hk]
  refine ⟨fun i hi => ?_, ?_⟩
  · rcases List.mem_append.1 hi with hi | hi
    · exact h.1 i hi
    · rw [List.mem_singleton.1 hi]; exact hu
  · rw [List.nodup_append]
    refine ⟨h.2, by simp, fun x hx y hy => ?_⟩
    rw [List.mem_singleton.1 hy]
    obtain ⟨m, hm, rfl⟩ := List.mem_iff_getElem.1 hx
    have hm' : m < k := by rw [List.length_take] at hm; omega
    have := hd m hm'
    rw [List.getElem_take]
    rwa [List.getD_eq_getElem?_getD, List.getElem?_eq_getElem (by omega)] at this
theorem gives_unused (l : List UInt8) (zs : List Int) (k : Nat) (hk : k < zs.length) (hu : usedL l (zs.getD k 0) = false) : ¬ Gives l zs := by
  intro h
  have := h.1 _ (getD_mem zs k hk)
  rw [hu] at this
  cases this
theorem gives_twice (l : List UInt8) (zs : List Int) (i k : Nat) (hi : i < k) (hk : k < zs.length) (he : zs.getD i 0 = zs.getD k 0) : ¬ Gives l zs := by
  intro h
  have := List.pairwise_iff_getElem.1 h.2 i k (by omega) hk hi
  rw [List.getD_eq_getElem?_getD, List.getElem?_eq_getElem (by omega), List.getD_eq_getElem?_getD, List.getElem?_eq_getElem hk] at he
  exact this he
theorem giveS_no (l : List UInt8) (zs : List Int) (h : l.length = 480) (hg : ¬ Gives l zs) : giveS l zs = [] ∧ giveE l zs = 18 := by
  unfold giveS giveE; rw [giveF_no _ _ hg, if_pos h, if_pos h]; exact ⟨rfl, rfl⟩
theorem giveS_yes (l : List UInt8) (zs : List Int) (h : l.length = 480) (hg : Gives l zs) : giveS l zs = setsL l false (zs.map Int.toNat) ∧ giveE l zs = 0 := by
  unfold giveS giveE; rw [giveF_yes _ _ hg, if_pos h, if_pos h]; exact ⟨rfl, rfl⟩
theorem strErr_of2 {a b : List UInt8} {d e : Int} (h : a = b) (h2 : d = e) : strErr (bs a) d = strErr (bs b) e := by rw [h, h2]
theorem rgive_no (s : ByteArray) (a : Option Addr) (len cap : Nat) (w : World) (hs : s.size ≠ 480) : Calls Try.prog 17 #[.string s, .slice a len cap] w fun e w' => e = strErr ⟨#[]⟩ 18 ∧ w = w' := by
  have hd : ((s.size : Int) != 480) = true := by rw [bne_iff_ne]; omega
  clear hs
  go_enter Try.func17, Try.ntmps17
  go_wp2
  go_ret2
  exact ⟨rfl, rfl⟩
set_option maxRecDepth 100000 in
set_option maxHeartbeats 1000000 in
theorem rgive_yes (s : ByteArray) (a : Option Addr) (len cap : Nat) (zs : List Int) (w : World) (hs : s.size = 480) (hI : Ints w a len zs) (hl : len ≤ 1000000) :
    Calls Try.prog 17 #[.string s, .slice a len cap] w fun e w' => e = strErr (bs (giveS s.data.toList zs)) (giveE s.data.toList zs) ∧ Below w.heap.size w w' := by
  have HZL := Lib.hid hI.1
  have HS := Lib.hid hs
  have HLN := Lib.hid (show s.data.toList.length = 480 by rw [← blen]; exact hs)
  have HI := Lib.hid hI
  have hd : ((s.size : Int) != 480) = false := by rw [bne_eq_false_iff_eq]; omega
  clear hI hs
  go_enter Try.func17, Try.ntmps17
  go_wp2
  clear hd
  go_loopw [6] (fun i wx => ∃ (k : Nat), k ≤ len ∧ Hid (Gives s.data.toList (zs.take k)) ∧ Below w.heap.size w wx ∧ i = .int .i64 (k : Int)) (fun i _ => len - (intOf i).toNat)
  case atStart => exact ⟨0, by omega, Lib.hid ⟨by simp, by simp⟩, Below.refl _ _, rfl⟩
  case round =>
    obtain ⟨k, hk, HG, HW, rfl⟩ := hrel
    by_cases hlt : k < len
    · obtain ⟨b, off, ha, hbw, hc⟩ := HI.out.at (by omega)
      subst ha
      obtain ⟨z, hzk⟩ : ∃ z, zs.getD k 0 = z := ⟨_, rfl⟩
      have hc0 : w.cell? ⟨b, off + k, none⟩ = some (.int .i64 z) := by rw [← hzk]; exact hc k hlt
      have hck : wr.cell? ⟨b, off + k, none⟩ = some (.int .i64 z) := (HW.cell (p := ⟨b, off + k, none⟩) hbw).trans hc0
      have hk2 : k < zs.length := by rw [HZL.out]; exact hlt
      have HZK := Lib.hid hzk
      have HCC := Lib.hid hc
      have HC0 := Lib.hid hc0
      have hU := fun w => rused_any s z w
      clear hc hzk hc0
      cases hu : usedL s.data.toList z with
      | true =>
        rw [hu] at hU
        have HU := Lib.hid hU
        have HUU := Lib.hid hu
        clear hU hu
        go_wp2_with fail
        refine (HU.out _).mono ?_
        rintro e w1 ⟨rfl, rfl⟩
        go_wp2_with fail
        clear hck
        go_loopw [7] (fun j wx => ∃ (i : Nat), i ≤ k ∧ Hid (∀ m, m < i → zs.getD m 0 ≠ zs.getD k 0) ∧ Below w.heap.size w wx ∧ j = .int .i64 (i : Int)) (fun j _ => k - (intOf j).toNat)
        case atStart => exact ⟨0, by omega, Lib.hid (fun m hm => by omega), HW, rfl⟩
        case round =>
          obtain ⟨i, hi, HD, HX, rfl⟩ := hrel
          by_cases hik : i < k
          · have hck : wr.cell? ⟨b, off + k, none⟩ = some (.int .i64 z) := (HX.cell (p := ⟨b, off + k, none⟩) hbw).trans HC0.out
            have hil : i < len := by omega
            by_cases he : zs.getD i 0 = z
            · have hci : wr.cell? ⟨b, off + i, none⟩ = some (.int .i64 z) := by rw [← he]; exact (HX.cell (p := ⟨b, off + i, none⟩) hbw).trans (HCC.out i hil)
              have HN := Lib.hid (giveS_no s.data.toList zs HLN.out (gives_twice _ zs i k hik hk2 (by rw [he, HZK.out])))
              clear he
              go_wp2_with fail
              go_quiet (fail)
              go_wp2
              go_ret2
              exact ⟨strErr_of2 HN.out.1.symm HN.out.2.symm, below_to HX (below_drewN _ _)⟩
            · obtain ⟨y, hy⟩ : ∃ y, zs.getD i 0 = y := ⟨_, rfl⟩
              have hci : wr.cell? ⟨b, off + i, none⟩ = some (.int .i64 y) := by rw [← hy]; exact (HX.cell (p := ⟨b, off + i, none⟩) hbw).trans (HCC.out i hil)
              have hne : (y == z) = false := by rw [beq_eq_false_iff_ne]; rw [← hy]; exact he
              have HNE := Lib.hid (show zs.getD i 0 ≠ zs.getD k 0 by rw [HZK.out]; exact he)
              clear he hy
              go_wp2_with fail
              go_quiet (fail)
              go_wp2
              go_roundw
              case rel =>
                refine ⟨i + 1, by omega, Lib.hid (fun m hm => ?_), below_to HX (below_drewN _ _), by go_num⟩
                by_cases hmi : m < i
                · exact HD.out m hmi
                · obtain rfl : m = i := by omega
                  exact HNE.out
              case measure => simp [intOf]; omega
          · obtain rfl : i = k := by omega
            have HG2 := Lib.hid (gives_snoc _ zs i hk2 HG.out (by rw [HZK.out]; exact HUU.out) HD.out)
            go_wp2_with fail
            go_roundw
            case rel => exact ⟨i + 1, by omega, HG2, HX, by go_num⟩
            case measure => simp [intOf]; omega
      | false =>
        rw [hu] at hU
        have HU := Lib.hid hU
        have HN := Lib.hid (giveS_no s.data.toList zs HLN.out (gives_unused _ zs k hk2 (by rw [HZK.out]; exact hu)))
        clear hU hu
        go_wp2_with fail
        refine (HU.out _).mono ?_
        rintro e w1 ⟨rfl, rfl⟩
        go_wp2_with fail
        go_ret2
        exact ⟨strErr_of2 HN.out.1.symm HN.out.2.symm, HW⟩
    · obtain rfl : k = len := by omega
      have hg := HG.out
      rw [List.take_of_length_le (by rw [HZL.out]; exact Nat.le_refl _)] at hg
      have HN := Lib.hid (giveS_yes s.data.toList zs HLN.out hg)
      have HG2 := Lib.hid hg
      clear hg
      go_wp2_with fail
      refine (all_any s false a k cap zs _ HS.out (HI.out.below HW) hl (fun z hz => (used_in _ z (HG2.out.1 z hz)).2)).mono ?_
      rintro e w1 ⟨rfl, hb⟩
      have HW1 := below_to HW hb
      clear hb
      go_wp2_with fail
      go_ret2
      exact ⟨strErr_of2 HN.out.1.symm HN.out.2.symm, HW1⟩
set_option maxRecDepth 100000 in
theorem same_yes (a b : Option Addr) (len ca cb : Nat) (zs : List Int) (w : World) (hA : Ints w a len zs) (hB : Ints w b len zs) (hl : len ≤ 1000000) :
    Calls Try.prog 19 #[.slice a len ca, .slice b len cb] w fun e w' => e = .returned (.bool true) ∧ Below w.heap.size w w' := by
  have HA := Lib.hid hA
  have HB := Lib.hid hB
  clear hA hB
  go_enter Try.func19, Try.ntmps19
  go_wp2
  go_loopw [5] (fun i wx => ∃ (k : Nat), k ≤ len ∧ Below w.heap.size w wx ∧ i = .int .i64 (k : Int)) (fun i _ => len - (intOf i).toNat)
  case atStart => exact ⟨0, by omega, Below.refl _ _, rfl⟩
  case round =>
    obtain ⟨k, hk, HW, rfl⟩ := hrel
    by_cases hlt : k < len
    · obtain ⟨b1, o1, h1, hw1, hc1⟩ := HA.out.at (by omega)
      obtain ⟨b2, o2, h2, hw2, hc2⟩ := HB.out.at (by omega)
      subst h1 h2
      obtain ⟨z, hz⟩ : ∃ z, zs.getD k 0 = z := ⟨_, rfl⟩
      have e1 : wr.cell? ⟨b1, o1 + k, none⟩ = some (.int .i64 z) := by rw [← hz]; exact (HW.cell (p := ⟨b1, o1 + k, none⟩) hw1).trans (hc1 k hlt)
      have e2 : wr.cell? ⟨b2, o2 + k, none⟩ = some (.int .i64 z) := by rw [← hz]; exact (HW.cell (p := ⟨b2, o2 + k, none⟩) hw2).trans (hc2 k hlt)
      clear hz hc1 hc2
      go_wp2_with fail
      go_quiet (fail)
      go_wp2
      go_roundw
      case rel => exact ⟨k + 1, by omega, below_to HW (below_drewN _ _), by go_num⟩
      case measure => simp [intOf]; omega
    · go_wp2
      go_ret
      exact ⟨rfl, HW⟩
theorem freeIn_any (s : ByteArray) (w : World) : Calls Try.prog 27 #[.string s] w fun e w' => e = .returned (.func (.func 30) #[] #[.pointer (some ⟨w.heap.size, 0, none⟩)]) ∧ w'.cell? ⟨w.heap.size, 0, none⟩ = some (.string s) ∧ Below w.heap.size w w' ∧ w.heap.size < w'.heap.size := by
  go_enter Try.func27, Try.ntmps27
  go_wp2
  go_ret
  exact ⟨rfl, by simp [go_sem], (Below.refl _ _).alloc (Nat.le_refl _) _, by simp⟩
theorem free_any (s : ByteArray) (i : Int) (x : Nat) (u : Bool) (w : World) (h : w.cell? ⟨x, 0, none⟩ = some (.string s)) (hu : usedL s.data.toList i = u) :
    Calls Try.prog 30 #[.int .i64 i, .pointer (some ⟨x, 0, none⟩)] w fun e w' => e = .returned (.bool (!u)) ∧ Below w.heap.size w w' := by
  have hU := fun w => used_any s i w
  rw [hu] at hU
  have HU := Lib.hid hU
  clear hU hu
  go_enter Try.func30, Try.ntmps30
  go_wp2_with (go_at_call 9; refine (HU.out _).mono ?_; rintro e w1 ⟨rfl, hb⟩)
  go_ret
  exact ⟨rfl, hb⟩
end Go.Proofs.Ytbgpkddobnldlaa
