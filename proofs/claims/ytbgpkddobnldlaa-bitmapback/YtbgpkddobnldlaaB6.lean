/- Contracts: the reference's All; Give, the reference's Give; Same of lists alike. -/
import Derived.Test.YtbgpkddobnldlaaB5
namespace Go.Proofs.Ytbgpkddobnldlaa
open Go.RowKit
theorem Ints.at {w : World} {a : Option Addr} {len : Nat} {zs : List Int} (h : Ints w a len zs) (hl : 0 < len) : ∃ b off, a = some ⟨b, off, none⟩ ∧ b < w.heap.size ∧ ∀ j, j < len → w.cell? ⟨b, off + j, none⟩ = some (.int .i64 (zs.getD j 0)) := h.2.resolve_left (by omega)
theorem getD_mem (zs : List Int) (k : Nat) (hk : k < zs.length) : zs.getD k 0 ∈ zs := by
  rw [List.getD_eq_getElem?_getD, List.getElem?_eq_getElem hk]; exact List.getElem_mem _
set_option maxRecDepth 100000 in
set_option maxHeartbeats 1000000 in
theorem all_any (s : ByteArray) (on : Bool) (a : Option Addr) (len cap : Nat) (zs : List Int) (w : World) (hs : s.size = 480) (hI : Ints w a len zs) (hl : len ≤ 1000000) (hz : ∀ z ∈ zs, 0 ≤ z ∧ z < 3840) :
    Calls Try.prog 18 #[.string s, .slice a len cap, .bool on] w fun e w' => e = .returned (.string (bs (setsL s.data.toList on (zs.map Int.toNat)))) ∧ Below w.heap.size w w' := by
  have HZL := Lib.hid hI.1
  have HS := Lib.hid hs
  have HI := Lib.hid hI
  have HZ := Lib.hid hz
  clear hI hs hz
  go_enter Try.func18, Try.ntmps18
  go_wp2
  go_loopw [0, 7] (fun t i wx => ∃ (k : Nat) (l : List UInt8), k ≤ len ∧ Hid (l = setsL s.data.toList on ((zs.take k).map Int.toNat)) ∧ Below w.heap.size w wx ∧ t = .string (bs l) ∧ i = .int .i64 (k : Int)) (fun _ i _ => len - (intOf i).toNat)
  case atStart => exact ⟨0, s.data.toList, by omega, Lib.hid rfl, Below.refl _ _, by rw [bs_of], rfl⟩
  case round =>
    obtain ⟨k, l, hk, HL, HW, rfl, rfl⟩ := hrel
    have hll : l.length = 480 := by rw [HL.out, setsL_length, ← blen]; exact HS.out
    by_cases hlt : k < len
    · obtain ⟨b, off, ha, hbw, hc⟩ := HI.out.at (by omega)
      subst ha
      have hzk := HZ.out (zs.getD k 0) (getD_mem zs k (by rw [HZL.out]; exact hlt))
      have hck : wr.cell? ⟨b, off + k, none⟩ = some (.int .i64 (zs.getD k 0)) := (HW.cell (p := ⟨b, off + k, none⟩) hbw).trans (hc k hlt)
      have HT := Lib.hid (getD_snoc zs k (by rw [HZL.out]; exact hlt))
      obtain ⟨i, hi⟩ : ∃ i : Nat, zs.getD k 0 = (i : Int) := ⟨_, (Int.toNat_of_nonneg hzk.1).symm⟩
      rw [hi] at hck hzk
      have HI2 := Lib.hid hi
      have hi3 : i < 3840 := by omega
      have HLL := Lib.hid hll
      clear hll hi hc hzk
      go_wp2_with fail
      refine (rset_yes (bs l) i on _ (by rw [bs_size, HLL.out]) hi3).mono ?_
      rintro e w1 ⟨rfl, hb⟩
      rw [bs_toList]
      unfold strErr
      have HW1 := below_to HW hb
      clear hb
      go_wp2_with fail
      go_roundw
      case rel => exact ⟨k + 1, setL l i on, by omega, Lib.hid (by rw [HT.out, setsL_snoc, ← HL.out, HI2.out, Int.toNat_natCast]), HW1, rfl, by go_num⟩
      case measure => simp [intOf]; omega
    · obtain rfl : k = len := by omega
      have ht : l = setsL s.data.toList on (zs.map Int.toNat) := by rw [HL.out, List.take_of_length_le (by rw [HZL.out]; exact Nat.le_refl _)]
      have HT := Lib.hid ht
      clear ht hll
      go_wp2
      go_ret
      exact ⟨by rw [← HT.out]; rfl, HW⟩
theorem take_snocI (zs : List Int) (k : Nat) (hk : k < zs.length) : zs.take (k + 1) = zs.take k ++ [zs.getD k 0] := by
  rw [List.take_add_one, List.getElem?_eq_getElem hk, List.getD_eq_getElem?_getD, List.getElem?_eq_getElem hk]
  rfl
theorem drop_consI (zs : List Int) (k : Nat) (hk : k < zs.length) : zs = zs.take k ++ zs.getD k 0 :: zs.drop (k + 1) := by
  conv => lhs; rw [← List.take_append_drop k zs, List.drop_eq_getElem_cons hk]
  rw [List.getD_eq_getElem?_getD, List.getElem?_eq_getElem hk]
  rfl
theorem give_no (s : ByteArray) (a : Option Addr) (len cap : Nat) (w : World) (hs : s.size ≠ 480) : Calls Try.prog 16 #[.string s, .slice a len cap] w fun e w' => e = strErr ⟨#[]⟩ 18 ∧ w = w' := by
  have H := Lib.hid hs
  clear hs
  go_enter Try.func16, Try.ntmps16
  go_wp2_with (go_at_call 22; refine (isBitmap_no _ _ H.out).mono ?_; rintro e w' ⟨rfl, rfl⟩)
  go_ret2
  exact ⟨rfl, rfl⟩
set_option maxRecDepth 100000 in
set_option maxHeartbeats 1000000 in
theorem give_yes (s : ByteArray) (a : Option Addr) (len cap : Nat) (zs : List Int) (w : World) (hs : s.size = 480) (hI : Ints w a len zs) (hl : len ≤ 1000000) :
    Calls Try.prog 16 #[.string s, .slice a len cap] w fun e w' => e = strErr (bs (giveS s.data.toList zs)) (giveE s.data.toList zs) ∧ Below w.heap.size w w' := by
  have HZL := Lib.hid hI.1
  have HS := Lib.hid hs
  have HI := Lib.hid hI
  clear hI hs
  go_enter Try.func16, Try.ntmps16
  go_wp2_with (go_at_call 22; refine (isBitmap_yes _ _ HS.out).mono ?_; rintro e w' ⟨rfl, rfl⟩)
  go_loopw [0, 13] (fun t i wx => ∃ (k : Nat) (l : List UInt8), k ≤ len ∧ Hid (giveF s.data.toList (zs.take k) = some l) ∧ Below w.heap.size w wx ∧ t = .string (bs l) ∧ i = .int .i64 (k : Int)) (fun _ i _ => len - (intOf i).toNat)
  case atStart => exact ⟨0, s.data.toList, by omega, Lib.hid rfl, Below.refl _ _, by rw [bs_of], rfl⟩
  case round =>
    obtain ⟨k, l, hk, HL, HW, rfl, rfl⟩ := hrel
    have hll : l.length = 480 := by rw [giveF_len _ _ _ HL.out, ← blen]; exact HS.out
    have HLL := Lib.hid hll
    clear hll
    by_cases hlt : k < len
    · obtain ⟨b, off, ha, hbw, hc⟩ := HI.out.at (by omega)
      subst ha
      obtain ⟨z, hzk⟩ : ∃ z, zs.getD k 0 = z := ⟨_, rfl⟩
      have hck : wr.cell? ⟨b, off + k, none⟩ = some (.int .i64 z) := by rw [← hzk]; exact (HW.cell (p := ⟨b, off + k, none⟩) hbw).trans (hc k hlt)
      have hk2 : k < zs.length := by rw [HZL.out]; exact hlt
      have HT := Lib.hid (take_snocI zs k hk2)
      have HD := Lib.hid (drop_consI zs k hk2)
      have HZK := Lib.hid hzk
      have hU := fun w => used_any (bs l) z w
      rw [bs_toList] at hU
      clear hc hzk hk2
      cases hu : usedL l z with
      | true =>
        rw [hu] at hU
        have HU := Lib.hid hU
        have HUU := Lib.hid hu
        have hin := used_in l z hu
        obtain ⟨i, rfl⟩ := Int.eq_ofNat_of_zero_le hin.2.1
        have hi3 : i < 3840 := by omega
        clear hU hu hin
        go_wp2_with fail
        refine (HU.out _).mono ?_
        rintro e w1 ⟨rfl, hb⟩
        have HW1 := below_to HW hb
        clear hb
        go_wp2_with fail
        refine (set_any (bs l) false _ 1 1 [(i : Int)] _ (by rw [bs_size, HLL.out]) (Ints.one w1 i) (by omega) (fun z hz => by simp at hz; omega)).mono ?_
        rintro e w2 ⟨rfl, hb⟩
        rw [bs_toList]
        have HW2 := below_to (HW1.alloc HW1.size _) hb
        clear hb
        go_wp2_with fail
        go_roundw
        case rel => exact ⟨k + 1, setL l i false, by omega, Lib.hid (by rw [HT.out, giveF_append, HL.out, HZK.out]; show (if usedL l (i : Int) then _ else _) = _; rw [HUU.out]; rfl), HW2, rfl, by go_num⟩
        case measure => simp [intOf]; omega
      | false =>
        rw [hu] at hU
        have HU := Lib.hid hU
        have hF : giveF s.data.toList zs = none := by
          rw [HD.out, giveF_append, HL.out, HZK.out]; show (if usedL l z then _ else _) = _; rw [hu]; rfl
        have h1 : giveS s.data.toList zs = [] := by unfold giveS; rw [hF, if_pos (by rw [← blen]; exact HS.out)]; rfl
        have h2 : giveE s.data.toList zs = 18 := by unfold giveE; rw [hF, if_pos (by rw [← blen]; exact HS.out)]
        have H1 := Lib.hid h1
        have H2 := Lib.hid h2
        clear hU hu hF h1 h2
        go_wp2_with fail
        refine (HU.out _).mono ?_
        rintro e w1 ⟨rfl, hb⟩
        have HW1 := below_to HW hb
        clear hb
        go_wp2_with fail
        go_ret2
        exact ⟨by rw [H1.out, H2.out]; rfl, HW1⟩
    · obtain rfl : k = len := by omega
      have hF : giveF s.data.toList zs = some l := by rw [← HL.out, List.take_of_length_le (by rw [HZL.out]; exact Nat.le_refl _)]
      have h1 : giveS s.data.toList zs = l := by unfold giveS; rw [hF, if_pos (by rw [← blen]; exact HS.out)]; rfl
      have h2 : giveE s.data.toList zs = 0 := by unfold giveE; rw [hF, if_pos (by rw [← blen]; exact HS.out)]
      have H1 := Lib.hid h1
      have H2 := Lib.hid h2
      clear hF h1 h2
      go_wp2
      go_ret2
      exact ⟨by rw [H1.out, H2.out]; rfl, HW⟩
end Go.Proofs.Ytbgpkddobnldlaa
