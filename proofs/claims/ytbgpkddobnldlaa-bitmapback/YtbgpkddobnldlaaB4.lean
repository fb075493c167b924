/- Contracts: the reference's Many; set, Set; the reference's Set. -/
import Derived.Test.YtbgpkddobnldlaaB3
import Derived.Deep.RegionWith
namespace Go.Proofs.Ytbgpkddobnldlaa
open Go.RowKit
set_option maxRecDepth 100000 in
set_option maxHeartbeats 400000 in
theorem rmany_any (s : ByteArray) (a b : Int) (w : World) : Calls Try.prog 12 #[.string s, .int .i64 a, .int .i64 b] w fun e w' => e = .returned (.int .i64 (manyL s.data.toList a b : Nat)) ∧ w = w' := by
  go_enter Try.func12, Try.ntmps12
  go_wp2
  go_loop [7, 8] (fun n i => ∃ (k m : Nat), k ≤ 3840 ∧ m ≤ k ∧ Hid (m = manyTo s.data.toList a b k) ∧ n = .int .i64 (m : Int) ∧ i = .int .i64 (k : Int)) (fun _ i => 3840 - (intOf i).toNat)
  case atStart => exact ⟨0, 0, by omega, by omega, Lib.hid rfl, rfl, rfl⟩
  case round =>
    obtain ⟨k, m, hk2, hm, HM, rfl, rfl⟩ := hrel
    by_cases hlt : k < 3840
    · have hs := manyTo_succ s.data.toList a b k
      rw [← HM.out] at hs
      by_cases h1 : a ≤ (k : Int)
      · by_cases h2 : (k : Int) < b
        · simp only [h1, h2, decide_true, Bool.true_and] at hs
          cases hu : usedL s.data.toList (k : Int) with
          | true =>
            rw [hu] at hs
            have hC := fun w => rused_any s (k : Int) w
            rw [hu] at hC
            have HS := Lib.hid hs
            have HC := Lib.hid hC
            clear hs hu hC
            go_wp2_with (go_at_call 10; refine (HC.out _).mono ?_; rintro e w1 ⟨rfl, rfl⟩)
            go_round
            case rel => exact ⟨k + 1, m + 1, by omega, by omega, Lib.hid (by rw [HS.out]; rfl), by go_num, by go_num⟩
            case measure => simp [intOf]; omega
          | false =>
            rw [hu] at hs
            have hC := fun w => rused_any s (k : Int) w
            rw [hu] at hC
            have HS := Lib.hid hs
            have HC := Lib.hid hC
            clear hs hu hC
            go_wp2_with (go_at_call 10; refine (HC.out _).mono ?_; rintro e w1 ⟨rfl, rfl⟩)
            go_round
            case rel => exact ⟨k + 1, m, by omega, by omega, Lib.hid (by rw [HS.out]; rfl), by go_num, by go_num⟩
            case measure => simp [intOf]; omega
        · simp only [h2, decide_false, Bool.false_and, Bool.and_false] at hs
          have HS := Lib.hid hs
          clear hs
          go_wp2_with (fail)
          go_round
          case rel => exact ⟨k + 1, m, by omega, by omega, Lib.hid (by rw [HS.out]; rfl), by go_num, by go_num⟩
          case measure => simp [intOf]; omega
      · simp only [h1, decide_false, Bool.false_and] at hs
        have HS := Lib.hid hs
        clear hs
        go_wp2_with (fail)
        go_round
        case rel => exact ⟨k + 1, m, by omega, by omega, Lib.hid (by rw [HS.out]; rfl), by go_num, by go_num⟩
        case measure => simp [intOf]; omega
    · obtain rfl : k = 3840 := by omega
      go_wp2
      go_ret
      exact ⟨ret_int (by rw [HM.out]; rfl), rfl⟩
/-- Block b holds the bytes l, and they may be written. -/
def BRow (w : World) (b : Nat) (l : List UInt8) : Prop := ∀ j (hj : j < l.length), w.cell? ⟨b, j, none⟩ = some (.int .u8 (l[j].toNat : Int)) ∧ w.frozen? ⟨b, j, none⟩ = false
theorem BRow.new (w : World) (s : ByteArray) (cap : Nat) (e : TypeId) : BRow (w.drew.alloc (.cells (bytesRow s cap) e ((bytesRow s cap).size, (bytesRow s cap).size + 1))) w.heap.size s.data.toList := by
  intro j hj
  have hj' : j < s.data.size := by simpa using hj
  have hsz : j < (bytesRow s cap).size := by
    have : (bytesRow s cap).size = s.data.size + (cap - s.size) := by simp [bytesRow]
    omega
  have hg : (w.drew.alloc (.cells (bytesRow s cap) e ((bytesRow s cap).size, (bytesRow s cap).size + 1))).heap[w.heap.size]? = some (.cells (bytesRow s cap) e ((bytesRow s cap).size, (bytesRow s cap).size + 1)) := by
    show (w.heap.push _)[w.heap.size]? = _
    simp
  constructor
  · rw [cell_of_row _ _ j _ _ _ hg]
    unfold bytesRow
    rw [Array.getElem?_append_left (by simpa using hj')]
    rw [Array.getElem?_map, Array.getElem?_eq_getElem hj']
    rfl
  · unfold World.frozen?
    simp only [hg]
    simp
    omega
theorem BRow.set {w : World} {b : Nat} {l : List UInt8} (h : BRow w b l) (i : Nat) (c : UInt8) : BRow (w.setCell ⟨b, i, none⟩ (.int .u8 (c.toNat : Int))) b (l.set i c) := by
  intro j hj
  have hj' : j < l.length := by simpa using hj
  obtain ⟨h1, h2⟩ := h j hj'
  constructor
  · by_cases hij : i = j
    · subst hij
      rw [List.getElem_set_self]
      exact World.cell?_setCell_same _ _ _ h1
    · rw [List.getElem_set_ne hij, World.cell?_setCell_other _ _ _ _ (fun e => hij (by injection e))]
      exact h1
  · rw [World.frozen?_setCell]; exact h2
theorem BRow.drew {w : World} {b : Nat} {l : List UInt8} (h : BRow w b l) : BRow w.drew b l := h
/-- A slice of numbers. -/
def Ints (w : World) (a : Option Addr) (len : Nat) (zs : List Int) : Prop :=
  zs.length = len ∧ (len = 0 ∨ ∃ b off, a = some ⟨b, off, none⟩ ∧ b < w.heap.size ∧ ∀ j, j < len → w.cell? ⟨b, off + j, none⟩ = some (.int .i64 (zs.getD j 0)))
theorem Ints.below {w w1 : World} {a : Option Addr} {len : Nat} {zs : List Int} (h : Ints w a len zs) (B : Below w.heap.size w w1) : Ints w1 a len zs := by
  refine ⟨h.1, ?_⟩
  rcases h.2 with h0 | ⟨b, off, ha, hb, hc⟩
  · exact .inl h0
  · exact .inr ⟨b, off, ha, Nat.lt_of_lt_of_le hb B.size, fun j hj => (B.cell (p := ⟨b, off + j, none⟩) hb).trans (hc j hj)⟩
theorem toStr' (w : World) (b n cap : Nat) (l : List UInt8) (h : BRow w b l) (hn : l.length = n) : (convert 43 9 (.slice (some ⟨b, 0, none⟩) n cap)).run Try.prog w = .ok (.string (bs l)) w := by
  subst hn
  exact run_convert_bytes_back (P := Try.prog) w 43 9 5 ⟨b, 0, none⟩ cap l Try.underlying43 Try.underlying5 Try.underlying9 (fun j hj => by
    have hadd : (⟨b, 0, none⟩ : Addr).add j = ⟨b, j, none⟩ := by unfold Addr.add; split <;> simp_all
    rw [hadd]; exact (h j hj).1)
theorem setsL_snoc (l : List UInt8) (on : Bool) (is : List Nat) (i : Nat) : setsL l on (is ++ [i]) = setL (setsL l on is) i on := by simp [setsL]
theorem getD_snoc (zs : List Int) (k : Nat) (hk : k < zs.length) : (zs.take (k + 1)).map Int.toNat = (zs.take k).map Int.toNat ++ [(zs.getD k 0).toNat] := by
  rw [List.take_add_one, List.getElem?_eq_getElem hk, List.map_append, List.getD_eq_getElem?_getD, List.getElem?_eq_getElem hk]
  rfl
theorem set_step (l : List UInt8) (q i : Nat) (c : UInt8) (on : Bool) (hq : i / 8 = q) (h : q < l.length) (hc : l[q] = c) : l.set q (setC c (i % 8) on) = setL l i on := by
  subst hq hc
  unfold setL
  rw [List.getD_eq_getElem?_getD, List.getElem?_eq_getElem h]
  rfl
theorem or_bit' (c : UInt8) (k : Nat) (hk : k < 8) : (bits .or .u8 (c.toNat : Int) ((2 : Int) ^ k)) = ((setC c k true).toNat : Int) := by
  rw [show ((2 : Int) ^ k) = ((2 ^ k : Nat) : Int) by simp]; exact or_bit c k hk
theorem andNot_bit' (c : UInt8) (k : Nat) (hk : k < 8) : (bits .andNot .u8 (c.toNat : Int) ((2 : Int) ^ k)) = ((setC c k false).toNat : Int) := by
  rw [show ((2 : Int) ^ k) = ((2 ^ k : Nat) : Int) by simp]; exact andNot_bit c k hk
set_option maxRecDepth 100000 in
set_option maxHeartbeats 1000000 in
theorem set_true (s : ByteArray) (a : Option Addr) (len cap : Nat) (zs : List Int) (w : World) (hs : s.size = 480) (hI : Ints w a len zs) (hl : len ≤ 1000000) (hz : ∀ z ∈ zs, 0 ≤ z ∧ z < 3840) :
    Calls Try.prog 24 #[.string s, .bool true, .slice a len cap] w fun e w' => e = .returned (.string (bs (setsL s.data.toList true (zs.map Int.toNat)))) ∧ Below w.heap.size w w' := by
  have kc := run_bytes_of_string (P := Try.prog) w 9 43 5 s Try.underlying9 Try.underlying43 Try.underlying5
  obtain ⟨hzl, hI2⟩ := hI
  have HZL := Lib.hid hzl
  have HS := Lib.hid hs
  have HI := Lib.hid hI2
  have HZ := Lib.hid hz
  clear hzl hs hI2 hz
  go_enter Try.func24, Try.ntmps24
  go_wp2
  go_loopw [14] (fun i wx => ∃ (k : Nat) (l : List UInt8), k ≤ len ∧ Hid (l = setsL s.data.toList true ((zs.take k).map Int.toNat)) ∧ BRow wx w.heap.size l ∧ Below w.heap.size w wx ∧ w.heap.size < wx.heap.size ∧ i = .int .i64 (k : Int)) (fun i _ => len - (intOf i).toNat)
  case atStart => exact ⟨0, _, by omega, Lib.hid rfl, BRow.new w s _ 5, ((Below.refl _ _).drew.alloc (Nat.le_refl _) _), by simp, rfl⟩
  case round =>
    obtain ⟨k, l, hk, HL, HB, HW, hsz, rfl⟩ := hrel
    have hll : l.length = 480 := by rw [HL.out, setsL_length, ← blen]; exact HS.out
    by_cases hlt : k < len
    · obtain ⟨b, off, ha, hbw, hc⟩ := HI.out.resolve_left (by omega)
      subst ha
      have hzk := HZ.out (zs.getD k 0) (by rw [List.getD_eq_getElem?_getD, List.getElem?_eq_getElem (by rw [HZL.out]; exact hlt)]; exact List.getElem_mem _)
      have hck : wr.cell? ⟨b, off + k, none⟩ = some (.int .i64 (zs.getD k 0)) := (HW.cell (p := ⟨b, off + k, none⟩) hbw).trans (hc k hlt)
      have HT := Lib.hid (getD_snoc zs k (by rw [HZL.out]; exact hlt))
      obtain ⟨i, hi⟩ : ∃ i : Nat, zs.getD k 0 = (i : Int) := ⟨_, (Int.toNat_of_nonneg hzk.1).symm⟩
      rw [hi] at hck hzk
      have HI2 := Lib.hid hi
      have hi3 : i < 3840 := by omega
      obtain ⟨q, hq⟩ : ∃ q, i / 8 = q := ⟨_, rfl⟩
      have hin : q < l.length := by omega
      have hin2 : q < s.size := by rw [HS.out]; omega
      obtain ⟨c, hcc⟩ : ∃ c : UInt8, l[q] = c := ⟨_, rfl⟩
      obtain ⟨hcell, hfz⟩ := HB q hin
      rw [hcc] at hcell
      have HC := Lib.hid hcc
      have HLL := Lib.hid hll
      have HQ := Lib.hid hq
      have HV := Lib.hid (or_bit' c (i % 8) (by omega))
      have hw : IntKind.i64.wrap ((i : Int) / 8) = (q : Int) := by rw [IntWalk.i64_in _ (by omega)]; omega
      clear hcc hll hq hi hc hzk
      have HW2 := Lib.hid hw
      clear hw
      go_wp2_with fail
      have hw := HW2.out
      go_region_with (go_at_call 25; refine (mask_any _ _ hi3).mono ?_; rintro e w1 ⟨rfl, rfl⟩)
      all_goals
        go_wp2
        go_roundw
        case rel =>
          refine ⟨k + 1, l.set q (setC c (i % 8) true), by omega, Lib.hid ?_, ?_, ?_, ?_, by go_num⟩
          · rw [HT.out, setsL_snoc, ← HL.out, HI2.out, Int.toNat_natCast]
            exact set_step l q i c true HQ.out hin HC.out
          · have := (HB.set q (setC c (i % 8) true)).drew
            rw [← HV.out] at this
            exact this
          · exact (HW.setCell (p := ⟨w.heap.size, q, none⟩) (Nat.le_refl _) _).drew
          · simpa using hsz
        case measure => simp [intOf]; omega
    · obtain rfl : k = len := by omega
      have kb := toStr' wr w.heap.size s.size (grownCap w s.size 0 5) l HB (by rw [hll, HS.out])
      have ht : l = setsL s.data.toList true (zs.map Int.toNat) := by rw [HL.out, List.take_of_length_le (by rw [HZL.out]; exact Nat.le_refl _)]
      have HT := Lib.hid ht
      clear ht hll
      go_wp2
      go_ret
      exact ⟨by rw [← HT.out]; rfl, HW⟩
set_option maxRecDepth 100000 in
set_option maxHeartbeats 1000000 in
theorem set_false (s : ByteArray) (a : Option Addr) (len cap : Nat) (zs : List Int) (w : World) (hs : s.size = 480) (hI : Ints w a len zs) (hl : len ≤ 1000000) (hz : ∀ z ∈ zs, 0 ≤ z ∧ z < 3840) :
    Calls Try.prog 24 #[.string s, .bool false, .slice a len cap] w fun e w' => e = .returned (.string (bs (setsL s.data.toList false (zs.map Int.toNat)))) ∧ Below w.heap.size w w' := by
  have kc := run_bytes_of_string (P := Try.prog) w 9 43 5 s Try.underlying9 Try.underlying43 Try.underlying5
  obtain ⟨hzl, hI2⟩ := hI
  have HZL := Lib.hid hzl
  have HS := Lib.hid hs
  have HI := Lib.hid hI2
  have HZ := Lib.hid hz
  clear hzl hs hI2 hz
  go_enter Try.func24, Try.ntmps24
  go_wp2
  go_loopw [14] (fun i wx => ∃ (k : Nat) (l : List UInt8), k ≤ len ∧ Hid (l = setsL s.data.toList false ((zs.take k).map Int.toNat)) ∧ BRow wx w.heap.size l ∧ Below w.heap.size w wx ∧ w.heap.size < wx.heap.size ∧ i = .int .i64 (k : Int)) (fun i _ => len - (intOf i).toNat)
  case atStart => exact ⟨0, _, by omega, Lib.hid rfl, BRow.new w s _ 5, ((Below.refl _ _).drew.alloc (Nat.le_refl _) _), by simp, rfl⟩
  case round =>
    obtain ⟨k, l, hk, HL, HB, HW, hsz, rfl⟩ := hrel
    have hll : l.length = 480 := by rw [HL.out, setsL_length, ← blen]; exact HS.out
    by_cases hlt : k < len
    · obtain ⟨b, off, ha, hbw, hc⟩ := HI.out.resolve_left (by omega)
      subst ha
      have hzk := HZ.out (zs.getD k 0) (by rw [List.getD_eq_getElem?_getD, List.getElem?_eq_getElem (by rw [HZL.out]; exact hlt)]; exact List.getElem_mem _)
      have hck : wr.cell? ⟨b, off + k, none⟩ = some (.int .i64 (zs.getD k 0)) := (HW.cell (p := ⟨b, off + k, none⟩) hbw).trans (hc k hlt)
      have HT := Lib.hid (getD_snoc zs k (by rw [HZL.out]; exact hlt))
      obtain ⟨i, hi⟩ : ∃ i : Nat, zs.getD k 0 = (i : Int) := ⟨_, (Int.toNat_of_nonneg hzk.1).symm⟩
      rw [hi] at hck hzk
      have HI2 := Lib.hid hi
      have hi3 : i < 3840 := by omega
      obtain ⟨q, hq⟩ : ∃ q, i / 8 = q := ⟨_, rfl⟩
      have hin : q < l.length := by omega
      have hin2 : q < s.size := by rw [HS.out]; omega
      obtain ⟨c, hcc⟩ : ∃ c : UInt8, l[q] = c := ⟨_, rfl⟩
      obtain ⟨hcell, hfz⟩ := HB q hin
      rw [hcc] at hcell
      have HC := Lib.hid hcc
      have HLL := Lib.hid hll
      have HQ := Lib.hid hq
      have HV := Lib.hid (andNot_bit' c (i % 8) (by omega))
      have hw : IntKind.i64.wrap ((i : Int) / 8) = (q : Int) := by rw [IntWalk.i64_in _ (by omega)]; omega
      clear hcc hll hq hi hc hzk
      have HW2 := Lib.hid hw
      clear hw
      go_wp2_with fail
      have hw := HW2.out
      go_region_with (go_at_call 25; refine (mask_any _ _ hi3).mono ?_; rintro e w1 ⟨rfl, rfl⟩)
      all_goals
        go_wp2
        go_roundw
        case rel =>
          refine ⟨k + 1, l.set q (setC c (i % 8) false), by omega, Lib.hid ?_, ?_, ?_, ?_, by go_num⟩
          · rw [HT.out, setsL_snoc, ← HL.out, HI2.out, Int.toNat_natCast]
            exact set_step l q i c false HQ.out hin HC.out
          · have := (HB.set q (setC c (i % 8) false)).drew
            rw [← HV.out] at this
            exact this
          · exact (HW.setCell (p := ⟨w.heap.size, q, none⟩) (Nat.le_refl _) _).drew
          · simpa using hsz
        case measure => simp [intOf]; omega
    · obtain rfl : k = len := by omega
      have kb := toStr' wr w.heap.size s.size (grownCap w s.size 0 5) l HB (by rw [hll, HS.out])
      have ht : l = setsL s.data.toList false (zs.map Int.toNat) := by rw [HL.out, List.take_of_length_le (by rw [HZL.out]; exact Nat.le_refl _)]
      have HT := Lib.hid ht
      clear ht hll
      go_wp2
      go_ret
      exact ⟨by rw [← HT.out]; rfl, HW⟩
theorem set_any (s : ByteArray) (on : Bool) (a : Option Addr) (len cap : Nat) (zs : List Int) (w : World) (hs : s.size = 480) (hI : Ints w a len zs) (hl : len ≤ 1000000) (hz : ∀ z ∈ zs, 0 ≤ z ∧ z < 3840) :
    Calls Try.prog 24 #[.string s, .bool on, .slice a len cap] w fun e w' => e = .returned (.string (bs (setsL s.data.toList on (zs.map Int.toNat)))) ∧ Below w.heap.size w w' := by
  cases on with
  | true => exact set_true s a len cap zs w hs hI hl hz
  | false => exact set_false s a len cap zs w hs hI hl hz
end Go.Proofs.Ytbgpkddobnldlaa
