/- The checksums are the reference's. -/
import Derived.Test.YtgbnmokajaehhaaC6
namespace Go.Proofs.Ytgbnmokajaehhaa
open Go.RowKit
theorem quiet_same {P : Program} {f : FuncId} {args : Array Value} {w : World} {n : Nat} {v : Value}
    (h : Calls P f args (w.drewN n) fun e w' => e = .returned v ∧ w.drewN n = w') : Calls P f args (w.drewN n) fun e w'' => e = .returned v ∧ ∃ m, w'' = w.drewN m :=
  h.mono fun _ _ ⟨he, hm⟩ => ⟨he, n, hm.symm⟩
theorem rbyte_lit (R C : Int) (r c : Nat) (hR : R = r) (hC : C = c) (v : Nat) (hv : stps 8 (r ^^^ c) = v) (w : World) (h : r < 4294967296) (hc : c < 256) :
    Calls Try.prog 41 #[.int .u32 R, .int .u8 C] w fun e w' => e = .returned (.int .u32 (v : Int)) ∧ w = w' := by
  subst hR hC hv; exact rbyte_any r c w h hc
theorem rmore_lit (x : Nat) (s : ByteArray) (n : Nat) (hn : moreN x s.data.toList = n) (hx : x < 4294967296) (hs : s.size ≤ maxLen) (w : World) :
    Calls Try.prog 45 #[.int .u32 (x : Int), .string s] w fun e w' => e = .returned (.int .u32 (n : Int)) ∧ w = w' := by
  subst hn; exact rmore_any x s w hx hs
theorem rjoin_lit (a b : Nat) (m : Int) (n : Nat) (hn : joinZ a b m = n) (ha : a < 4294967296) (hb : b < 4294967296) (w : World) :
    Calls Try.prog 47 #[.int .u32 (a : Int), .int .u32 (b : Int), .int .i64 m] w fun e w' => e = .returned (.int .u32 (n : Int)) ∧ w = w' := by
  subst hn; exact rjoin_any a b m w ha hb
/-- Block b holds the table. -/
def TabAt (w : World) (b : Nat) : Prop := ∀ q, q < 256 → w.cell? ⟨b, q, none⟩ = some (.int .u32 (stps 8 q : Nat))
theorem TabAt.drewN {w : World} {b : Nat} (h : TabAt w b) (n : Nat) : TabAt (w.drewN n) b := h
theorem below_drewN {n : Nat} {w w1 : World} (h : Below n w w1) (k : Nat) : Below n w (w1.drewN k) := ⟨h.os, h.tape, h.output, h.size, h.block⟩
set_option maxHeartbeats 1000000 in
set_option maxRecDepth 100000 in
theorem crcSums_far (x y : Nat) (s : ByteArray) (n : Int) (w : World) (h : 4096 < s.size ∨ 16384 < n ∧ n ≤ 1073741824) :
    Calls Try.prog 8 #[.int .u32 (x : Int), .int .u32 (y : Int), .string s, .int .i64 n] w fun e w' => e = .returned (.bool true) ∧ Below w.heap.size w w' := by
  by_cases h1 : 4096 < s.size
  · go_enter Try.func8, Try.ntmps8
    go_wp2_with (go_at_call 39; refine (lives4 _).mono ?_; rintro e w1 ⟨rfl, B1⟩)
    go_ret
    exact ⟨rfl, B1⟩
  · have h2 : 16384 < n := by omega
    have h3 : n ≤ 1073741824 := by omega
    go_enter Try.func8, Try.ntmps8
    go_wp2_with (go_at_call 39; refine (lives4 _).mono ?_; rintro e w1 ⟨rfl, B1⟩)
    go_ret
    exact ⟨rfl, B1⟩
set_option maxHeartbeats 1000000 in
set_option maxRecDepth 100000 in
theorem crcSums_near (x y : Nat) (s : ByteArray) (n : Int) (hx : x < 4294967296) (hy : y < 4294967296) (hs : s.size ≤ maxLen) (w : World) (h1 : s.size ≤ 4096) (h2 : n ≤ 16384) :
    Calls Try.prog 8 #[.int .u32 (x : Int), .int .u32 (y : Int), .string s, .int .i64 n] w fun e w' => e = .returned (.bool true) ∧ Below w.heap.size w w' := by
  obtain ⟨C, hC⟩ : ∃ C, Tab C 256 := ⟨_, rfl⟩
  go_enter Try.func8, Try.ntmps8
  go_wp2_with (first | (go_at_call 40; refine (halves_c C hC _).mono ?_; rintro e w1 ⟨rfl, hb⟩) | (refine wpList_store_new rfl (.tmp 9) (.tmp 23) rfl _ C z58_size hC rfl rfl ?_))
  go_loopw [24] (fun i wx => ∃ (k : Nat), k ≤ 256 ∧ TabAt wx w1.heap.size ∧ Below w.heap.size w wx ∧ w1.heap.size < wx.heap.size ∧ i = .int .i64 (k : Int)) (fun i _ => 256 - (intOf i).toNat)
  case atStart => exact ⟨0, by omega, fun q hq => tab_cell hC w1 q hq, hb.alloc hb.size _, by simp, rfl⟩
  case round =>
    obtain ⟨k, hk, HT, HW, hsz, rfl⟩ := hrel
    by_cases hlt : k < 256
    · obtain ⟨v, hv⟩ : ∃ v : Nat, stps 8 k = v := ⟨_, rfl⟩
      have hc : wr.cell? ⟨w1.heap.size, k, none⟩ = some (.int .u32 (v : Int)) := (HT k hlt).trans (by rw [hv])
      have HV := Lib.hid (show stps 8 (0 ^^^ k) = v by rw [Nat.zero_xor]; exact hv)
      clear hv
      go_wp2_with fail
      go_quiet ((go_at_call 41; exact quiet_same (rbyte_lit _ _ 0 k rfl (by omega) v HV.out _ (by omega) hlt)))
      go_wp2_with fail
      go_roundw
      case rel => exact ⟨k + 1, by omega, HT.drewN _, below_drewN HW _, by simpa using hsz, by go_num⟩
      case measure => simp [intOf]; omega
    · obtain ⟨a, ha⟩ : ∃ u, sumN s.data.toList = u := ⟨_, rfl⟩
      obtain ⟨b, hb'⟩ : ∃ u, moreN x s.data.toList = u := ⟨_, rfl⟩
      obtain ⟨c, hc⟩ : ∃ u, joinZ x y n = u := ⟨_, rfl⟩
      have HA := Lib.hid ha
      have HB := Lib.hid hb'
      have HC := Lib.hid hc
      clear ha hb' hc
      go_wp2_with fail
      refine (lives4 _).mono ?_
      rintro e w2 ⟨rfl, hb1⟩
      have B2 := below_to HW hb1
      clear hb1
      go_wp2_with fail
      refine (sum_lit _ a HA.out hs _).mono ?_
      rintro e w3 ⟨rfl, hb1⟩
      have B3 := below_to B2 hb1
      clear hb1
      go_wp2_with fail
      refine (rsum_lit _ a HA.out hs _).mono ?_
      rintro e w' ⟨rfl, rfl⟩
      go_wp2_with fail
      refine (more_lit _ x rfl _ b HB.out hx hs _).mono ?_
      rintro e w4 ⟨rfl, hb1⟩
      have B4 := below_to B3 hb1
      clear hb1
      go_wp2_with fail
      refine (rmore_lit x _ b HB.out hx hs _).mono ?_
      rintro e w' ⟨rfl, rfl⟩
      go_wp2_with fail
      refine (join_lit _ _ x y rfl rfl _ c HC.out hx hy _).mono ?_
      rintro e w' ⟨rfl, rfl⟩
      go_wp2_with fail
      refine (rjoin_lit x y _ c HC.out hx hy _).mono ?_
      rintro e w' ⟨rfl, rfl⟩
      go_wp2_with fail
      go_ret
      exact ⟨rfl, B4⟩
set_option maxHeartbeats 1000000 in
set_option maxRecDepth 100000 in
theorem crcSums_huge (x y : Nat) (s : ByteArray) (n : Int) (hx : x < 4294967296) (hy : y < 4294967296) (hs : s.size ≤ maxLen) (w : World) (h1 : s.size ≤ 4096) (h2 : 16384 < n) (h3 : 1073741824 < n) :
    Calls Try.prog 8 #[.int .u32 (x : Int), .int .u32 (y : Int), .string s, .int .i64 n] w fun e w' => e = .returned (.bool true) ∧ Below w.heap.size w w' := by
  obtain ⟨C, hC⟩ : ∃ C, Tab C 256 := ⟨_, rfl⟩
  go_enter Try.func8, Try.ntmps8
  go_wp2_with (first | (go_at_call 40; refine (halves_c C hC _).mono ?_; rintro e w1 ⟨rfl, hb⟩) | (refine wpList_store_new rfl (.tmp 9) (.tmp 23) rfl _ C z58_size hC rfl rfl ?_))
  go_loopw [24] (fun i wx => ∃ (k : Nat), k ≤ 256 ∧ TabAt wx w1.heap.size ∧ Below w.heap.size w wx ∧ w1.heap.size < wx.heap.size ∧ i = .int .i64 (k : Int)) (fun i _ => 256 - (intOf i).toNat)
  case atStart => exact ⟨0, by omega, fun q hq => tab_cell hC w1 q hq, hb.alloc hb.size _, by simp, rfl⟩
  case round =>
    obtain ⟨k, hk, HT, HW, hsz, rfl⟩ := hrel
    by_cases hlt : k < 256
    · obtain ⟨v, hv⟩ : ∃ v : Nat, stps 8 k = v := ⟨_, rfl⟩
      have hc : wr.cell? ⟨w1.heap.size, k, none⟩ = some (.int .u32 (v : Int)) := (HT k hlt).trans (by rw [hv])
      have HV := Lib.hid (show stps 8 (0 ^^^ k) = v by rw [Nat.zero_xor]; exact hv)
      clear hv
      go_wp2_with fail
      go_quiet ((go_at_call 41; exact quiet_same (rbyte_lit _ _ 0 k rfl (by omega) v HV.out _ (by omega) hlt)))
      go_wp2_with fail
      go_roundw
      case rel => exact ⟨k + 1, by omega, HT.drewN _, below_drewN HW _, by simpa using hsz, by go_num⟩
      case measure => simp [intOf]; omega
    · obtain ⟨a, ha⟩ : ∃ u, sumN s.data.toList = u := ⟨_, rfl⟩
      obtain ⟨b, hb'⟩ : ∃ u, moreN x s.data.toList = u := ⟨_, rfl⟩
      obtain ⟨c, hc⟩ : ∃ u, joinZ x y n = u := ⟨_, rfl⟩
      have HA := Lib.hid ha
      have HB := Lib.hid hb'
      have HC := Lib.hid hc
      clear ha hb' hc
      go_wp2_with fail
      refine (lives4 _).mono ?_
      rintro e w2 ⟨rfl, hb1⟩
      have B2 := below_to HW hb1
      clear hb1
      go_wp2_with fail
      refine (sum_lit _ a HA.out hs _).mono ?_
      rintro e w3 ⟨rfl, hb1⟩
      have B3 := below_to B2 hb1
      clear hb1
      go_wp2_with fail
      refine (rsum_lit _ a HA.out hs _).mono ?_
      rintro e w' ⟨rfl, rfl⟩
      go_wp2_with fail
      refine (more_lit _ x rfl _ b HB.out hx hs _).mono ?_
      rintro e w4 ⟨rfl, hb1⟩
      have B4 := below_to B3 hb1
      clear hb1
      go_wp2_with fail
      refine (rmore_lit x _ b HB.out hx hs _).mono ?_
      rintro e w' ⟨rfl, rfl⟩
      go_wp2_with fail
      refine (join_lit _ _ x y rfl rfl _ c HC.out hx hy _).mono ?_
      rintro e w' ⟨rfl, rfl⟩
      go_wp2_with fail
      refine (rjoin_lit x y _ c HC.out hx hy _).mono ?_
      rintro e w' ⟨rfl, rfl⟩
      go_wp2_with fail
      go_ret
      exact ⟨rfl, B4⟩

theorem crcSums_walk (x y : Nat) (s : ByteArray) (n : Int) (hx : x < 4294967296) (hy : y < 4294967296) (hs : s.size ≤ maxLen) (w : World) :
    Calls Try.prog 8 #[.int .u32 (x : Int), .int .u32 (y : Int), .string s, .int .i64 n] w fun e w' => e = .returned (.bool true) ∧ Below w.heap.size w w' := by
  by_cases h1 : s.size ≤ 4096
  · by_cases h2 : n ≤ 16384
    · exact crcSums_near x y s n hx hy hs w h1 h2
    · by_cases h3 : 1073741824 < n
      · exact crcSums_huge x y s n hx hy hs w h1 (by omega) h3
      · exact crcSums_far x y s n w (.inr ⟨by omega, by omega⟩)
  · exact crcSums_far x y s n w (.inl (by omega))
end Go.Proofs.Ytgbnmokajaehhaa
