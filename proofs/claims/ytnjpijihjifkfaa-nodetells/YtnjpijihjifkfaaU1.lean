/- Contracts: the reference's weight, weights, Size, Rises. -/
import Derived.Test.YtnjpijihjifkfaaT4
import Derived.Deep.RegionLaw
import Derived.Deep.QuietTactic
import Derived.BigQuiet
namespace Go.Proofs.Ytnjpijihjifkfaa
open Go.RowKit
set_option linter.unusedVariables false
theorem kn_true {kn : Nat} (h : (kn == 0) = true) : kn = 0 := by simpa using h
theorem kn_false {kn : Nat} (h : (kn == 0) = false) : 0 < kn := by
  have : kn ≠ 0 := by simpa using h
  omega
set_option maxRecDepth 100000 in
theorem weight_any (k v : ByteArray) (a : Option Addr) (n c : Nat) (ka : Option Addr) (kn kc : Nat) (b : Bool) (h : (kn == 0) = b) (u : Nat) (hu : wt b (k, v) = u) (hk : k.size ≤ 140737488355328) (hv : v.size ≤ 140737488355328) (w : World) :
    Calls Try.prog 67 #[.agg #[.slice a n c, .slice ka kn kc], .agg #[.string k, .string v]] w fun e w' => e = .returned (.int .i64 (u : Int)) ∧ Below w.heap.size w w' := by
  have HU := Lib.hid hu
  have N0 := (Nd.new w a n c ka kn kc 25).below (new_below _ (.cells #[.string k, .string v] 44))
  have B := below_to (new_below w (.cells #[.slice a n c, .slice ka kn kc] 25)) (new_below _ (.cells #[.string k, .string v] 44))
  have e0 : ((w.alloc (.cells #[.slice a n c, .slice ka kn kc] 25)).alloc (.cells #[.string k, .string v] 44)).cell? ⟨w.heap.size + 1, 0, none⟩ = some (.string k) := by simp [go_sem]
  have e1 : ((w.alloc (.cells #[.slice a n c, .slice ka kn kc] 25)).alloc (.cells #[.string k, .string v] 44)).cell? ⟨w.heap.size + 1, 1, none⟩ = some (.string v) := by simp [go_sem]
  clear hu e0 e1 N0
  cases b with
  | true =>
    obtain rfl := kn_true h
    go_enter Try.func67, Try.ntmps67
    go_wp2_with fail
    go_ret
    exact ⟨ret_int (by rw [← HU.out]; unfold wt; simp), B⟩
  | false =>
    have hd := kn_false h
    go_enter Try.func67, Try.ntmps67
    go_wp2_with fail
    go_ret
    exact ⟨ret_int (by rw [← HU.out]; unfold wt; simp), B⟩
section
variable {w : World} {a : Option Addr} {n c : Nat} {ka : Option Addr} {kn kc : Nat} {I : List It} {b : Bool}
set_option maxRecDepth 100000 in
set_option maxHeartbeats 1000000 in
theorem weights_any (m : Nat) (hI : Its w a n I) (hn : n ≤ 4096) (hS : Short I) (h : (kn == 0) = b) (hm : m ≤ n) (u : Nat) (hu : bytesN b (I.take m) = u) :
    Calls Try.prog 42 #[.agg #[.slice a n c, .slice ka kn kc], .int .i64 (m : Int)] w fun e w' => e = .returned (.int .i64 (u : Int)) ∧ Below w.heap.size w w' := by
  have HI := Lib.hid hI
  have HS := Lib.hid hS
  have HU := Lib.hid hu
  have HL := Lib.hid hI.1
  have HB := Lib.hid (fun (k v : ByteArray) (x : Nat) hx hk hv w => weight_any k v a n c ka kn kc b h x hx hk hv w)
  clear hI hS hu h
  have N0 := Nd.new w a n c ka kn kc 25
  have B0 := new_below w (.cells #[.slice a n c, .slice ka kn kc] 25)
  have HN := Lib.hid N0
  have HB0 := Lib.hid B0
  clear N0 B0
  go_enter Try.func42, Try.ntmps42
  go_wp2_with fail
  go_loopw [5, 6] (fun s i wx => ∃ (k v : Nat), k ≤ m ∧ Hid (bytesN b (I.take k) = v) ∧ v ≤ 1152921504606887936 ∧ Nd wx w.heap.size a n c ka kn kc ∧ Below w.heap.size w wx ∧ s = .int .i64 (v : Int) ∧ i = .int .i64 (k : Int)) (fun _ i _ => m - (intOf i).toNat)
  case atStart => exact ⟨0, 0, by omega, Lib.hid (by simp [bytesN]), by omega, HN.out, HB0.out, rfl, rfl⟩
  case round =>
    obtain ⟨k, v, hk, HV, hv, hN, hB, rfl, rfl⟩ := hrel
    by_cases hlt : k < m
    · have hkn : k < n := by omega
      obtain ⟨g, off, rfl, hg, e0, e1⟩ := (HI.out.below hB).at hkn
      have hkl : k < I.length := by rw [HL.out]; exact hkn
      have hs := short_at HS.out k hkl
      have hst := bytesN_take_succ b I k hkl
      rw [HV.out, kv_at I k hkl] at hst
      have hbd := bytes_small (b := b) HS.out (by rw [HL.out]; exact hn) (k + 1)
      obtain ⟨p, hp⟩ : ∃ p, kq I k = p := ⟨_, rfl⟩
      obtain ⟨q, hq⟩ : ∃ q, vq I k = q := ⟨_, rfl⟩
      rw [hp] at e0 hs hst
      rw [hq] at e1 hs hst
      obtain ⟨x, hx⟩ : ∃ x, wt b (p, q) = x := ⟨_, rfl⟩
      rw [hx] at hst
      rw [hst] at hbd
      have HST := Lib.hid hst
      have HX := Lib.hid hx
      have hs1 := hs.1
      have hs2 := hs.2
      have c0 := hN.c0
      have c1 := hN.c1
      have hlt0 := hN.lt
      clear hs hst hp hq hx
      go_wp2_with fail
      go_region_law (go_simp; go_at_call 67; refine (HB.out p q x HX.out hs1 hs2 _).mono ?_; rintro e w2 ⟨rfl, hb⟩)
      all_goals
        have hb2 : Below wr.heap.size wr w2 := below_to (Below.refl wr.heap.size wr).drew hb
        have hN2 := hN.below hb2
        have hB2 := below_to hB hb2
        clear hb hb2 e0 e1 c0 c1 hN hB
        go_wp2_with fail
        go_roundw
        case rel => exact ⟨k + 1, v + x, by omega, HST, by omega, hN2, hB2, by go_num, by go_num⟩
        case measure => simp [intOf]; omega
    · obtain rfl : k = m := by omega
      have HE := Lib.hid (show v = u by rw [← HU.out, ← HV.out])
      go_wp2_with fail
      go_ret
      exact ⟨ret_int (by rw [HE.out]), hB⟩
set_option maxRecDepth 100000 in
theorem rsize_any (hI : Its w a n I) (hn : n ≤ 4096) (hS : Short I) (h : (kn == 0) = b) (u : Nat) (hu : sizeN b I = u) :
    Calls Try.prog 17 #[.agg #[.slice a n c, .slice ka kn kc]] w fun e w' => e = .returned (.int .i64 (u : Int)) ∧ Below w.heap.size w w' := by
  have hbd := bytes_small (b := b) hS (by rw [hI.1]; exact hn) I.length
  rw [List.take_length] at hbd
  obtain ⟨x, hx⟩ : ∃ x, bytesN b I = x := ⟨_, rfl⟩
  rw [hx] at hbd
  have HB := Lib.hid (fun (w1 : World) (B : Below w.heap.size w w1) => weights_any (c := c) (ka := ka) (kn := kn) (kc := kc) n (hI.below B) hn hS h (Nat.le_refl _) x (by rw [List.take_of_length_le (by rw [hI.1]; exact Nat.le_refl _)]; exact hx))
  have HU := Lib.hid (show (if b then 2 else 4) + x = u by rw [← hu, ← hx]; rfl)
  have N0 := Nd.new w a n c ka kn kc 25
  have B0 := new_below w (.cells #[.slice a n c, .slice ka kn kc] 25)
  clear hu hx hI hS N0
  cases b with
  | true =>
    obtain rfl := kn_true h
    go_enter Try.func17, Try.ntmps17
    go_wp2_with fail
    refine (HB.out _ B0).mono ?_
    rintro e w2 ⟨rfl, hb⟩
    have hu2 := HU.out
    simp at hu2
    go_wp2_with fail
    go_ret
    exact ⟨ret_int (by omega), below_to B0 hb⟩
  | false =>
    have hd := kn_false h
    go_enter Try.func17, Try.ntmps17
    go_wp2_with fail
    refine (HB.out _ B0).mono ?_
    rintro e w2 ⟨rfl, hb⟩
    have hu2 := HU.out
    simp at hu2
    go_wp2_with fail
    go_ret
    exact ⟨ret_int (by omega), below_to B0 hb⟩
end
end Go.Proofs.Ytnjpijihjifkfaa
