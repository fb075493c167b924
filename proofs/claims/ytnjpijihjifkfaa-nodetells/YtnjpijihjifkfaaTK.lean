/- Contracts: nodes compared, where both read alike; ours. -/
import Derived.Test.YtnjpijihjifkfaaTJ
namespace Go.Proofs.Ytnjpijihjifkfaa
open Go.RowKit
set_option linter.unusedVariables false
theorem neq44 (p q : ByteArray) (w : World) : (binOp .neq 44 (.agg #[.string p, .string q]) (.agg #[.string p, .string q])).run Try.prog w = .ok (.bool false) w := by
  simp [go_sem]
theorem drewN_below (w : World) (m : Nat) : Below w.heap.size w (w.drewN m) := ⟨rfl, rfl, rfl, Nat.le_refl _, fun _ _ => rfl⟩
section
variable {w : World} {a a' : Option Addr} {n c c' : Nat} {ka ka' : Option Addr} {kn kc kc' : Nat} {I : List It} {K : List Int}
set_option maxRecDepth 100000 in
set_option maxHeartbeats 1000000 in
theorem sameItems_any (hI : Its w a n I) (hJ : Its w a' n I) (hn : n ≤ 4096) : Calls Try.prog 65 #[.slice a n c, .slice a' n c'] w fun e w' => e = .returned (.bool true) ∧ Below w.heap.size w w' := by
  have HI := Lib.hid hI
  have HJ := Lib.hid hJ
  clear hI hJ
  go_enter Try.func65, Try.ntmps65
  go_wp2_with fail
  go_loopw [5] (fun i wx => ∃ (k : Nat), k ≤ n ∧ Below w.heap.size w wx ∧ i = .int .i64 (k : Int)) (fun i _ => n - (intOf i).toNat)
  case atStart => exact ⟨0, by omega, Below.refl _ _, rfl⟩
  case round =>
    obtain ⟨k, hk, hB, rfl⟩ := hrel
    by_cases hlt : k < n
    · obtain ⟨g, off, rfl, hg, e0, e1⟩ := (HI.out.below hB).at hlt
      obtain ⟨g', off', rfl, hg', f0, f1⟩ := (HJ.out.below hB).at hlt
      obtain ⟨p, hp⟩ : ∃ p, kq I k = p := ⟨_, rfl⟩
      obtain ⟨q, hq⟩ : ∃ q, vq I k = q := ⟨_, rfl⟩
      rw [hp] at e0 f0
      rw [hq] at e1 f1
      have hE := fun w => neq44 p q w
      clear hp hq hg hg'
      go_wp2_with fail
      go_quiet (fail)
      go_wp2_with fail
      go_roundw
      case rel => exact ⟨k + 1, by omega, below_to hB (drewN_below _ _), by go_num⟩
      case measure => simp [intOf]; omega
    · obtain rfl : k = n := by omega
      go_wp2_with fail
      go_ret
      exact ⟨rfl, hB⟩
set_option maxRecDepth 100000 in
set_option maxHeartbeats 1000000 in
theorem Same_any (hI : Its w a n I) (hJ : Its w a' n I) (hK : Kds w ka kn K) (hL : Kds w ka' kn K) (hn : n ≤ 4096) (hkn : kn ≤ 4096) : Calls Try.prog 40 #[.agg #[.slice a n c, .slice ka kn kc], .agg #[.slice a' n c', .slice ka' kn kc']] w fun e w' => e = .returned (.bool true) ∧ Below w.heap.size w w' := by
  have HS := Lib.hid (fun (w1 : World) (B : Below w.heap.size w w1) => sameItems_any (c := c) (c' := c') (hI.below B) (hJ.below B) hn)
  have HK := Lib.hid hK
  have HL := Lib.hid hL
  have N0 := (Nd.new w a n c ka kn kc 25).below (new_below _ (.cells #[.slice a' n c', .slice ka' kn kc'] 25))
  have N1 := Nd.new (w.alloc (.cells #[.slice a n c, .slice ka kn kc] 25)) a' n c' ka' kn kc' 25
  have hs : (w.alloc (.cells #[.slice a n c, .slice ka kn kc] 25)).heap.size = w.heap.size + 1 := by simp
  rw [hs] at N1
  have HBB := Lib.hid (below_to (new_below w (.cells #[.slice a n c, .slice ka kn kc] 25)) (new_below _ (.cells #[.slice a' n c', .slice ka' kn kc'] 25)))
  clear hI hJ hK hL hs
  go_enter Try.func40, Try.ntmps40
  go_wp2_with fail
  generalize (w.alloc (.cells #[.slice a n c, .slice ka kn kc] 25)).alloc (.cells #[.slice a' n c', .slice ka' kn kc'] 25) = w1 at N0 N1 HBB ⊢
  have c0 := N0.c0
  have c1 := N0.c1
  have d0 := N1.c0
  have d1 := N1.c1
  go_wp2_with fail
  have HN0 := Lib.hid N0
  have HN1 := Lib.hid N1
  clear c0 c1 d0 d1 N0 N1
  go_loopw [5] (fun i wx => ∃ (k : Nat), k ≤ kn ∧ Below w.heap.size w wx ∧ Nd wx w.heap.size a n c ka kn kc ∧ Nd wx (w.heap.size + 1) a' n c' ka' kn kc' ∧ i = .int .i64 (k : Int)) (fun i _ => kn - (intOf i).toNat)
  case atStart => exact ⟨0, by omega, HBB.out, HN0.out, HN1.out, rfl⟩
  case round =>
    obtain ⟨k, hk, hB, hN0, hN1, rfl⟩ := hrel
    have c0 := hN0.c0
    have c1 := hN0.c1
    have d0 := hN1.c0
    have d1 := hN1.c1
    by_cases hlt : k < kn
    · obtain ⟨g, off, rfl, hg, e0⟩ := (HK.out.below hB).at hlt
      obtain ⟨g', off', rfl, hg', f0⟩ := (HL.out.below hB).at hlt
      obtain ⟨p, hp⟩ : ∃ p, K.getD k 0 = p := ⟨_, rfl⟩
      rw [hp] at e0 f0
      clear hp hg hg'
      go_wp2_with fail
      go_quiet (fail)
      go_wp2_with fail
      go_roundw
      case rel => exact ⟨k + 1, by omega, below_to hB (drewN_below _ _), hN0.below (drewN_below _ _), hN1.below (drewN_below _ _), by go_num⟩
      case measure => simp [intOf]; omega
    · obtain rfl : k = kn := by omega
      go_wp2_with fail
      refine (HS.out _ hB).mono ?_
      rintro e w2 ⟨rfl, hb⟩
      have hB2 := below_to hB hb
      go_wp2_with fail
      go_ret
      exact ⟨rfl, hB2⟩
set_option maxRecDepth 100000 in
theorem same_any (hI : Its w a n I) (hJ : Its w a' n I) (hK : Kds w ka kn K) (hL : Kds w ka' kn K) (hn : n ≤ 4096) (hkn : kn ≤ 4096) : Calls Try.prog 15 #[.agg #[.slice a n c, .slice ka kn kc], .agg #[.slice a' n c', .slice ka' kn kc']] w fun e w' => e = .returned (.bool true) ∧ Below w.heap.size w w' := by
  have HS := Lib.hid (fun (w1 : World) (B : Below w.heap.size w w1) => Same_any (c := c) (c' := c') (kc := kc) (kc' := kc') (hI.below B) (hJ.below B) (hK.below B) (hL.below B) hn hkn)
  have N0 := (Nd.new w a n c ka kn kc 31).below (new_below _ (.cells #[.slice a' n c', .slice ka' kn kc'] 25))
  have N1 := Nd.new (w.alloc (.cells #[.slice a n c, .slice ka kn kc] 31)) a' n c' ka' kn kc' 25
  have hs : (w.alloc (.cells #[.slice a n c, .slice ka kn kc] 31)).heap.size = w.heap.size + 1 := by simp
  rw [hs] at N1
  have HBB := Lib.hid (below_to (new_below w (.cells #[.slice a n c, .slice ka kn kc] 31)) (new_below _ (.cells #[.slice a' n c', .slice ka' kn kc'] 25)))
  clear hI hJ hK hL hs
  go_enter Try.func15, Try.ntmps15
  go_wp2_with fail
  generalize (w.alloc (.cells #[.slice a n c, .slice ka kn kc] 31)).alloc (.cells #[.slice a' n c', .slice ka' kn kc'] 25) = w1 at N0 N1 HBB ⊢
  have c0 := N0.c0
  have c1 := N0.c1
  have d0 := N1.c0
  have d1 := N1.c1
  go_wp2_with fail
  refine (HS.out _ HBB.out).mono ?_
  rintro e w2 ⟨rfl, hb⟩
  have hB2 := below_to HBB.out hb
  go_wp2_with fail
  go_ret
  exact ⟨rfl, hB2⟩
set_option maxRecDepth 100000 in
theorem ours_any (a : Option Addr) (n c : Nat) (ka : Option Addr) (kn kc : Nat) (w : World) : Calls Try.prog 10 #[.agg #[.slice a n c, .slice ka kn kc]] w fun e w' => e = .returned (.agg #[.slice a n c, .slice ka kn kc]) ∧ Below w.heap.size w w' := by
  go_enter Try.func10, Try.ntmps10
  go_wp2_with fail
  refine bodyPost_ret (v := .agg #[.slice a n c, .slice ka kn kc]) (by simp [results, Try.results10, go_sem]; try rfl) rfl ?_
  exact ⟨rfl, below_to (new_below _ _) (new_below _ _)⟩
end
end Go.Proofs.Ytnjpijihjifkfaa
