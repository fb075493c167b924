/- Contracts: the reference's cut. -/
import Derived.Test.YteekjndhehnpaaaKV0
namespace Go.Proofs.Yteekjndhehnpaaa
open Go.RowKit
set_option maxRecDepth 100000
set_option linter.unusedVariables false
set_option maxHeartbeats 4000000
def PairRet (a b : ByteArray) (w : World) (e : Ending) (w' : World) : Prop := e = .returned (.tuple #[.string a, .string b]) ∧ Below w.heap.size w w'
theorem rcut_any (s : ByteArray) (w : World) (hs : s.size ≤ maxLen) : Calls Try.prog 54 #[.string s] w (PairRet (cutA s) (cutZ s) w) := by
  replace hs : s.size ≤ 9223372036854775807 := hs
  go_enter Try.func54, Try.ntmps54
  go_wp2
  go_loop [4] (fun i => ∃ k : Nat, k ≤ s.size ∧ Hid (noZ (s.data.toList.take k)) ∧ i = .int .i64 k) (fun i => s.size - (intOf i).toNat)
  case atStart => exact ⟨0, by omega, Lib.hid (by simp [noZ]), rfl⟩
  case round =>
    obtain ⟨k, hk, HA, rfl⟩ := hrel
    by_cases hlt : k < s.size
    · by_cases hz : s[k].toNat = 0
      · have hsp : s.data.toList = s.data.toList.take k ++ 0 :: s.data.toList.drop (k + 1) := by
          have h0 : s[k] = 0 := UInt8.toNat_inj.1 hz
          have h1 := take_snoc8 s k hlt
          rw [h0] at h1
          conv => lhs; rw [← List.take_append_drop (k + 1) s.data.toList, h1]
          simp
        have HR : Hid (cutA s = s.extract 0 k ∧ cutZ s = s.extract (k + 1) s.size) := Lib.hid (by
          have := cut_app _ (s.data.toList.drop (k + 1)) HA.out
          rw [← hsp] at this
          unfold cutA cutZ
          rw [this, ext_front, ext_back]
          exact ⟨rfl, rfl⟩)
        have hz' : (s[k].toNat : Int) = 0 := by omega
        rw [HR.out.1, HR.out.2]
        clear hz hsp
        go_wp2_with (go_quiet (fail))
        refine bodyPost_ret (v := .tuple #[.string (s.extract 0 k), .string (s.extract (k + 1) s.size)]) (by simp [results, Try.results54, go_sem]; try rfl) rfl ⟨rfl, below_drewN _ _⟩
      · have HQ := Lib.hid (show noZ (s.data.toList.take (k + 1)) by
          rw [take_snoc8 s k hlt]
          intro c hc
          rcases List.mem_append.1 hc with h | h
          · exact HA.out c h
          · simp at h; subst h; intro h; exact hz (by rw [h]; rfl))
        have hz' : ¬ (s[k].toNat : Int) = 0 := by omega
        clear hz
        go_wp2
        go_round
        case rel => exact ⟨k + 1, by omega, HQ, by simp⟩
        case measure => simp [intOf]; omega
    · obtain rfl : k = s.size := by omega
      have HR : Hid (cutA s = s ∧ cutZ s = ⟨#[]⟩) := Lib.hid (by
        have h := HA.out
        rw [List.take_of_length_le (by simp)] at h
        unfold cutA cutZ
        rw [cut_none _ h]
        exact ⟨bs_of s, rfl⟩)
      rw [HR.out.1, HR.out.2]
      go_wp2
      refine bodyPost_ret (v := .tuple #[.string s, .string ⟨#[]⟩]) (by simp [results, Try.results54, go_sem]; try rfl) rfl ⟨by rw [HR.out.1, HR.out.2], Below.refl _ _⟩
end Go.Proofs.Yteekjndhehnpaaa
