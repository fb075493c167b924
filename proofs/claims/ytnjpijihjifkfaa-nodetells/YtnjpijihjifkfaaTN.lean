/- Contract: Small. -/
import Derived.Test.YtnjpijihjifkfaaTM
namespace Go.Proofs.Ytnjpijihjifkfaa
open Go.RowKit
set_option linter.unusedVariables false
def smallIt (x : It) : Bool := decide (x.1.size ≤ 300) && decide (x.2.size ≤ 300)
def smallF (I : List It) (K : List Int) : Bool := I.all smallIt && (decide (I.length ≤ 200) && decide (K.length ≤ 200))
theorem small_take {I : List It} {k : Nat} (h : k < I.length) (hk : (I.take k).all smallIt = true) (hx : smallIt (kq I k, vq I k) = true) : (I.take (k + 1)).all smallIt = true := by
  rw [List.take_succ_eq_append_getElem h, List.all_append, hk, kv_at I k h]; simp [hx]
theorem small_not {I : List It} {k : Nat} (h : k < I.length) (hx : smallIt (kq I k, vq I k) = false) (K : List Int) : smallF I K = false := by
  unfold smallF
  have : I.all smallIt = false := by
    rw [List.all_eq_false]
    exact ⟨I[k], List.getElem_mem h, by rw [kv_at I k h, hx]; simp⟩
  rw [this]; rfl
section
variable {w : World} {a : Option Addr} {n c : Nat} {ka : Option Addr} {kn kc : Nat} {I : List It} {K : List Int}
set_option maxRecDepth 100000 in
set_option maxHeartbeats 2000000 in
theorem small_any (hI : Its w a n I) (hK : Kds w ka kn K) (hn : n ≤ 9223372036854775807) (hkn : kn ≤ 9223372036854775807) (hl : ∀ k, k < n → (kq I k).size ≤ 9223372036854775807 ∧ (vq I k).size ≤ 9223372036854775807) :
    Calls Try.prog 7 #[.agg #[.slice a n c, .slice ka kn kc]] w fun e w' => e = .returned (.bool (smallF I K)) ∧ Below w.heap.size w w' := by
  have HI := Lib.hid hI
  have HL := Lib.hid hI.1
  have HKL := Lib.hid hK.1
  have HS := Lib.hid hl
  have N0 := Nd.new w a n c ka kn kc 25
  have B0 := new_below w (.cells #[.slice a n c, .slice ka kn kc] 25)
  clear hI hK hl
  go_enter Try.func7, Try.ntmps7
  go_wp2_with fail
  generalize w.alloc (.cells #[.slice a n c, .slice ka kn kc] 25) = w1 at N0 B0 ⊢
  have c0 := N0.c0
  go_wp2_with fail
  have HN := Lib.hid N0
  have HB := Lib.hid B0
  clear N0 B0 c0
  go_loopw [8] (fun i wx => ∃ (k : Nat), k ≤ n ∧ Hid ((I.take k).all smallIt = true) ∧ Nd wx w.heap.size a n c ka kn kc ∧ Below w.heap.size w wx ∧ i = .int .i64 (k : Int)) (fun i _ => n - (intOf i).toNat)
  case atStart => exact ⟨0, by omega, Lib.hid (by simp), HN.out, HB.out, rfl⟩
  case round =>
    obtain ⟨k, hk, HA, hN, hB, rfl⟩ := hrel
    by_cases hlt : k < n
    · obtain ⟨g, off, rfl, hg, e0, e1⟩ := (HI.out.below hB).at hlt
      obtain ⟨hs1, hs2⟩ := HS.out k hlt
      have hkI : k < I.length := by rw [HL.out]; exact hlt
      have hT := small_take hkI HA.out
      have hNo := small_not hkI
      obtain ⟨p, hp⟩ : ∃ p, kq I k = p := ⟨_, rfl⟩
      obtain ⟨q, hq⟩ : ∃ q, vq I k = q := ⟨_, rfl⟩
      rw [hp] at e0 hs1 hT hNo
      rw [hq] at e1 hs2 hT hNo
      have HT := Lib.hid hT
      have HNo := Lib.hid hNo
      clear hp hq hg hT hNo
      by_cases h1 : p.size ≤ 300
      · by_cases h2 : q.size ≤ 300
        · have HT2 := Lib.hid (HT.out (by simp [smallIt, h1, h2]))
          have d1 : decide ((300 : Int) < (p.size : Int)) = false := decide_eq_false (by omega)
          have d2 : decide ((300 : Int) < (q.size : Int)) = false := decide_eq_false (by omega)
          go_wp2_with fail
          go_roundw
          case rel => exact ⟨k + 1, by omega, HT2, hN.below (new_below _ _), below_to hB (new_below _ _), by go_num⟩
          case measure => simp [intOf]; omega
        · have HF := Lib.hid (HNo.out (by simp [smallIt, h1, h2]) K)
          have d1 : decide ((300 : Int) < (p.size : Int)) = false := decide_eq_false (by omega)
          have d2 : decide ((300 : Int) < (q.size : Int)) = true := decide_eq_true (by omega)
          go_wp2_with fail
          go_ret
          exact ⟨ret_bool (by rw [HF.out]), below_to hB (new_below _ _)⟩
      · have HF := Lib.hid (HNo.out (by simp [smallIt, h1]) K)
        have d1 : decide ((300 : Int) < (p.size : Int)) = true := decide_eq_true (by omega)
        go_wp2_with fail
        go_ret
        exact ⟨ret_bool (by rw [HF.out]), below_to hB (new_below _ _)⟩
    · obtain rfl : k = n := by omega
      have HA2 := Lib.hid (show I.all smallIt = true by have := HA.out; rw [List.take_of_length_le (by rw [HL.out]; exact Nat.le_refl _)] at this; exact this)
      have c0 := hN.c0
      have c1 := hN.c1
      by_cases h3 : k ≤ 200
      · by_cases h4 : kn ≤ 200
        · have d1 : decide ((k : Int) ≤ 200) = true := decide_eq_true (by omega)
          have d2 : decide ((kn : Int) ≤ 200) = true := decide_eq_true (by omega)
          go_wp2_with fail
          go_ret
          exact ⟨ret_bool (by unfold smallF; rw [HA2.out, HL.out, HKL.out]; simp [h3, h4]), hB⟩
        · have d1 : decide ((k : Int) ≤ 200) = true := decide_eq_true (by omega)
          have d2 : decide ((kn : Int) ≤ 200) = false := decide_eq_false (by omega)
          go_wp2_with fail
          go_ret
          exact ⟨ret_bool (by unfold smallF; rw [HA2.out, HL.out, HKL.out]; simp [h3, h4]), hB⟩
      · have d1 : decide ((k : Int) ≤ 200) = false := decide_eq_false (by omega)
        go_wp2_with fail
        go_ret
        exact ⟨ret_bool (by unfold smallF; rw [HA2.out, HL.out, HKL.out]; simp [h3]), hB⟩
end
end Go.Proofs.Ytnjpijihjifkfaa
