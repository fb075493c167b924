/- Contracts of tally.Sum, tally.Add, tally.Left and of their references. -/
import Derived.Test.YtmhfbgcfagfmbaaT1
import Derived.Below
import Derived.Lib.Hide
namespace Go.Proofs.Ytmhfbgcfagfmbaa
open Go.RowKit

/-- A slice of int64 with the elements zs. -/
def Ints (w : World) (a : Option Addr) (len : Nat) (zs : List Int) : Prop :=
  zs.length = len ∧ (len = 0 ∨ ∃ b off, a = some ⟨b, off, none⟩ ∧ ∀ j, j < len → w.cell? ⟨b, off + j, none⟩ = some (.int .i64 (zs.getD j 0)))

def sumF (zs : List Int) : Int × Int := if zs.all inRB then (if zs.sum ≤ 1125899906842624 then (zs.sum, 0) else (0, 15)) else (0, 18)

/-- All numbers are in range, and s is their sum, at most one above the range. -/
def SumIs (l : List Int) (s : Int) : Prop := l.all inRB = true ∧ s = min l.sum 1125899906842625

theorem sum_nonneg (l : List Int) (h : l.all inRB = true) : 0 ≤ l.sum := by
  induction l with
  | nil => simp
  | cons x r ih =>
    simp only [List.all_cons, Bool.and_eq_true] at h
    have := (inRB_true.1 h.1).1
    have := ih h.2
    simp only [List.sum_cons]; omega

theorem SumIs.bd {l : List Int} {s : Int} (h : SumIs l s) : 0 ≤ s ∧ s ≤ 1125899906842625 := by
  have := sum_nonneg l h.1
  have := h.2
  omega

theorem take_snoc_int (zs : List Int) (k : Nat) (h : k < zs.length) : zs.take (k + 1) = zs.take k ++ [zs.getD k 0] := by
  rw [List.take_succ_eq_append_getElem h]; simp [h]

theorem SumIs.snoc {zs : List Int} {k : Nat} {s : Int} (h : SumIs (zs.take k) s) (hk : k < zs.length) (hi : inRB (zs.getD k 0) = true) :
    SumIs (zs.take (k + 1)) (min (s + zs.getD k 0) 1125899906842625) := by
  have h0 := sum_nonneg _ h.1
  have h1 := h.2
  have h2 := (inRB_true.1 hi).1
  rw [take_snoc_int zs k hk]
  refine ⟨by simp [h.1]; simpa using hi, ?_⟩
  rw [List.sum_append]
  simp only [List.sum_cons, List.sum_nil]
  omega

theorem sumF_bad {zs : List Int} {k : Nat} (hk : k < zs.length) (hi : inRB (zs.getD k 0) = false) : sumF zs = (0, 18) := by
  have : zs.all inRB = false := by
    rw [List.all_eq_false]
    refine ⟨zs.getD k 0, ?_, by rw [hi]; simp⟩
    rw [show zs.getD k 0 = zs[k] by simp [hk]]; exact List.getElem_mem hk
  simp [sumF, this]

theorem sumF_end {zs : List Int} {k : Nat} {s : Int} (h : SumIs (zs.take k) s) (hk : zs.length ≤ k) : sumF zs = if inRB s then (s, 0) else (0, 15) := by
  rw [List.take_of_length_le hk] at h
  have h0 := sum_nonneg _ h.1
  have h2 := h.2
  unfold sumF
  rw [if_pos h.1]
  by_cases hs : zs.sum ≤ 1125899906842624
  · have e : s = zs.sum := by omega
    rw [if_pos hs, if_pos (by rw [inRB_true]; omega), e]
  · rw [if_neg hs, if_neg (by rw [inRB_true]; omega)]

set_option maxHeartbeats 400000 in
theorem sum_any (a : Option Addr) (len cap : Nat) (zs : List Int) (w : World) (hm : len ≤ 9223372036854775807) (hz : Ints w a len zs) :
    Calls Try.prog 21 #[.slice a len cap] w fun e w' => e = two (sumF zs) ∧ w = w' := by
  obtain ⟨hlen, hz⟩ := hz
  have HL := Lib.hid hlen
  clear hlen
  go_enter Try.func21, Try.ntmps21
  go_wp2
  go_loop [4, 9] (fun t i => ∃ (k : Nat) (s : Int), k ≤ len ∧ 0 ≤ s ∧ s ≤ 1125899906842625 ∧ SumIs (zs.take k) s ∧ i = .int .i64 k ∧ t = .int .i64 s) (fun _ i => len - (intOf i).toNat)
  case atStart => exact ⟨0, 0, by omega, by omega, by omega, ⟨by simp, by simp only [List.take_zero, List.sum_nil]; omega⟩, rfl, rfl⟩
  case round =>
    obtain ⟨k, s, hk, hs0, hs1, hS, rfl, rfl⟩ := hrel
    by_cases hlt : k < len
    · rcases hz with hz | ⟨b, off, ha, hc⟩
      · omega
      · subst ha
        have hck := hc k hlt
        clear hc
        generalize hx : zs.getD k 0 = x at hck
        have HX := Lib.hid hx
        clear hx
        by_cases hi : inRB x = true
        · have hb := inRB_true.1 hi
          have hb1 := hb.1
          have hb2 := hb.2
          go_wp2_with (first | (go_at_call 56; refine (inRange_any _ _).mono ?_; rintro e w' ⟨rfl, rfl⟩) | (go_at_call 57; refine (joined_any _ _ _ hs0 hs1 hb1 hb2).mono ?_; rintro e w' ⟨rfl, rfl⟩))
          go_round
          case rel => exact ⟨k + 1, _, by omega, by omega, by omega, by have := hS.snoc (by rw [HL.out]; exact hlt) (by rw [HX.out]; exact hi); rwa [HX.out] at this, by go_num, rfl⟩
          case measure => simp [intOf]; omega
        · rw [Bool.not_eq_true] at hi
          go_wp2_with (first | (go_at_call 56; refine (inRange_any _ _).mono ?_; rintro e w' ⟨rfl, rfl⟩))
          go_ret2
          exact ⟨two_of (sumF_bad (k := k) (by rw [HL.out]; exact hlt) (by rw [HX.out]; exact hi)), rfl⟩
    · have hF := Lib.hid (sumF_end hS (by rw [HL.out]; omega))
      by_cases hi : inRB s = true
      · go_wp2_with (first | (go_at_call 56; refine (inRange_any _ _).mono ?_; rintro e w' ⟨rfl, rfl⟩))
        go_ret2
        exact ⟨two_of (by rw [hF.out, if_pos hi]), rfl⟩
      · rw [Bool.not_eq_true] at hi
        go_wp2_with (first | (go_at_call 56; refine (inRange_any _ _).mono ?_; rintro e w' ⟨rfl, rfl⟩))
        go_ret2
        exact ⟨two_of (by rw [hF.out, if_neg (by simp [hi])]), rfl⟩
end Go.Proofs.Ytmhfbgcfagfmbaa
