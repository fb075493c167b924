/- The contract of the reference of Sum. -/
import Derived.Test.YtmhfbgcfagfmbaaT3
namespace Go.Proofs.Ytmhfbgcfagfmbaa
open Go.RowKit

def AllIn (l : List Int) : Prop := l.all inRB = true
/-- All are in range, and so is their sum s. -/
def SumsTo (zs : List Int) (k : Nat) (s : Int) : Prop := zs.all inRB = true ∧ (zs.take k).sum = s ∧ s ≤ 1125899906842624

theorem AllIn.snoc {zs : List Int} {k : Nat} (h : AllIn (zs.take k)) (hk : k < zs.length) (hi : inRB (zs.getD k 0) = true) : AllIn (zs.take (k + 1)) := by
  unfold AllIn at *
  rw [take_snoc_int zs k hk]
  simp only [List.all_append, h, Bool.true_and, List.all_cons, List.all_nil, Bool.and_true]; exact hi
theorem all_getD {zs : List Int} {k : Nat} (h : zs.all inRB = true) (hk : k < zs.length) : inRB (zs.getD k 0) = true := by
  rw [List.all_eq_true] at h
  rw [show zs.getD k 0 = zs[k] by simp [hk]]; exact h _ (List.getElem_mem hk)
theorem all_take {zs : List Int} (h : zs.all inRB = true) (k : Nat) : (zs.take k).all inRB = true := by
  rw [List.all_eq_true] at *; exact fun x hx => h x (List.mem_of_mem_take hx)
theorem all_drop {zs : List Int} (h : zs.all inRB = true) (k : Nat) : (zs.drop k).all inRB = true := by
  rw [List.all_eq_true] at *; exact fun x hx => h x (List.mem_of_mem_drop hx)
theorem SumsTo.bd {zs : List Int} {k : Nat} {s : Int} (h : SumsTo zs k s) : 0 ≤ s ∧ s ≤ 1125899906842624 := by
  have := sum_nonneg _ (all_take h.1 k)
  have := h.2.1
  have := h.2.2
  omega
theorem SumsTo.in {zs : List Int} {k : Nat} {s : Int} (h : SumsTo zs k s) : inRB s = true := inRB_true.2 h.bd
theorem SumsTo.snoc {zs : List Int} {k : Nat} {s x : Int} (h : SumsTo zs k s) (hk : k < zs.length) (hx : zs.getD k 0 = x) (hi : ¬ 1125899906842624 < s + x) : SumsTo zs (k + 1) (s + x) := by
  refine ⟨h.1, ?_, by omega⟩
  rw [take_snoc_int zs k hk, hx, List.sum_append, h.2.1]; simp
theorem sumF_ref_over {zs : List Int} {k : Nat} {s x : Int} (h : SumsTo zs k s) (hk : k < zs.length) (hx : zs.getD k 0 = x) (hi : 1125899906842624 < s + x) : sumF zs = (0, 15) := by
  have e : zs.sum = (zs.take (k + 1)).sum + (zs.drop (k + 1)).sum := by rw [← List.sum_append, List.take_append_drop]
  have e2 : (zs.take (k + 1)).sum = s + x := by rw [take_snoc_int zs k hk, hx, List.sum_append, h.2.1]; simp
  have := sum_nonneg _ (all_drop h.1 (k + 1))
  unfold sumF
  rw [if_pos h.1, if_neg (by omega)]
theorem sumF_ref_end {zs : List Int} {k : Nat} {s : Int} (h : SumsTo zs k s) (hk : zs.length ≤ k) : sumF zs = (s, 0) := by
  have e := h.2.1
  rw [List.take_of_length_le hk] at e
  unfold sumF
  rw [if_pos h.1, e, if_pos h.2.2]

set_option maxHeartbeats 1000000 in
theorem rsum_any (a : Option Addr) (len cap : Nat) (zs : List Int) (w : World) (hm : len ≤ 9223372036854775807) (hz : Ints w a len zs) :
    Calls Try.prog 22 #[.slice a len cap] w fun e w' => e = two (sumF zs) ∧ w = w' := by
  obtain ⟨hlen, hz⟩ := hz
  have HL := Lib.hid hlen
  clear hlen
  go_enter Try.func22, Try.ntmps22
  go_wp2
  go_loop [4] (fun i => ∃ k : Nat, k ≤ len ∧ AllIn (zs.take k) ∧ i = .int .i64 k) (fun i => len - (intOf i).toNat)
  case atStart => exact ⟨0, by omega, by simp [AllIn], rfl⟩
  case round =>
    obtain ⟨k, hk, hA, rfl⟩ := hrel
    by_cases hlt : k < len
    · rcases hz with hz | ⟨b, off, ha, hc⟩
      · omega
      · subst ha
        have hck := hc k hlt
        clear hc
        generalize hx : zs.getD k 0 = x at hck
        have HX := Lib.hid hx
        clear hx
        by_cases hi : inRB x = true
        · go_wp2_with (go_at_call 55; refine (counts_any _ _).mono ?_; rintro e w' ⟨rfl, rfl⟩)
          go_round
          case rel => exact ⟨k + 1, by omega, hA.snoc (by rw [HL.out]; exact hlt) (by rw [HX.out]; exact hi), by go_num⟩
          case measure => simp [intOf]; omega
        · rw [Bool.not_eq_true] at hi
          go_wp2_with (go_at_call 55; refine (counts_any _ _).mono ?_; rintro e w' ⟨rfl, rfl⟩)
          go_ret2
          exact ⟨two_of (sumF_bad (k := k) (by rw [HL.out]; exact hlt) (by rw [HX.out]; exact hi)), rfl⟩
    · have hall : SumsTo zs 0 0 := ⟨by have := hA; unfold AllIn at this; rwa [List.take_of_length_le (by rw [HL.out]; omega)] at this, by simp, by omega⟩
      clear hA
      go_wp2
      go_loop [5, 6] (fun n i => ∃ (j : Nat) (s : Int), j ≤ len ∧ SumsTo zs j s ∧ i = .int .i64 j ∧ n = .int .i64 s) (fun _ i => len - (intOf i).toNat)
      case atStart => exact ⟨0, 0, by omega, hall, rfl, rfl⟩
      case round =>
        obtain ⟨j, s, hj, hS, rfl, rfl⟩ := hrel
        by_cases hjt : j < len
        · rcases hz with hz | ⟨b, off, ha, hc⟩
          · omega
          · subst ha
            have hck := hc j hjt
            clear hc
            have hin := all_getD hS.1 (by rw [HL.out]; exact hjt)
            generalize hx : zs.getD j 0 = x at hck hin
            have HX := Lib.hid hx
            clear hx
            by_cases ho : 1125899906842624 < s + x
            · have HA := Lib.hid (addF_gt hS.in hin ho)
              go_wp2_with fail
              refine (radd_any s x _).mono ?_
              rintro e w' ⟨rfl, rfl⟩
              rw [HA.out]; unfold two; dsimp only
              go_wp2
              go_ret2
              exact ⟨two_of (sumF_ref_over hS (by rw [HL.out]; exact hjt) HX.out ho), rfl⟩
            · have HA := Lib.hid (addF_le hS.in hin ho)
              go_wp2_with fail
              refine (radd_any s x _).mono ?_
              rintro e w' ⟨rfl, rfl⟩
              rw [HA.out]; unfold two; dsimp only
              go_wp2
              go_round
              case rel => exact ⟨j + 1, s + x, by omega, hS.snoc (by rw [HL.out]; exact hjt) HX.out (by omega), by go_num, rfl⟩
              case measure => simp [intOf]; omega
        · have HE := Lib.hid (sumF_ref_end hS (by rw [HL.out]; omega))
          go_wp2
          go_ret2
          exact ⟨two_of HE.out, rfl⟩
end Go.Proofs.Ytmhfbgcfagfmbaa
