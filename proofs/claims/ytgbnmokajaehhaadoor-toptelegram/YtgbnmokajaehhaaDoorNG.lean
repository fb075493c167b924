/- Contracts: the reference's words. -/
import Derived.Test.YtgbnmokajaehhaaDoorN7
import Derived.Test.YtgbnmokajaehhaaDoorNE
namespace Go.Proofs.YtgbnmokajaehhaaDoor
open Go.RowKit Go.Sort
set_option linter.unusedVariables false
def rval (c : Nat) : Nat := if digB c then c - 48 else if (decide (65 ≤ c) && decide (c ≤ 70)) then c - 55 else 0
theorem rval_all : ∀ c : Fin 256, hexV (UInt8.ofNat c.val) = rval c.val := by decide +kernel
theorem hexV_rval (c : UInt8) : hexV c = rval c.toNat := by
  have h := rval_all ⟨c.toNat, c.toNat_lt⟩
  simpa using h
theorem rvalue_any (c : UInt8) (w : World) : Calls Tryd.prog 42 #[.int .u8 (c.toNat : Int)] w fun e w' => e = .returned (.int .u8 (hexV c : Int)) ∧ w = w' := by
  rw [hexV_rval]
  have hc : c.toNat < 256 := c.toNat_lt
  generalize c.toNat = c at hc ⊢
  have H1 := Lib.hid (between_any c 48 57)
  have H2 := Lib.hid (between_any c 65 70)
  by_cases h1 : 48 ≤ c ∧ c ≤ 57
  · have HV := Lib.hid (show rval c = c - 48 by unfold rval digB; rw [decide_eq_true h1.1, decide_eq_true h1.2]; rfl)
    rw [decide_eq_true h1.1, decide_eq_true h1.2] at H1
    obtain ⟨h1, h2⟩ := h1
    go_enter Tryd.func42, Tryd.ntmps42
    go_wp2_with fail
    refine (H1.out _).mono ?_
    rintro e w' ⟨rfl, rfl⟩
    go_wp2
    go_ret
    exact ⟨ret_int (by rw [HV.out]; omega), rfl⟩
  · have hd : (decide (48 ≤ c) && decide (c ≤ 57)) = false := by simp; omega
    rw [hd] at H1
    by_cases h2 : 65 ≤ c ∧ c ≤ 70
    · have HV := Lib.hid (show rval c = c - 55 by unfold rval digB; rw [hd, decide_eq_true h2.1, decide_eq_true h2.2]; rfl)
      rw [decide_eq_true h2.1, decide_eq_true h2.2] at H2
      obtain ⟨h2, h3⟩ := h2
      clear hd h1
      go_enter Tryd.func42, Tryd.ntmps42
      go_wp2_with fail
      refine (H1.out _).mono ?_
      rintro e w' ⟨rfl, rfl⟩
      go_wp2_with fail
      refine (H2.out _).mono ?_
      rintro e w' ⟨rfl, rfl⟩
      go_wp2
      go_ret
      exact ⟨ret_int (by rw [HV.out]; omega), rfl⟩
    · have hd2 : (decide (65 ≤ c) && decide (c ≤ 70)) = false := by simp; omega
      have HV := Lib.hid (show rval c = 0 by unfold rval digB; rw [hd, hd2]; rfl)
      rw [hd2] at H2
      clear hd h1 hd2 h2
      go_enter Tryd.func42, Tryd.ntmps42
      go_wp2_with fail
      refine (H1.out _).mono ?_
      rintro e w' ⟨rfl, rfl⟩
      go_wp2_with fail
      refine (H2.out _).mono ?_
      rintro e w' ⟨rfl, rfl⟩
      go_wp2
      go_ret
      exact ⟨ret_int (by rw [HV.out]; rfl), rfl⟩
end Go.Proofs.YtgbnmokajaehhaaDoor
