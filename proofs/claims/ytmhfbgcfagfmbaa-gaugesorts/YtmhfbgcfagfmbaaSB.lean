/- Contracts: gauge.Least and gauge.Greatest. -/
import Derived.Test.YtmhfbgcfagfmbaaFF
namespace Go.Proofs.Ytmhfbgcfagfmbaa
open Go.RowKit

theorem nan_any (w : World) : Calls Try.prog 68 #[] w fun e w' => ∃ b, NaN b ∧ Fit b ∧ e = .returned (.float .f64 b) ∧ w = w' := by
  have r74 := run74
  go_enter Try.func68, Try.ntmps68
  go_wp2
  go_ret
  exact ⟨9221120237041090561, nan_bits.1, nan_bits.2, rfl, rfl⟩

structure LeastAt (zs : List Nat) (k s : Nat) : Prop where
  mem : s ∈ zs
  all : ∀ z ∈ zs.take k, tk s ≤ tk z
theorem LeastAt.snoc {zs : List Nat} {k s x t : Nat} (h : LeastAt zs k s) (hk : k < zs.length) (hx : zs.getD k 0 = x) (hm : t ∈ zs) (h1 : tk t ≤ tk s) (h2 : tk t ≤ tk x) : LeastAt zs (k + 1) t :=
  ⟨hm, fun z hz => by
    rw [take_snoc_nat zs k hk, hx, List.mem_append] at hz
    rcases hz with hz | hz
    · have := h.all z hz; omega
    · rw [List.mem_singleton.1 hz]; exact h2⟩
/-- What Least gives. -/
def LeastRet (zs : List Nat) (w : World) (e : Ending) (w' : World) : Prop := w = w' ∧ ∃ b, Fit b ∧ e = .returned (.float .f64 b) ∧ ((zs = [] ∧ NaN b) ∨ (b ∈ zs ∧ ∀ z ∈ zs, tk b ≤ tk z))

set_option maxHeartbeats 1000000 in
theorem least_any (a : Option Addr) (len cap : Nat) (zs : List Nat) (w : World) (hm : len ≤ 9223372036854775807) (hz : Flts w a len zs) :
    Calls Try.prog 51 #[.slice a len cap] w (LeastRet zs w) := by
  obtain ⟨hlen, hfit, hz⟩ := hz
  have HL := Lib.hid hlen
  have HF := Lib.hid hfit
  by_cases h0 : len = 0
  · subst h0
    have HE : Hid (zs = []) := List.eq_nil_of_length_eq_zero hlen
    clear hlen hfit hz
    go_enter Try.func51, Try.ntmps51
    go_wp2_with fail
    refine (nan_any _).mono ?_
    rintro e w' ⟨b, hb, fb, rfl, rfl⟩
    go_wp2
    go_ret
    exact ⟨rfl, b, fb, rfl, .inl ⟨HE.out, hb⟩⟩
  · rcases hz with hz | ⟨b, off, ha, hc⟩
    · omega
    subst ha
    have hpos : 0 < len := by omega
    have hposz : (0 : Int) < (len : Int) := by omega
    have h0b : ((len : Int) == 0) = false := by simp; omega
    have g0 := hc 0 hpos
    rw [Nat.add_zero] at g0
    have hmem : ∀ k, k < len → zs.getD k 0 ∈ zs := fun k hk => by
      have hk' : k < zs.length := by rw [hlen]; exact hk
      rw [show zs.getD k 0 = zs[k] by simp [hk']]; exact List.getElem_mem hk'
    have HM : Hid (∀ k, k < len → zs.getD k 0 ∈ zs) := hmem
    have HCC : Hid (∀ j, j < len → w.cell? ⟨b, off + j, none⟩ = some (.float .f64 (zs.getD j 0))) := hc
    clear hlen hfit hmem hc
    generalize hX0 : zs.getD 0 0 = x0 at g0
    have HX0 := Lib.hid hX0
    clear hX0
    go_enter Try.func51, Try.ntmps51
    go_wp2
    go_loopw [3, 15] (fun t i wx => ∃ (k s : Nat), wx = w ∧ k ≤ len ∧ Hid (LeastAt zs k s) ∧ t = .float .f64 s ∧ i = .int .i64 (k : Int)) (fun _ i _ => len - (intOf i).toNat)
    case atStart => exact ⟨0, x0, rfl, by omega, ⟨by rw [← HX0.out]; exact HM.out 0 hpos, fun z hz => by simp at hz⟩, rfl, rfl⟩
    case round =>
      obtain ⟨k, s, rfl, hk, hM, rfl, rfl⟩ := hrel
      by_cases hlt : k < len
      · have hltz : (k : Int) < (len : Int) := by omega
        have gx := HCC.out k hlt
        have hmx := HM.out k hlt
        generalize hX : zs.getD k 0 = x at gx hmx
        have HX := Lib.hid hX
        have fx := HF.out x hmx
        have fs := HF.out s hM.out.mem
        have HMX := Lib.hid hmx
        clear hX hmx
        rcases Int.lt_trichotomy (tk x) (tk s) with h | h | h
        · have hc3 := cmp3_lt h
          have HM2 : Hid (LeastAt zs (k + 1) x) := hM.out.snoc (by rw [HL.out]; exact hlt) HX.out HMX.out (by omega) (by omega)
          clear h
          go_wp2_with fail
          refine (order_any x s fx fs _).mono ?_
          rw [hc3]
          rintro e w' ⟨rfl, rfl⟩
          go_wp2
          go_roundw
          case rel => exact ⟨k + 1, x, by first | rfl | trivial, by omega, HM2, rfl, by go_num⟩
          case measure => simp [intOf]; omega
        · have hc3 := cmp3_eq h
          have HM2 : Hid (LeastAt zs (k + 1) s) := hM.out.snoc (by rw [HL.out]; exact hlt) HX.out hM.out.mem (by omega) (by omega)
          clear h
          go_wp2_with fail
          refine (order_any x s fx fs _).mono ?_
          rw [hc3]
          rintro e w' ⟨rfl, rfl⟩
          go_wp2
          go_roundw
          case rel => exact ⟨k + 1, s, by first | rfl | trivial, by omega, HM2, rfl, by go_num⟩
          case measure => simp [intOf]; omega
        · have hc3 := cmp3_gt h
          have HM2 : Hid (LeastAt zs (k + 1) s) := hM.out.snoc (by rw [HL.out]; exact hlt) HX.out hM.out.mem (by omega) (by omega)
          clear h
          go_wp2_with fail
          refine (order_any x s fx fs _).mono ?_
          rw [hc3]
          rintro e w' ⟨rfl, rfl⟩
          go_wp2
          go_roundw
          case rel => exact ⟨k + 1, s, by first | rfl | trivial, by omega, HM2, rfl, by go_num⟩
          case measure => simp [intOf]; omega
      · have hltz : ¬ (k : Int) < (len : Int) := by omega
        have hkl : k = len := by omega
        subst hkl
        have fs := HF.out s hM.out.mem
        have HA : Hid (∀ z ∈ zs, tk s ≤ tk z) := by
          have h := hM.out.all
          rwa [List.take_of_length_le (by rw [HL.out]; exact Nat.le_refl _)] at h
        go_wp2
        go_ret
        exact ⟨rfl, s, fs, rfl, .inr ⟨hM.out.mem, HA.out⟩⟩

structure GreatestAt (zs : List Nat) (k s : Nat) : Prop where
  mem : s ∈ zs
  all : ∀ z ∈ zs.take k, tk z ≤ tk s
theorem GreatestAt.snoc {zs : List Nat} {k s x t : Nat} (h : GreatestAt zs k s) (hk : k < zs.length) (hx : zs.getD k 0 = x) (hm : t ∈ zs) (h1 : tk s ≤ tk t) (h2 : tk x ≤ tk t) : GreatestAt zs (k + 1) t :=
  ⟨hm, fun z hz => by
    rw [take_snoc_nat zs k hk, hx, List.mem_append] at hz
    rcases hz with hz | hz
    · have := h.all z hz; omega
    · rw [List.mem_singleton.1 hz]; exact h2⟩
/-- What Greatest gives. -/
def GreatestRet (zs : List Nat) (w : World) (e : Ending) (w' : World) : Prop := w = w' ∧ ∃ b, Fit b ∧ e = .returned (.float .f64 b) ∧ ((zs = [] ∧ NaN b) ∨ (b ∈ zs ∧ ∀ z ∈ zs, tk z ≤ tk b))

set_option maxHeartbeats 1000000 in
theorem greatest_any (a : Option Addr) (len cap : Nat) (zs : List Nat) (w : World) (hm : len ≤ 9223372036854775807) (hz : Flts w a len zs) :
    Calls Try.prog 52 #[.slice a len cap] w (GreatestRet zs w) := by
  obtain ⟨hlen, hfit, hz⟩ := hz
  have HL := Lib.hid hlen
  have HF := Lib.hid hfit
  by_cases h0 : len = 0
  · subst h0
    have HE : Hid (zs = []) := List.eq_nil_of_length_eq_zero hlen
    clear hlen hfit hz
    go_enter Try.func52, Try.ntmps52
    go_wp2_with fail
    refine (nan_any _).mono ?_
    rintro e w' ⟨b, hb, fb, rfl, rfl⟩
    go_wp2
    go_ret
    exact ⟨rfl, b, fb, rfl, .inl ⟨HE.out, hb⟩⟩
  · rcases hz with hz | ⟨b, off, ha, hc⟩
    · omega
    subst ha
    have hpos : 0 < len := by omega
    have hposz : (0 : Int) < (len : Int) := by omega
    have h0b : ((len : Int) == 0) = false := by simp; omega
    have g0 := hc 0 hpos
    rw [Nat.add_zero] at g0
    have hmem : ∀ k, k < len → zs.getD k 0 ∈ zs := fun k hk => by
      have hk' : k < zs.length := by rw [hlen]; exact hk
      rw [show zs.getD k 0 = zs[k] by simp [hk']]; exact List.getElem_mem hk'
    have HM : Hid (∀ k, k < len → zs.getD k 0 ∈ zs) := hmem
    have HCC : Hid (∀ j, j < len → w.cell? ⟨b, off + j, none⟩ = some (.float .f64 (zs.getD j 0))) := hc
    clear hlen hfit hmem hc
    generalize hX0 : zs.getD 0 0 = x0 at g0
    have HX0 := Lib.hid hX0
    clear hX0
    go_enter Try.func52, Try.ntmps52
    go_wp2
    go_loopw [3, 15] (fun t i wx => ∃ (k s : Nat), wx = w ∧ k ≤ len ∧ Hid (GreatestAt zs k s) ∧ t = .float .f64 s ∧ i = .int .i64 (k : Int)) (fun _ i _ => len - (intOf i).toNat)
    case atStart => exact ⟨0, x0, rfl, by omega, ⟨by rw [← HX0.out]; exact HM.out 0 hpos, fun z hz => by simp at hz⟩, rfl, rfl⟩
    case round =>
      obtain ⟨k, s, rfl, hk, hM, rfl, rfl⟩ := hrel
      by_cases hlt : k < len
      · have hltz : (k : Int) < (len : Int) := by omega
        have gx := HCC.out k hlt
        have hmx := HM.out k hlt
        generalize hX : zs.getD k 0 = x at gx hmx
        have HX := Lib.hid hX
        have fx := HF.out x hmx
        have fs := HF.out s hM.out.mem
        have HMX := Lib.hid hmx
        clear hX hmx
        rcases Int.lt_trichotomy (tk x) (tk s) with h | h | h
        · have hc3 := cmp3_lt h
          have HM2 : Hid (GreatestAt zs (k + 1) s) := hM.out.snoc (by rw [HL.out]; exact hlt) HX.out hM.out.mem (by omega) (by omega)
          clear h
          go_wp2_with fail
          refine (order_any x s fx fs _).mono ?_
          rw [hc3]
          rintro e w' ⟨rfl, rfl⟩
          go_wp2
          go_roundw
          case rel => exact ⟨k + 1, s, by first | rfl | trivial, by omega, HM2, rfl, by go_num⟩
          case measure => simp [intOf]; omega
        · have hc3 := cmp3_eq h
          have HM2 : Hid (GreatestAt zs (k + 1) x) := hM.out.snoc (by rw [HL.out]; exact hlt) HX.out HMX.out (by omega) (by omega)
          clear h
          go_wp2_with fail
          refine (order_any x s fx fs _).mono ?_
          rw [hc3]
          rintro e w' ⟨rfl, rfl⟩
          go_wp2
          go_roundw
          case rel => exact ⟨k + 1, x, by first | rfl | trivial, by omega, HM2, rfl, by go_num⟩
          case measure => simp [intOf]; omega
        · have hc3 := cmp3_gt h
          have HM2 : Hid (GreatestAt zs (k + 1) x) := hM.out.snoc (by rw [HL.out]; exact hlt) HX.out HMX.out (by omega) (by omega)
          clear h
          go_wp2_with fail
          refine (order_any x s fx fs _).mono ?_
          rw [hc3]
          rintro e w' ⟨rfl, rfl⟩
          go_wp2
          go_roundw
          case rel => exact ⟨k + 1, x, by first | rfl | trivial, by omega, HM2, rfl, by go_num⟩
          case measure => simp [intOf]; omega
      · have hltz : ¬ (k : Int) < (len : Int) := by omega
        have hkl : k = len := by omega
        subst hkl
        have fs := HF.out s hM.out.mem
        have HA : Hid (∀ z ∈ zs, tk z ≤ tk s) := by
          have h := hM.out.all
          rwa [List.take_of_length_le (by rw [HL.out]; exact Nat.le_refl _)] at h
        go_wp2
        go_ret
        exact ⟨rfl, s, fs, rfl, .inr ⟨hM.out.mem, HA.out⟩⟩

end Go.Proofs.Ytmhfbgcfagfmbaa
