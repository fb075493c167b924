/- Contract: the reference's SameList, at lists that are alike place by place. -/
import Derived.Test.YtmhfbgcfagfmbaaFF
import Derived.Test.YtmhfbgcfagfmbaaTH
namespace Go.Proofs.Ytmhfbgcfagfmbaa
open Go.RowKit

theorem keep2 {W W' : World} (hb : Below W.heap.size W W') {p0 p1 : Addr} {v0 v1 : Value} (h : W.cell? p0 = some v0 ∧ W.cell? p1 = some v1) : W'.cell? p0 = some v0 ∧ W'.cell? p1 = some v1 :=
  ⟨cell_keep' hb h.1, cell_keep' hb h.2⟩

set_option maxHeartbeats 2000000 in
theorem sameList_any (a a' : Option Addr) (len cap cap' : Nat) (zs ys : List Nat) (w : World) (hm : len ≤ 9223372036854775807) (hz : Flts w a len zs) (hy : Flts w a' len ys) (heq : ∀ j, j < len → tk (zs.getD j 0) = tk (ys.getD j 0)) :
    Calls Try.prog 48 #[.slice a len cap, .slice a' len cap'] w fun e w' => e = .returned (.bool true) ∧ Below w.heap.size w w' := by
  have HZ : Hid (Flts w a len zs) := hz
  have HY : Hid (Flts w a' len ys) := hy
  have HE : Hid (∀ j, j < len → tk (zs.getD j 0) = tk (ys.getD j 0)) := heq
  clear hz hy heq
  go_enter Try.func48, Try.ntmps48
  go_wp2
  go_loopw [5] (fun i wx => ∃ (k : Nat), k ≤ len ∧ Below w.heap.size w wx ∧ i = .int .i64 (k : Int)) (fun i _ => len - (intOf i).toNat)
  case atStart => exact ⟨0, by omega, Below.refl _ _, rfl⟩
  case round =>
    obtain ⟨k, hk, hB, rfl⟩ := hrel
    by_cases hlt : k < len
    · have hltz : (k : Int) < (len : Int) := by omega
      have Z2 := HZ.out.later hB
      have Y2 := HY.out.later hB
      rcases Z2.2.2 with h | ⟨b, off, ha, hc⟩
      · omega
      rcases Y2.2.2 with h | ⟨b', off', ha', hc'⟩
      · omega
      subst ha
      subst ha'
      have gx := hc k hlt
      have gy := hc' k hlt
      have fx : Fit (zs.getD k 0) := by
        have hk' : k < zs.length := by rw [Z2.1]; exact hlt
        rw [show zs.getD k 0 = zs[k] by simp [hk']]; exact Z2.2.1 _ (List.getElem_mem hk')
      have fy : Fit (ys.getD k 0) := by
        have hk' : k < ys.length := by rw [Y2.1]; exact hlt
        rw [show ys.getD k 0 = ys[k] by simp [hk']]; exact Y2.2.1 _ (List.getElem_mem hk')
      have he := HE.out k hlt
      clear hc hc' Z2 Y2
      generalize zs.getD k 0 = x at gx fx he
      generalize ys.getD k 0 = y at gy fy he
      have HS : Hid (decide (tk x = tk y) = true) := decide_eq_true he
      clear he
      go_wp2_with fail
      go_region_held3 (fun w' => w'.cell? ⟨b, off + k, none⟩ = some (.float .f64 x) ∧ w'.cell? ⟨b', off' + k, none⟩ = some (.float .f64 y))
        (first | exact ⟨gx, gy⟩ | exact keep2 hb (by assumption))
        ((go_at_call 36; refine (same_any x y fx fy _).mono ?_; rintro e w2 ⟨rfl, hb⟩; rw [HS.out]))
      have hB2 : Below w.heap.size w w2 := hB.trans ((((Below.refl _ wr).drew).trans hb).mono hB.size)
      clear hb gx gy hB
      go_wp2
      go_roundw
      case rel => exact ⟨k + 1, by omega, hB2, by go_num⟩
      case measure => simp [intOf]; omega
    · have hltz : ¬ (k : Int) < (len : Int) := by omega
      go_wp2
      go_ret
      exact ⟨rfl, hB⟩

end Go.Proofs.Ytmhfbgcfagfmbaa
