/- Contract: two lists of strings are the same. -/
import Derived.Test.YtgbnmokajaehhaaOA
namespace Go.Proofs.Ytgbnmokajaehhaa
open Go.RowKit
/-- A slice that reads as these strings. -/
def Strs (w : World) (a : Option Addr) (n : Nat) (ps : List ByteArray) : Prop :=
  ps.length = n ∧ (n = 0 ∨ ∃ b off, a = some ⟨b, off, none⟩ ∧ ∀ j, j < n → w.cell? ⟨b, off + j, none⟩ = some (.string (ps.getD j ByteArray.empty)))
theorem Strs.below {w w1 : World} {a : Option Addr} {n : Nat} {ps : List ByteArray} (h : Strs w a n ps) (B : Below w.heap.size w w1) : Strs w1 a n ps := by
  refine ⟨h.1, ?_⟩
  rcases h.2 with h0 | ⟨b, off, ha, hc⟩
  · exact .inl h0
  · exact .inr ⟨b, off, ha, fun j hj => (B.cell (p := ⟨b, off + j, none⟩) (World.block_lt_of_cell? w _ (hc j hj))).trans (hc j hj)⟩
theorem StrRow.strs {w0 wx : World} {ps : List ByteArray} {v : Value} (h : StrRow w0 ps v wx) : ∃ a cap, v = .slice a ps.length cap ∧ ps.length ≤ cap ∧ Strs wx a ps.length ps := by
  obtain ⟨_, ⟨hv, h0⟩ | ⟨g, cap, cur, hv, hb, hg, hle, hm, hsz, htake⟩⟩ := h.own
  · exact ⟨none, 0, by rw [hv, h0], by omega, rfl, .inl h0⟩
  · refine ⟨some ⟨g, 0, none⟩, cap, hv, hle, rfl, .inr ⟨g, 0, rfl, fun j hj => ?_⟩⟩
    rw [Nat.zero_add, cell_of_row _ _ j _ _ _ hg, ← Array.getElem?_toList]
    have h1 : cur.toList[j]? = (cur.toList.take (ps.length * 1))[j]? := by rw [List.getElem?_take, if_pos (by omega)]
    rw [h1, htake]
    simp [hj]
set_option maxHeartbeats 1000000 in
theorem same_true (a b : Option Addr) (n c d : Nat) (ps : List ByteArray) (w : World) (ha : Strs w a n ps) (hb : Strs w b n ps) (hn : n ≤ 1048577) :
    Calls Try.prog 23 #[.slice a n c, .slice b n d] w fun e w' => e = .returned (.bool true) ∧ ∃ k, w' = w.drewN k := by
  go_enter Try.func23, Try.ntmps23
  go_wp2
  go_loopw [5] (fun i wx => ∃ k j : Nat, k ≤ n ∧ wx = w.drewN j ∧ i = .int .i64 (k : Int)) (fun i _ => n - (intOf i).toNat)
  case atStart => exact ⟨0, 0, by omega, rfl, rfl⟩
  case round =>
    obtain ⟨k, j, hk, rfl, rfl⟩ := hrel
    by_cases hlt : k < n
    · rcases ha.2 with h0 | ⟨ba, oa, rfl, hca⟩
      · omega
      rcases hb.2 with h0 | ⟨bb, ob, rfl, hcb⟩
      · omega
      have ca := hca k hlt
      have cb := hcb k hlt
      generalize ps.getD k ByteArray.empty = x at ca cb
      clear hca hcb ha hb
      go_wp2_with fail
      go_quiet (fail)
      go_wp2
      go_roundw
      case rel => exact ⟨k + 1, _, by omega, rfl, by go_num⟩
      case measure => simp [intOf]; omega
    · go_wp2
      go_ret
      exact ⟨rfl, _, rfl⟩
end Go.Proofs.Ytgbnmokajaehhaa
