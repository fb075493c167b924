/- Contracts: Unword of any string; Line of any list; Same of lists alike. -/
import Derived.Test.YtgbnmokajaehhaaDoorNI
import Derived.Test.YtgbnmokajaehhaaDoorNB
import Derived.Lib.BufferRead
namespace Go.Proofs.YtgbnmokajaehhaaDoor
open Go.RowKit Go.Sort
set_option linter.unusedVariables false
theorem nil_str (w : World) : (convert 42 9 (.slice none 0 0)).run Tryd.prog w = .ok (.string ⟨#[]⟩) w := by
  have := Lib.run_convert_nil_bytes (P := Tryd.prog) w 42 9 5 0 Tryd.underlying42 Tryd.underlying5 Tryd.underlying9
  simpa using this
set_option maxRecDepth 100000 in
theorem unescaped_nil (w : World) : Calls Tryd.prog 41 #[.string ⟨#[]⟩] w fun e w' => e = .returned (.string ⟨#[]⟩) ∧ Below w.heap.size w w' := by
  go_enter Tryd.func41, Tryd.ntmps41
  go_wp2_with fail
  go_loopw [0, 3] (fun t v wx => t = .string ⟨#[]⟩ ∧ v = .slice none 0 0 ∧ wx = w) (fun _ _ _ => 0)
  case atStart => exact ⟨rfl, rfl, rfl⟩
  case round =>
    obtain ⟨rfl, rfl, rfl⟩ := hrel
    have kn := nil_str wr
    go_wp2_with fail
    go_ret
    first | exact ⟨rfl, Below.refl _ _⟩ | exact ⟨rfl, (Below.refl _ _).drew⟩
set_option maxRecDepth 100000 in
theorem unword_nil (w : World) : Calls Tryd.prog 8 #[.string ⟨#[]⟩] w fun e w' => e = .returned (.tuple #[.string ⟨#[]⟩, .int .i64 19]) ∧ Below w.heap.size w w' := by
  go_enter Tryd.func8, Tryd.ntmps8
  go_wp2_with fail
  refine (unescaped_nil _).mono ?_
  rintro e w1 ⟨rfl, hb⟩
  go_wp2_with fail
  refine (liveD _).mono ?_
  rintro e w2 ⟨rfl, rfl⟩
  go_wp2_with fail
  go_ret2
  exact ⟨rfl, hb⟩
set_option maxRecDepth 100000 in
theorem unword_37 (w : World) : Calls Tryd.prog 8 #[.string ⟨#[37]⟩] w fun e w' => e = .returned (.tuple #[.string ⟨#[]⟩, .int .i64 0]) ∧ Below w.heap.size w w' := by
  go_enter Tryd.func8, Tryd.ntmps8
  go_wp2_with fail
  go_ret2
  exact ⟨rfl, Below.refl _ _⟩
/-- A slice that reads as these strings. -/
def Strs (w : World) (a : Option Addr) (n : Nat) (ps : List ByteArray) : Prop :=
  ps.length = n ∧ (n = 0 ∨ ∃ b off, a = some ⟨b, off, none⟩ ∧ b < w.heap.size ∧ ∀ j, j < n → w.cell? ⟨b, off + j, none⟩ = some (.string (ps.getD j ByteArray.empty)))
theorem Strs.below {w w1 : World} {a : Option Addr} {n : Nat} {ps : List ByteArray} (h : Strs w a n ps) (B : Below w.heap.size w w1) : Strs w1 a n ps := by
  refine ⟨h.1, ?_⟩
  rcases h.2 with h0 | ⟨b, off, ha, hb, hc⟩
  · exact .inl h0
  · exact .inr ⟨b, off, ha, Nat.lt_of_lt_of_le hb B.size, fun j hj => (B.cell (p := ⟨b, off + j, none⟩) hb).trans (hc j hj)⟩
theorem line_any (a : Option Addr) (n c : Nat) (ps : List ByteArray) (w : World) (hS : Strs w a n ps) (hn : 0 < n) (hc : n ≤ c) (hlen : (ps.map (·.data.toList.length)).sum + ps.length ≤ 2097152) :
    Calls Tryd.prog 16 #[.slice a n c] w fun e w' => e = .returned (.string (bs (Lib.join (ps.map (·.data.toList)) [32]))) ∧ Below w.heap.size w w' := by
  obtain ⟨hl, h2⟩ := hS
  obtain ⟨b, off, rfl, hb, hcells⟩ := h2.resolve_left (by omega)
  subst hl
  have hjl := join_len (ps.map (·.data.toList))
  rw [List.map_map] at hjl
  have HJ := Lib.hid (Tryd.strings_Join b off c ps ⟨#[32]⟩ w (by
    intro j z hz
    obtain ⟨hj, rfl⟩ := List.getElem?_eq_some_iff.1 hz
    rw [hcells j hj, List.getD_eq_getElem?_getD, List.getElem?_eq_getElem hj]
    rfl) hb (by omega) hc (by
      show (Lib.join (ps.map (·.data.toList)) [32]).length ≤ _
      have : (ps.map (List.length ∘ fun x : ByteArray => x.data.toList)).sum = (ps.map (·.data.toList.length)).sum := rfl
      rw [List.length_map] at hjl
      omega))
  clear hcells hjl
  go_enter Tryd.func16, Tryd.ntmps16
  go_wp2_with fail
  refine HJ.out.mono ?_
  rintro e w' ⟨rfl, hb⟩
  go_wp2
  go_ret
  exact ⟨rfl, hb⟩
set_option maxHeartbeats 1000000 in
theorem same_strs (a b : Option Addr) (n c d : Nat) (ps : List ByteArray) (w : World) (ha : Strs w a n ps) (hb : Strs w b n ps) (hn : n ≤ 1048577) :
    Calls Tryd.prog 13 #[.slice a n c, .slice b n d] w fun e w' => e = .returned (.bool true) ∧ Below w.heap.size w w' := by
  have HA := Lib.hid ha
  have HB := Lib.hid hb
  clear ha hb
  go_enter Tryd.func13, Tryd.ntmps13
  go_wp2
  go_loopw [5] (fun i wx => ∃ k : Nat, k ≤ n ∧ Below w.heap.size w wx ∧ i = .int .i64 (k : Int)) (fun i _ => n - (intOf i).toNat)
  case atStart => exact ⟨0, by omega, Below.refl _ _, rfl⟩
  case round =>
    obtain ⟨k, hk, HW, rfl⟩ := hrel
    by_cases hlt : k < n
    · rcases (HA.out.below HW).2 with h0 | ⟨ba, oa, ea, _, hca⟩
      · omega
      rcases (HB.out.below HW).2 with h0 | ⟨bb, ob, eb, _, hcb⟩
      · omega
      subst ea eb
      have ca := hca k hlt
      have cb := hcb k hlt
      generalize ps.getD k ByteArray.empty = x at ca cb
      clear hca hcb
      go_wp2_with fail
      go_quiet (fail)
      go_wp2
      go_roundw
      case rel => exact ⟨k + 1, by omega, below_drewN HW _, by go_num⟩
      case measure => simp [intOf]; omega
    · go_wp2
      go_ret
      exact ⟨rfl, HW⟩
end Go.Proofs.YtgbnmokajaehhaaDoor
