/- The walk of TallySums. -/
import Derived.Test.YtmhfbgcfagfmbaaTB
import Derived.Test.YtmhfbgcfagfmbaaTH
namespace Go.Proofs.Ytmhfbgcfagfmbaa.tallySums
open Go.RowKit

theorem _root_.Go.Proofs.Ytmhfbgcfagfmbaa.Ints.later {w w2 : World} {a : Option Addr} {len : Nat} {zs : List Int} (h : Ints w a len zs) (B : Below w.heap.size w w2) : Ints w2 a len zs := by
  refine ⟨h.1, ?_⟩
  rcases h.2 with h | ⟨b, off, rfl, hc⟩
  · exact .inl h
  · exact .inr ⟨b, off, rfl, fun j hj => cell_keep' B (hc j hj)⟩
theorem _root_.Go.Proofs.Ytmhfbgcfagfmbaa.Cnts.later {w w2 : World} {a : Option Addr} {len : Nat} {zs : List (Int × Int)} (h : Cnts w a len zs) (B : Below w.heap.size w w2) : Cnts w2 a len zs := by
  refine ⟨h.1, ?_⟩
  rcases h.2 with h | ⟨b, off, rfl, hc⟩
  · exact .inl h
  · exact .inr ⟨b, off, rfl, fun j hj => ⟨cell_keep' B (hc j hj).1, cell_keep' B (hc j hj).2⟩⟩

set_option maxHeartbeats 1000000 in
theorem walk (w : World) (a : Option Addr) (len cap : Nat) (zs : List Int) (hm : len ≤ 9223372036854775807) (hz : Ints w a len zs) (a' : Option Addr) (len' cap' : Nat) (cs : List (Int × Int)) (hm' : len' ≤ 9223372036854775807) (hc' : Cnts w a' len' cs) :
    Calls Try.prog 4 #[.slice a len cap, .slice a' len' cap'] w fun e w' => e = .returned (.bool true) ∧ Below w.heap.size w w' := by
  obtain ⟨⟨s, s'⟩, hs⟩ : ∃ R, R = sumF zs := ⟨_, rfl⟩
  obtain ⟨⟨⟨p, q⟩, r⟩, ht⟩ : ∃ R, R = totF cs := ⟨_, rfl⟩
  have HS := Lib.hid hs.symm
  have HT := Lib.hid ht.symm
  clear hs ht
  go_enter Try.func4, Try.ntmps4
  go_wp2_with fail
  refine (sum_any a len cap zs _ hm hz).mono ?_
  rintro e w1 ⟨rfl, rfl⟩
  rw [HS.out]; unfold two; dsimp only
  go_wp2_with fail
  refine (rsum_any a len cap zs _ hm hz).mono ?_
  rintro e w1 ⟨rfl, rfl⟩
  rw [HS.out]; unfold two; dsimp only
  go_wp2_with fail
  refine (total_any a' len' cap' cs _ hm' hc').mono ?_
  rintro e w1 ⟨rfl, B1⟩
  rw [HT.out]; unfold three; dsimp only
  have hc1 := (hc'.later B1).later (below1 (a := .cells #[.int .i64 p, .int .i64 q] 33))
  have A := Has.new w1 w1.heap.size 33 p q rfl
  go_wp2_with fail
  refine (rtotal_any a' len' cap' cs _ hm' hc1).mono ?_
  rintro e w2 ⟨rfl, b2⟩
  rw [HT.out]; unfold three; dsimp only
  replace A := A.later b2
  have B2 := (B1.alloc B1.size (.cells #[.int .i64 p, .int .i64 q] 33)).trans (b2.mono (by have := B1.size; simp; omega))
  clear b2 B1 hc1
  replace A := A.alloc (.cells #[.int .i64 p, .int .i64 q] 33)
  have C := Has.new w2 w2.heap.size 33 p q rfl
  go_wp2_with fail
  refine (lives1_any _).mono ?_
  rintro e w3 ⟨rfl, b3⟩
  replace A := A.later b3
  replace C := C.later b3
  have B3 := (B2.alloc B2.size (.cells #[.int .i64 p, .int .i64 q] 33)).trans (b3.mono (by have := B2.size; simp; omega))
  clear b3 B2
  have a0 := A.c0
  have a1 := A.c1
  have c0 := C.c0
  have c1 := C.c1
  go_wp2
  go_ret
  exact ⟨rfl, B3⟩

theorem tallySums_walk {w : World} (a : Option Addr) (len cap : Nat) (zs : List Int) (hm : len ≤ 9223372036854775807) (hz : Ints w a len zs) (a' : Option Addr) (len' cap' : Nat) (cs : List (Int × Int)) (hm' : len' ≤ 9223372036854775807) (hc' : Cnts w a' len' cs) :
    Calls Try.prog 4 #[.slice a len cap, .slice a' len' cap'] w fun e w' => e = .returned (.bool true) ∧ Below w.heap.size w w' :=
  walk w a len cap zs hm hz a' len' cap' cs hm' hc'
end Go.Proofs.Ytmhfbgcfagfmbaa.tallySums
