/- Plain: what lives asks. -/
import Derived.Test.YtnjpijihjifkfaaTN
namespace Go.Proofs.Ytnjpijihjifkfaa
open Go.RowKit
set_option linter.unusedVariables false
def L0 : List It := [(⟨#[97]⟩, ⟨#[120, 121]⟩), (⟨#[99]⟩, ⟨#[]⟩)]
def B0 : List It := [(⟨#[109]⟩, ⟨#[]⟩)]
def P0 : List It := [(⟨#[97]⟩, ⟨#[120, 121]⟩), (⟨#[98]⟩, ⟨#[49]⟩), (⟨#[99]⟩, ⟨#[]⟩)]
theorem right_L0 : RightP L0 [] := by decide
theorem right_B0 : RightP B0 [2, 258] := by decide
theorem right_P0 : RightP P0 [] := by decide
theorem right_nil : ¬ RightP [] [] := by decide
theorem find_L0 : findN true L0 ⟨#[98]⟩ = (1, false) := by decide
theorem find_B0 : findN false B0 ⟨#[109]⟩ = (1, true) := by decide
theorem put_P0 : putL L0 (⟨#[98]⟩, ⟨#[49]⟩) = P0 := by decide
theorem half_P0 : halfN true P0 = 1 ∨ halfN true P0 = 2 := by decide
theorem size_L0 : sizeN true L0 = 10 := by decide
theorem size_B0 : sizeN false B0 = 8 := by decide
theorem rise_L0 : RiseTo L0 L0.length := by decide
theorem rise_B0 : RiseTo B0 B0.length := by decide
theorem encT_L0 : encT L0 [] = [1, 2, 1, 97, 2, 120, 121, 1, 99, 0] := by decide
theorem encT_B0 : encT B0 [2, 258] = [2, 2, 0, 2, 1, 109, 1, 2] := by decide
theorem short_of {I : List It} (h : (I.all fun x => decide (x.1.size ≤ 140737488355328) && decide (x.2.size ≤ 140737488355328)) = true) : Short I := by
  intro x hx
  rw [List.all_eq_true] at h
  simpa using h x hx
theorem short_L0 : Short L0 := short_of (by decide)
theorem short_B0 : Short B0 := short_of (by decide)
theorem short_P0 : Short P0 := short_of (by decide)
theorem len_enc {I : List It} {K : List Int} (h : (encT I K).length ≤ 480) : (bs (encF I K)).size = 480 := by
  show (encF I K).toArray.size = 480
  unfold encF; simp; omega
theorem enc_L0 : (bs (encF L0 [])).extract 0 11 = ⟨#[1, 2, 1, 97, 2, 120, 121, 1, 99, 0, 0]⟩ := by kernel_rfl
theorem enc_B0 : (bs (encF B0 [2, 258])).extract 0 9 = ⟨#[2, 2, 0, 2, 1, 109, 1, 2, 0]⟩ := by kernel_rfl
/-- A node in a block of memory, and what it holds. -/
structure NodeAt (w : World) (g : Nat) (a : Option Addr) (n c : Nat) (ka : Option Addr) (kn kc : Nat) (L : List It) (K : List Int) : Prop where
  nd : Nd w g a n c ka kn kc
  its : Its w a n L
  kds : Kds w ka kn K
theorem NodeAt.below {w w1 : World} {g : Nat} {a : Option Addr} {n c : Nat} {ka : Option Addr} {kn kc : Nat} {L : List It} {K : List Int} (h : NodeAt w g a n c ka kn kc L K) (B : Below w.heap.size w w1) : NodeAt w1 g a n c ka kn kc L K :=
  ⟨h.nd.below B, h.its.below B, h.kds.below B⟩
theorem NodeAt.new {w : World} {a : Option Addr} {n c : Nat} {ka : Option Addr} {kn kc : Nat} {L : List It} {K : List Int} (h1 : Its w a n L) (h2 : Kds w ka kn K) (T : TypeId) : NodeAt (w.alloc (.cells #[.slice a n c, .slice ka kn kc] T)) w.heap.size a n c ka kn kc L K :=
  ⟨Nd.new w a n c ka kn kc T, h1.below (new_below _ _), h2.below (new_below _ _)⟩
end Go.Proofs.Ytnjpijihjifkfaa
