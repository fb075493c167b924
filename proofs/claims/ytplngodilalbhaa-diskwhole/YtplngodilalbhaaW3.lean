/- DiskWhole, walked, at every argument. -/
import Derived.Test.YtplngodilalbhaaW2
namespace Go.Proofs.Ytplngodilalbhaa
open Go.RowKit Go.Shelf
theorem diskWhole_walk {w : World} (n : Int) (_ : (Lit.int .i64 n).wf = true) (a1 : Option Addr) (n1 c1 : Nat) (l1 : List ActR) (_ : n1 ≤ maxLen) (hA1 : Acts (fun k => k < w.heap.size) w a1 n1 l1) (a2 : Option Addr) (n2 c2 : Nat) (l2 : List ActR) (_ : n2 ≤ maxLen) (hA2 : Acts (fun k => k < w.heap.size) w a2 n2 l2)
    (step : Int) (hst : (Lit.int .i64 step).wf = true) (ka : Option Addr) (kn kc : Nat) (ks : List Bool) (_ : kn ≤ maxLen) (hB : Bools (fun k => k < w.heap.size) w ka kn ks) :
    Calls Try.prog 7 #[.int .i64 n, .slice a1 n1 c1, .slice a2 n2 c2, .int .i64 step, .slice ka kn kc] w fun e w' => e = .returned (.bool true) ∧ Below w.heap.size w w' := by
  by_cases h : n < 1 ∨ 60 < n ∨ 40 < n1 ∨ 40 < n2
  · exact whole_far n a1 a2 n1 c1 n2 c2 step ka kn kc w h
  · obtain ⟨m, rfl⟩ : ∃ m : Nat, n = m := ⟨n.toNat, by omega⟩
    have b := bounds_i64 hst
    exact whole_main m a1 a2 n1 c1 n2 c2 l1 l2 step ka kn kc ks w (by omega) (by omega) (by omega) (by omega) hA1 hA2 hB (by omega)
end Go.Proofs.Ytplngodilalbhaa
