/- TopHomes, walked, at every argument; pages to be written, opened. -/
import Derived.Test.YtplngodilalbhaaH6
namespace Go.Proofs.Ytplngodilalbhaa
open Go.RowKit Go.Shelf
set_option maxRecDepth 100000 in
set_option maxHeartbeats 1000000 in
theorem homes_far (nb : UInt8) (m : Nat) (hm : nb.toNat % 20 + 1 = m) (a1 : Option Addr) (n1 c1 : Nat) (step : Int) (ka : Option Addr) (kn kc : Nat) (w : World) (hn1 : 60 < n1) :
    Calls Try.prog 9 #[.int .u8 (nb.toNat : Int), .slice a1 n1 c1, .int .i64 step, .slice ka kn kc] w fun e w' => e = .returned (.bool true) ∧ Below w.heap.size w w' := by
  have hnb : nb.toNat < 256 := nb.toNat_lt
  have HM := Lib.hid hm
  have hm1 : 1 ≤ m := by omega
  have hm2 : m ≤ 20 := by omega
  clear hm
  go_enter Try.func9, Try.ntmps9
  go_wp2_with fail
  refine (begins3_any _).mono ?_
  rintro e w1 ⟨rfl, B⟩
  go_wp2_with fail
  have hmi : ((nb.toNat : Int) % 20 + 1) = (m : Int) := by have := HM.out; omega
  rw [hmi]
  clear hmi
  refine (new_ok (K := fun _ => False) m _ hm1 (by omega) _ rfl (fun k hk => hk.elim)).mono ?_
  rintro e w2 ⟨d, sb, rfl, _, B2⟩
  go_wp2_with fail
  go_ret
  exact ⟨rfl, below_to B B2⟩
theorem topHomes_walk {w : World} (n : Nat) (hn : n < 256) (a1 : Option Addr) (n1 c1 : Nat) (l1 : List HomeR) (_ : n1 ≤ maxLen) (hA1 : Homes (fun k => k < w.heap.size) w a1 n1 l1) (step : Int) (hst : (Lit.int .i64 step).wf = true)
    (ka : Option Addr) (kn kc : Nat) (ks : List Bool) (_ : kn ≤ maxLen) (hB : Bools (fun k => k < w.heap.size) w ka kn ks) :
    Calls Try.prog 9 #[.int .u8 (n : Int), .slice a1 n1 c1, .int .i64 step, .slice ka kn kc] w fun e w' => e = .returned (.bool true) ∧ Below w.heap.size w w' := by
  have e : (n : Int) = ((UInt8.ofNat n).toNat : Int) := by simp; omega
  rw [e]
  by_cases h : 60 < n1
  · exact homes_far _ _ rfl a1 n1 c1 step ka kn kc w h
  · have b := bounds_i64 hst
    exact homes_main _ _ rfl a1 n1 c1 l1 step ka kn kc ks w (by omega) hA1 hB (by omega)
end Go.Proofs.Ytplngodilalbhaa
