/- DiskWhole, walked: the first parts. -/
import Derived.Test.YtplngodilalbhaaDA
import Derived.Test.YtplngodilalbhaaE1
import Derived.Test.YtplngodilalbhaaOpen2
import Derived.Deep.RegionHeld3
namespace Go.Proofs.Ytplngodilalbhaa
open Go.RowKit Go.Shelf
/-- A sector of one byte. -/
def txt (c : UInt8) : ByteArray := bs (List.replicate 512 c)
theorem txt_size (c : UInt8) : (txt c).size = 512 := by
  show (List.replicate 512 c).toArray.size = 512
  rw [List.size_toArray, List.length_replicate]
theorem txt_any (c : UInt8) (w : World) : Calls Try.prog 35 #[.int .u8 (c.toNat : Int)] w fun e w' => e = .returned (.string (txt c)) ∧ Below w.heap.size w w' := text_any c w
set_option maxRecDepth 100000 in
set_option maxHeartbeats 2000000 in
theorem whole_far (n : Int) (a1 a2 : Option Addr) (n1 c1 n2 c2 : Nat) (step : Int) (ka : Option Addr) (kn kc : Nat) (w : World) (h : n < 1 ∨ 60 < n ∨ 40 < n1 ∨ 40 < n2) :
    Calls Try.prog 7 #[.int .i64 n, .slice a1 n1 c1, .slice a2 n2 c2, .int .i64 step, .slice ka kn kc] w fun e w' => e = .returned (.bool true) ∧ Below w.heap.size w w' := by
  by_cases hbad : n < 1 ∨ 4865 < n
  · have HB := Lib.hid hbad
    clear hbad h
    go_enter Try.func7, Try.ntmps7
    go_wp2_with fail
    refine (lives7 _).mono ?_
    rintro e w1 ⟨rfl, B⟩
    go_wp2_with fail
    refine (new_bad n _ HB.out).mono ?_
    rintro e w2 ⟨rfl, rfl⟩
    go_wp2_with fail
    go_ret
    exact ⟨rfl, B⟩
  · obtain ⟨m, rfl⟩ : ∃ m : Nat, n = m := ⟨n.toNat, by omega⟩
    have hm1 : 1 ≤ m := by omega
    have hm2 : m ≤ 4865 := by omega
    have hc : 60 < m ∨ (m ≤ 60 ∧ 40 < n1) ∨ (m ≤ 60 ∧ n1 ≤ 40 ∧ 40 < n2) := by omega
    clear h hbad
    rcases hc with h1 | ⟨h0, h1⟩ | ⟨h0, h1, h2⟩
    all_goals
      go_enter Try.func7, Try.ntmps7
      go_wp2_with fail
      refine (lives7 _).mono ?_
      rintro e w1 ⟨rfl, B⟩
      go_wp2_with fail
      refine (new_ok (K := fun _ => False) m _ hm1 hm2 _ rfl (fun k hk => hk.elim)).mono ?_
      rintro e w2 ⟨d, sb, rfl, _, B2⟩
      go_wp2_with fail
      go_ret
      exact ⟨rfl, below_to B B2⟩
end Go.Proofs.Ytplngodilalbhaa
