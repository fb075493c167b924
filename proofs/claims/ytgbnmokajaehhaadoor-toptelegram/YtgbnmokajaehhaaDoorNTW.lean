/- TopTelegram, walked for any lengths. -/
import Derived.Test.YtgbnmokajaehhaaDoorNT
namespace Go.Proofs.YtgbnmokajaehhaaDoor
open Go.RowKit Go.Sort
set_option maxRecDepth 100000 in
theorem telegram_walk (a : Option Addr) (len cap : Nat) (ps : List ByteArray) (c : Option Addr) (len2 cap2 : Nat) (ns : List Nat) (w : World) (hE : Env w) (hl : len ≤ 9223372036854775807) (hl2 : len2 ≤ 9223372036854775807)
    (hz : Strs w a len ps) (hn : Nums w c len2 ns) :
    Calls Tryd.prog 6 #[.slice a len cap, .slice c len2 cap2] w fun e w' => e = .returned (.bool true) ∧ Below w.heap.size w w' := by
  by_cases h1 : len ≤ 20
  · by_cases h2 : len2 ≤ 20
    · exact telegram_main a len cap ps c len2 cap2 ns w hE h1 h2 hz hn
    · clear hz hn
      go_enter Tryd.func6, Tryd.ntmps6
      go_wp2_with fail
      refine (te_begins _).mono ?_
      rintro e w1 ⟨rfl, B1⟩
      go_wp2_with fail
      go_ret
      exact ⟨rfl, B1⟩
  · clear hz hn
    go_enter Tryd.func6, Tryd.ntmps6
    go_wp2_with fail
    refine (te_begins _).mono ?_
    rintro e w1 ⟨rfl, B1⟩
    go_wp2_with fail
    go_ret
    exact ⟨rfl, B1⟩
end Go.Proofs.YtgbnmokajaehhaaDoor
