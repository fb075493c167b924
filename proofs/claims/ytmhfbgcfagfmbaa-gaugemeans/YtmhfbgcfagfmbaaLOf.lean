/- The walk of GaugeOf. -/
import Derived.Test.YtmhfbgcfagfmbaaFG
namespace Go.Proofs.Ytmhfbgcfagfmbaa
theorem fit_of_wf {x : Nat} (h : (Lit.float .f64 x).wf = true) : Fit x := by simpa [Lit.wf, Fit] using h
end Go.Proofs.Ytmhfbgcfagfmbaa
namespace Go.Proofs.Ytmhfbgcfagfmbaa.gaugeOf
open Go.RowKit

set_option maxHeartbeats 1000000 in
theorem gaugeOf_walk (u : Int) (_ : (Lit.int .i64 u).wf = true) (l : Int) (_ : (Lit.int .i64 l).wf = true) (x : Nat) (wx : (Lit.float .f64 x).wf = true) (y : Nat) (wy : (Lit.float .f64 y).wf = true) (k : Int) (_ : (Lit.int .i64 k).wf = true) (w : World) :
    Calls Try.prog 8 #[.int .i64 u, .int .i64 l, .float .f64 x, .float .f64 y, .int .i64 k] w fun e w' => e = .returned (.bool true) ∧ Below w.heap.size w w' := by
  have hx := fit_of_wf wx
  have hy := fit_of_wf wy
  clear wx wy
  go_enter Try.func8, Try.ntmps8
  go_wp2_with fail
  refine (lives2_any _).mono ?_
  rintro e w1 ⟨rfl, B1⟩
  go_wp2_with fail
  refine (of_any u l _).mono ?_
  rintro e w2 ⟨b, hb, fb, rfl, c⟩
  have B2 := B1.trans (c.mono B1.size)
  clear c B1
  go_wp2_with fail
  refine (rof_any u l _).mono ?_
  rintro e w3 ⟨b', hb', fb', rfl, c⟩
  have B3 := B2.trans (c.mono B2.size)
  clear c B2
  have HT : Hid (tk b = tk b') := Lib.hid (by
    by_cases hl : l < 0
    · rw [hb.neg hl, hb'.neg hl]
    · exact ((hb.ar hl).alik (hb'.ar hl)).tk fb fb')
  clear hb hb'
  go_wp2_with fail
  refine (same_any b b' fb fb' _).mono ?_
  rintro e w4 ⟨rfl, c⟩
  have B4 := B3.trans (c.mono B3.size)
  clear c B3
  rw [decide_eq_true HT.out]
  go_wp2_with fail
  refine (kind_any x hx _).mono ?_
  rintro e w5 ⟨rfl, rfl⟩
  go_wp2_with fail
  refine (rkind_any x hx _).mono ?_
  rintro e w5 ⟨rfl, c⟩
  have B5 := B4.trans (c.mono B4.size)
  clear c B4
  go_wp2_with fail
  refine (permille_any x hx _).mono ?_
  rintro e w6 ⟨rfl, rfl⟩
  go_wp2_with fail
  refine (rpermille_any x hx _).mono ?_
  rintro e w6 ⟨rfl, c⟩
  have B6 := B5.trans (c.mono B5.size)
  clear c B5
  go_wp2_with fail
  refine (blend_any x y k hx hy _).mono ?_
  rintro e w7 ⟨d, hd, fd, rfl, c⟩
  have B7 := B6.trans (c.mono B6.size)
  clear c B6
  go_wp2_with fail
  refine (rblend_any x y k hx hy _).mono ?_
  rintro e w8 ⟨d', hd', fd', rfl, c⟩
  have B8 := B7.trans (c.mono B7.size)
  clear c B7
  have HD : Hid (tk d = tk d') := Lib.hid (hd.tk_eq hd')
  clear hd hd'
  go_wp2_with fail
  refine (same_any d d' fd fd' _).mono ?_
  rintro e w9 ⟨rfl, c⟩
  have B9 := B8.trans (c.mono B8.size)
  clear c B8
  rw [decide_eq_true HD.out]
  go_wp2
  go_ret
  exact ⟨rfl, B9⟩
end Go.Proofs.Ytmhfbgcfagfmbaa.gaugeOf
