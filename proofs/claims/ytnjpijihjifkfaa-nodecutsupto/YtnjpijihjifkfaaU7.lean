/- Contract: the reference's Cut, of a branch. -/
import Derived.Test.YtnjpijihjifkfaaU6
namespace Go.Proofs.Ytnjpijihjifkfaa
open Go.RowKit
set_option linter.unusedVariables false
section
variable {w : World} {a : Option Addr} {n c : Nat} {ka : Option Addr} {kn kc : Nat} {I : List It} {K : List Int}
set_option maxRecDepth 100000 in
set_option maxHeartbeats 4000000 in
theorem rcutBranch_any (hI : Its w a n I) (hK : Kds w ka kn K) (hn : n ≤ 4096) (hk : kn = n + 1) (hn2 : 2 ≤ n) (hnc : n ≤ c) (hkc : kn ≤ kc) (hS : Short I) (x : Nat) (hx : halfN false I = x) :
    Calls Try.prog 23 #[.agg #[.slice a n c, .slice ka kn kc]] w (RCutRet w (I.take x) (K.take (x + 1)) (kq I x) (I.drop (x + 1)) (K.drop (x + 1))) := by
  have hh := halfN_at false I
  rw [hx] at hh
  have hxn : x < n := by have := hh.1; rw [hI.1] at this; omega
  have hkz : (kn == 0) = false := by rw [beq_eq_false_iff_ne]; omega
  obtain ⟨m, hm⟩ : ∃ m, n - 1 = m := ⟨_, rfl⟩
  have KP := Lib.hid (fun (w1 : World) (B : Below w.heap.size w w1) => place_any (c := c) (ka := ka) (kn := kn) (kc := kc) 0 m x (hI.below B) hn hS hkz (by omega) (by omega) (fun j hj => by omega) hx)
  obtain ⟨y, hy⟩ : ∃ y, x + 1 = y := ⟨_, rfl⟩
  obtain ⟨ca, hca⟩ : ∃ ca, cutA 2 a c y = ca := ⟨_, rfl⟩
  obtain ⟨rn, hrn⟩ : ∃ rn, n - y = rn := ⟨_, rfl⟩
  obtain ⟨rc, hrc⟩ : ∃ rc, c - y = rc := ⟨_, rfl⟩
  obtain ⟨cb, hcb⟩ : ∃ ca, cutA 1 ka kc y = ca := ⟨_, rfl⟩
  obtain ⟨sn, hsn⟩ : ∃ rn, kn - y = rn := ⟨_, rfl⟩
  obtain ⟨sc, hsc⟩ : ∃ rc, kc - y = rc := ⟨_, rfl⟩
  have q1 := fun w => run_lo22 a n c y (by omega) w
  rw [hca, hrn, hrc] at q1
  have q2 := fun w => run_lo23 ka kn kc y (by omega) w
  rw [hcb, hsn, hsc] at q2
  have K1 := Lib.hid (fun (w1 : World) (B : Below w.heap.size w w1) => And.intro ((hI.below B).take (show x ≤ n by omega)) ((hK.below B).take (show y ≤ kn by omega)))
  have K2 := Lib.hid (fun (w1 : World) (B : Below w.heap.size w w1) => by
    have h := (hI.below B).cut (show y ≤ n by omega) hnc
    have h2 := (hK.below B).cut (show y ≤ kn by omega) hkc
    rw [hca, hrn] at h
    rw [hcb, hsn] at h2
    exact And.intro h h2)
  obtain ⟨b, off, rfl, hb, e0, _⟩ := hI.at hxn
  obtain ⟨p, hp⟩ : ∃ p, kq I x = p := ⟨_, rfl⟩
  rw [hp] at e0 ⊢
  rw [hy]
  have N0 := ((Nd.new w (some ⟨b, off, none⟩) n c ka kn kc 25).below (new_below _ (.cells #[.slice none 0 0, .slice none 0 0] 25))).below (new_below _ (.cells #[.slice none 0 0, .slice none 0 0] 25))
  have N1 := (Nb.fresh (w.alloc (.cells #[.slice (some ⟨b, off, none⟩) n c, .slice ka kn kc] 25)) (.slice none 0 0) (.slice none 0 0) 25).below (new_below _ (.cells #[.slice none 0 0, .slice none 0 0] 25))
  have N2 := Nb.fresh ((w.alloc (.cells #[.slice (some ⟨b, off, none⟩) n c, .slice ka kn kc] 25)).alloc (.cells #[.slice none 0 0, .slice none 0 0] 25)) (.slice none 0 0) (.slice none 0 0) 25
  have hs1 : (w.alloc (.cells #[.slice (some ⟨b, off, none⟩) n c, .slice ka kn kc] 25)).heap.size = w.heap.size + 1 := by simp
  have hs2 : ((w.alloc (.cells #[.slice (some ⟨b, off, none⟩) n c, .slice ka kn kc] 25)).alloc (.cells #[.slice none 0 0, .slice none 0 0] 25)).heap.size = w.heap.size + 1 + 1 := by simp
  rw [hs1] at N1
  rw [hs2] at N2
  have hBB := below_to (below_to (new_below w (.cells #[.slice (some ⟨b, off, none⟩) n c, .slice ka kn kc] 25)) (new_below _ (.cells #[.slice none 0 0, .slice none 0 0] 25))) (new_below _ (.cells #[.slice none 0 0, .slice none 0 0] 25))
  have hd1 : decide ((2 : Int) < (kn : Int)) = true := decide_eq_true (by omega)
  have hkp : 0 < kn := by omega
  have hkw : IntKind.i64.wrap ((kn : Int) - 1) = (n : Int) := by rw [show (kn : Int) - 1 = (n : Int) by omega]; exact IntWalk.i64_in _ (by omega)
  have hyw : IntKind.i64.wrap ((x : Int) + 1) = (y : Int) := by rw [show (x : Int) + 1 = (y : Int) by omega]; exact IntWalk.i64_in _ (by omega)
  have hyc : y ≤ kc := by omega
  have HHK := Lib.hid hk
  have hmw : IntKind.i64.wrap ((n : Int) - 1) = (m : Int) := by rw [show (n : Int) - 1 = (m : Int) by omega]; exact IntWalk.i64_in _ (by omega)
  have hxi : (x : Int) < (n : Int) := by omega
  have hxc : x ≤ c := by omega
  clear hI hK hS hx hh hca hrn hrc hcb hsn hsc hp hs1 hs2 hm hy hk
  go_enter Try.func23, Try.ntmps23
  go_wp2_with fail
  generalize ((w.alloc (.cells #[.slice (some ⟨b, off, none⟩) n c, .slice ka kn kc] 25)).alloc (.cells #[.slice none 0 0, .slice none 0 0] 25)).alloc (.cells #[.slice none 0 0, .slice none 0 0] 25) = w1 at N0 N1 N2 hBB ⊢
  refine (KP.out _ hBB).mono ?_
  rintro e w2 ⟨rfl, hbl⟩
  replace N0 := N0.below hbl
  replace N1 := N1.below hbl
  replace N2 := N2.below hbl
  replace hBB := below_to hBB hbl
  clear hbl
  have c0 := N0.c0
  have c1 := N0.c1
  have x1 : w2.cell? ⟨b, off + x * 2, none⟩ = some (.string p) := (hBB.cell (p := ⟨b, off + x * 2, none⟩) hb).trans e0
  have y0 := N1.c0
  have y1 := N1.c1
  have z0 := N1.f0
  have z1 := N1.f1
  have y2 := N2.c0
  have y3 := N2.c1
  have z2 := N2.f0
  have z3 := N2.f1
  have hb1 : b < w.heap.size := hb
  go_upto_region 7 with (fail)
  go_region
  have HB := Lib.hid (((((hBB.setCell (p := ⟨w.heap.size + 1, 0, none⟩) (by show w.heap.size ≤ w.heap.size + 1; omega) (.slice (some ⟨b, off, none⟩) x c)).setCell (p := ⟨w.heap.size + 1, 1, none⟩) (by show w.heap.size ≤ w.heap.size + 1; omega) (.slice ka y kc)).setCell (p := ⟨w.heap.size + 1 + 1, 0, none⟩) (by show w.heap.size ≤ w.heap.size + 1 + 1; omega) (.slice ca rn rc)).setCell (p := ⟨w.heap.size + 1 + 1, 1, none⟩) (by show w.heap.size ≤ w.heap.size + 1 + 1; omega) (.slice cb sn sc)).drew)
  have M := nb_two (u' := .slice (some ⟨b, off, none⟩) x c) (v' := .slice ka y kc) (x' := .slice ca rn rc) (y' := .slice cb sn sc) N1 N2 (by omega)
  have M1 := nb_drew M.1
  have M2 := nb_drew M.2
  have m0 := M1.c0
  have m1 := M1.c1
  have m2 := M2.c0
  have m3 := M2.c1
  clear M M1 M2 N0 N1 N2 hBB c0 y0 y1 y2 y3 z0 z1 z2 z3 x1 q1 q2 c1
  go_wp2_with fail
  refine bodyPost_ret (v := .tuple #[.agg #[.slice (some ⟨b, off, none⟩) x c, .slice ka y kc], .string p, .agg #[.slice ca rn rc, .slice cb sn sc]]) (by simp [results, Try.results23, go_sem, m0, m1, m2, m3]; try rfl) rfl ?_
  exact ⟨_, _, _, _, _, _, _, _, _, _, _, _, rfl, (K1.out _ HB.out).1, (K1.out _ HB.out).2, (K2.out _ HB.out).1, (K2.out _ HB.out).2, HB.out⟩
end
end Go.Proofs.Ytnjpijihjifkfaa
