/- Contracts: the reference's Cut; Cut where nothing is cut. -/
import Derived.Test.YtnjpijihjifkfaaU5
import Derived.RegionTactic
import Derived.BigRegion
namespace Go.Proofs.Ytnjpijihjifkfaa
open Go.RowKit
set_option linter.unusedVariables false
/-- Two nodes and the key between them are answered, in whatever memory. -/
def RCutRet (w : World) (L1 : List It) (K1 : List Int) (key : ByteArray) (L2 : List It) (K2 : List Int) (e : Ending) (w' : World) : Prop :=
  ∃ a n c ka kn kc a2 n2 c2 ka2 kn2 kc2, e = .returned (.tuple #[.agg #[.slice a n c, .slice ka kn kc], .string key, .agg #[.slice a2 n2 c2, .slice ka2 kn2 kc2]]) ∧
    Its w' a n L1 ∧ Kds w' ka kn K1 ∧ Its w' a2 n2 L2 ∧ Kds w' ka2 kn2 K2 ∧ Below w.heap.size w w'
theorem nb_two {w : World} {g h : Nat} {u v x y u' v' x' y' : Value} (N1 : Nb w g u v) (N2 : Nb w h x y) (hne : g ≠ h) :
    Nb ((((w.setCell ⟨g, 0, none⟩ u').setCell ⟨g, 1, none⟩ v').setCell ⟨h, 0, none⟩ x').setCell ⟨h, 1, none⟩ y') g u' v' ∧ Nb ((((w.setCell ⟨g, 0, none⟩ u').setCell ⟨g, 1, none⟩ v').setCell ⟨h, 0, none⟩ x').setCell ⟨h, 1, none⟩ y') h x' y' :=
  ⟨(((N1.set0 u').set1 v').set_far (k := h) (o := 0) x' hne.symm).set_far (k := h) (o := 1) y' hne.symm, (((N2.set_far (k := g) (o := 0) u' hne).set_far (k := g) (o := 1) v' hne).set0 x').set1 y'⟩
section
variable {w : World} {a : Option Addr} {n c : Nat} {ka : Option Addr} {kn kc : Nat} {I : List It} {K : List Int}
set_option maxRecDepth 100000 in
set_option maxHeartbeats 4000000 in
theorem rcutLeaf_any (hI : Its w a n I) (hn : n ≤ 4096) (hn2 : 2 ≤ n) (hnc : n ≤ c) (hS : Short I) (x : Nat) (hx : halfN true I = x) :
    Calls Try.prog 23 #[.agg #[.slice a n c, .slice ka 0 kc]] w (RCutRet w (I.take x) [] (kq I x) (I.drop x) []) := by
  have hh := halfN_at true I
  rw [hx] at hh
  have hxn : x < n := by have := hh.1; rw [hI.1] at this; omega
  have hpos := hh.pos (by rw [hI.1]; exact hn2)
  obtain ⟨m, hm⟩ : ∃ m, n - 1 = m := ⟨_, rfl⟩
  have KP := Lib.hid (fun (w1 : World) (B : Below w.heap.size w w1) => place_any (c := c) (ka := ka) (kn := 0) (kc := kc) 1 m x (hI.below B) hn hS rfl (by omega) (by omega) (fun j hj => hh.2.1 j (by omega)) hx)
  obtain ⟨ca, hca⟩ : ∃ ca, cutA 2 a c x = ca := ⟨_, rfl⟩
  obtain ⟨rn, hrn⟩ : ∃ rn, n - x = rn := ⟨_, rfl⟩
  obtain ⟨rc, hrc⟩ : ∃ rc, c - x = rc := ⟨_, rfl⟩
  have q1 := fun w => run_lo22 a n c x (by omega) w
  rw [hca, hrn, hrc] at q1
  have K1 := Lib.hid (fun (w1 : World) (B : Below w.heap.size w w1) => (hI.below B).take (show x ≤ n by omega))
  have K2 := Lib.hid (fun (w1 : World) (B : Below w.heap.size w w1) => by
    have h := (hI.below B).cut (show x ≤ n by omega) hnc
    rw [hca, hrn] at h
    exact h)
  obtain ⟨b, off, rfl, hb, e0, _⟩ := hI.at hxn
  obtain ⟨p, hp⟩ : ∃ p, kq I x = p := ⟨_, rfl⟩
  rw [hp] at e0 ⊢
  have N0 := ((Nd.new w (some ⟨b, off, none⟩) n c ka 0 kc 25).below (new_below _ (.cells #[.slice none 0 0, .slice none 0 0] 25))).below (new_below _ (.cells #[.slice none 0 0, .slice none 0 0] 25))
  have N1 := (Nb.fresh (w.alloc (.cells #[.slice (some ⟨b, off, none⟩) n c, .slice ka 0 kc] 25)) (.slice none 0 0) (.slice none 0 0) 25).below (new_below _ (.cells #[.slice none 0 0, .slice none 0 0] 25))
  have N2 := Nb.fresh ((w.alloc (.cells #[.slice (some ⟨b, off, none⟩) n c, .slice ka 0 kc] 25)).alloc (.cells #[.slice none 0 0, .slice none 0 0] 25)) (.slice none 0 0) (.slice none 0 0) 25
  have hs1 : (w.alloc (.cells #[.slice (some ⟨b, off, none⟩) n c, .slice ka 0 kc] 25)).heap.size = w.heap.size + 1 := by simp
  have hs2 : ((w.alloc (.cells #[.slice (some ⟨b, off, none⟩) n c, .slice ka 0 kc] 25)).alloc (.cells #[.slice none 0 0, .slice none 0 0] 25)).heap.size = w.heap.size + 1 + 1 := by simp
  rw [hs1] at N1
  rw [hs2] at N2
  have hBB := below_to (below_to (new_below w (.cells #[.slice (some ⟨b, off, none⟩) n c, .slice ka 0 kc] 25)) (new_below _ (.cells #[.slice none 0 0, .slice none 0 0] 25))) (new_below _ (.cells #[.slice none 0 0, .slice none 0 0] 25))
  have hd1 : decide ((1 : Int) < (n : Int)) = true := decide_eq_true (by omega)
  have hmw : IntKind.i64.wrap ((n : Int) - 1) = (m : Int) := by rw [show (n : Int) - 1 = (m : Int) by omega]; exact IntWalk.i64_in _ (by omega)
  have hxi : (x : Int) < (n : Int) := by omega
  have hxc : x ≤ c := by omega
  clear hI hS hx hh hca hrn hrc hp hs1 hs2 hm
  go_enter Try.func23, Try.ntmps23
  go_wp2_with fail
  generalize ((w.alloc (.cells #[.slice (some ⟨b, off, none⟩) n c, .slice ka 0 kc] 25)).alloc (.cells #[.slice none 0 0, .slice none 0 0] 25)).alloc (.cells #[.slice none 0 0, .slice none 0 0] 25) = w1 at N0 N1 N2 hBB ⊢
  refine (KP.out _ hBB).mono ?_
  rintro e w2 ⟨rfl, hbl⟩
  replace N0 := N0.below hbl
  replace N1 := N1.below hbl
  replace N2 := N2.below hbl
  replace hBB := below_to hBB hbl
  clear hbl
  have c0 := N0.c0
  have x1 : w2.cell? ⟨b, off + x * 2, none⟩ = some (.string p) := (hBB.cell (p := ⟨b, off + x * 2, none⟩) hb).trans e0
  have y0 := N1.c0
  have y1 := N1.c1
  have z0 := N1.f0
  have z1 := N1.f1
  have y2 := N2.c0
  have y3 := N2.c1
  have z2 := N2.f0
  have z3 := N2.f1
  have hb1 : b < w.heap.size := hb
  go_upto_region 4 with (fail)
  go_region
  have HB := Lib.hid (((((hBB.setCell (p := ⟨w.heap.size + 1, 0, none⟩) (by show w.heap.size ≤ w.heap.size + 1; omega) (.slice (some ⟨b, off, none⟩) x c)).setCell (p := ⟨w.heap.size + 1, 1, none⟩) (by show w.heap.size ≤ w.heap.size + 1; omega) (.slice none 0 0)).setCell (p := ⟨w.heap.size + 1 + 1, 0, none⟩) (by show w.heap.size ≤ w.heap.size + 1 + 1; omega) (.slice ca rn rc)).setCell (p := ⟨w.heap.size + 1 + 1, 1, none⟩) (by show w.heap.size ≤ w.heap.size + 1 + 1; omega) (.slice none 0 0)).drew)
  have M := nb_two (u' := .slice (some ⟨b, off, none⟩) x c) (v' := .slice none 0 0) (x' := .slice ca rn rc) (y' := .slice none 0 0) N1 N2 (by omega)
  have M1 := nb_drew M.1
  have M2 := nb_drew M.2
  have m0 := M1.c0
  have m1 := M1.c1
  have m2 := M2.c0
  have m3 := M2.c1
  clear M M1 M2 N0 N1 N2 hBB c0 y0 y1 y2 y3 z0 z1 z2 z3 x1 q1
  go_wp2_with fail
  refine bodyPost_ret (v := .tuple #[.agg #[.slice (some ⟨b, off, none⟩) x c, .slice none 0 0], .string p, .agg #[.slice ca rn rc, .slice none 0 0]]) (by simp [results, Try.results23, go_sem, m0, m1, m2, m3]; try rfl) rfl ?_
  exact ⟨_, _, _, _, _, _, _, _, _, _, _, _, rfl, K1.out _ HB.out, ⟨rfl, .inl rfl⟩, K2.out _ HB.out, ⟨rfl, .inl rfl⟩, HB.out⟩
set_option maxRecDepth 100000 in
set_option maxHeartbeats 4000000 in
theorem rcutRest_any (hI : Its w a n I) (hK : Kds w ka kn K) (hn : n ≤ 4096) (hkn : kn ≤ 4096) (h1 : ¬ (kn = 0 ∧ 2 ≤ n)) (h2 : ¬ (3 ≤ kn ∧ n + 1 = kn)) :
    Calls Try.prog 23 #[.agg #[.slice a n c, .slice ka kn kc]] w (RCutRet w I K ByteArray.empty [] []) := by
  have HB := Lib.hid ((below_to (below_to (new_below w (.cells #[.slice a n c, .slice ka kn kc] 25)) (new_below _ (.cells #[.slice a n c, .slice ka kn kc] 25))) (new_below _ (.cells #[.slice none 0 0, .slice none 0 0] 25))))
  have HI := Lib.hid hI
  have HK := Lib.hid hK
  clear hI hK
  by_cases hz : kn = 0
  · subst hz
    have hn1 : n < 2 := by omega
    clear h1 h2
    go_enter Try.func23, Try.ntmps23
    go_wp2_with fail
    refine bodyPost_ret (v := .tuple #[.agg #[.slice a n c, .slice ka 0 kc], .string ByteArray.empty, .agg #[.slice none 0 0, .slice none 0 0]]) (by simp [results, Try.results23, go_sem]; try rfl) rfl ?_
    exact ⟨_, _, _, _, _, _, _, _, _, _, _, _, rfl, HI.out.below HB.out, HK.out.below HB.out, ⟨rfl, .inl rfl⟩, ⟨rfl, .inl rfl⟩, HB.out⟩
  · have hp : 0 < kn := by omega
    obtain ⟨m, hm⟩ : ∃ m, kn - 1 = m := ⟨_, rfl⟩
    have hkw : IntKind.i64.wrap ((kn : Int) - 1) = (m : Int) := by rw [show (kn : Int) - 1 = (m : Int) by omega]; exact IntWalk.i64_in _ (by omega)
    by_cases h3 : 3 ≤ kn
    · have hne : ¬ n = m := by omega
      have hd : decide ((2 : Int) < (kn : Int)) = true := decide_eq_true (by omega)
      clear h1 h2 hm
      go_enter Try.func23, Try.ntmps23
      go_wp2_with fail
      refine bodyPost_ret (v := .tuple #[.agg #[.slice a n c, .slice ka kn kc], .string ByteArray.empty, .agg #[.slice none 0 0, .slice none 0 0]]) (by simp [results, Try.results23, go_sem]; try rfl) rfl ?_
      exact ⟨_, _, _, _, _, _, _, _, _, _, _, _, rfl, HI.out.below HB.out, HK.out.below HB.out, ⟨rfl, .inl rfl⟩, ⟨rfl, .inl rfl⟩, HB.out⟩
    · have hd : decide ((2 : Int) < (kn : Int)) = false := decide_eq_false (by omega)
      clear h1 h2 hm hkw
      go_enter Try.func23, Try.ntmps23
      go_wp2_with fail
      refine bodyPost_ret (v := .tuple #[.agg #[.slice a n c, .slice ka kn kc], .string ByteArray.empty, .agg #[.slice none 0 0, .slice none 0 0]]) (by simp [results, Try.results23, go_sem]; try rfl) rfl ?_
      exact ⟨_, _, _, _, _, _, _, _, _, _, _, _, rfl, HI.out.below HB.out, HK.out.below HB.out, ⟨rfl, .inl rfl⟩, ⟨rfl, .inl rfl⟩, HB.out⟩
end
end Go.Proofs.Ytnjpijihjifkfaa
