/- Contract: Cut, of a branch. -/
import Derived.Test.YtnjpijihjifkfaaTI
import Derived.RegionTactic
import Derived.BigRegion
namespace Go.Proofs.Ytnjpijihjifkfaa
open Go.RowKit
set_option linter.unusedVariables false
theorem nd_drew {w : World} {g : Nat} {a : Option Addr} {n c : Nat} {ka : Option Addr} {kn kc : Nat} (h : Nd w g a n c ka kn kc) : Nd w.drew g a n c ka kn kc := ⟨h.lt, h.c0, h.c1⟩
theorem six_set2 {w : World} {a b n e oe g : Nat} {u v y1 y2 y3 y4 y5 y6 : Value} (h : w.cell? ⟨a, 0, none⟩ = some y1 ∧ w.cell? ⟨a, 1, none⟩ = some y2 ∧ w.cell? ⟨b, 0, none⟩ = some y3 ∧ w.cell? ⟨b, 1, none⟩ = some y4 ∧ w.cell? ⟨n, 0, none⟩ = some y5 ∧ w.cell? ⟨e, oe, none⟩ = some y6) (ha : a ≠ g) (hb : b ≠ g) (hn : n ≠ g) (he : e ≠ g) :
    ((w.setCell ⟨g, 0, none⟩ u).setCell ⟨g, 1, none⟩ v).cell? ⟨a, 0, none⟩ = some y1 ∧ ((w.setCell ⟨g, 0, none⟩ u).setCell ⟨g, 1, none⟩ v).cell? ⟨a, 1, none⟩ = some y2 ∧ ((w.setCell ⟨g, 0, none⟩ u).setCell ⟨g, 1, none⟩ v).cell? ⟨b, 0, none⟩ = some y3 ∧ ((w.setCell ⟨g, 0, none⟩ u).setCell ⟨g, 1, none⟩ v).cell? ⟨b, 1, none⟩ = some y4 ∧ ((w.setCell ⟨g, 0, none⟩ u).setCell ⟨g, 1, none⟩ v).cell? ⟨n, 0, none⟩ = some y5 ∧ ((w.setCell ⟨g, 0, none⟩ u).setCell ⟨g, 1, none⟩ v).cell? ⟨e, oe, none⟩ = some y6 :=
  ⟨cell_set2 h.1 ha, cell_set2 h.2.1 ha, cell_set2 h.2.2.1 hb, cell_set2 h.2.2.2.1 hb, cell_set2 h.2.2.2.2.1 hn, cell_set2 h.2.2.2.2.2 he⟩
theorem six_keep {w w1 : World} {g1 o1 g2 o2 g3 o3 g4 o4 g5 o5 g6 o6 : Nat} {y1 y2 y3 y4 y5 y6 : Value} (h : w.cell? ⟨g1, o1, none⟩ = some y1 ∧ w.cell? ⟨g2, o2, none⟩ = some y2 ∧ w.cell? ⟨g3, o3, none⟩ = some y3 ∧ w.cell? ⟨g4, o4, none⟩ = some y4 ∧ w.cell? ⟨g5, o5, none⟩ = some y5 ∧ w.cell? ⟨g6, o6, none⟩ = some y6) (B : Below w.heap.size w w1) :
    w1.cell? ⟨g1, o1, none⟩ = some y1 ∧ w1.cell? ⟨g2, o2, none⟩ = some y2 ∧ w1.cell? ⟨g3, o3, none⟩ = some y3 ∧ w1.cell? ⟨g4, o4, none⟩ = some y4 ∧ w1.cell? ⟨g5, o5, none⟩ = some y5 ∧ w1.cell? ⟨g6, o6, none⟩ = some y6 :=
  ⟨cell_keep h.1 B, cell_keep h.2.1 B, cell_keep h.2.2.1 B, cell_keep h.2.2.2.1 B, cell_keep h.2.2.2.2.1 B, cell_keep h.2.2.2.2.2 B⟩
section
variable {w : World} {a : Option Addr} {n c : Nat} {ka : Option Addr} {kn kc : Nat} {I : List It} {K : List Int}
set_option maxRecDepth 100000 in
set_option maxHeartbeats 4000000 in
theorem cutBranch_any (hI : Its w a n I) (hK : Kds w ka kn K) (hn : n ≤ 4096) (hk : kn = n + 1) (hn2 : 2 ≤ n) (hnc : n ≤ c) (hkc : kn ≤ kc) (hS : Short I) (x : Nat) (hx : halfN false I = x) :
    Calls Try.prog 22 #[.agg #[.slice a n c, .slice ka kn kc]] w (CutRet w (I.take x) (K.take (x + 1)) (kq I x) (I.drop (x + 1)) (K.drop (x + 1))) := by
  have hh := halfN_at false I
  rw [hx] at hh
  have hxn : x < n := by have := hh.1; rw [hI.1] at this; omega
  have hkz : (kn == 0) = false := by rw [beq_eq_false_iff_ne]; omega
  have KH := Lib.hid (fun (w1 : World) (B : Below w.heap.size w w1) => half_any (c := c) (ka := ka) (kn := kn) (kc := kc) (hI.below B) hn (by omega) hnc hS false hkz x hx)
  have KL := Lib.hid (fun w => isLeaf_any a n c ka kn kc false hkz w)
  obtain ⟨y, hy⟩ : ∃ y, x + 1 = y := ⟨_, rfl⟩
  obtain ⟨ca, hca⟩ : ∃ ca, cutA 2 a c y = ca := ⟨_, rfl⟩
  obtain ⟨rn, hrn⟩ : ∃ rn, n - y = rn := ⟨_, rfl⟩
  obtain ⟨rc, hrc⟩ : ∃ rc, c - y = rc := ⟨_, rfl⟩
  obtain ⟨cb, hcb⟩ : ∃ ca, cutA 1 ka kc y = ca := ⟨_, rfl⟩
  obtain ⟨sn, hsn⟩ : ∃ rn, kn - y = rn := ⟨_, rfl⟩
  obtain ⟨sc, hsc⟩ : ∃ rc, kc - y = rc := ⟨_, rfl⟩
  have q1 := fun w => run_lo22 a n c y (by omega) w
  rw [hca, hrn, hrc] at q1
  have q2 := fun w => run_lo23 ka kn kc y (by omega) w
  rw [hcb, hsn, hsc] at q2
  have K1 := Lib.hid (fun (w1 : World) (B : Below w.heap.size w w1) => cloneN_any (c := c) (kc := kc) ((hI.below B).take (show x ≤ n by omega)) ((hK.below B).take (show y ≤ kn by omega)) (by omega) (by omega))
  have K2 := Lib.hid (fun (w1 : World) (B : Below w.heap.size w w1) => by
    have h := (hI.below B).cut (show y ≤ n by omega) hnc
    have h2 := (hK.below B).cut (show y ≤ kn by omega) hkc
    rw [hca, hrn] at h
    rw [hcb, hsn] at h2
    exact cloneN_any (c := rc) (kc := sc) h h2 (by omega) (by omega))
  obtain ⟨b, off, rfl, hb, e0, _⟩ := hI.at hxn
  obtain ⟨p, hp⟩ : ∃ p, kq I x = p := ⟨_, rfl⟩
  rw [hp] at e0 ⊢
  rw [hy]
  have N0 := ((Nd.new w (some ⟨b, off, none⟩) n c ka kn kc 31).below (new_below _ (.cells #[.slice none 0 0, .slice none 0 0] 31))).below (new_below _ (.cells #[.slice none 0 0, .slice none 0 0] 31))
  have N1 := (Nb.fresh (w.alloc (.cells #[.slice (some ⟨b, off, none⟩) n c, .slice ka kn kc] 31)) (.slice none 0 0) (.slice none 0 0) 31).below (new_below _ (.cells #[.slice none 0 0, .slice none 0 0] 31))
  have N2 := Nb.fresh ((w.alloc (.cells #[.slice (some ⟨b, off, none⟩) n c, .slice ka kn kc] 31)).alloc (.cells #[.slice none 0 0, .slice none 0 0] 31)) (.slice none 0 0) (.slice none 0 0) 31
  have hs1 : (w.alloc (.cells #[.slice (some ⟨b, off, none⟩) n c, .slice ka kn kc] 31)).heap.size = w.heap.size + 1 := by simp
  have hs2 : ((w.alloc (.cells #[.slice (some ⟨b, off, none⟩) n c, .slice ka kn kc] 31)).alloc (.cells #[.slice none 0 0, .slice none 0 0] 31)).heap.size = w.heap.size + 1 + 1 := by simp
  rw [hs1] at N1
  rw [hs2] at N2
  have hBB := below_to (below_to (new_below w (.cells #[.slice (some ⟨b, off, none⟩) n c, .slice ka kn kc] 31)) (new_below _ (.cells #[.slice none 0 0, .slice none 0 0] 31))) (new_below _ (.cells #[.slice none 0 0, .slice none 0 0] 31))
  have hd3 : decide ((3 : Int) ≤ (kn : Int)) = true := decide_eq_true (by omega)
  have hd4 : IntKind.i64.wrap ((kn : Int) - 1) = (n : Int) := by rw [show (kn : Int) - 1 = (n : Int) by omega]; exact IntWalk.i64_in _ (by omega)
  have hd5 : IntKind.i64.wrap ((x : Int) + 1) = (y : Int) := by rw [show (x : Int) + 1 = (y : Int) by omega]; exact IntWalk.i64_in _ (by omega)
  have hxi : (x : Int) < (n : Int) := by omega
  have hxc : x ≤ c := by omega
  have hyc : y ≤ kc := by omega
  have HSN := Lib.hid hsn
  have HRN := Lib.hid hrn
  have HHY := Lib.hid hy
  clear hI hK hS hx hh hca hrn hrc hcb hsn hsc hp hs1 hs2 hy hk
  go_enter Try.func22, Try.ntmps22
  go_wp2_with fail
  generalize ((w.alloc (.cells #[.slice (some ⟨b, off, none⟩) n c, .slice ka kn kc] 31)).alloc (.cells #[.slice none 0 0, .slice none 0 0] 31)).alloc (.cells #[.slice none 0 0, .slice none 0 0] 31) = w1 at N0 N1 N2 hBB ⊢
  refine (KL.out _).mono ?_
  rintro e w2 ⟨rfl, hbl⟩
  replace N0 := N0.below hbl
  replace N1 := N1.below hbl
  replace N2 := N2.below hbl
  replace hBB := below_to hBB hbl
  clear hbl
  have c0 := N0.c0
  have c1 := N0.c1
  go_wp2_with fail
  refine (KH.out _ hBB).mono ?_
  rintro e w3 ⟨rfl, hbl⟩
  replace N0 := N0.below hbl
  replace N1 := N1.below hbl
  replace N2 := N2.below hbl
  replace hBB := below_to hBB hbl
  clear hbl c0 c1
  have c0 := N0.c0
  have c1 := N0.c1
  go_upto_region 6 with (fail)
  have A1 := N0.below (new_below w3 (.cells #[.slice none 0 0, .slice none 0 0] 31))
  have a0 := A1.c0
  have a1 := A1.c1
  go_region
  have N2l : w.heap.size + 1 + 1 < w3.heap.size := N2.lt
  have hb1 := (new_below w3 (.cells #[.slice (some ⟨b, off, none⟩) x c, .slice ka y kc] 31)).drew
  have A7 : Nd (w3.alloc (.cells #[.slice (some ⟨b, off, none⟩) x c, .slice ka y kc] 31)).drew w3.heap.size (some ⟨b, off, none⟩) x c ka y kc := nd_drew (Nd.new w3 _ _ _ _ _ _ 31)
  replace N0 := N0.below hb1
  replace N1 := N1.below hb1
  replace N2 := N2.below hb1
  replace hBB := below_to hBB hb1
  clear hb1 a0 a1 A1 c0 c1
  generalize (w3.alloc (.cells #[.slice (some ⟨b, off, none⟩) x c, .slice ka y kc] 31)).drew = w4 at N0 N1 N2 hBB A7 ⊢
  have hg7 : w.heap.size + 1 + 1 < w3.heap.size := N2l
  generalize w3.heap.size = g7 at A7 hg7 ⊢
  have c0 := N0.c0
  have c1 := N0.c1
  have A1 := N0.below (new_below w4 (.cells #[.slice none 0 0, .slice none 0 0] 31))
  have a0 := A1.c0
  have a1 := A1.c1
  go_upto_region 7 with (fail)
  go_region
  have N2m : w.heap.size + 1 + 1 < w4.heap.size := N2.lt
  have hb1 := (new_below w4 (.cells #[.slice ca rn rc, .slice cb sn sc] 31)).drew
  have A8 : Nd (w4.alloc (.cells #[.slice ca rn rc, .slice cb sn sc] 31)).drew w4.heap.size ca rn rc cb sn sc := nd_drew (Nd.new w4 _ _ _ _ _ _ 31)
  replace N0 := N0.below hb1
  replace N1 := N1.below hb1
  replace N2 := N2.below hb1
  replace A7 := A7.below hb1
  replace hBB := below_to hBB hb1
  clear hb1 a0 a1 A1 c0 c1
  generalize (w4.alloc (.cells #[.slice ca rn rc, .slice cb sn sc] 31)).drew = w5 at N0 N1 N2 hBB A7 A8 ⊢
  have hg8 : w.heap.size + 1 + 1 < w4.heap.size := N2m
  generalize w4.heap.size = g8 at A8 hg8 ⊢
  unfold NdRet at K1 K2
  have x1 : w5.cell? ⟨b, off + x * 2, none⟩ = some (.string p) := (hBB.cell (p := ⟨b, off + x * 2, none⟩) hb).trans e0
  go_upto_region 8 with (fail)
  have x0 := N0.c0
  have x2 := A7.c0
  have x3 := A7.c1
  have x4 := A8.c0
  have x5 := A8.c1
  have hsz : w.heap.size + 1 + 1 + 1 ≤ w5.heap.size := N2.lt
  have hE := Lib.hid (show w5.drew.cell? ⟨g7, 0, none⟩ = some (.slice (some ⟨b, off, none⟩) x c) ∧ w5.drew.cell? ⟨g7, 1, none⟩ = some (.slice ka y kc) ∧ w5.drew.cell? ⟨g8, 0, none⟩ = some (.slice ca rn rc) ∧ w5.drew.cell? ⟨g8, 1, none⟩ = some (.slice cb sn sc) ∧ w5.drew.cell? ⟨w.heap.size, 0, none⟩ = some (.slice (some ⟨b, off, none⟩) n c) ∧ w5.drew.cell? ⟨b, off + x * 2, none⟩ = some (.string p) from ⟨x2, x3, x4, x5, x0, x1⟩)
  have hne1 : w.heap.size ≠ w.heap.size + 1 := by omega
  have hne2 : w.heap.size ≠ w.heap.size + 1 + 1 := by omega
  have hne3 : b ≠ w.heap.size + 1 := by omega
  have hne4 : b ≠ w.heap.size + 1 + 1 := by omega
  have hne5 : g7 ≠ w.heap.size + 1 := by omega
  have hne6 : g7 ≠ w.heap.size + 1 + 1 := by omega
  have hne7 : g8 ≠ w.heap.size + 1 := by omega
  have hne8 : g8 ≠ w.heap.size + 1 + 1 := by omega
  replace N1 := nb_drew N1
  replace N2 := nb_drew N2
  replace hBB : Below w.heap.size w w5.drew := below_to hBB (Below.refl w5.heap.size w5).drew
  replace hsz : w.heap.size + 1 + 1 + 1 ≤ w5.drew.heap.size := hsz
  clear N0 A7 A8 q1 q2 KH KL hd3 hd4 hd5 hyc e0
  go_region_held3 (fun w' => w'.cell? ⟨g7, 0, none⟩ = some (.slice (some ⟨b, off, none⟩) x c) ∧ w'.cell? ⟨g7, 1, none⟩ = some (.slice ka y kc) ∧ w'.cell? ⟨g8, 0, none⟩ = some (.slice ca rn rc) ∧ w'.cell? ⟨g8, 1, none⟩ = some (.slice cb sn sc) ∧ w'.cell? ⟨w.heap.size, 0, none⟩ = some (.slice (some ⟨b, off, none⟩) n c) ∧ w'.cell? ⟨b, off + x * 2, none⟩ = some (.string p))
    (first | exact ⟨x2, x3, x4, x5, x0, x1⟩ | with_reducible exact six_set2 (by assumption) hne5 hne7 hne1 hne3 | with_reducible exact six_set2 (by assumption) hne6 hne8 hne2 hne4 | exact hE.out)
    (first | (go_at_call 47; refine (K1.out _ hBB).mono ?_; rintro e w6 ⟨a1, m1, c1', a2, m2, c2', rfl, hac, had, hfa, hfb, hIt, hKt, hbl⟩; replace N1 := N1.below hbl; replace N2 := N2.below hbl; (try replace hIu := hIu.below hbl); (try replace hKu := hKu.below hbl); replace hfa := hfa.mono hsz; replace hfb := hfb.mono hsz; replace hBB := below_to hBB hbl; replace hsz := Nat.le_trans hsz hbl.size; have y0 := N1.c0; have y1 := N1.c1; have z0 := N1.f0; have z1 := N1.f1; have y2 := N2.c0; have y3 := N2.c1; have z2 := N2.f0; have z3 := N2.f1; replace hE := Lib.hid (six_keep hE.out hbl))
           | (go_at_call 47; refine (K2.out _ hBB).mono ?_; rintro e w6 ⟨a3, m3, c3', a4, m4, c4', rfl, hbc, hbd, hfc, hfd, hIu, hKu, hbl⟩; replace N1 := N1.below hbl; replace N2 := N2.below hbl; (try replace hIt := hIt.below hbl); (try replace hKt := hKt.below hbl); replace hfc := hfc.mono hsz; replace hfd := hfd.mono hsz; replace hBB := below_to hBB hbl; replace hsz := Nat.le_trans hsz hbl.size; have y0 := N1.c0; have y1 := N1.c1; have z0 := N1.f0; have z1 := N1.f1; have y2 := N2.c0; have y3 := N2.c1; have z2 := N2.f0; have z3 := N2.f1; replace hE := Lib.hid (six_keep hE.out hbl)))
  have M1 := (((N1.set0 (.slice a1 m1 c1')).set1 (.slice a2 m2 c2')).set_far (k := w.heap.size + 1 + 1) (o := 0) (.slice a3 m3 c3') (by omega)).set_far (k := w.heap.size + 1 + 1) (o := 1) (.slice a4 m4 c4') (by omega)
  have M2 := (((N2.set_far (k := w.heap.size + 1) (o := 0) (.slice a1 m1 c1') (by omega)).set_far (k := w.heap.size + 1) (o := 1) (.slice a2 m2 c2') (by omega)).set0 (.slice a3 m3 c3')).set1 (.slice a4 m4 c4')
  have HI1 := Lib.hid ((((hIt.set (g := w.heap.size + 1) (o := 0) (x := .slice a1 m1 c1') hfa (by omega)).set (g := w.heap.size + 1) (o := 1) (x := .slice a2 m2 c2') hfa (by omega)).set (g := w.heap.size + 1 + 1) (o := 0) (x := .slice a3 m3 c3') hfa (by omega)).set (g := w.heap.size + 1 + 1) (o := 1) (x := .slice a4 m4 c4') hfa (by omega))
  have HK1 := Lib.hid ((((hKt.set (g := w.heap.size + 1) (o := 0) (x := .slice a1 m1 c1') hfb (by omega)).set (g := w.heap.size + 1) (o := 1) (x := .slice a2 m2 c2') hfb (by omega)).set (g := w.heap.size + 1 + 1) (o := 0) (x := .slice a3 m3 c3') hfb (by omega)).set (g := w.heap.size + 1 + 1) (o := 1) (x := .slice a4 m4 c4') hfb (by omega))
  have HI2 := Lib.hid ((((hIu.set (g := w.heap.size + 1) (o := 0) (x := .slice a1 m1 c1') hfc (by omega)).set (g := w.heap.size + 1) (o := 1) (x := .slice a2 m2 c2') hfc (by omega)).set (g := w.heap.size + 1 + 1) (o := 0) (x := .slice a3 m3 c3') hfc (by omega)).set (g := w.heap.size + 1 + 1) (o := 1) (x := .slice a4 m4 c4') hfc (by omega))
  have HK2 := Lib.hid ((((hKu.set (g := w.heap.size + 1) (o := 0) (x := .slice a1 m1 c1') hfd (by omega)).set (g := w.heap.size + 1) (o := 1) (x := .slice a2 m2 c2') hfd (by omega)).set (g := w.heap.size + 1 + 1) (o := 0) (x := .slice a3 m3 c3') hfd (by omega)).set (g := w.heap.size + 1 + 1) (o := 1) (x := .slice a4 m4 c4') hfd (by omega))
  have HB := Lib.hid ((((hBB.setCell (p := ⟨w.heap.size + 1, 0, none⟩) (by show w.heap.size ≤ w.heap.size + 1; omega) (.slice a1 m1 c1')).setCell (p := ⟨w.heap.size + 1, 1, none⟩) (by show w.heap.size ≤ w.heap.size + 1; omega) (.slice a2 m2 c2')).setCell (p := ⟨w.heap.size + 1 + 1, 0, none⟩) (by show w.heap.size ≤ w.heap.size + 1 + 1; omega) (.slice a3 m3 c3')).setCell (p := ⟨w.heap.size + 1 + 1, 1, none⟩) (by show w.heap.size ≤ w.heap.size + 1 + 1; omega) (.slice a4 m4 c4'))
  have HFA := Lib.hid (hfa.mono (show w.heap.size ≤ w.heap.size + 1 + 1 + 1 by omega))
  have HFB := Lib.hid (hfb.mono (show w.heap.size ≤ w.heap.size + 1 + 1 + 1 by omega))
  have HFC := Lib.hid (hfc.mono (show w.heap.size ≤ w.heap.size + 1 + 1 + 1 by omega))
  have HFD := Lib.hid (hfd.mono (show w.heap.size ≤ w.heap.size + 1 + 1 + 1 by omega))
  have HCC := Lib.hid (And.intro hac (And.intro had (And.intro hbc hbd)))
  have m0 := M1.c0
  have m1' := M1.c1
  have m2' := M2.c0
  have m3' := M2.c1
  clear hIt hIu hKt hKu hfa hfb hfc hfd hBB hbl y0 y1 y2 y3 z0 z1 z2 z3 N1 N2 M1 M2 hac had hbc hbd
  go_wp2_with fail
  refine bodyPost_ret (v := .tuple #[.agg #[.slice a1 m1 c1', .slice a2 m2 c2'], .string p, .agg #[.slice a3 m3 c3', .slice a4 m4 c4']]) (by simp [results, Try.results22, go_sem, m0, m1', m2', m3']; try rfl) rfl ?_
  exact ⟨_, _, _, _, _, _, _, _, _, _, _, _, rfl, ⟨HCC.out.1, HCC.out.2.1, HCC.out.2.2.1, HCC.out.2.2.2⟩, ⟨HFA.out, HFB.out, HFC.out, HFD.out⟩, HI1.out, HK1.out, HI2.out, HK2.out, HB.out⟩
end
end Go.Proofs.Ytnjpijihjifkfaa
