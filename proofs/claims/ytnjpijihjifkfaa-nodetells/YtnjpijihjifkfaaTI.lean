/- Contract: Cut, of a leaf. -/
import Derived.Test.YtnjpijihjifkfaaTH
namespace Go.Proofs.Ytnjpijihjifkfaa
open Go.RowKit
set_option linter.unusedVariables false
/-- Two nodes and the key between them are answered. -/
def CutRet (w : World) (L1 : List It) (K1 : List Int) (key : ByteArray) (L2 : List It) (K2 : List Int) (e : Ending) (w' : World) : Prop :=
  ∃ a n c ka kn kc a2 n2 c2 ka2 kn2 kc2, e = .returned (.tuple #[.agg #[.slice a n c, .slice ka kn kc], .string key, .agg #[.slice a2 n2 c2, .slice ka2 kn2 kc2]]) ∧ (n ≤ c ∧ kn ≤ kc ∧ n2 ≤ c2 ∧ kn2 ≤ kc2) ∧
    (Fresh w.heap.size a ∧ Fresh w.heap.size ka ∧ Fresh w.heap.size a2 ∧ Fresh w.heap.size ka2) ∧ Its w' a n L1 ∧ Kds w' ka kn K1 ∧ Its w' a2 n2 L2 ∧ Kds w' ka2 kn2 K2 ∧ Below w.heap.size w w'
theorem cell_set2 {w : World} {b o g : Nat} {u v x : Value} (h : w.cell? ⟨b, o, none⟩ = some x) (hg : b ≠ g) : ((w.setCell ⟨g, 0, none⟩ u).setCell ⟨g, 1, none⟩ v).cell? ⟨b, o, none⟩ = some x := by
  rw [World.cell?_setCell_other _ _ _ _ (fun e => hg (by injection e with e1; exact e1.symm)), World.cell?_setCell_other _ _ _ _ (fun e => hg (by injection e with e1; exact e1.symm))]; exact h
theorem two_set2 {w : World} {b o b2 o2 g : Nat} {u v x y : Value} (h : w.cell? ⟨b, o, none⟩ = some x ∧ w.cell? ⟨b2, o2, none⟩ = some y) (hg : b ≠ g) (hg2 : b2 ≠ g) :
    ((w.setCell ⟨g, 0, none⟩ u).setCell ⟨g, 1, none⟩ v).cell? ⟨b, o, none⟩ = some x ∧ ((w.setCell ⟨g, 0, none⟩ u).setCell ⟨g, 1, none⟩ v).cell? ⟨b2, o2, none⟩ = some y := ⟨cell_set2 h.1 hg, cell_set2 h.2 hg2⟩
section
variable {w : World} {a : Option Addr} {n c : Nat} {ka : Option Addr} {kn kc : Nat} {I : List It}
set_option maxRecDepth 100000 in
set_option maxHeartbeats 4000000 in
theorem cutLeaf_any (hI : Its w a n I) (hn : n ≤ 4096) (hn2 : 2 ≤ n) (hnc : n ≤ c) (hS : Short I) (x : Nat) (hx : halfN true I = x) :
    Calls Try.prog 22 #[.agg #[.slice a n c, .slice ka 0 kc]] w (CutRet w (I.take x) [] (kq I x) (I.drop x) []) := by
  have hh := halfN_at true I
  rw [hx] at hh
  have hxn : x < n := by have := hh.1; rw [hI.1] at this; omega
  have KH := Lib.hid (fun (w1 : World) (B : Below w.heap.size w w1) => half_any (c := c) (ka := ka) (kn := 0) (kc := kc) (hI.below B) hn (by omega) hnc hS true rfl x hx)
  have KL := Lib.hid (fun w => isLeaf_yes a n c ka kc w)
  have K1 := Lib.hid (fun (w1 : World) (B : Below w.heap.size w w1) => cloneI_any (c := c) ((hI.below B).take (show x ≤ n by omega)) (by omega))
  obtain ⟨ca, hca⟩ : ∃ ca, cutA 2 a c x = ca := ⟨_, rfl⟩
  obtain ⟨rn, hrn⟩ : ∃ rn, n - x = rn := ⟨_, rfl⟩
  obtain ⟨rc, hrc⟩ : ∃ rc, c - x = rc := ⟨_, rfl⟩
  have q1 := fun w => run_lo22 a n c x (by omega) w
  rw [hca, hrn, hrc] at q1
  have K2 := Lib.hid (fun (w1 : World) (B : Below w.heap.size w w1) => by
    have h := (hI.below B).cut (show x ≤ n by omega) hnc
    rw [hca, hrn] at h
    exact cloneI_any (c := rc) h (by omega))
  obtain ⟨b, off, rfl, hb, e0, _⟩ := hI.at hxn
  obtain ⟨p, hp⟩ : ∃ p, kq I x = p := ⟨_, rfl⟩
  rw [hp] at e0 ⊢
  have N0 := ((Nd.new w (some ⟨b, off, none⟩) n c ka 0 kc 31).below (new_below _ (.cells #[.slice none 0 0, .slice none 0 0] 31))).below (new_below _ (.cells #[.slice none 0 0, .slice none 0 0] 31))
  have N1 := (Nb.fresh (w.alloc (.cells #[.slice (some ⟨b, off, none⟩) n c, .slice ka 0 kc] 31)) (.slice none 0 0) (.slice none 0 0) 31).below (new_below _ (.cells #[.slice none 0 0, .slice none 0 0] 31))
  have N2 := Nb.fresh ((w.alloc (.cells #[.slice (some ⟨b, off, none⟩) n c, .slice ka 0 kc] 31)).alloc (.cells #[.slice none 0 0, .slice none 0 0] 31)) (.slice none 0 0) (.slice none 0 0) 31
  have hs1 : (w.alloc (.cells #[.slice (some ⟨b, off, none⟩) n c, .slice ka 0 kc] 31)).heap.size = w.heap.size + 1 := by simp
  have hs2 : ((w.alloc (.cells #[.slice (some ⟨b, off, none⟩) n c, .slice ka 0 kc] 31)).alloc (.cells #[.slice none 0 0, .slice none 0 0] 31)).heap.size = w.heap.size + 1 + 1 := by simp
  rw [hs1] at N1
  rw [hs2] at N2
  have hBB := below_to (below_to (new_below w (.cells #[.slice (some ⟨b, off, none⟩) n c, .slice ka 0 kc] 31)) (new_below _ (.cells #[.slice none 0 0, .slice none 0 0] 31))) (new_below _ (.cells #[.slice none 0 0, .slice none 0 0] 31))
  have hl1 : (I.take x).length = x := by rw [List.length_take, hI.1]; omega
  have hl2 : (I.drop x).length = rn := by rw [List.length_drop, hI.1]; exact hrn
  rw [show Calls = @Calls from rfl]
  have HL1 := Lib.hid hl1
  have HL2 := Lib.hid hl2
  unfold ItRet at K1 K2
  rw [hl1] at K1
  rw [hl2] at K2
  have hd2 : decide ((2 : Int) ≤ (n : Int)) = true := decide_eq_true (by omega)
  have hxi : (x : Int) < (n : Int) := by omega
  have hxc : x ≤ c := by omega
  clear hI hS hx hh hca hrn hrc hp hs1 hs2 hl1 hl2
  go_enter Try.func22, Try.ntmps22
  go_wp2_with fail
  generalize ((w.alloc (.cells #[.slice (some ⟨b, off, none⟩) n c, .slice ka 0 kc] 31)).alloc (.cells #[.slice none 0 0, .slice none 0 0] 31)).alloc (.cells #[.slice none 0 0, .slice none 0 0] 31) = w1 at N0 N1 N2 hBB ⊢
  refine (KL.out _).mono ?_
  rintro e w2 ⟨rfl, hbl⟩
  replace N0 := N0.below hbl
  replace N1 := N1.below hbl
  replace N2 := N2.below hbl
  replace hBB := below_to hBB hbl
  clear hbl
  have c0 := N0.c0
  have c1 := N0.c1
  go_wp2_with fail
  refine (KH.out _ hBB).mono ?_
  rintro e w3 ⟨rfl, hbl⟩
  replace N0 := N0.below hbl
  replace N1 := N1.below hbl
  replace N2 := N2.below hbl
  replace hBB := below_to hBB hbl
  clear hbl c0 c1
  have x0 := N0.c0
  have x1 : w3.cell? ⟨b, off + x * 2, none⟩ = some (.string p) := (hBB.cell (p := ⟨b, off + x * 2, none⟩) hb).trans e0
  have hsz : w.heap.size + 1 + 1 + 1 ≤ w3.heap.size := N2.lt
  have hE := Lib.hid (show w3.drew.cell? ⟨w.heap.size, 0, none⟩ = some (.slice (some ⟨b, off, none⟩) n c) ∧ w3.drew.cell? ⟨b, off + x * 2, none⟩ = some (.string p) from ⟨x0, x1⟩)
  have hne1 : w.heap.size ≠ w.heap.size + 1 := by omega
  have hne2 : w.heap.size ≠ w.heap.size + 1 + 1 := by omega
  have hne3 : b ≠ w.heap.size + 1 := by omega
  have hne4 : b ≠ w.heap.size + 1 + 1 := by omega
  replace N1 := nb_drew N1
  replace N2 := nb_drew N2
  replace hBB : Below w.heap.size w w3.drew := below_to hBB (Below.refl w3.heap.size w3).drew
  replace hsz : w.heap.size + 1 + 1 + 1 ≤ w3.drew.heap.size := hsz
  go_wp2_with fail
  go_region_held3 (fun w' => w'.cell? ⟨w.heap.size, 0, none⟩ = some (.slice (some ⟨b, off, none⟩) n c) ∧ w'.cell? ⟨b, off + x * 2, none⟩ = some (.string p))
    (first | exact ⟨x0, x1⟩ | with_reducible exact two_set2 (by assumption) hne1 hne3 | with_reducible exact two_set2 (by assumption) hne2 hne4 | exact hE.out)
    (first | (go_at_call 46; refine (K1.out _ hBB).mono ?_; rintro e w4 ⟨a1, c1', rfl, hac, hfa, hIt, hbl⟩; replace N1 := N1.below hbl; replace N2 := N2.below hbl; (try replace hIu := hIu.below hbl); replace hfa := hfa.mono hsz; replace hBB := below_to hBB hbl; replace hsz := Nat.le_trans hsz hbl.size; have y0 := N1.c0; have y1 := N1.c1; have z0 := N1.f0; have z1 := N1.f1; have y2 := N2.c0; have y3 := N2.c1; have z2 := N2.f0; have z3 := N2.f1; replace hE := Lib.hid (And.intro (cell_keep hE.out.1 hbl) (cell_keep hE.out.2 hbl)))
           | (go_at_call 46; refine (K2.out _ hBB).mono ?_; rintro e w4 ⟨a2, c2', rfl, hkc, hfk, hIu, hbl⟩; replace N1 := N1.below hbl; replace N2 := N2.below hbl; (try replace hIt := hIt.below hbl); replace hfk := hfk.mono hsz; replace hBB := below_to hBB hbl; replace hsz := Nat.le_trans hsz hbl.size; have y0 := N1.c0; have y1 := N1.c1; have z0 := N1.f0; have z1 := N1.f1; have y2 := N2.c0; have y3 := N2.c1; have z2 := N2.f0; have z3 := N2.f1; replace hE := Lib.hid (And.intro (cell_keep hE.out.1 hbl) (cell_keep hE.out.2 hbl))))
  have M1 := (((N1.set0 (.slice a1 x c1')).set1 (.slice none 0 0)).set_far (k := w.heap.size + 1 + 1) (o := 0) (.slice a2 rn c2') (by omega)).set_far (k := w.heap.size + 1 + 1) (o := 1) (.slice none 0 0) (by omega)
  have M2 := (((N2.set_far (k := w.heap.size + 1) (o := 0) (.slice a1 x c1') (by omega)).set_far (k := w.heap.size + 1) (o := 1) (.slice none 0 0) (by omega)).set0 (.slice a2 rn c2')).set1 (.slice none 0 0)
  have HI1 := Lib.hid ((((hIt.set (g := w.heap.size + 1) (o := 0) (x := .slice a1 x c1') hfa (by omega)).set (g := w.heap.size + 1) (o := 1) (x := .slice none 0 0) hfa (by omega)).set (g := w.heap.size + 1 + 1) (o := 0) (x := .slice a2 rn c2') hfa (by omega)).set (g := w.heap.size + 1 + 1) (o := 1) (x := .slice none 0 0) hfa (by omega))
  have HI2 := Lib.hid ((((hIu.set (g := w.heap.size + 1) (o := 0) (x := .slice a1 x c1') hfk (by omega)).set (g := w.heap.size + 1) (o := 1) (x := .slice none 0 0) hfk (by omega)).set (g := w.heap.size + 1 + 1) (o := 0) (x := .slice a2 rn c2') hfk (by omega)).set (g := w.heap.size + 1 + 1) (o := 1) (x := .slice none 0 0) hfk (by omega))
  have HB := Lib.hid ((((hBB.setCell (p := ⟨w.heap.size + 1, 0, none⟩) (by show w.heap.size ≤ w.heap.size + 1; omega) (.slice a1 x c1')).setCell (p := ⟨w.heap.size + 1, 1, none⟩) (by show w.heap.size ≤ w.heap.size + 1; omega) (.slice none 0 0)).setCell (p := ⟨w.heap.size + 1 + 1, 0, none⟩) (by show w.heap.size ≤ w.heap.size + 1 + 1; omega) (.slice a2 rn c2')).setCell (p := ⟨w.heap.size + 1 + 1, 1, none⟩) (by show w.heap.size ≤ w.heap.size + 1 + 1; omega) (.slice none 0 0))
  have HFA := Lib.hid (hfa.mono (show w.heap.size ≤ w.heap.size + 1 + 1 + 1 by omega))
  have HFK := Lib.hid (hfk.mono (show w.heap.size ≤ w.heap.size + 1 + 1 + 1 by omega))
  have m0 := M1.c0
  have m1 := M1.c1
  have m2 := M2.c0
  have m3 := M2.c1
  clear hIt hIu hfa hfk hBB hbl y0 y1 y2 y3 z0 z1 z2 z3 N1 N2 M1 M2
  go_wp2_with fail
  refine bodyPost_ret (v := .tuple #[.agg #[.slice a1 x c1', .slice none 0 0], .string p, .agg #[.slice a2 rn c2', .slice none 0 0]]) (by simp [results, Try.results22, go_sem, m0, m1, m2, m3]; try rfl) rfl ?_
  exact ⟨_, _, _, _, _, _, _, _, _, _, _, _, rfl, ⟨hac, Nat.le_refl _, hkc, Nat.le_refl _⟩, ⟨HFA.out, (by intro x hx; cases hx), HFK.out, (by intro x hx; cases hx)⟩, HI1.out, ⟨rfl, .inl rfl⟩, HI2.out, ⟨rfl, .inl rfl⟩, HB.out⟩
end
end Go.Proofs.Ytnjpijihjifkfaa
