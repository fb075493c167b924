/- Contracts: the reference's text; one append to the items, the kids of a node that is being read. -/
import Derived.Test.YtnjpijihjifkfaaX2
import Derived.Test.YtnjpijihjifkfaaOF
import Derived.Test.YtnjpijihjifkfaaTD
import Derived.Test.YtnjpijihjifkfaaU9
import Derived.Deep.Cut
namespace Go.Proofs.Ytnjpijihjifkfaa
open Go.RowKit
set_option maxRecDepth 100000
set_option linter.unusedVariables false
set_option linter.unusedSimpArgs false
set_option maxHeartbeats 4000000
theorem rn_at (s : ByteArray) (hs : s.size ≤ maxLen) (e n : Int) {t : ByteArray} {y : Int} {u : Nat} (h : numS s e n = (t, y, u)) : ∀ w, Calls Try.prog 35 #[.agg #[.string s, .int .i64 e], .int .i64 n] w (RReads w t y (.int .u64 (u : Int))) := by
  intro w
  have := rn_any n s e w hs
  rw [h] at this
  exact this
theorem rtext_any (s : ByteArray) (e : Int) {t : ByteArray} {y : Int} {o : ByteArray} (h : shortS s e = (t, y, o)) (hs : s.size ≤ maxLen) (w : World) :
    Calls Try.prog 36 #[.agg #[.string s, .int .i64 e]] w (RReads w t y (.string o)) := by
  obtain ⟨t1, y1, k, h1⟩ : ∃ t1 y1 k, numS s e 1 = (t1, y1, k) := ⟨_, _, _, rfl⟩
  have hk : k < 256 := by have := numS1_lt s e; rw [h1] at this; exact this
  have h2 : rawS t1 y1 (k : Nat) = (t, y, o) := by have h3 := h; unfold shortS at h3; rw [h1] at h3; exact h3
  have hs1 : t1.size ≤ maxLen := by have := numS_le s e 1; rw [h1] at this; exact Nat.le_trans this hs
  have K1 := Lib.hid (rn_at s hs e 1 h1)
  have K2 : Hid (∀ w, Calls Try.prog 63 #[.agg #[.string t1, .int .i64 y1], .int .i64 (k : Int)] w (RReads w t y (.string o))) := Lib.hid (fun w => by
    have := rraw_any k t1 y1 w hs1
    rw [h2] at this
    exact this)
  have hw : IntKind.i64.wrap (k : Int) = (k : Int) := IntWalk.i64_in _ (by omega)
  have N1 := (Nb.fresh w (.string s) (.int .i64 e) 70).below (new_below _ (.cells #[.string ⟨#[]⟩, .int .i64 0] 70))
  have N2 := Nb.fresh (w.alloc (.cells #[.string s, .int .i64 e] 70)) (.string ⟨#[]⟩) (.int .i64 0) 70
  have BB := below_to (new_below w (.cells #[.string s, .int .i64 e] 70)) (new_below _ (.cells #[.string ⟨#[]⟩, .int .i64 0] 70))
  have hz : (w.alloc (.cells #[.string s, .int .i64 e] 70)).heap.size = w.heap.size + 1 := by simp
  rw [hz] at N2
  clear h h1 h2 hs hs1 hz
  go_enter Try.func36, Try.ntmps36
  go_upto_region 1 with (fail)
  generalize (w.alloc (.cells #[.string s, .int .i64 e] 70)).alloc (.cells #[.string ⟨#[]⟩, .int .i64 0] 70) = w1 at N1 N2 BB ⊢
  have c0 := N1.c0
  have c1 := N1.c1
  go_wp2_with fail
  refine (K1.out _).mono ?_
  rintro e1 w2 ⟨rfl, hb⟩
  replace N1 := N1.below hb
  replace N2 := N2.below hb
  replace BB := below_to BB hb
  clear hb c0 c1
  have c0 := N1.c0
  have c1 := N1.c1
  have f0 := N1.f0
  have f1 := N1.f1
  go_upto_region 2 with (fail)
  clear c0 c1 f0 f1
  replace N1 := (N1.set0 (.string t1)).set1 (.int .i64 y1)
  replace N2 := (N2.set_far (k := w.heap.size) (o := 0) (.string t1) (by omega)).set_far (k := w.heap.size) (o := 1) (.int .i64 y1) (by omega)
  replace BB := (BB.setCell (p := ⟨w.heap.size, 0, none⟩) (Nat.le_refl _) (.string t1)).setCell (p := ⟨w.heap.size, 1, none⟩) (Nat.le_refl _) (.int .i64 y1)
  generalize (w2.setCell ⟨w.heap.size, 0, none⟩ (.string t1)).setCell ⟨w.heap.size, 1, none⟩ (.int .i64 y1) = w3 at N1 N2 BB ⊢
  have c0 := N1.c0
  have c1 := N1.c1
  go_wp2_with fail
  refine (K2.out _).mono ?_
  rintro e2 w4 ⟨rfl, hb⟩
  replace N2 := N2.below hb
  replace BB := below_to BB hb
  clear hb c0 c1 N1
  have c0 := N2.c0
  have c1 := N2.c1
  have f0 := N2.f0
  have f1 := N2.f1
  go_wp2_with fail
  have M := (N2.set0 (.string t)).set1 (.int .i64 y)
  have z0 := M.c0
  have z1 := M.c1
  refine bodyPost_ret (v := .tuple #[.agg #[.string t, .int .i64 y], .string o]) (by simp [results, Try.results36, go_sem, z0, z1]; try rfl) rfl ?_
  exact ⟨rfl, (BB.setCell (p := ⟨w.heap.size + 1, 0, none⟩) (Nat.le_succ _) _).setCell (p := ⟨w.heap.size + 1, 1, none⟩) (Nat.le_succ _) _⟩
/-- One item appended, and stored. -/
theorem app_item1 {w0 W : World} {g7 base k : Nat} {v u : Value} {X : List It} (N7 : Nb W g7 v u) (own : W.ownsRow base 44 2 v k (flatI X)) (BB : Below w0.heap.size w0 W) (hb : g7 < base) (hb0 : w0.heap.size ≤ g7) (hbw : base ≤ W.heap.size)
    (p q : ByteArray) (hk : k ≤ 300) :
    ∃ (ad : Option Addr) (cp : Nat) (W' : World), (Builtin.append_ #[22, 22] 22 #[v, .slice (some ⟨W.heap.size, 0, none⟩) 1 1]).run Try.prog (W.alloc (.cells #[.string p, .string q] 44)) = .ok (.slice ad (k + 1) cp) W' ∧ Nb W' g7 v u ∧
      (∀ x y z, x < base → Nb W x y z → Nb W' x y z) ∧
      (W'.setCell ⟨g7, 0, none⟩ (.slice ad (k + 1) cp)).ownsRow base 44 2 (.slice ad (k + 1) cp) (k + 1) (flatI (X ++ [(p, q)])) ∧
      Below w0.heap.size w0 (W'.setCell ⟨g7, 0, none⟩ (.slice ad (k + 1) cp)) ∧ base ≤ (W'.setCell ⟨g7, 0, none⟩ (.slice ad (k + 1) cp)).heap.size := by
  have hnb := new_below W (.cells #[.string p, .string q] 44)
  obtain ⟨v', W', hrun, own', hg⟩ := appI_any _ base v k (flatI X) _ 1 1 _ (own_below own hnb) (its_one' W p q 44) (Nat.le_trans hbw hnb.size) (by omega)
  rw [← flatI_app] at own'
  obtain ⟨ad, cp, hv, _, _⟩ := its_of_own own'
  subst hv
  have hfar : ∀ x y z, x < base → Nb W x y z → Nb W' x y z := fun x y z hx N => (N.below hnb).block hg.size (hg.block x (N.below hnb).lt (own_not own hx))
  have B2 := (below_to BB hnb).grown hg (below_to BB hnb).size (fun j hj => by have := (own.lt j hj).1; omega)
  refine ⟨ad, cp, W', hrun, hfar _ _ _ hb N7, hfar, own_set own' hb, B2.setCell (p := ⟨g7, 0, none⟩) hb0 _, ?_⟩
  have := hg.size
  have := hnb.size
  simp; omega
end Go.Proofs.Ytnjpijihjifkfaa
