/- Contracts: the reference's Decode of a branch; its Decode. -/
import Derived.Test.YtnjpijihjifkfaaX5
namespace Go.Proofs.Ytnjpijihjifkfaa
open Go.RowKit
set_option maxRecDepth 100000
set_option linter.unusedVariables false
set_option linter.unusedSimpArgs false
set_option maxHeartbeats 8000000
theorem own_ne {w : World} {b1 b2 k m : Nat} {v u : Value} {xs ys : List Value} (h1 : w.ownsRow b1 44 2 v k xs) (h2 : w.ownsRow b2 3 1 u m ys) : ∀ g, v.ownBlock = some g → u.ownBlock ≠ some g := by
  intro g hv hu
  rcases h1.2 with ⟨rfl, _⟩ | ⟨g1, c1, cur1, rfl, _, e1, _⟩
  · cases hv
  rcases h2.2 with ⟨rfl, _⟩ | ⟨g2, c2, cur2, rfl, _, e2, _⟩
  · cases hu
  simp only [Value.ownBlock, Option.some.injEq] at hv hu
  subst hv hu
  rw [e1] at e2
  simp at e2
theorem app_item2 {w0 W : World} {g7 base k m : Nat} {v u : Value} {X : List It} {ys : List Value} (N7 : Nb W g7 v u) (own : W.ownsRow base 44 2 v k (flatI X)) (ownK : W.ownsRow base 3 1 u m ys) (BB : Below w0.heap.size w0 W) (hb : g7 < base) (hb0 : w0.heap.size ≤ g7) (hbw : base ≤ W.heap.size)
    (p q : ByteArray) (hk : k ≤ 300) :
    ∃ (ad : Option Addr) (cp : Nat) (W' : World), (Builtin.append_ #[22, 22] 22 #[v, .slice (some ⟨W.heap.size, 0, none⟩) 1 1]).run Try.prog (W.alloc (.cells #[.string p, .string q] 44)) = .ok (.slice ad (k + 1) cp) W' ∧ Nb W' g7 v u ∧
      (∀ x y z, x < base → Nb W x y z → Nb W' x y z) ∧
      (W'.setCell ⟨g7, 0, none⟩ (.slice ad (k + 1) cp)).ownsRow base 44 2 (.slice ad (k + 1) cp) (k + 1) (flatI (X ++ [(p, q)])) ∧
      (W'.setCell ⟨g7, 0, none⟩ (.slice ad (k + 1) cp)).ownsRow base 3 1 u m ys ∧
      Below w0.heap.size w0 (W'.setCell ⟨g7, 0, none⟩ (.slice ad (k + 1) cp)) ∧ base ≤ (W'.setCell ⟨g7, 0, none⟩ (.slice ad (k + 1) cp)).heap.size := by
  have hnb := new_below W (.cells #[.string p, .string q] 44)
  obtain ⟨v', W', hrun, own', hg⟩ := appI_any _ base v k (flatI X) _ 1 1 _ (own_below own hnb) (its_one' W p q 44) (Nat.le_trans hbw hnb.size) (by omega)
  rw [← flatI_app] at own'
  obtain ⟨ad, cp, hv, _, _⟩ := its_of_own own'
  subst hv
  have hfar : ∀ x y z, x < base → Nb W x y z → Nb W' x y z := fun x y z hx N => (N.below hnb).block hg.size (hg.block x (N.below hnb).lt (own_not own hx))
  have B2 := (below_to BB hnb).grown hg (below_to BB hnb).size (fun j hj => by have := (own.lt j hj).1; omega)
  have K2 := own_far (own_below ownK hnb) hg (fun g hu hv => own_ne own ownK g hv hu)
  refine ⟨ad, cp, W', hrun, hfar _ _ _ hb N7, hfar, own_set own' hb, own_set K2 hb, B2.setCell (p := ⟨g7, 0, none⟩) hb0 _, ?_⟩
  have := hg.size
  have := hnb.size
  simp; omega
theorem kds_one1 (w : World) (z : Int) (T : TypeId) : Kds (w.alloc (.cells #[.int .i64 z] T)) (some ⟨w.heap.size, 0, none⟩) 1 [z] :=
  ⟨rfl, .inr ⟨w.heap.size, 0, rfl, by simp, fun j hj => by
    obtain rfl : j = 0 := by omega
    simp [go_sem]⟩⟩
theorem app_kid2 {w0 W : World} {g7 base k m : Nat} {v u : Value} {X : List It} {Y : List Int} (N7 : Nb W g7 v u) (own : W.ownsRow base 44 2 v k (flatI X)) (ownK : W.ownsRow base 3 1 u m (kidV Y)) (BB : Below w0.heap.size w0 W) (hb : g7 < base) (hb0 : w0.heap.size ≤ g7) (hbw : base ≤ W.heap.size)
    (z : Int) (hk : m ≤ 300) :
    ∃ (ad : Option Addr) (cp : Nat) (W' : World), (Builtin.append_ #[23, 23] 23 #[u, .slice (some ⟨W.heap.size, 0, none⟩) 1 1]).run Try.prog (W.alloc (.cells #[.int .i64 z] 3)) = .ok (.slice ad (m + 1) cp) W' ∧ Nb W' g7 v u ∧
      (∀ x y z, x < base → Nb W x y z → Nb W' x y z) ∧
      (W'.setCell ⟨g7, 1, none⟩ (.slice ad (m + 1) cp)).ownsRow base 44 2 v k (flatI X) ∧
      (W'.setCell ⟨g7, 1, none⟩ (.slice ad (m + 1) cp)).ownsRow base 3 1 (.slice ad (m + 1) cp) (m + 1) (kidV (Y ++ [z])) ∧
      Below w0.heap.size w0 (W'.setCell ⟨g7, 1, none⟩ (.slice ad (m + 1) cp)) ∧ base ≤ (W'.setCell ⟨g7, 1, none⟩ (.slice ad (m + 1) cp)).heap.size := by
  have hnb := new_below W (.cells #[.int .i64 z] 3)
  obtain ⟨v', W', hrun, own', hg⟩ := appK_any _ base u m (kidV Y) _ 1 1 _ (own_below ownK hnb) (kds_one1 W z 3) (Nat.le_trans hbw hnb.size) (by omega)
  rw [← kidV_app] at own'
  obtain ⟨ad, cp, hv, _, _⟩ := kds_of_own own'
  subst hv
  have hfar : ∀ x y z, x < base → Nb W x y z → Nb W' x y z := fun x y z hx N => (N.below hnb).block hg.size (hg.block x (N.below hnb).lt (own_not ownK hx))
  have B2 := (below_to BB hnb).grown hg (below_to BB hnb).size (fun j hj => by have := (ownK.lt j hj).1; omega)
  have I2 := own_far (own_below own hnb) hg (fun g hv hu => own_ne own ownK g hv hu)
  refine ⟨ad, cp, W', hrun, hfar _ _ _ hb N7, hfar, own_set I2 hb, own_set own' hb, B2.setCell (p := ⟨g7, 1, none⟩) hb0 _, ?_⟩
  have := hg.size
  have := hnb.size
  simp; omega
/-- What a reader of a branch has had after k rounds. -/
def BrAt (many k : Nat) (t2 : ByteArray) (y2 : Int) (L0 : List It) (M0 : List Int) (t : ByteArray) (y : Int) (L : List It) (M : List Int) (i : Nat) : Prop :=
  (k = 0 ∧ t = t2 ∧ y = y2 ∧ L = [] ∧ M = [] ∧ i = 0) ∨ (1 ≤ k ∧ i + 1 = k ∧ L ++ (rdBr (many - k) t y).1 = L0 ∧ M ++ (rdBr (many - k) t y).2 = M0)
theorem rdecBranch (s : ByteArray) (hs : s.size ≤ maxLen) (w : World) (hw2 : True) {t1 : ByteArray} {y1 : Int} {kd : Nat} {t2 : ByteArray} {y2 : Int} {many : Nat} (h1 : numS s 0 1 = (t1, y1, kd)) (h2 : numS t1 y1 1 = (t2, y2, many)) (hkd : kd = 2)
    (L0 : List It) (M0 : List Int) (hLM : readR s = (L0, M0)) (L : List It) (K : List Int) (y : Int) (hd : decQ s (L0, M0) = ((L, K), y)) (hsmall : L0.length ≤ 256 ∧ M0.length ≤ 256 ∧ Tiny L0) :
    Calls Try.prog 13 #[.string s] w (DecRet w L K y) := by
  have hk256 : kd < 256 := by have := numS1_lt s 0; rw [h1] at this; exact this
  have hm256 : many < 256 := by have := numS1_lt t1 y1; rw [h2] at this; exact this
  have hs1 : t1.size ≤ maxLen := by have := numS_le s 0 1; rw [h1] at this; exact Nat.le_trans this hs
  have hs2 : t2.size ≤ maxLen := by have := numS_le t1 y1 1; rw [h2] at this; exact Nat.le_trans this hs1
  subst hkd
  have hRR : readR s = if many = 0 then ([], []) else ((rdBr (many - 1) (numS t2 y2 2).1 (numS t2 y2 2).2.1).1, ((numS t2 y2 2).2.2 : Int) :: (rdBr (many - 1) (numS t2 y2 2).1 (numS t2 y2 2).2.1).2) := by
    unfold readR readP
    rw [h1]
    simp only
    rw [h2]
    simp only
    rw [if_pos trivial, if_neg (by omega : ¬ (2 : Nat) = 1), if_pos trivial]
  have HZ := Lib.hid (fun h0 : many = 0 => show L0 = [] ∧ M0 = [] by rw [hRR, if_pos h0] at hLM; exact ⟨(Prod.mk.inj hLM).1.symm, (Prod.mk.inj hLM).2.symm⟩)
  have HRD := Lib.hid (fun h0 : 0 < many => show [] ++ (rdBr (many - 1) (numS t2 y2 2).1 (numS t2 y2 2).2.1).1 = L0 ∧ [((numS t2 y2 2).2.2 : Int)] ++ (rdBr (many - 1) (numS t2 y2 2).1 (numS t2 y2 2).2.1).2 = M0 by
    rw [hRR, if_neg (by omega)] at hLM
    exact ⟨(Prod.mk.inj hLM).1, (Prod.mk.inj hLM).2⟩)
  clear hRR
  have K1 := Lib.hid (rn_at s hs 0 1 h1)
  have K2 := Lib.hid (rn_at t1 hs1 y1 1 h2)
  have HS2 := Lib.hid hs2
  have HD := Lib.hid hd
  have HSM := Lib.hid hsmall
  obtain ⟨tt, yy, he⟩ : ∃ t y, encR L0 M0 = (t, y) := ⟨_, _, rfl⟩
  have HE := Lib.hid he
  have N2 := Nb.fresh w (.slice none 0 0) (.slice none 0 0) 25
  have BB := new_below w (.cells #[.slice none 0 0, .slice none 0 0] 25)
  clear hd he hsmall hs hs1 hs2 h1 h2 hLM
  go_enter Try.func13, Try.ntmps13
  go_wp2_with fail
  refine (K1.out _).mono ?_
  rintro e1 w1 ⟨rfl, hb⟩
  replace N2 := N2.below hb
  replace BB := below_to BB hb
  have hg4 := N2.lt
  clear hb
  go_upto_region 2 with (fail)
  have R := Nb.fresh w1 (.string t1) (.int .i64 y1) 70
  replace N2 := N2.below (new_below w1 (.cells #[.string t1, .int .i64 y1] 70))
  replace BB := below_to BB (new_below w1 (.cells #[.string t1, .int .i64 y1] 70))
  generalize w1.alloc (.cells #[.string t1, .int .i64 y1] 70) = w2 at R N2 BB ⊢
  generalize w1.heap.size = g4 at R hg4 ⊢
  have c0 := R.c0
  have c1 := R.c1
  go_wp2_with fail
  refine (K2.out _).mono ?_
  rintro e2 w3 ⟨rfl, hb⟩
  replace R := R.below hb
  replace N2 := N2.below hb
  replace BB := below_to BB hb
  clear hb c0 c1
  have c0 := R.c0
  have c1 := R.c1
  have f0 := R.f0
  have f1 := R.f1
  go_upto_region 3 with (fail)
  clear c0 c1 f0 f1
  replace R := (R.set0 (.string t2)).set1 (.int .i64 y2)
  replace N2 := (N2.set_far (k := g4) (o := 0) (.string t2) (by omega)).set_far (k := g4) (o := 1) (.int .i64 y2) (by omega)
  replace BB := (BB.setCell (p := ⟨g4, 0, none⟩) (by show w.heap.size ≤ g4; omega) (.string t2)).setCell (p := ⟨g4, 1, none⟩) (by show w.heap.size ≤ g4; omega) (.int .i64 y2)
  generalize (w3.setCell ⟨g4, 0, none⟩ (.string t2)).setCell ⟨g4, 1, none⟩ (.int .i64 y2) = w4 at R N2 BB ⊢
  go_upto_region 4 with (fail)
  have N7 := Nb.fresh w4 (.slice none 0 0) (.slice none 0 0) 25
  have hg7 := R.lt
  replace R := R.below (new_below w4 (.cells #[.slice none 0 0, .slice none 0 0] 25))
  replace N2 := N2.below (new_below w4 (.cells #[.slice none 0 0, .slice none 0 0] 25))
  replace BB := below_to BB (new_below w4 (.cells #[.slice none 0 0, .slice none 0 0] 25))
  generalize w4.alloc (.cells #[.slice none 0 0, .slice none 0 0] 25) = w5 at R N2 N7 BB ⊢
  generalize w4.heap.size = g7 at N7 hg7 ⊢
  obtain ⟨base, hbase⟩ : ∃ b, g7 + 1 = b := ⟨_, rfl⟩
  have hb7 : g7 < base := by omega
  have hbw : base ≤ w5.heap.size := by have := N7.lt; omega
  have own := World.ownsRow_nil w5 base 44 2
  have ownK := World.ownsRow_nil w5 base 3 1
  go_wp2_with fail
  go_loopw [8] (fun i wx => ∃ (k j : Nat) (t : ByteArray) (y : Int) (L : List It) (M : List Int) (v u : Value), k ≤ many ∧ j ≤ k ∧ Hid (BrAt many k t2 y2 L0 M0 t y L M j) ∧ Hid (t.size ≤ maxLen) ∧ Nb wx g4 (.string t) (.int .i64 y) ∧ wx.ownsRow base 44 2 v j (flatI L) ∧ wx.ownsRow base 3 1 u k (kidV M) ∧ Nb wx w.heap.size (.slice none 0 0) (.slice none 0 0) ∧ Nb wx g7 v u ∧ Below w.heap.size w wx ∧ base ≤ wx.heap.size ∧ i = .int .u64 (k : Int)) (fun i _ => many - (intOf i).toNat)
  case atStart => exact ⟨0, 0, t2, y2, [], [], .slice none 0 0, .slice none 0 0, by omega, by omega, Lib.hid (.inl ⟨rfl, rfl, rfl, rfl, rfl, rfl⟩), HS2, R, own, ownK, N2, N7, BB, hbw, rfl⟩
  case round =>
    clear R own ownK N2 N7 BB hbw
    obtain ⟨k, j, t, y', L1, M1, v, u, hk, hjk, HL, HTS, R, own, ownK, N2, N7, BB, hbw, rfl⟩ := hrel
    by_cases hlt : k < many
    · by_cases hk0 : k = 0
      · subst hk0
        obtain rfl : j = 0 := by omega
        obtain ⟨tb, yb, z, h2⟩ : ∃ t2 y2 q, numS t y' 2 = (t2, y2, q) := ⟨_, _, _, rfl⟩
        have hl2 := numS_le t y' 2
        rw [h2] at hl2
        have HTS2 := Lib.hid (Nat.le_trans hl2 HTS.out)
        have KN := Lib.hid (rn_at t HTS.out y' 2 h2)
        have hz16 := numS_lt t y' 2 (by omega) (by omega)
        rw [show ((2 : Nat) : Int) = 2 from rfl, h2] at hz16
        have hz16' : z < 65536 := hz16
        have HL2 : Hid (BrAt many (0 + 1) t2 y2 L0 M0 tb yb L1 (M1 ++ [(z : Int)]) 0) := Lib.hid (by
          rcases HL.out with ⟨_, rfl, rfl, rfl, rfl, _⟩ | ⟨h0, _⟩
          · refine .inr ⟨by omega, rfl, ?_, ?_⟩
            · have h5 := (HRD.out (by omega)).1; rw [h2] at h5; exact h5
            · have h5 := (HRD.out (by omega)).2; rw [h2] at h5; exact h5
          · omega)
        clear h2 hl2 hz16
        go_upto_region 13 with (fail)
        have c0 := R.c0
        have c1 := R.c1
        go_wp2_with fail
        refine (KN.out _).mono ?_
        rintro e5 we ⟨rfl, hb⟩
        replace R := R.below hb
        replace N2 := N2.below hb
        replace N7 := N7.below hb
        replace own := own_below own hb
        replace ownK := own_below ownK hb
        replace BB := below_to BB hb
        replace hbw := Nat.le_trans hbw hb.size
        clear hb c0 c1 KN
        have c0 := R.c0
        have c1 := R.c1
        have f0 := R.f0
        have f1 := R.f1
        go_upto_region 14 with (fail)
        clear c0 c1 f0 f1
        replace R := (R.set0 (.string tb)).set1 (.int .i64 yb)
        replace N2 := (N2.set_far (k := g4) (o := 0) (.string tb) (by omega)).set_far (k := g4) (o := 1) (.int .i64 yb) (by omega)
        replace N7 := (N7.set_far (k := g4) (o := 0) (.string tb) (by omega)).set_far (k := g4) (o := 1) (.int .i64 yb) (by omega)
        replace own := own_set (g := g4) (o := 1) (x := .int .i64 yb) (own_set (g := g4) (o := 0) (x := .string tb) own (by omega)) (by omega)
        replace ownK := own_set (g := g4) (o := 1) (x := .int .i64 yb) (own_set (g := g4) (o := 0) (x := .string tb) ownK (by omega)) (by omega)
        replace BB := (BB.setCell (p := ⟨g4, 0, none⟩) (by show w.heap.size ≤ g4; omega) (.string tb)).setCell (p := ⟨g4, 1, none⟩) (by show w.heap.size ≤ g4; omega) (.int .i64 yb)
        replace hbw : base ≤ ((we.setCell ⟨g4, 0, none⟩ (.string tb)).setCell ⟨g4, 1, none⟩ (.int .i64 yb)).heap.size := by simpa using hbw
        generalize (we.setCell ⟨g4, 0, none⟩ (.string tb)).setCell ⟨g4, 1, none⟩ (.int .i64 yb) = wf at R N2 N7 own ownK BB hbw ⊢
        have hwz : IntKind.i64.wrap (z : Int) = (z : Int) := IntWalk.i64_in _ (by omega)
        obtain ⟨bd, bp, W2, hrun, M7, hfar, own2, ownK2, BB2, hbw2⟩ := app_kid2 N7 own ownK BB hb7 (by omega) hbw (z : Int) (by omega)
        have M2 := hfar _ _ _ (by omega) N2
        have MR := hfar _ _ _ (by omega) R
        have c0 := N7.c0
        have c1 := N7.c1
        have d0 := M7.c0
        have d1 := M7.c1
        have df0 := M7.f0
        have df1 := M7.f1
        clear N7 own ownK BB hbw R N2
        go_wp2_with (at_builtin; refine wpList_append_run _ rfl _ _ 23 23 rfl _ _ rfl rfl hrun ?_)
        go_roundw
        case rel => exact ⟨0 + 1, 0, tb, yb, L1, M1 ++ [(z : Int)], _, _, by omega, by omega, HL2, HTS2, MR.set_far _ (by omega), own2, ownK2, M2.set_far _ (by omega), M7.set1 _, BB2, hbw2, by go_num⟩
        case measure => simp [intOf]; try omega
      · obtain ⟨ta, ya, p, h1⟩ : ∃ t1 y1 p, shortS t y' = (t1, y1, p) := ⟨_, _, _, rfl⟩
        obtain ⟨tb, yb, z, h2⟩ : ∃ t2 y2 q, numS ta ya 2 = (t2, y2, q) := ⟨_, _, _, rfl⟩
        have hl1 := shortS_le t y'
        rw [h1] at hl1
        have hl2 := numS_le ta ya 2
        rw [h2] at hl2
        have hts1 := Nat.le_trans hl1 HTS.out
        have HTS2 := Lib.hid (Nat.le_trans hl2 hts1)
        have KT1 := Lib.hid (rtext_any t y' h1 HTS.out)
        have KN := Lib.hid (rn_at ta hts1 ya 2 h2)
        have hz16 := numS_lt ta ya 2 (by omega) (by omega)
        rw [show ((2 : Nat) : Int) = 2 from rfl, h2] at hz16
        have hz16' : z < 65536 := hz16
        have HL2 : Hid (BrAt many (k + 1) t2 y2 L0 M0 tb yb (L1 ++ [(p, ByteArray.empty)]) (M1 ++ [(z : Int)]) (j + 1)) := Lib.hid (by
          rcases HL.out with ⟨h0, _⟩ | ⟨_, hj, e1, e2⟩
          · exact absurd h0 hk0
          · refine .inr ⟨by omega, by omega, ?_, ?_⟩
            · rw [← e1, show many - k = (many - (k + 1)) + 1 by omega, rdBr_succ _ _ _ _ _ _ _ _ _ h1 h2, List.append_assoc]; rfl
            · rw [← e2, show many - k = (many - (k + 1)) + 1 by omega, rdBr_succ _ _ _ _ _ _ _ _ _ h1 h2, List.append_assoc]; rfl)
        clear h1 h2 hl1 hl2 hts1 hz16
        have hk1 : (0 : Int) < (k : Int) := by omega
        have X := Nb.fresh wr (.string ⟨#[]⟩) (.string ⟨#[]⟩) 44
        obtain ⟨gi, hgi⟩ : ∃ g, wr.heap.size = g := ⟨_, rfl⟩
        have h4i : g4 < gi := by rw [← hgi]; exact R.lt
        have h7i : g7 < gi := by rw [← hgi]; exact N7.lt
        have h2i : w.heap.size < gi := by rw [← hgi]; exact N2.lt
        have hbi : base ≤ gi := by omega
        have hne : v.ownBlock ≠ some gi := fun e => by have := (own.lt gi e).2; omega
        have hneu : u.ownBlock ≠ some gi := fun e => by have := (ownK.lt gi e).2; omega
        rw [hgi] at X
        replace R := R.below (new_below wr (.cells #[.string ⟨#[]⟩, .string ⟨#[]⟩] 44))
        replace N2 := N2.below (new_below wr (.cells #[.string ⟨#[]⟩, .string ⟨#[]⟩] 44))
        replace N7 := N7.below (new_below wr (.cells #[.string ⟨#[]⟩, .string ⟨#[]⟩] 44))
        replace own := own_below own (new_below wr (.cells #[.string ⟨#[]⟩, .string ⟨#[]⟩] 44))
        replace BB := below_to BB (new_below wr (.cells #[.string ⟨#[]⟩, .string ⟨#[]⟩] 44))
        replace hbw := Nat.le_trans hbw (new_below wr (.cells #[.string ⟨#[]⟩, .string ⟨#[]⟩] 44)).size
        replace ownK := own_below ownK (new_below wr (.cells #[.string ⟨#[]⟩, .string ⟨#[]⟩] 44))
        go_upto_region 10 with (fail)
        try rw [hgi]
        generalize wr.alloc (.cells #[.string ⟨#[]⟩, .string ⟨#[]⟩] 44) = wa at X R N2 N7 own ownK BB hbw ⊢
        clear hgi
        have c0 := R.c0
        have c1 := R.c1
        go_wp2_with fail
        refine (KT1.out _).mono ?_
        rintro e3 wb ⟨rfl, hb⟩
        replace R := R.below hb
        replace N2 := N2.below hb
        replace N7 := N7.below hb
        replace X := X.below hb
        replace own := own_below own hb
        replace BB := below_to BB hb
        replace hbw := Nat.le_trans hbw hb.size
        replace ownK := own_below ownK hb
        clear hb c0 c1 KT1
        have c0 := R.c0
        have c1 := R.c1
        have f0 := R.f0
        have f1 := R.f1
        have x0 := X.c0
        have x1 := X.f0
        have q4i : ¬ gi = g4 := by omega
        have q4j : ¬ g4 = gi := by omega
        go_upto_region 11 with (fail)
        clear c0 c1 f0 f1 x0 x1
        replace R := ((R.set0 (.string ta)).set1 (.int .i64 ya)).set_far (k := gi) (o := 0) (.string p) (by omega)
        replace X := ((X.set_far (k := g4) (o := 0) (.string ta) (by omega)).set_far (k := g4) (o := 1) (.int .i64 ya) (by omega)).set0 (.string p)
        replace N2 := ((N2.set_far (k := g4) (o := 0) (.string ta) (by omega)).set_far (k := g4) (o := 1) (.int .i64 ya) (by omega)).set_far (k := gi) (o := 0) (.string p) (by omega)
        replace N7 := ((N7.set_far (k := g4) (o := 0) (.string ta) (by omega)).set_far (k := g4) (o := 1) (.int .i64 ya) (by omega)).set_far (k := gi) (o := 0) (.string p) (by omega)
        replace own := own_setn (g := gi) (o := 0) (x := .string p) (own_set (g := g4) (o := 1) (x := .int .i64 ya) (own_set (g := g4) (o := 0) (x := .string ta) own (by omega)) (by omega)) hne
        replace ownK := own_setn (g := gi) (o := 0) (x := .string p) (own_set (g := g4) (o := 1) (x := .int .i64 ya) (own_set (g := g4) (o := 0) (x := .string ta) ownK (by omega)) (by omega)) hneu
        replace BB := ((BB.setCell (p := ⟨g4, 0, none⟩) (by show w.heap.size ≤ g4; omega) (.string ta)).setCell (p := ⟨g4, 1, none⟩) (by show w.heap.size ≤ g4; omega) (.int .i64 ya)).setCell (p := ⟨gi, 0, none⟩) (by show w.heap.size ≤ gi; omega) (.string p)
        replace hbw : base ≤ (((wb.setCell ⟨g4, 0, none⟩ (.string ta)).setCell ⟨g4, 1, none⟩ (.int .i64 ya)).setCell ⟨gi, 0, none⟩ (.string p)).heap.size := by simpa using hbw
        generalize ((wb.setCell ⟨g4, 0, none⟩ (.string ta)).setCell ⟨g4, 1, none⟩ (.int .i64 ya)).setCell ⟨gi, 0, none⟩ (.string p) = wbs at R X N2 N7 own ownK BB hbw ⊢
        obtain ⟨ad, cp, W', hrun, M7, hfar, own2, ownK2, BB2, hbw2⟩ := app_item2 N7 own ownK BB hb7 (by omega) hbw p ByteArray.empty (by omega)
        have M2 := hfar _ _ _ (by omega) N2
        have MR := hfar _ _ _ (by omega) R
        have c0 := N7.c0
        have c1 := N7.c1
        have x0 := X.c0
        have x1 := X.c1
        have d0 := M7.c0
        have d1 := M7.c1
        have df0 := M7.f0
        have df1 := M7.f1
        clear N7 own ownK BB hbw R N2 X
        go_upto_region 13 with (at_builtin; refine wpList_append_run _ rfl _ _ 22 22 rfl _ _ rfl rfl hrun ?_)
        have R := MR.set_far (k := g7) (o := 0) (.slice ad (j + 1) cp) (by omega)
        have N2 := M2.set_far (k := g7) (o := 0) (.slice ad (j + 1) cp) (by omega)
        have N7 := M7.set0 (.slice ad (j + 1) cp)
        have own := own2
        have ownK := ownK2
        have BB := BB2
        have hbw := hbw2
        clear c0 c1 x0 x1 d0 d1 df0 df1 M7 MR M2 own2 ownK2 BB2 hbw2 hrun hfar
        generalize W'.setCell ⟨g7, 0, none⟩ (.slice ad (j + 1) cp) = wq at R N2 N7 own ownK BB hbw ⊢
        have c0 := R.c0
        have c1 := R.c1
        go_wp2_with fail
        refine (KN.out _).mono ?_
        rintro e5 we ⟨rfl, hb⟩
        replace R := R.below hb
        replace N2 := N2.below hb
        replace N7 := N7.below hb
        replace own := own_below own hb
        replace ownK := own_below ownK hb
        replace BB := below_to BB hb
        replace hbw := Nat.le_trans hbw hb.size
        clear hb c0 c1 KN
        have c0 := R.c0
        have c1 := R.c1
        have f0 := R.f0
        have f1 := R.f1
        go_upto_region 14 with (fail)
        clear c0 c1 f0 f1
        replace R := (R.set0 (.string tb)).set1 (.int .i64 yb)
        replace N2 := (N2.set_far (k := g4) (o := 0) (.string tb) (by omega)).set_far (k := g4) (o := 1) (.int .i64 yb) (by omega)
        replace N7 := (N7.set_far (k := g4) (o := 0) (.string tb) (by omega)).set_far (k := g4) (o := 1) (.int .i64 yb) (by omega)
        replace own := own_set (g := g4) (o := 1) (x := .int .i64 yb) (own_set (g := g4) (o := 0) (x := .string tb) own (by omega)) (by omega)
        replace ownK := own_set (g := g4) (o := 1) (x := .int .i64 yb) (own_set (g := g4) (o := 0) (x := .string tb) ownK (by omega)) (by omega)
        replace BB := (BB.setCell (p := ⟨g4, 0, none⟩) (by show w.heap.size ≤ g4; omega) (.string tb)).setCell (p := ⟨g4, 1, none⟩) (by show w.heap.size ≤ g4; omega) (.int .i64 yb)
        replace hbw : base ≤ ((we.setCell ⟨g4, 0, none⟩ (.string tb)).setCell ⟨g4, 1, none⟩ (.int .i64 yb)).heap.size := by simpa using hbw
        generalize (we.setCell ⟨g4, 0, none⟩ (.string tb)).setCell ⟨g4, 1, none⟩ (.int .i64 yb) = wf at R N2 N7 own ownK BB hbw ⊢
        have hwz : IntKind.i64.wrap (z : Int) = (z : Int) := IntWalk.i64_in _ (by omega)
        obtain ⟨bd, bp, W2, hrun, M7, hfar, own2, ownK2, BB2, hbw2⟩ := app_kid2 N7 own ownK BB hb7 (by omega) hbw (z : Int) (by omega)
        have M2 := hfar _ _ _ (by omega) N2
        have MR := hfar _ _ _ (by omega) R
        have c0 := N7.c0
        have c1 := N7.c1
        have d0 := M7.c0
        have d1 := M7.c1
        have df0 := M7.f0
        have df1 := M7.f1
        clear N7 own ownK BB hbw R N2
        go_wp2_with (at_builtin; refine wpList_append_run _ rfl _ _ 23 23 rfl _ _ rfl rfl hrun ?_)
        go_roundw
        case rel => exact ⟨k + 1, j + 1, tb, yb, L1 ++ [(p, ByteArray.empty)], M1 ++ [(z : Int)], _, _, by omega, by omega, HL2, HTS2, MR.set_far _ (by omega), own2, ownK2, M2.set_far _ (by omega), M7.set1 _, BB2, hbw2, by go_num⟩
        case measure => simp [intOf]; try omega
    · obtain rfl : k = many := by omega
      have hLM : L1 = L0 ∧ M1 = M0 := by
        rcases HL.out with ⟨h0, -, -, rfl, rfl, -⟩ | ⟨_, _, e1, e2⟩
        · exact (HZ.out h0).imp Eq.symm Eq.symm
        · rw [Nat.sub_self, rdBr] at e1 e2
          rw [List.append_nil] at e1 e2
          exact ⟨e1, e2⟩
      obtain ⟨rfl, rfl⟩ := hLM
      obtain ⟨a, c, hv, hac, hI⟩ := its_of_own own
      obtain ⟨ka, kc, hu, hkc, hK⟩ := kds_of_own ownK
      have hfa := own_fresh (h := w.heap.size + 1) (by rw [← hv]; exact own) (by omega)
      have hfk := own_fresh (h := w.heap.size + 1) (by rw [← hu]; exact ownK) (by omega)
      subst hv hu
      have hsm := HSM.out
      have hn4 : j ≤ 4096 := by have := hI.1; omega
      have hkn4 : k ≤ 4096 := by have := hK.1; omega
      have HT := Lib.hid hsm.2.2
      have HIK := Lib.hid hac
      have HKC := Lib.hid hkc
      have hlt7 : w.heap.size ≠ g7 := by omega
      have c0 := N7.c0
      have c1 := N7.c1
      go_wp2_with fail
      refine (rencode_any hI hK hn4 hkn4 HT.out.short tt yy HE.out).mono ?_
      rintro e9 wz ⟨rfl, hb⟩
      replace N2 := N2.below hb
      replace N7 := N7.below hb
      replace BB := below_to BB hb
      replace hI := hI.below hb
      replace hK := hK.below hb
      clear hb c0 c1 own ownK hsm hn4 hkn4 HSM
      have d0 := N2.c0
      have d1 := N2.c1
      have f0 := N2.f0
      have f1 := N2.f1
      have c0 := N7.c0
      have c1 := N7.c1
      have hd := HD.out
      have he := HE.out
      unfold decQ at hd
      unfold encR at he
      by_cases hR : RightP L1 M1
      · rw [if_pos hR] at he
        simp only [Prod.mk.injEq] at he
        obtain ⟨he, rfl⟩ := he
        by_cases hse : encF L1 M1 = s.data.toList
        · rw [if_pos ⟨hR, hse⟩] at hd
          simp only [Prod.mk.injEq] at hd
          obtain ⟨⟨rfl, rfl⟩, rfl⟩ := hd
          have hts : tt = s := by rw [← he, hse, bs_of]
          subst hts
          have M := (N2.set0 (.slice a j c)).set1 (.slice ka k kc)
          have HI := Lib.hid ((hI.set (g := w.heap.size) (o := 0) (x := .slice a j c) hfa (by omega)).set (g := w.heap.size) (o := 1) (x := .slice ka k kc) hfa (by omega))
          have HK := Lib.hid ((hK.set (g := w.heap.size) (o := 0) (x := .slice a j c) hfk (by omega)).set (g := w.heap.size) (o := 1) (x := .slice ka k kc) hfk (by omega))
          have HB := Lib.hid ((BB.setCell (p := ⟨w.heap.size, 0, none⟩) (Nat.le_refl _) (.slice a j c)).setCell (p := ⟨w.heap.size, 1, none⟩) (Nat.le_refl _) (.slice ka k kc))
          have HFA := Lib.hid (hfa.mono (Nat.le_succ _))
          have HFK := Lib.hid (hfk.mono (Nat.le_succ _))
          have m0 := M.c0
          have m1 := M.c1
          clear hR he hse HD HE hI hK hfa hfk BB
          go_wp2_with fail
          refine bodyPost_ret (v := .tuple #[.agg #[.slice a j c, .slice ka k kc], .int .i64 0]) (by simp [results, Try.results13, go_sem, m0, m1]; try rfl) rfl ?_
          exact ⟨a, j, c, ka, k, kc, rfl, HIK.out, HKC.out, HFA.out, HFK.out, HI.out, HK.out, HB.out⟩
        · rw [if_neg (fun h => hse h.2)] at hd
          simp only [Prod.mk.injEq] at hd
          obtain ⟨⟨rfl, rfl⟩, rfl⟩ := hd
          have hts : (tt.toList == s.toList) = false := by
            rw [ByteArray.toList_eq, ByteArray.toList_eq, beq_eq_false_iff_ne]
            intro e; apply hse; rw [← e, ← he, bs_toList]
          have M := (N2.set0 (.slice none 0 0)).set1 (.slice none 0 0)
          have HB := Lib.hid ((BB.setCell (p := ⟨w.heap.size, 0, none⟩) (Nat.le_refl _) (.slice none 0 0)).setCell (p := ⟨w.heap.size, 1, none⟩) (Nat.le_refl _) (.slice none 0 0))
          have m0 := M.c0
          have m1 := M.c1
          clear hR he hse HD HE hI hK hfa hfk BB
          go_wp2_with fail
          refine bodyPost_ret (v := .tuple #[.agg #[.slice none 0 0, .slice none 0 0], .int .i64 19]) (by simp [results, Try.results13, go_sem, m0, m1]; try rfl) rfl ?_
          exact ⟨none, 0, 0, none, 0, 0, rfl, by omega, by omega, (by intro x hx; cases hx), (by intro x hx; cases hx), ⟨rfl, .inl rfl⟩, ⟨rfl, .inl rfl⟩, HB.out⟩
      · rw [if_neg hR] at he
        simp only [Prod.mk.injEq] at he
        obtain ⟨rfl, rfl⟩ := he
        rw [if_neg (fun h => hR h.1)] at hd
        simp only [Prod.mk.injEq] at hd
        obtain ⟨⟨rfl, rfl⟩, rfl⟩ := hd
        have M := (N2.set0 (.slice none 0 0)).set1 (.slice none 0 0)
        have HB := Lib.hid ((BB.setCell (p := ⟨w.heap.size, 0, none⟩) (Nat.le_refl _) (.slice none 0 0)).setCell (p := ⟨w.heap.size, 1, none⟩) (Nat.le_refl _) (.slice none 0 0))
        have m0 := M.c0
        have m1 := M.c1
        clear hR HD HE hI hK hfa hfk BB
        go_wp2_with fail
        refine bodyPost_ret (v := .tuple #[.agg #[.slice none 0 0, .slice none 0 0], .int .i64 19]) (by simp [results, Try.results13, go_sem, m0, m1]; try rfl) rfl ?_
        exact ⟨none, 0, 0, none, 0, 0, rfl, by omega, by omega, (by intro x hx; cases hx), (by intro x hx; cases hx), ⟨rfl, .inl rfl⟩, ⟨rfl, .inl rfl⟩, HB.out⟩
theorem readR_small (s : ByteArray) : (readR s).1.length ≤ 256 ∧ (readR s).2.length ≤ 256 ∧ Tiny (readR s).1 := by
  have h := numS1_lt (numS s 0 1).1 (numS s 0 1).2.1
  have hp := readP_small s
  unfold readR
  split
  · split
    · exact ⟨by simp, by simp, by intro x hx; simp at hx⟩
    · exact ⟨by omega, by omega, hp.2.2⟩
  · exact ⟨by simp only [rdLeaf_len]; omega, by simp, rdLeaf_tiny _ _ _⟩
theorem rdecode_any (s : ByteArray) (w : World) (hs : s.size ≤ maxLen) (L : List It) (K : List Int) (y : Int) (hd : decQ s (readR s) = ((L, K), y)) : Calls Try.prog 13 #[.string s] w (DecRet w L K y) := by
  obtain ⟨t1, y1, kd, h1⟩ : ∃ t1 y1 k, numS s 0 1 = (t1, y1, k) := ⟨_, _, _, rfl⟩
  obtain ⟨t2, y2, many, h2⟩ : ∃ t2 y2 m, numS t1 y1 1 = (t2, y2, m) := ⟨_, _, _, rfl⟩
  obtain ⟨L0, M0, h3⟩ : ∃ L0 M0, readR s = (L0, M0) := ⟨_, _, rfl⟩
  have hsm := readR_small s
  rw [h3] at hsm hd
  by_cases hk : kd = 2
  · exact rdecBranch s hs w trivial h1 h2 hk L0 M0 h3 L K y hd hsm
  · exact rdecLeaf s hs w trivial h1 h2 hk L0 M0 h3 L K y hd hsm
theorem decQ_small {s : ByteArray} {L : List It} {K : List Int} {y : Int} (hd : decQ s (readP s) = ((L, K), y)) : L.length ≤ 256 ∧ K.length ≤ 256 := by
  have hp := readP_small s
  unfold decQ at hd
  split at hd
  · simp only [Prod.mk.injEq] at hd
    obtain ⟨h, -⟩ := hd
    rw [h] at hp
    simp only at hp
    omega
  · simp only [Prod.mk.injEq] at hd
    obtain ⟨⟨rfl, rfl⟩, -⟩ := hd
    simp
end Go.Proofs.Ytnjpijihjifkfaa
