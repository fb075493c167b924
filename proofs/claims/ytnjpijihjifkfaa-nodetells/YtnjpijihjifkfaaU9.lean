/- Contract: the reference's Join. -/
import Derived.Test.YtnjpijihjifkfaaU6
import Derived.Test.YtnjpijihjifkfaaTJ
namespace Go.Proofs.Ytnjpijihjifkfaa
open Go.RowKit
set_option linter.unusedVariables false
set_option linter.unusedSimpArgs false
/-- The reference's Join answers the joined node, if it is right. -/
def RJoinRet (w : World) (L : List It) (M : List Int) (e : Ending) (w' : World) : Prop :=
  ∃ a n c ka kn kc, e = .returned (.tuple #[.agg #[.slice a n c, .slice ka kn kc], .bool (decide (RightP L M))]) ∧
    Its w' a n (if RightP L M then L else []) ∧ Kds w' ka kn (if RightP L M then M else []) ∧ Below w.heap.size w w'
theorem own_its {w : World} {base t cp : Nat} {ad : Option Addr} {L : List It} (h : w.ownsRow base 44 2 (.slice ad t cp) t (flatI L)) : Its w ad t L := by
  obtain ⟨a, c, hv, _, hI⟩ := its_of_own h
  simp only [Value.slice.injEq, true_and] at hv
  obtain ⟨rfl, rfl⟩ := hv
  exact hI
theorem own_kds {w : World} {base t cp : Nat} {ad : Option Addr} {L : List Int} (h : w.ownsRow base 3 1 (.slice ad t cp) t (kidV L)) : Kds w ad t L := by
  obtain ⟨a, c, hv, _, hI⟩ := kds_of_own h
  simp only [Value.slice.injEq, true_and] at hv
  obtain ⟨rfl, rfl⟩ := hv
  exact hI
theorem own_not {w : World} {base T sz n g : Nat} {v : Value} {xs : List Value} (h : w.ownsRow base T sz v n xs) (hg : g < base) : some g ≠ v.ownBlock := fun e => by have := (h.lt g e.symm).1; omega
/-- One append to the items of a node that is being built, and what stands behind it. -/
theorem app_items {w0 W : World} {g8 base k : Nat} {v u : Value} {X : List It} (N8 : Nb W g8 v u) (own : W.ownsRow base 44 2 v k (flatI X)) (HB : Below w0.heap.size w0 W) (hb : g8 < base) (hb0 : w0.heap.size ≤ g8) (hbw : base ≤ W.heap.size)
    {a : Option Addr} {n c : Nat} {J : List It} (hJ : Its W a n J) (hkn : k + n ≤ 100000) :
    ∃ (ad : Option Addr) (cp : Nat) (W' : World), (Builtin.append_ #[22, 22] 22 #[v, .slice a n c]).run Try.prog W = .ok (.slice ad (k + n) cp) W' ∧ Nb W' g8 v u ∧
      Nb (W'.setCell ⟨g8, 0, none⟩ (.slice ad (k + n) cp)) g8 (.slice ad (k + n) cp) u ∧ (W'.setCell ⟨g8, 0, none⟩ (.slice ad (k + n) cp)).ownsRow base 44 2 (.slice ad (k + n) cp) (k + n) (flatI (X ++ J)) ∧
      Below w0.heap.size w0 (W'.setCell ⟨g8, 0, none⟩ (.slice ad (k + n) cp)) ∧ base ≤ (W'.setCell ⟨g8, 0, none⟩ (.slice ad (k + n) cp)).heap.size := by
  obtain ⟨v', W', hrun, own', hg⟩ := appI_any W base v k (flatI X) a n c J own hJ hbw hkn
  rw [← flatI_app] at own'
  obtain ⟨ad, cp, hv, _, _⟩ := its_of_own own'
  subst hv
  have N8' := N8.block hg.size (hg.block g8 N8.lt (own_not own hb))
  have B2 := HB.grown hg HB.size (fun j hj => by have := (own.lt j hj).1; omega)
  refine ⟨ad, cp, W', hrun, N8', N8'.set0 _, own_set own' hb, B2.setCell (p := ⟨g8, 0, none⟩) hb0 _, ?_⟩
  have := hg.size
  simp; omega
theorem app_kids {w0 W : World} {g8 base base2 k m : Nat} {v u : Value} {Y : List Int} {X : List It} (N8 : Nb W g8 v u) (own : W.ownsRow base2 3 1 u k (kidV Y)) (ownI : W.ownsRow base 44 2 v m (flatI X)) (hfar : ∀ g, v.ownBlock = some g → g < base2) (HB : Below w0.heap.size w0 W) (hb : g8 < base) (hbb : base ≤ base2) (hb0 : w0.heap.size ≤ g8) (hbw : base2 ≤ W.heap.size)
    {a : Option Addr} {n c : Nat} {J : List Int} (hJ : Kds W a n J) (hkn : k + n ≤ 100000) :
    ∃ (ad : Option Addr) (cp : Nat) (W' : World), (Builtin.append_ #[23, 23] 23 #[u, .slice a n c]).run Try.prog W = .ok (.slice ad (k + n) cp) W' ∧ Nb W' g8 v u ∧
      Nb (W'.setCell ⟨g8, 1, none⟩ (.slice ad (k + n) cp)) g8 v (.slice ad (k + n) cp) ∧ (W'.setCell ⟨g8, 1, none⟩ (.slice ad (k + n) cp)).ownsRow base2 3 1 (.slice ad (k + n) cp) (k + n) (kidV (Y ++ J)) ∧
      (W'.setCell ⟨g8, 1, none⟩ (.slice ad (k + n) cp)).ownsRow base 44 2 v m (flatI X) ∧
      Below w0.heap.size w0 (W'.setCell ⟨g8, 1, none⟩ (.slice ad (k + n) cp)) ∧ base2 ≤ (W'.setCell ⟨g8, 1, none⟩ (.slice ad (k + n) cp)).heap.size := by
  obtain ⟨v', W', hrun, own', hg⟩ := appK_any W base2 u k (kidV Y) a n c J own hJ hbw hkn
  rw [← kidV_app] at own'
  obtain ⟨ad, cp, hv, _, _⟩ := kds_of_own own'
  subst hv
  have N8' := N8.block hg.size (hg.block g8 N8.lt (own_not own (by omega)))
  have ownI' := own_far ownI hg (fun g hvg hu => by have := (own.lt g hu).1; have := hfar g hvg; omega)
  have B2 := HB.grown hg HB.size (fun j hj => by have := (own.lt j hj).1; omega)
  refine ⟨ad, cp, W', hrun, N8', N8'.set1 _, own_set own' (by omega), own_set ownI' hb, B2.setCell (p := ⟨g8, 1, none⟩) hb0 _, ?_⟩
  have := hg.size
  simp; omega
theorem its_one' (w : World) (p q : ByteArray) (T : TypeId) : Its (w.alloc (.cells #[.string p, .string q] T)) (some ⟨w.heap.size, 0, none⟩) 1 [(p, q)] :=
  ⟨rfl, .inr ⟨w.heap.size, 0, rfl, by simp, fun j hj => by
    obtain rfl : j = 0 := by omega
    exact ⟨by simp [go_sem, kq], by simp [go_sem, vq]⟩⟩⟩
section
variable {w : World} {a a2 : Option Addr} {n c n2 c2 : Nat} {ka ka2 : Option Addr} {kn kc kn2 kc2 : Nat} {I I2 : List It} {K K2 : List Int}
set_option maxRecDepth 100000 in
set_option maxHeartbeats 1000000 in
theorem rjoinMixed_any (key : ByteArray) (h : kn = 0 ∧ 0 < kn2 ∨ 0 < kn ∧ kn2 = 0) (w : World) :
    Calls Try.prog 25 #[.agg #[.slice a n c, .slice ka kn kc], .string key, .agg #[.slice a2 n2 c2, .slice ka2 kn2 kc2]] w fun e w' => e = .returned (.tuple #[.agg #[.slice none 0 0, .slice none 0 0], .bool false]) ∧ Below w.heap.size w w' := by
  have HB := Lib.hid (below_to (below_to (new_below w (.cells #[.slice a n c, .slice ka kn kc] 25)) (new_below _ (.cells #[.slice a2 n2 c2, .slice ka2 kn2 kc2] 25))) (new_below _ (.cells #[.slice none 0 0, .slice none 0 0] 25)))
  rcases h with ⟨rfl, h2⟩ | ⟨h1, rfl⟩
  · have hq : ((kn2 : Int) == 0) = false := by rw [beq_eq_false_iff_ne]; omega
    go_enter Try.func25, Try.ntmps25
    go_wp2_with fail
    refine bodyPost_ret (v := .tuple #[.agg #[.slice none 0 0, .slice none 0 0], .bool false]) (by simp [results, Try.results25, go_sem]) rfl ?_
    exact ⟨rfl, HB.out⟩
  · have hq : ((kn : Int) == 0) = false := by rw [beq_eq_false_iff_ne]; omega
    go_enter Try.func25, Try.ntmps25
    go_wp2_with fail
    refine bodyPost_ret (v := .tuple #[.agg #[.slice none 0 0, .slice none 0 0], .bool false]) (by simp [results, Try.results25, go_sem]) rfl ?_
    exact ⟨rfl, HB.out⟩
set_option maxRecDepth 100000 in
set_option maxHeartbeats 4000000 in
theorem rjoinLeaf_any (hI : Its w a n I) (hJ : Its w a2 n2 I2) (hK : Kds w ka kn K) (hL : Kds w ka2 kn2 K2) (key : ByteArray) (hz : kn = 0) (hz2 : kn2 = 0) (hn : n ≤ 1000) (hn2 : n2 ≤ 1000) (hkn : kn ≤ 1000) (hkn2 : kn2 ≤ 1000) (LL : List It) (hLL : [I, ([] : List It), I2].flatten = LL) (hS : Short LL) (ML : List Int) (hML : [K, K2].flatten = ML) :
    Calls Try.prog 25 #[.agg #[.slice a n c, .slice ka kn kc], .string key, .agg #[.slice a2 n2 c2, .slice ka2 kn2 kc2]] w (RJoinRet w LL ML) := by
  have N3 := ((Nd.new w a n c ka kn kc 25).below (new_below _ (.cells #[.slice a2 n2 c2, .slice ka2 kn2 kc2] 25))).below (new_below _ (.cells #[.slice none 0 0, .slice none 0 0] 25))
  have N5 := (Nd.new (w.alloc (.cells #[.slice a n c, .slice ka kn kc] 25)) a2 n2 c2 ka2 kn2 kc2 25).below (new_below _ (.cells #[.slice none 0 0, .slice none 0 0] 25))
  have N6 := Nb.fresh ((w.alloc (.cells #[.slice a n c, .slice ka kn kc] 25)).alloc (.cells #[.slice a2 n2 c2, .slice ka2 kn2 kc2] 25)) (.slice none 0 0) (.slice none 0 0) 25
  have hs1 : (w.alloc (.cells #[.slice a n c, .slice ka kn kc] 25)).heap.size = w.heap.size + 1 := by simp
  have hs2 : ((w.alloc (.cells #[.slice a n c, .slice ka kn kc] 25)).alloc (.cells #[.slice a2 n2 c2, .slice ka2 kn2 kc2] 25)).heap.size = w.heap.size + 1 + 1 := by simp
  rw [hs1] at N5
  rw [hs2] at N6
  have hBB := below_to (below_to (new_below w (.cells #[.slice a n c, .slice ka kn kc] 25)) (new_below _ (.cells #[.slice a2 n2 c2, .slice ka2 kn2 kc2] 25))) (new_below _ (.cells #[.slice none 0 0, .slice none 0 0] 25))
  have HI := Lib.hid (hI.below hBB)
  have HJ := Lib.hid (hJ.below hBB)
  have HK := Lib.hid (hK.below hBB)
  have HL := Lib.hid (hL.below hBB)
  have HLL := Lib.hid hLL
  have HML := Lib.hid hML
  have HS := Lib.hid hS
  clear hs1 hs2 hI hJ hK hL hLL hML hS
  subst hz
  subst hz2
  go_enter Try.func25, Try.ntmps25
  go_upto_region 3 with (fail)
  generalize ((w.alloc (.cells #[.slice a n c, .slice ka 0 kc] 25)).alloc (.cells #[.slice a2 n2 c2, .slice ka2 0 kc2] 25)).alloc (.cells #[.slice none 0 0, .slice none 0 0] 25) = w0 at N3 N5 N6 hBB HI HJ HK HL ⊢
  go_upto_region 4 with (fail)
  have N8 := Nb.fresh w0 (.slice none 0 0) (.slice none 0 0) 25
  have HB := new_below w0 (.cells #[.slice none 0 0, .slice none 0 0] 25)
  obtain ⟨base, hbase⟩ : ∃ b, (w0.alloc (.cells #[.slice none 0 0, .slice none 0 0] 25)).heap.size = b := ⟨_, rfl⟩
  have hb8 : w0.heap.size < base := by rw [← hbase]; exact N8.lt
  have hbw : base ≤ (w0.alloc (.cells #[.slice none 0 0, .slice none 0 0] 25)).heap.size := by rw [hbase]; exact Nat.le_refl _
  have own := World.ownsRow_nil (w0.alloc (.cells #[.slice none 0 0, .slice none 0 0] 25)) base 44 2
  have hb0 : w0.heap.size ≤ w0.heap.size := Nat.le_refl _
  have h6 : w.heap.size + 1 + 1 < w0.heap.size := N6.lt
  clear hbase
  generalize w0.alloc (.cells #[.slice none 0 0, .slice none 0 0] 25) = W1 at N8 HB hbw own ⊢
  obtain ⟨g8, hg8⟩ : ∃ g, w0.heap.size = g := ⟨_, rfl⟩
  rw [hg8] at N8 hb8 h6 ⊢
  replace hb0 : w0.heap.size ≤ g8 := by omega
  obtain ⟨ad, cp, W', hrun, M8, N8n, ownn, HBn, hbwn⟩ := app_items (X := []) (c := c) N8 own HB hb8 hb0 hbw (HI.out.below HB) (by omega)
  obtain ⟨t1, ht1⟩ : ∃ t, 0 + n = t := ⟨_, rfl⟩
  rw [ht1] at hrun N8n ownn HBn hbwn
  have x0 := N8.c0
  have x1 := N8.c1
  have y0 := M8.c0
  have y1 := M8.c1
  have z0 := M8.f0
  have z1 := M8.f1
  have c0 := (N3.below HB).c0
  have c1 := (N3.below HB).c1
  have d0 := (N5.below HB).c0
  have d1 := (N5.below HB).c1
  go_upto_region 5 with (at_builtin; refine wpList_append_run _ rfl _ _ 22 22 rfl _ _ rfl rfl hrun ?_)
  clear x0 x1 y0 y1 z0 z1 c0 c1 d0 d1 hrun M8 N8 own HB hbw
  generalize W'.setCell ⟨g8, 0, none⟩ (.slice ad t1 cp) = W2 at N8n ownn HBn hbwn ⊢
  have N8 := N8n
  have own := ownn
  have HB := HBn
  have hbw := hbwn
  clear N8n ownn HBn hbwn
  rw [List.nil_append] at own
  have c1 := (N3.below HB).c1
  go_upto_region 7 with (fail)
  clear c1
  obtain ⟨ad, cp, W', hrun, M8, N8n, ownn, HBn, hbwn⟩ := app_items (c := c2) N8 own HB hb8 hb0 hbw (HJ.out.below HB) (by omega)
  obtain ⟨t3, ht3⟩ : ∃ t, t1 + n2 = t := ⟨_, rfl⟩
  rw [ht3] at hrun N8n ownn HBn hbwn
  have x0 := N8.c0
  have x1 := N8.c1
  have y0 := M8.c0
  have y1 := M8.c1
  have z0 := M8.f0
  have z1 := M8.f1
  have c0 := (N3.below HB).c0
  have c1 := (N3.below HB).c1
  have d0 := (N5.below HB).c0
  have d1 := (N5.below HB).c1
  go_upto_region 8 with (at_builtin; refine wpList_append_run _ rfl _ _ 22 22 rfl _ _ rfl rfl hrun ?_)
  clear x0 x1 y0 y1 z0 z1 c0 c1 d0 d1 hrun M8 N8 own HB hbw
  generalize W'.setCell ⟨g8, 0, none⟩ (.slice ad t3 cp) = W4 at N8n ownn HBn hbwn ⊢
  have N8 := N8n
  have own := ownn
  have HB := HBn
  have hbw := hbwn
  clear N8n ownn HBn hbwn
  obtain ⟨base2, hbase2⟩ : ∃ b, W4.heap.size = b := ⟨_, rfl⟩
  have hfar := fun g (h : (Value.slice ad t3 cp).ownBlock = some g) => (own.lt g h).2
  rw [hbase2] at hfar
  have hbb : base ≤ base2 := by omega
  have hbw2 : base2 ≤ W4.heap.size := by omega
  have ownK := World.ownsRow_nil W4 base2 3 1
  have HX := Lib.hid (show I ++ I2 = LL by rw [← HLL.out]; simp)
  rw [HX.out] at own
  clear hbase2
  obtain ⟨bd, bp, W', hrun, M8, N8n, ownKn, ownn, HBn, hbwn⟩ := app_kids (Y := []) (c := kc) N8 ownK own hfar HB hb8 hbb hb0 hbw2 (HK.out.below HB) (by omega)
  obtain ⟨s1, hs1⟩ : ∃ t, 0 + 0 = t := ⟨_, rfl⟩
  rw [hs1] at hrun N8n ownKn ownn HBn hbwn
  have x0 := N8.c0
  have x1 := N8.c1
  have y0 := M8.c0
  have y1 := M8.c1
  have z0 := M8.f0
  have z1 := M8.f1
  have c0 := (N3.below HB).c0
  have c1 := (N3.below HB).c1
  have d0 := (N5.below HB).c0
  have d1 := (N5.below HB).c1
  go_upto_region 9 with (at_builtin; refine wpList_append_run _ rfl _ _ 23 23 rfl _ _ rfl rfl hrun ?_)
  clear x0 x1 y0 y1 z0 z1 c0 c1 d0 d1 hrun M8 N8 own ownK HB hbw2
  generalize W'.setCell ⟨g8, 1, none⟩ (.slice bd s1 bp) = W5 at N8n ownKn ownn HBn hbwn ⊢
  have N8 := N8n
  have own := ownn
  have ownK := ownKn
  have HB := HBn
  have hbw2 := hbwn
  clear N8n ownn ownKn HBn hbwn
  rw [List.nil_append] at ownK
  obtain ⟨ed, ep, W', hrun, M8, N8n, ownKn, ownn, HBn, hbwn⟩ := app_kids (c := kc2) N8 ownK own hfar HB hb8 hbb hb0 hbw2 (HL.out.below HB) (by omega)
  obtain ⟨s2, hs2⟩ : ∃ t, s1 + 0 = t := ⟨_, rfl⟩
  rw [hs2] at hrun N8n ownKn ownn HBn hbwn
  have x0 := N8.c0
  have x1 := N8.c1
  have y0 := M8.c0
  have y1 := M8.c1
  have z0 := M8.f0
  have z1 := M8.f1
  have c0 := (N3.below HB).c0
  have c1 := (N3.below HB).c1
  have d0 := (N5.below HB).c0
  have d1 := (N5.below HB).c1
  go_upto_region 10 with (at_builtin; refine wpList_append_run _ rfl _ _ 23 23 rfl _ _ rfl rfl hrun ?_)
  clear x0 x1 y0 y1 z0 z1 c0 c1 d0 d1 hrun M8 N8 own ownK HB hbw2
  generalize W'.setCell ⟨g8, 1, none⟩ (.slice ed s2 ep) = W6 at N8n ownKn ownn HBn hbwn ⊢
  have N8 := N8n
  have own := ownn
  have ownK := ownKn
  have HB := HBn
  have hbw2 := hbwn
  clear N8n ownn ownKn HBn hbwn
  have HY := Lib.hid (show K ++ K2 = ML by rw [← HML.out]; simp)
  rw [HY.out] at ownK
  have hIt := own_its own
  have hKt := own_kds ownK
  obtain ⟨t, ht⟩ : ∃ t, decide (RightP LL ML) = t := ⟨_, rfl⟩
  have HR := Lib.hid (fun (w1 : World) (B : Below W6.heap.size W6 w1) => rright_any (c := cp) (kc := ep) (hIt.below B) (hKt.below B) (by omega) (by omega) HS.out t ht)
  have c0 := N8.c0
  have c1 := N8.c1
  go_wp2_with fail
  refine (HR.out _ (Below.refl _ _)).mono ?_
  rintro e W7 ⟨rfl, hb⟩
  replace N8 := N8.below hb
  replace HB := below_to HB hb
  replace own := own_below own hb
  replace ownK := own_below ownK hb
  have N6' := N6.below HB
  clear hb c0 c1 HR hIt hKt
  have c0 := N8.c0
  have c1 := N8.c1
  have y0 := N6'.c0
  have y1 := N6'.c1
  have z0 := N6'.f0
  have z1 := N6'.f1
  have HT := Lib.hid ht
  cases t with
  | true =>
    have M := (N6'.set0 (.slice ad t3 cp)).set1 (.slice ed s2 ep)
    have m0 := M.c0
    have m1 := M.c1
    have HIt := Lib.hid (own_its (own_set (g := w.heap.size + 1 + 1) (o := 1) (x := .slice ed s2 ep) (own_set (g := w.heap.size + 1 + 1) (o := 0) (x := .slice ad t3 cp) own (by omega)) (by omega)))
    have HKt := Lib.hid (own_kds (own_set (g := w.heap.size + 1 + 1) (o := 1) (x := .slice ed s2 ep) (own_set (g := w.heap.size + 1 + 1) (o := 0) (x := .slice ad t3 cp) ownK (by omega)) (by omega)))
    have HBf := Lib.hid (((hBB.trans (HB.mono hBB.size)).setCell (p := ⟨w.heap.size + 1 + 1, 0, none⟩) (by show w.heap.size ≤ w.heap.size + 1 + 1; omega) (.slice ad t3 cp)).setCell (p := ⟨w.heap.size + 1 + 1, 1, none⟩) (by show w.heap.size ≤ w.heap.size + 1 + 1; omega) (.slice ed s2 ep))
    clear M N6 N6' N8 own ownK hBB HB hfar ht
    go_wp2_with fail
    refine bodyPost_ret (v := .tuple #[.agg #[.slice ad t3 cp, .slice ed s2 ep], .bool true]) (by simp [results, Try.results25, go_sem, m0, m1]) rfl ?_
    have hr := of_decide_eq_true HT.out
    exact ⟨ad, t3, cp, ed, s2, ep, by rw [HT.out], by rw [if_pos hr]; exact HIt.out, by rw [if_pos hr]; exact HKt.out, HBf.out⟩
  | false =>
    have M := (N6'.set0 (.slice none 0 0)).set1 (.slice none 0 0)
    have m0 := M.c0
    have m1 := M.c1
    have HBf := Lib.hid (((hBB.trans (HB.mono hBB.size)).setCell (p := ⟨w.heap.size + 1 + 1, 0, none⟩) (by show w.heap.size ≤ w.heap.size + 1 + 1; omega) (.slice none 0 0)).setCell (p := ⟨w.heap.size + 1 + 1, 1, none⟩) (by show w.heap.size ≤ w.heap.size + 1 + 1; omega) (.slice none 0 0))
    clear M N6 N6' N8 own ownK hBB HB hfar ht
    go_wp2_with fail
    refine bodyPost_ret (v := .tuple #[.agg #[.slice none 0 0, .slice none 0 0], .bool false]) (by simp [results, Try.results25, go_sem, m0, m1]) rfl ?_
    have hr := of_decide_eq_false HT.out
    exact ⟨none, 0, 0, none, 0, 0, by rw [HT.out], by rw [if_neg hr]; exact ⟨rfl, .inl rfl⟩, by rw [if_neg hr]; exact ⟨rfl, .inl rfl⟩, HBf.out⟩
set_option maxRecDepth 100000 in
set_option maxHeartbeats 4000000 in
theorem rjoinBranch_any (hI : Its w a n I) (hJ : Its w a2 n2 I2) (hK : Kds w ka kn K) (hL : Kds w ka2 kn2 K2) (key : ByteArray) (hz : 0 < kn) (hz2 : 0 < kn2) (hn : n ≤ 1000) (hn2 : n2 ≤ 1000) (hkn : kn ≤ 1000) (hkn2 : kn2 ≤ 1000) (LL : List It) (hLL : [I, [(key, ByteArray.empty)], I2].flatten = LL) (hS : Short LL) (ML : List Int) (hML : [K, K2].flatten = ML) :
    Calls Try.prog 25 #[.agg #[.slice a n c, .slice ka kn kc], .string key, .agg #[.slice a2 n2 c2, .slice ka2 kn2 kc2]] w (RJoinRet w LL ML) := by
  have N3 := ((Nd.new w a n c ka kn kc 25).below (new_below _ (.cells #[.slice a2 n2 c2, .slice ka2 kn2 kc2] 25))).below (new_below _ (.cells #[.slice none 0 0, .slice none 0 0] 25))
  have N5 := (Nd.new (w.alloc (.cells #[.slice a n c, .slice ka kn kc] 25)) a2 n2 c2 ka2 kn2 kc2 25).below (new_below _ (.cells #[.slice none 0 0, .slice none 0 0] 25))
  have N6 := Nb.fresh ((w.alloc (.cells #[.slice a n c, .slice ka kn kc] 25)).alloc (.cells #[.slice a2 n2 c2, .slice ka2 kn2 kc2] 25)) (.slice none 0 0) (.slice none 0 0) 25
  have hs1 : (w.alloc (.cells #[.slice a n c, .slice ka kn kc] 25)).heap.size = w.heap.size + 1 := by simp
  have hs2 : ((w.alloc (.cells #[.slice a n c, .slice ka kn kc] 25)).alloc (.cells #[.slice a2 n2 c2, .slice ka2 kn2 kc2] 25)).heap.size = w.heap.size + 1 + 1 := by simp
  rw [hs1] at N5
  rw [hs2] at N6
  have hBB := below_to (below_to (new_below w (.cells #[.slice a n c, .slice ka kn kc] 25)) (new_below _ (.cells #[.slice a2 n2 c2, .slice ka2 kn2 kc2] 25))) (new_below _ (.cells #[.slice none 0 0, .slice none 0 0] 25))
  have HI := Lib.hid (hI.below hBB)
  have HJ := Lib.hid (hJ.below hBB)
  have HK := Lib.hid (hK.below hBB)
  have HL := Lib.hid (hL.below hBB)
  have HLL := Lib.hid hLL
  have HML := Lib.hid hML
  have HS := Lib.hid hS
  clear hs1 hs2 hI hJ hK hL hLL hML hS
  have hq : ((kn : Int) == 0) = false := by rw [beq_eq_false_iff_ne]; omega
  have hq2 : ((kn2 : Int) == 0) = false := by rw [beq_eq_false_iff_ne]; omega
  go_enter Try.func25, Try.ntmps25
  go_upto_region 3 with (fail)
  generalize ((w.alloc (.cells #[.slice a n c, .slice ka kn kc] 25)).alloc (.cells #[.slice a2 n2 c2, .slice ka2 kn2 kc2] 25)).alloc (.cells #[.slice none 0 0, .slice none 0 0] 25) = w0 at N3 N5 N6 hBB HI HJ HK HL ⊢
  go_upto_region 4 with (fail)
  have N8 := Nb.fresh w0 (.slice none 0 0) (.slice none 0 0) 25
  have HB := new_below w0 (.cells #[.slice none 0 0, .slice none 0 0] 25)
  obtain ⟨base, hbase⟩ : ∃ b, (w0.alloc (.cells #[.slice none 0 0, .slice none 0 0] 25)).heap.size = b := ⟨_, rfl⟩
  have hb8 : w0.heap.size < base := by rw [← hbase]; exact N8.lt
  have hbw : base ≤ (w0.alloc (.cells #[.slice none 0 0, .slice none 0 0] 25)).heap.size := by rw [hbase]; exact Nat.le_refl _
  have own := World.ownsRow_nil (w0.alloc (.cells #[.slice none 0 0, .slice none 0 0] 25)) base 44 2
  have hb0 : w0.heap.size ≤ w0.heap.size := Nat.le_refl _
  have h6 : w.heap.size + 1 + 1 < w0.heap.size := N6.lt
  clear hbase
  generalize w0.alloc (.cells #[.slice none 0 0, .slice none 0 0] 25) = W1 at N8 HB hbw own ⊢
  obtain ⟨g8, hg8⟩ : ∃ g, w0.heap.size = g := ⟨_, rfl⟩
  rw [hg8] at N8 hb8 h6 ⊢
  replace hb0 : w0.heap.size ≤ g8 := by omega
  obtain ⟨ad, cp, W', hrun, M8, N8n, ownn, HBn, hbwn⟩ := app_items (X := []) (c := c) N8 own HB hb8 hb0 hbw (HI.out.below HB) (by omega)
  obtain ⟨t1, ht1⟩ : ∃ t, 0 + n = t := ⟨_, rfl⟩
  rw [ht1] at hrun N8n ownn HBn hbwn
  have x0 := N8.c0
  have x1 := N8.c1
  have y0 := M8.c0
  have y1 := M8.c1
  have z0 := M8.f0
  have z1 := M8.f1
  have c0 := (N3.below HB).c0
  have c1 := (N3.below HB).c1
  have d0 := (N5.below HB).c0
  have d1 := (N5.below HB).c1
  go_upto_region 5 with (at_builtin; refine wpList_append_run _ rfl _ _ 22 22 rfl _ _ rfl rfl hrun ?_)
  clear x0 x1 y0 y1 z0 z1 c0 c1 d0 d1 hrun M8 N8 own HB hbw
  generalize W'.setCell ⟨g8, 0, none⟩ (.slice ad t1 cp) = W2 at N8n ownn HBn hbwn ⊢
  have N8 := N8n
  have own := ownn
  have HB := HBn
  have hbw := hbwn
  clear N8n ownn HBn hbwn
  rw [List.nil_append] at own
  have c1 := (N3.below HB).c1
  go_upto_region 6 with (fail)
  clear c1
  have hbS := new_below W2 (.cells #[.string key, .string ByteArray.empty] 44)
  have hIB := its_one' W2 key ByteArray.empty 44
  have N8s := N8.below hbS
  have owns := own_below own hbS
  have HBs := below_to HB hbS
  have hbws : base ≤ (W2.alloc (.cells #[.string key, .string ByteArray.empty] 44)).heap.size := Nat.le_trans hbw hbS.size
  obtain ⟨ad, cp, W', hrun, M8, N8n, ownn, HBn, hbwn⟩ := app_items (c := 1) N8s owns HBs hb8 hb0 hbws hIB (by omega)
  obtain ⟨t2, ht2⟩ : ∃ t, t1 + 1 = t := ⟨_, rfl⟩
  rw [ht2] at hrun N8n ownn HBn hbwn
  have x0 := N8.c0
  have x1 := N8.c1
  have x2 := N8s.c0
  have x3 := N8s.c1
  have y0 := M8.c0
  have y1 := M8.c1
  have z0 := M8.f0
  have z1 := M8.f1
  go_upto_region 7 with (at_builtin; refine wpList_append_run _ rfl _ _ 22 22 rfl _ _ rfl rfl hrun ?_)
  clear x0 x1 x2 x3 y0 y1 z0 z1 hrun M8 N8 own HB hbw hbS hIB N8s owns HBs hbws
  generalize W'.setCell ⟨g8, 0, none⟩ (.slice ad t2 cp) = W3 at N8n ownn HBn hbwn ⊢
  have N8 := N8n
  have own := ownn
  have HB := HBn
  have hbw := hbwn
  clear N8n ownn HBn hbwn
  obtain ⟨ad, cp, W', hrun, M8, N8n, ownn, HBn, hbwn⟩ := app_items (c := c2) N8 own HB hb8 hb0 hbw (HJ.out.below HB) (by omega)
  obtain ⟨t3, ht3⟩ : ∃ t, t2 + n2 = t := ⟨_, rfl⟩
  rw [ht3] at hrun N8n ownn HBn hbwn
  have x0 := N8.c0
  have x1 := N8.c1
  have y0 := M8.c0
  have y1 := M8.c1
  have z0 := M8.f0
  have z1 := M8.f1
  have c0 := (N3.below HB).c0
  have c1 := (N3.below HB).c1
  have d0 := (N5.below HB).c0
  have d1 := (N5.below HB).c1
  go_upto_region 8 with (at_builtin; refine wpList_append_run _ rfl _ _ 22 22 rfl _ _ rfl rfl hrun ?_)
  clear x0 x1 y0 y1 z0 z1 c0 c1 d0 d1 hrun M8 N8 own HB hbw
  generalize W'.setCell ⟨g8, 0, none⟩ (.slice ad t3 cp) = W4 at N8n ownn HBn hbwn ⊢
  have N8 := N8n
  have own := ownn
  have HB := HBn
  have hbw := hbwn
  clear N8n ownn HBn hbwn
  obtain ⟨base2, hbase2⟩ : ∃ b, W4.heap.size = b := ⟨_, rfl⟩
  have hfar := fun g (h : (Value.slice ad t3 cp).ownBlock = some g) => (own.lt g h).2
  rw [hbase2] at hfar
  have hbb : base ≤ base2 := by omega
  have hbw2 : base2 ≤ W4.heap.size := by omega
  have ownK := World.ownsRow_nil W4 base2 3 1
  have HX := Lib.hid (show (I ++ [(key, ByteArray.empty)]) ++ I2 = LL by rw [← HLL.out]; simp)
  rw [HX.out] at own
  clear hbase2
  obtain ⟨bd, bp, W', hrun, M8, N8n, ownKn, ownn, HBn, hbwn⟩ := app_kids (Y := []) (c := kc) N8 ownK own hfar HB hb8 hbb hb0 hbw2 (HK.out.below HB) (by omega)
  obtain ⟨s1, hs1⟩ : ∃ t, 0 + kn = t := ⟨_, rfl⟩
  rw [hs1] at hrun N8n ownKn ownn HBn hbwn
  have x0 := N8.c0
  have x1 := N8.c1
  have y0 := M8.c0
  have y1 := M8.c1
  have z0 := M8.f0
  have z1 := M8.f1
  have c0 := (N3.below HB).c0
  have c1 := (N3.below HB).c1
  have d0 := (N5.below HB).c0
  have d1 := (N5.below HB).c1
  go_upto_region 9 with (at_builtin; refine wpList_append_run _ rfl _ _ 23 23 rfl _ _ rfl rfl hrun ?_)
  clear x0 x1 y0 y1 z0 z1 c0 c1 d0 d1 hrun M8 N8 own ownK HB hbw2
  generalize W'.setCell ⟨g8, 1, none⟩ (.slice bd s1 bp) = W5 at N8n ownKn ownn HBn hbwn ⊢
  have N8 := N8n
  have own := ownn
  have ownK := ownKn
  have HB := HBn
  have hbw2 := hbwn
  clear N8n ownn ownKn HBn hbwn
  rw [List.nil_append] at ownK
  obtain ⟨ed, ep, W', hrun, M8, N8n, ownKn, ownn, HBn, hbwn⟩ := app_kids (c := kc2) N8 ownK own hfar HB hb8 hbb hb0 hbw2 (HL.out.below HB) (by omega)
  obtain ⟨s2, hs2⟩ : ∃ t, s1 + kn2 = t := ⟨_, rfl⟩
  rw [hs2] at hrun N8n ownKn ownn HBn hbwn
  have x0 := N8.c0
  have x1 := N8.c1
  have y0 := M8.c0
  have y1 := M8.c1
  have z0 := M8.f0
  have z1 := M8.f1
  have c0 := (N3.below HB).c0
  have c1 := (N3.below HB).c1
  have d0 := (N5.below HB).c0
  have d1 := (N5.below HB).c1
  go_upto_region 10 with (at_builtin; refine wpList_append_run _ rfl _ _ 23 23 rfl _ _ rfl rfl hrun ?_)
  clear x0 x1 y0 y1 z0 z1 c0 c1 d0 d1 hrun M8 N8 own ownK HB hbw2
  generalize W'.setCell ⟨g8, 1, none⟩ (.slice ed s2 ep) = W6 at N8n ownKn ownn HBn hbwn ⊢
  have N8 := N8n
  have own := ownn
  have ownK := ownKn
  have HB := HBn
  have hbw2 := hbwn
  clear N8n ownn ownKn HBn hbwn
  have HY := Lib.hid (show K ++ K2 = ML by rw [← HML.out]; simp)
  rw [HY.out] at ownK
  have hIt := own_its own
  have hKt := own_kds ownK
  obtain ⟨t, ht⟩ : ∃ t, decide (RightP LL ML) = t := ⟨_, rfl⟩
  have HR := Lib.hid (fun (w1 : World) (B : Below W6.heap.size W6 w1) => rright_any (c := cp) (kc := ep) (hIt.below B) (hKt.below B) (by omega) (by omega) HS.out t ht)
  have c0 := N8.c0
  have c1 := N8.c1
  go_wp2_with fail
  refine (HR.out _ (Below.refl _ _)).mono ?_
  rintro e W7 ⟨rfl, hb⟩
  replace N8 := N8.below hb
  replace HB := below_to HB hb
  replace own := own_below own hb
  replace ownK := own_below ownK hb
  have N6' := N6.below HB
  clear hb c0 c1 HR hIt hKt
  have c0 := N8.c0
  have c1 := N8.c1
  have y0 := N6'.c0
  have y1 := N6'.c1
  have z0 := N6'.f0
  have z1 := N6'.f1
  have HT := Lib.hid ht
  cases t with
  | true =>
    have M := (N6'.set0 (.slice ad t3 cp)).set1 (.slice ed s2 ep)
    have m0 := M.c0
    have m1 := M.c1
    have HIt := Lib.hid (own_its (own_set (g := w.heap.size + 1 + 1) (o := 1) (x := .slice ed s2 ep) (own_set (g := w.heap.size + 1 + 1) (o := 0) (x := .slice ad t3 cp) own (by omega)) (by omega)))
    have HKt := Lib.hid (own_kds (own_set (g := w.heap.size + 1 + 1) (o := 1) (x := .slice ed s2 ep) (own_set (g := w.heap.size + 1 + 1) (o := 0) (x := .slice ad t3 cp) ownK (by omega)) (by omega)))
    have HBf := Lib.hid (((hBB.trans (HB.mono hBB.size)).setCell (p := ⟨w.heap.size + 1 + 1, 0, none⟩) (by show w.heap.size ≤ w.heap.size + 1 + 1; omega) (.slice ad t3 cp)).setCell (p := ⟨w.heap.size + 1 + 1, 1, none⟩) (by show w.heap.size ≤ w.heap.size + 1 + 1; omega) (.slice ed s2 ep))
    clear M N6 N6' N8 own ownK hBB HB hfar ht
    go_wp2_with fail
    refine bodyPost_ret (v := .tuple #[.agg #[.slice ad t3 cp, .slice ed s2 ep], .bool true]) (by simp [results, Try.results25, go_sem, m0, m1]) rfl ?_
    have hr := of_decide_eq_true HT.out
    exact ⟨ad, t3, cp, ed, s2, ep, by rw [HT.out], by rw [if_pos hr]; exact HIt.out, by rw [if_pos hr]; exact HKt.out, HBf.out⟩
  | false =>
    have M := (N6'.set0 (.slice none 0 0)).set1 (.slice none 0 0)
    have m0 := M.c0
    have m1 := M.c1
    have HBf := Lib.hid (((hBB.trans (HB.mono hBB.size)).setCell (p := ⟨w.heap.size + 1 + 1, 0, none⟩) (by show w.heap.size ≤ w.heap.size + 1 + 1; omega) (.slice none 0 0)).setCell (p := ⟨w.heap.size + 1 + 1, 1, none⟩) (by show w.heap.size ≤ w.heap.size + 1 + 1; omega) (.slice none 0 0))
    clear M N6 N6' N8 own ownK hBB HB hfar ht
    go_wp2_with fail
    refine bodyPost_ret (v := .tuple #[.agg #[.slice none 0 0, .slice none 0 0], .bool false]) (by simp [results, Try.results25, go_sem, m0, m1]) rfl ?_
    have hr := of_decide_eq_false HT.out
    exact ⟨none, 0, 0, none, 0, 0, by rw [HT.out], by rw [if_neg hr]; exact ⟨rfl, .inl rfl⟩, by rw [if_neg hr]; exact ⟨rfl, .inl rfl⟩, HBf.out⟩
end
end Go.Proofs.Ytnjpijihjifkfaa
