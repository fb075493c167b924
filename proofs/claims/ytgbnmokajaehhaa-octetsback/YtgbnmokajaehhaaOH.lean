/- OctetsReads: the walk. -/
import Derived.Test.YtgbnmokajaehhaaOF
import Derived.Deep.RegionHeld3
namespace Go.Proofs.Ytgbnmokajaehhaa
open Go.RowKit
set_option linter.unusedVariables false
/-- A slice of acts: a kind and a number each. -/
def Acts (w : World) (a : Option Addr) (len : Nat) (cs : List (Int × Int)) : Prop :=
  cs.length = len ∧ (len = 0 ∨ ∃ b off, a = some ⟨b, off, none⟩ ∧ ∀ j, j < len → w.cell? ⟨b, off + j * 2, none⟩ = some (.int .i64 (cs.getD j (0, 0)).1) ∧ w.cell? ⟨b, off + j * 2 + 1, none⟩ = some (.int .i64 (cs.getD j (0, 0)).2))
theorem Acts.below {w w1 : World} {a : Option Addr} {n : Nat} {ps : List (Int × Int)} (h : Acts w a n ps) (B : Below w.heap.size w w1) : Acts w1 a n ps := by
  refine ⟨h.1, ?_⟩
  rcases h.2 with h0 | ⟨b, off, ha, hc⟩
  · exact .inl h0
  · exact .inr ⟨b, off, ha, fun j hj => ⟨(B.cell (p := ⟨b, off + j * 2, none⟩) (World.block_lt_of_cell? w _ (hc j hj).1)).trans (hc j hj).1, (B.cell (p := ⟨b, off + j * 2 + 1, none⟩) (World.block_lt_of_cell? w _ (hc j hj).2)).trans (hc j hj).2⟩⟩
/-- What the loop carries: both readers are in one state. -/
structure Both (w : World) (r v : Nat) (wx : World) : Prop where
  st : ∃ s e, RWf s e ∧ s.size ≤ 4096 ∧ Rd wx r s e ∧ Rd wx v s e
  below : Below w.heap.size w wx
  rlo : w.heap.size ≤ r
  vlo : w.heap.size ≤ v
  ne : r ≠ v
/-- One round's own blocks behind the world. -/
theorem three_rd (w : World) (o p : Obj) (b : Nat) (s : ByteArray) (e : Int) (h : Rd w b s e) : Rd ((w.alloc o).alloc p) b s e := (h.alloc o).alloc p
theorem sR {w w' : World} {r v : Nat} {t : ByteArray} {y : Int} (h : w'.cell? ⟨v, 0, none⟩ = some (.string t) ∧ w'.cell? ⟨v, 1, none⟩ = some (.int .i64 y) ∧ Rd w' r t y ∧ Rd w' v t y ∧ Below w.heap.size w w') : Rd w' r t y := h.2.2.1
theorem sKeep {w w' w'' : World} {r v : Nat} {t : ByteArray} {y : Int} (hb : Below w'.heap.size w' w'') (h : w'.cell? ⟨v, 0, none⟩ = some (.string t) ∧ w'.cell? ⟨v, 1, none⟩ = some (.int .i64 y) ∧ Rd w' r t y ∧ Rd w' v t y ∧ Below w.heap.size w w') :
    w''.cell? ⟨v, 0, none⟩ = some (.string t) ∧ w''.cell? ⟨v, 1, none⟩ = some (.int .i64 y) ∧ Rd w'' r t y ∧ Rd w'' v t y ∧ Below w.heap.size w w'' :=
  ⟨(h.2.2.2.1.below hb).c0, (h.2.2.2.1.below hb).c1, h.2.2.1.below hb, h.2.2.2.1.below hb, below_to h.2.2.2.2 hb⟩
theorem sBoth {w wx : World} {r v : Nat} {t : ByteArray} {y : Int} (h : wx.cell? ⟨v, 0, none⟩ = some (.string t) ∧ wx.cell? ⟨v, 1, none⟩ = some (.int .i64 y) ∧ Rd wx r t y ∧ Rd wx v t y ∧ Below w.heap.size w wx)
    (hw : RWf t y) (hs : t.size ≤ 4096) (h1 : w.heap.size ≤ r) (h2 : w.heap.size ≤ v) (h3 : r ≠ v) : Both w r v wx := ⟨⟨t, y, hw, hs, h.2.2.1, h.2.2.2.1⟩, h.2.2.2.2, h1, h2, h3⟩
set_option maxRecDepth 100000 in
set_option maxHeartbeats 8000000 in
theorem octetsReads_near (s0 : ByteArray) (a : Option Addr) (len cap : Nat) (cs : List (Int × Int)) (w : World) (hlen : len ≤ 100) (hs : s0.size ≤ 4096) (hz : Acts w a len cs) :
    Calls Try.prog 4 #[.string s0, .slice a len cap] w fun e w' => e = .returned (.bool true) ∧ Below w.heap.size w w' := by
  go_enter Try.func4, Try.ntmps4
  go_wp2_with fail
  refine (lives3 _).mono ?_
  rintro e w1 ⟨rfl, B1⟩
  go_wp2_with fail
  refine (open_any _ _).mono ?_
  rintro e w2 ⟨rfl, R2, hb, hsz⟩
  have B2 := below_to B1 hb
  clear hb hsz
  go_wp2_with fail
  have hR := R2.alloc (.cells #[.string s0, .int .i64 0] 41)
  have hV : Rd (w2.alloc (.cells #[.string s0, .int .i64 0] 41)) w2.heap.size s0 0 := ⟨by simp [go_sem], by simp [go_sem], by simp [go_sem], by simp [go_sem]⟩
  have hlo := B1.size
  have hlo2 := B2.size
  have hrv : w1.heap.size < w2.heap.size := R2.lt
  have B3 := B2.alloc B2.size (.cells #[.string s0, .int .i64 0] 41)
  clear R2
  go_loopw [35] (fun i wx => ∃ k : Nat, k ≤ len ∧ Both w w1.heap.size w2.heap.size wx ∧ i = .int .i64 (k : Int)) (fun i _ => len - (intOf i).toNat)
  case atStart => exact ⟨0, by omega, ⟨⟨s0, 0, .inl rfl, hs, hR, hV⟩, B3, hlo, hlo2, by omega⟩, rfl⟩
  case round =>
    obtain ⟨k, hk, hB, rfl⟩ := hrel
    clear B1 B2 B3 hR hV
    by_cases hlt : k < len
    · obtain ⟨⟨s, e, hwf, hsm, hr, hv⟩, hbel, h1, h2, h3⟩ := hB
      rcases (hz.below hbel).2 with h0 | ⟨b, off, rfl, hc⟩
      · omega
      obtain ⟨ck, cn⟩ := hc k hlt
      generalize (cs.getD k (0, 0)).1 = kind at ck
      generalize (cs.getD k (0, 0)).2 = num at cn
      clear hc hz
      have hrl := hr.lt
      have hvl := hv.lt
      obtain ⟨vc0, vc1, vf0, vf1⟩ := hv
      by_cases hk0 : kind = 0
      · subst hk0
        obtain ⟨t, y, n, hq⟩ : ∃ t y n, numS s e num = (t, y, n) := ⟨_, _, _, rfl⟩
        have hwf' := numS_wf (n := num) hwf
        have hle' := numS_le s e num
        have HN := fun w' => rn_any num s e w' (mod4096 hsm)
        have HP := fun w' hr' => rnumS_any w1.heap.size num s e w' hr' hwf (mod4096 hsm)
        rw [hq] at hwf' hle' HN HP
        have HN := Lib.hid HN
        have HP := Lib.hid HP
        have HW := Lib.hid hwf'
        have HL := Lib.hid hle'
        clear hq hwf' hle'
        go_wp2_with fail
        refine (HN.out _).mono ?_
        rintro x w4 ⟨rfl, hb4⟩
        have hsz4 : wr.heap.size + 1 < w4.heap.size := by have := hb4.size; simp at this; omega
        have U4 := (Rd.two wr (.cells #[.int .i64 0, .int .i64 num] 43) s e 41).below hb4
        have A4 := (hb4.cell (p := ⟨wr.heap.size, 1, none⟩) (by simp; omega)).trans (show ((wr.alloc (.cells #[.int .i64 0, .int .i64 num] 43)).alloc (.cells #[.string s, .int .i64 e] 41)).cell? ⟨wr.heap.size, 1, none⟩ = some (.int .i64 num) by simp [go_sem])
        have R4 := ((hr.alloc (.cells #[.int .i64 0, .int .i64 num] 43)).alloc (.cells #[.string s, .int .i64 e] 41)).below hb4
        have V4 := (((Rd.mk vc0 vc1 vf0 vf1).alloc (.cells #[.int .i64 0, .int .i64 num] 43)).alloc (.cells #[.string s, .int .i64 e] 41)).below hb4
        have B4 : Below w.heap.size w w4 := (((hbel.alloc hbel.size _).alloc (by have := hbel.size; simp; omega) _).trans (hb4.mono (by have := hbel.size; simp; omega)))
        clear hb4 hbel vc0 vc1 vf0 vf1 hr ck cn
        have U5 := (U4.set0 t).set1 y
        have o5 := ((Only.refl (wr.heap.size + 1) w4).setCell (o := 0) (.string t)).setCell (o := 1) (.int .i64 y)
        have R5 := R4.only o5 (by omega)
        have V5 := V4.only o5 (by omega)
        have A5 := (o5.cell (k := wr.heap.size) (o := 1) (by omega) (by omega)).trans A4
        have B5 := o5.below B4 (by have := h1; omega) (by have := h1; omega)
        obtain ⟨uc0, uc1, uf0, uf1⟩ := U4
        go_wp2_with fail
        refine (HP.out _ R5).mono ?_
        clear uc0 uc1 uf0 uf1 A4 R4 V4 B4
        generalize ((w4.setCell ⟨wr.heap.size + 1, 0, none⟩ (.string t)).setCell ⟨wr.heap.size + 1, 1, none⟩ (.int .i64 y)) = w5 at *
        rintro x w6 ⟨rfl, R6, o6⟩
        have U6 := U5.only o6 (by omega)
        have V6 := V5.only o6 (by omega)
        have B6 := o6.below B5 h1 (by have := B5.size; omega)
        have hlt6 := V6.lt
        have hlt6' := R6.lt
        clear A5 R5 U5 V5 o6 B5 o5
        have V7 := (V6.set0 t).set1 y
        have o7 := ((Only.refl w2.heap.size w6).setCell (o := 0) (.string t)).setCell (o := 1) (.int .i64 y)
        have R7 := R6.only o7 h3
        have B7 := o7.below B6 h2 (by have := B6.size; omega)
        obtain ⟨vc0, vc1, vf0, vf1⟩ := V6
        obtain ⟨uc0, uc1, uf0, uf1⟩ := U6
        go_wp2_with fail
        clear vc0 vc1 vf0 vf1 uc0 uc1 uf0 uf1 R6 B6 o7
        generalize ((w6.setCell ⟨w2.heap.size, 0, none⟩ (.string t)).setCell ⟨w2.heap.size, 1, none⟩ (.int .i64 y)) = w7 at *
        have vc0 := V7.c0
        have vc1 := V7.c1
        have R8 : Rd w7.drew w1.heap.size t y := ⟨R7.c0, R7.c1, R7.f0, R7.f1⟩
        have V8 : Rd w7.drew w2.heap.size t y := ⟨V7.c0, V7.c1, V7.f0, V7.f1⟩
        have B8 := B7.drew
        obtain ⟨z, hz⟩ : ∃ z, endF t y = z := ⟨_, rfl⟩
        have HZ := Lib.hid hz
        clear hz
        go_region_held3 (fun w' => w'.cell? ⟨w2.heap.size, 0, none⟩ = some (.string t) ∧ w'.cell? ⟨w2.heap.size, 1, none⟩ = some (.int .i64 y) ∧ Rd w' w1.heap.size t y ∧ Rd w' w2.heap.size t y ∧ Below w.heap.size w w')
          (first | exact ⟨vc0, vc1, R8, V8, B8⟩ | exact sKeep hb (by assumption) | assumption)
          (first | (go_at_call 35; refine (left_any w1.heap.size t y _ (sR (w := w) (v := w2.heap.size) (by assumption))).mono ?_; rintro x wq ⟨rfl, rfl⟩) | (go_at_call 36; refine (err_any w1.heap.size t y _ (sR (w := w) (v := w2.heap.size) (by assumption))).mono ?_; rintro x wq ⟨rfl, rfl⟩) | (go_at_call 37; refine (end_any w1.heap.size t y _ (sR (w := w) (v := w2.heap.size) (by assumption))).mono ?_; rintro x wq ⟨rfl, rfl⟩; rw [HZ.out]) | (go_at_call 38; refine (rend_any t y _).mono ?_; rintro x wq ⟨rfl, hb⟩; rw [HZ.out]))
        have hS := sBoth (w := w) (r := w1.heap.size) (v := w2.heap.size) (t := t) (y := y) (wx := wq) (by assumption) HW.out (Nat.le_trans HL.out hsm) h1 h2 h3
        clear vc0 vc1 R8 V8 B8 R7 V7 B7
        go_wp2
        go_roundw
        case rel => exact ⟨k + 1, by omega, hS, by go_num⟩
        case measure => simp [intOf]; omega
      by_cases hk1 : kind = 1
      · subst hk1
        clear hk0
        obtain ⟨t, y, n, hq⟩ : ∃ t y n, textS s e num = (t, y, n) := ⟨_, _, _, rfl⟩
        have hwf' := textS_wf (n := num) hwf
        have hle' := textS_le s e num
        have HN := fun w' => rt_any num s e w' (mod4096 hsm)
        have HP := fun w' hr' => rtext_any w1.heap.size num s e w' hr' hwf (mod4096 hsm)
        rw [hq] at hwf' hle' HN HP
        have HN := Lib.hid HN
        have HP := Lib.hid HP
        have HW := Lib.hid hwf'
        have HL := Lib.hid hle'
        clear hq hwf' hle'
        go_wp2_with fail
        refine (HN.out _).mono ?_
        rintro x w4 ⟨rfl, hb4⟩
        have hsz4 : wr.heap.size + 1 < w4.heap.size := by have := hb4.size; simp at this; omega
        have U4 := (Rd.two wr (.cells #[.int .i64 1, .int .i64 num] 43) s e 41).below hb4
        have A4 := (hb4.cell (p := ⟨wr.heap.size, 1, none⟩) (by simp; omega)).trans (show ((wr.alloc (.cells #[.int .i64 1, .int .i64 num] 43)).alloc (.cells #[.string s, .int .i64 e] 41)).cell? ⟨wr.heap.size, 1, none⟩ = some (.int .i64 num) by simp [go_sem])
        have R4 := ((hr.alloc (.cells #[.int .i64 1, .int .i64 num] 43)).alloc (.cells #[.string s, .int .i64 e] 41)).below hb4
        have V4 := (((Rd.mk vc0 vc1 vf0 vf1).alloc (.cells #[.int .i64 1, .int .i64 num] 43)).alloc (.cells #[.string s, .int .i64 e] 41)).below hb4
        have B4 : Below w.heap.size w w4 := (((hbel.alloc hbel.size _).alloc (by have := hbel.size; simp; omega) _).trans (hb4.mono (by have := hbel.size; simp; omega)))
        clear hb4 hbel vc0 vc1 vf0 vf1 hr ck cn
        have U5 := (U4.set0 t).set1 y
        have o5 := ((Only.refl (wr.heap.size + 1) w4).setCell (o := 0) (.string t)).setCell (o := 1) (.int .i64 y)
        have R5 := R4.only o5 (by omega)
        have V5 := V4.only o5 (by omega)
        have A5 := (o5.cell (k := wr.heap.size) (o := 1) (by omega) (by omega)).trans A4
        have B5 := o5.below B4 (by have := h1; omega) (by have := h1; omega)
        obtain ⟨uc0, uc1, uf0, uf1⟩ := U4
        go_wp2_with fail
        refine (HP.out _ R5).mono ?_
        clear uc0 uc1 uf0 uf1 A4 R4 V4 B4
        generalize ((w4.setCell ⟨wr.heap.size + 1, 0, none⟩ (.string t)).setCell ⟨wr.heap.size + 1, 1, none⟩ (.int .i64 y)) = w5 at *
        rintro x w6 ⟨rfl, R6, o6⟩
        have U6 := U5.only o6 (by omega)
        have V6 := V5.only o6 (by omega)
        have B6 := o6.below B5 h1 (by have := B5.size; omega)
        have hlt6 := V6.lt
        have hlt6' := R6.lt
        clear A5 R5 U5 V5 o6 B5 o5
        have V7 := (V6.set0 t).set1 y
        have o7 := ((Only.refl w2.heap.size w6).setCell (o := 0) (.string t)).setCell (o := 1) (.int .i64 y)
        have R7 := R6.only o7 h3
        have B7 := o7.below B6 h2 (by have := B6.size; omega)
        obtain ⟨vc0, vc1, vf0, vf1⟩ := V6
        obtain ⟨uc0, uc1, uf0, uf1⟩ := U6
        go_wp2_with fail
        clear vc0 vc1 vf0 vf1 uc0 uc1 uf0 uf1 R6 B6 o7
        generalize ((w6.setCell ⟨w2.heap.size, 0, none⟩ (.string t)).setCell ⟨w2.heap.size, 1, none⟩ (.int .i64 y)) = w7 at *
        have vc0 := V7.c0
        have vc1 := V7.c1
        have R8 : Rd w7.drew w1.heap.size t y := ⟨R7.c0, R7.c1, R7.f0, R7.f1⟩
        have V8 : Rd w7.drew w2.heap.size t y := ⟨V7.c0, V7.c1, V7.f0, V7.f1⟩
        have B8 := B7.drew
        obtain ⟨z, hz⟩ : ∃ z, endF t y = z := ⟨_, rfl⟩
        have HZ := Lib.hid hz
        clear hz
        go_region_held3 (fun w' => w'.cell? ⟨w2.heap.size, 0, none⟩ = some (.string t) ∧ w'.cell? ⟨w2.heap.size, 1, none⟩ = some (.int .i64 y) ∧ Rd w' w1.heap.size t y ∧ Rd w' w2.heap.size t y ∧ Below w.heap.size w w')
          (first | exact ⟨vc0, vc1, R8, V8, B8⟩ | exact sKeep hb (by assumption) | assumption)
          (first | (go_at_call 35; refine (left_any w1.heap.size t y _ (sR (w := w) (v := w2.heap.size) (by assumption))).mono ?_; rintro x wq ⟨rfl, rfl⟩) | (go_at_call 36; refine (err_any w1.heap.size t y _ (sR (w := w) (v := w2.heap.size) (by assumption))).mono ?_; rintro x wq ⟨rfl, rfl⟩) | (go_at_call 37; refine (end_any w1.heap.size t y _ (sR (w := w) (v := w2.heap.size) (by assumption))).mono ?_; rintro x wq ⟨rfl, rfl⟩; rw [HZ.out]) | (go_at_call 38; refine (rend_any t y _).mono ?_; rintro x wq ⟨rfl, hb⟩; rw [HZ.out]))
        have hS := sBoth (w := w) (r := w1.heap.size) (v := w2.heap.size) (t := t) (y := y) (wx := wq) (by assumption) HW.out (Nat.le_trans HL.out hsm) h1 h2 h3
        clear vc0 vc1 R8 V8 B8 R7 V7 B7
        go_wp2
        go_roundw
        case rel => exact ⟨k + 1, by omega, hS, by go_num⟩
        case measure => simp [intOf]; omega
      by_cases hk2 : kind = 2
      · subst hk2
        clear hk0 hk1
        obtain ⟨t, y, n, hq⟩ : ∃ t y n, rawS s e num = (t, y, n) := ⟨_, _, _, rfl⟩
        have hwf' := rawS_wf (n := num) hwf
        have hle' := rawS_le s e num
        have HN := fun w' => rraw_any num s e w' (mod4096 hsm)
        have HP := fun w' hr' => raw_any w1.heap.size num s e w' hr' hwf (mod4096 hsm)
        rw [hq] at hwf' hle' HN HP
        have HN := Lib.hid HN
        have HP := Lib.hid HP
        have HW := Lib.hid hwf'
        have HL := Lib.hid hle'
        clear hq hwf' hle'
        go_wp2_with fail
        refine (HN.out _).mono ?_
        rintro x w4 ⟨rfl, hb4⟩
        have hsz4 : wr.heap.size + 1 < w4.heap.size := by have := hb4.size; simp at this; omega
        have U4 := (Rd.two wr (.cells #[.int .i64 2, .int .i64 num] 43) s e 41).below hb4
        have A4 := (hb4.cell (p := ⟨wr.heap.size, 1, none⟩) (by simp; omega)).trans (show ((wr.alloc (.cells #[.int .i64 2, .int .i64 num] 43)).alloc (.cells #[.string s, .int .i64 e] 41)).cell? ⟨wr.heap.size, 1, none⟩ = some (.int .i64 num) by simp [go_sem])
        have R4 := ((hr.alloc (.cells #[.int .i64 2, .int .i64 num] 43)).alloc (.cells #[.string s, .int .i64 e] 41)).below hb4
        have V4 := (((Rd.mk vc0 vc1 vf0 vf1).alloc (.cells #[.int .i64 2, .int .i64 num] 43)).alloc (.cells #[.string s, .int .i64 e] 41)).below hb4
        have B4 : Below w.heap.size w w4 := (((hbel.alloc hbel.size _).alloc (by have := hbel.size; simp; omega) _).trans (hb4.mono (by have := hbel.size; simp; omega)))
        clear hb4 hbel vc0 vc1 vf0 vf1 hr ck cn
        have U5 := (U4.set0 t).set1 y
        have o5 := ((Only.refl (wr.heap.size + 1) w4).setCell (o := 0) (.string t)).setCell (o := 1) (.int .i64 y)
        have R5 := R4.only o5 (by omega)
        have V5 := V4.only o5 (by omega)
        have A5 := (o5.cell (k := wr.heap.size) (o := 1) (by omega) (by omega)).trans A4
        have B5 := o5.below B4 (by have := h1; omega) (by have := h1; omega)
        obtain ⟨uc0, uc1, uf0, uf1⟩ := U4
        go_wp2_with fail
        refine (HP.out _ R5).mono ?_
        clear uc0 uc1 uf0 uf1 A4 R4 V4 B4
        generalize ((w4.setCell ⟨wr.heap.size + 1, 0, none⟩ (.string t)).setCell ⟨wr.heap.size + 1, 1, none⟩ (.int .i64 y)) = w5 at *
        rintro x w6 ⟨rfl, R6, o6⟩
        have U6 := U5.only o6 (by omega)
        have V6 := V5.only o6 (by omega)
        have B6 := o6.below B5 h1 (by have := B5.size; omega)
        have hlt6 := V6.lt
        have hlt6' := R6.lt
        clear A5 R5 U5 V5 o6 B5 o5
        have V7 := (V6.set0 t).set1 y
        have o7 := ((Only.refl w2.heap.size w6).setCell (o := 0) (.string t)).setCell (o := 1) (.int .i64 y)
        have R7 := R6.only o7 h3
        have B7 := o7.below B6 h2 (by have := B6.size; omega)
        obtain ⟨vc0, vc1, vf0, vf1⟩ := V6
        obtain ⟨uc0, uc1, uf0, uf1⟩ := U6
        go_wp2_with fail
        clear vc0 vc1 vf0 vf1 uc0 uc1 uf0 uf1 R6 B6 o7
        generalize ((w6.setCell ⟨w2.heap.size, 0, none⟩ (.string t)).setCell ⟨w2.heap.size, 1, none⟩ (.int .i64 y)) = w7 at *
        have vc0 := V7.c0
        have vc1 := V7.c1
        have R8 : Rd w7.drew w1.heap.size t y := ⟨R7.c0, R7.c1, R7.f0, R7.f1⟩
        have V8 : Rd w7.drew w2.heap.size t y := ⟨V7.c0, V7.c1, V7.f0, V7.f1⟩
        have B8 := B7.drew
        obtain ⟨z, hz⟩ : ∃ z, endF t y = z := ⟨_, rfl⟩
        have HZ := Lib.hid hz
        clear hz
        go_region_held3 (fun w' => w'.cell? ⟨w2.heap.size, 0, none⟩ = some (.string t) ∧ w'.cell? ⟨w2.heap.size, 1, none⟩ = some (.int .i64 y) ∧ Rd w' w1.heap.size t y ∧ Rd w' w2.heap.size t y ∧ Below w.heap.size w w')
          (first | exact ⟨vc0, vc1, R8, V8, B8⟩ | exact sKeep hb (by assumption) | assumption)
          (first | (go_at_call 35; refine (left_any w1.heap.size t y _ (sR (w := w) (v := w2.heap.size) (by assumption))).mono ?_; rintro x wq ⟨rfl, rfl⟩) | (go_at_call 36; refine (err_any w1.heap.size t y _ (sR (w := w) (v := w2.heap.size) (by assumption))).mono ?_; rintro x wq ⟨rfl, rfl⟩) | (go_at_call 37; refine (end_any w1.heap.size t y _ (sR (w := w) (v := w2.heap.size) (by assumption))).mono ?_; rintro x wq ⟨rfl, rfl⟩; rw [HZ.out]) | (go_at_call 38; refine (rend_any t y _).mono ?_; rintro x wq ⟨rfl, hb⟩; rw [HZ.out]))
        have hS := sBoth (w := w) (r := w1.heap.size) (v := w2.heap.size) (t := t) (y := y) (wx := wq) (by assumption) HW.out (Nat.le_trans HL.out hsm) h1 h2 h3
        clear vc0 vc1 R8 V8 B8 R7 V7 B7
        go_wp2
        go_roundw
        case rel => exact ⟨k + 1, by omega, hS, by go_num⟩
        case measure => simp [intOf]; omega
      have d0 : (kind == 0) = false := by simp [hk0]
      have d1 : (kind == 1) = false := by simp [hk1]
      have d2 : (kind == 2) = false := by simp [hk2]
      have hS : Both w w1.heap.size w2.heap.size ((wr.alloc (.cells #[.int .i64 kind, .int .i64 num] 43)).alloc (.cells #[.string s, .int .i64 e] 41)) :=
        ⟨⟨s, e, hwf, hsm, (hr.alloc _).alloc _, ((Rd.mk vc0 vc1 vf0 vf1).alloc _).alloc _⟩, (hbel.alloc hbel.size _).alloc (by have := hbel.size; simp; omega) _, h1, h2, h3⟩
      clear hk0 hk1 hk2
      go_wp2
      go_roundw
      case rel => exact ⟨k + 1, by omega, hS, by go_num⟩
      case measure => simp [intOf]; omega
    · go_wp2
      go_ret
      exact ⟨rfl, hB.below⟩
set_option maxRecDepth 100000 in
theorem octetsReads_far (s0 : ByteArray) (a : Option Addr) (len cap : Nat) (w : World) (hl : len ≤ 9223372036854775807) (h : 100 < len ∨ 4096 < s0.size) :
    Calls Try.prog 4 #[.string s0, .slice a len cap] w fun e w' => e = .returned (.bool true) ∧ Below w.heap.size w w' := by
  by_cases h1 : 100 < len
  · clear h
    go_enter Try.func4, Try.ntmps4
    go_wp2_with fail
    refine (lives3 _).mono ?_
    rintro e w1 ⟨rfl, B1⟩
    go_wp2_with fail
    refine (open_any _ _).mono ?_
    rintro e w2 ⟨rfl, R2, hb, hsz⟩
    have B2 := below_to B1 hb
    clear hb hsz
    go_wp2
    go_ret
    exact ⟨rfl, B2.alloc B2.size _⟩
  · have h2 : 4096 < s0.size := by omega
    clear h
    go_enter Try.func4, Try.ntmps4
    go_wp2_with fail
    refine (lives3 _).mono ?_
    rintro e w1 ⟨rfl, B1⟩
    go_wp2_with fail
    refine (open_any _ _).mono ?_
    rintro e w2 ⟨rfl, R2, hb, hsz⟩
    have B2 := below_to B1 hb
    clear hb hsz
    go_wp2
    go_ret
    exact ⟨rfl, B2.alloc B2.size _⟩
theorem octetsReads_walk (s0 : ByteArray) (a : Option Addr) (len cap : Nat) (cs : List (Int × Int)) (w : World) (hl : len ≤ 9223372036854775807) (hz : Acts w a len cs) :
    Calls Try.prog 4 #[.string s0, .slice a len cap] w fun e w' => e = .returned (.bool true) ∧ Below w.heap.size w w' := by
  by_cases h1 : len ≤ 100
  · by_cases h2 : s0.size ≤ 4096
    · exact octetsReads_near s0 a len cap cs w h1 h2 hz
    · exact octetsReads_far s0 a len cap w hl (.inr (by omega))
  · exact octetsReads_far s0 a len cap w hl (.inl (by omega))
end Go.Proofs.Ytgbnmokajaehhaa
