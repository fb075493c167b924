/- Contract: a sector's fields, read one by one. -/
import Derived.Test.YtbhebkjadgajeaaA3
import Derived.Test.YtbhebkjadgajeaaOF
import Derived.Test.YtbhebkjadgajeaaOF
import Derived.Test.YtbhebkjadgajeaaOF
import Derived.Test.YtbhebkjadgajeaaOF
import Derived.Test.YtbhebkjadgajeaaOF
import Derived.Laws.ResultCell
namespace Go.Proofs.Ytbhebkjadgajeaa
open Go.RowKit
theorem numS_wf {s : ByteArray} {e n : Int} (h : RWf s e) : RWf (numS s e n).1 (numS s e n).2.1 := by
  unfold numS; split
  · exact .inr rfl
  · exact rawS_wf h
theorem numS_le (s : ByteArray) (e n : Int) : (numS s e n).1.size ≤ s.size := by
  unfold numS; split
  · exact Nat.zero_le _
  · exact rawS_le s e n
theorem numS_lt (s : ByteArray) (e : Int) (n : Nat) (h1 : 1 ≤ n) (h2 : n ≤ 8) : (numS s e n).2.2 < 256 ^ n := by
  rw [numS_good (by omega) (by omega)]
  have h1 := ofL_lt (rawS s e n).2.2.data.toList
  have h2 := rawS_out s e n
  have h3 : (rawS s e n).2.2.data.toList.length ≤ n := by rw [← blen]; exact h2
  have h4 := Nat.pow_le_pow_right (n := 256) (by omega) h3
  show ofL _ < _
  omega
/-- What is read next, and what is left. -/
structure NumStep (s : ByteArray) (e : Int) (n : Nat) (t : ByteArray) (y : Int) (o : Nat) : Prop where
  h : numS s e n = (t, y, o)
structure RawStep (s : ByteArray) (e : Int) (n : Nat) (t : ByteArray) (y : Int) (o : ByteArray) : Prop where
  h : rawS s e n = (t, y, o)
/-- A reader that reads on. -/
structure RdOk (s : ByteArray) (e : Int) : Prop where
  wf : RWf s e
  le : s.size ≤ maxLen
theorem RdOk.num {s t : ByteArray} {e y : Int} {n o : Nat} (h : RdOk s e) (k : NumStep s e n t y o) : RdOk t y := by
  have h1 := numS_wf (n := n) h.wf
  have h2 := numS_le s e n
  rw [k.h] at h1 h2
  exact ⟨h1, Nat.le_trans h2 h.le⟩
theorem RdOk.raw {s t o : ByteArray} {e y : Int} {n : Nat} (h : RdOk s e) (k : RawStep s e n t y o) : RdOk t y := by
  have h1 := rawS_wf (n := n) h.wf
  have h2 := rawS_le s e n
  rw [k.h] at h1 h2
  exact ⟨h1, Nat.le_trans h2 h.le⟩
theorem NumStep.lt {s t : ByteArray} {e y : Int} {n o : Nat} (k : NumStep s e n t y o) (h1 : 1 ≤ n) (h2 : n ≤ 8) : o < 256 ^ n := by
  have := numS_lt s e n h1 h2; rw [k.h] at this; exact this
theorem step_num (b : Nat) (N : Int) (n : Nat) (hN : N = (n : Int)) {s : ByteArray} {e : Int} {t : ByteArray} {y : Int} {o : Nat} (h : NumStep s e n t y o) (w : World) (hr : Rd w b s e) (hk : RdOk s e) :
    Calls Try.prog 60 #[.pointer (some ⟨b, 0, none⟩), .int .i64 N] w (Reads b w t y (.int .u64 (o : Int))) := by
  subst hN
  have := rnumS_any b n s e w hr hk.wf hk.le
  rwa [h.h] at this
theorem step_raw (b : Nat) (N : Int) (n : Nat) (hN : N = (n : Int)) {s : ByteArray} {e : Int} {t : ByteArray} {y : Int} {o : ByteArray} (h : RawStep s e n t y o) (w : World) (hr : Rd w b s e) (hk : RdOk s e) :
    Calls Try.prog 61 #[.pointer (some ⟨b, 0, none⟩), .int .i64 N] w (Reads b w t y (.string o)) := by
  subst hN
  have := raw_any b n s e w hr hk.wf hk.le
  rwa [h.h] at this
/-- A sector's block that may be written. -/
structure SecW (w : World) (b : Nat) (k : Int) (e n : Nat) (a m : Int) (p : ByteArray) : Prop where
  c : Sec w b k e n a m p
  f0 : w.frozen? ⟨b, 0, none⟩ = false
  f1 : w.frozen? ⟨b, 1, none⟩ = false
  f2 : w.frozen? ⟨b, 2, none⟩ = false
  f3 : w.frozen? ⟨b, 3, none⟩ = false
  f4 : w.frozen? ⟨b, 4, none⟩ = false
  f5 : w.frozen? ⟨b, 5, none⟩ = false
section
variable {w w1 : World} {b c : Nat} {k : Int} {e n : Nat} {a m : Int} {p : ByteArray}
theorem SecW.only (h : SecW w b k e n a m p) (B : Only c w w1) (hc : b ≠ c) : SecW w1 b k e n a m p :=
  ⟨⟨(B.cell h.c.lt hc).trans h.c.c0, (B.cell h.c.lt hc).trans h.c.c1, (B.cell h.c.lt hc).trans h.c.c2, (B.cell h.c.lt hc).trans h.c.c3, (B.cell h.c.lt hc).trans h.c.c4, (B.cell h.c.lt hc).trans h.c.c5⟩,
    (B.frozen h.c.lt hc).trans h.f0, (B.frozen h.c.lt hc).trans h.f1, (B.frozen h.c.lt hc).trans h.f2, (B.frozen h.c.lt hc).trans h.f3, (B.frozen h.c.lt hc).trans h.f4, (B.frozen h.c.lt hc).trans h.f5⟩
theorem SecW.below (h : SecW w b k e n a m p) (B : Below w.heap.size w w1) : SecW w1 b k e n a m p :=
  ⟨h.c.below B, (B.frozen (p := ⟨b, 0, none⟩) h.c.lt).trans h.f0, (B.frozen (p := ⟨b, 1, none⟩) h.c.lt).trans h.f1, (B.frozen (p := ⟨b, 2, none⟩) h.c.lt).trans h.f2, (B.frozen (p := ⟨b, 3, none⟩) h.c.lt).trans h.f3, (B.frozen (p := ⟨b, 4, none⟩) h.c.lt).trans h.f4, (B.frozen (p := ⟨b, 5, none⟩) h.c.lt).trans h.f5⟩
theorem other (w : World) (b i j : Nat) (v : Value) (h : i ≠ j) : (w.setCell ⟨b, i, none⟩ v).cell? ⟨b, j, none⟩ = w.cell? ⟨b, j, none⟩ :=
  World.cell?_setCell_other _ _ _ _ (fun e => h (by injection e))
theorem SecW.set0 (h : SecW w b k e n a m p) (x : Int) : SecW (w.setCell ⟨b, 0, none⟩ (.int .i64 x)) b x e n a m p :=
  ⟨⟨World.cell?_setCell_same _ _ _ h.c.c0, (other _ _ _ _ _ (by omega)).trans h.c.c1, (other _ _ _ _ _ (by omega)).trans h.c.c2, (other _ _ _ _ _ (by omega)).trans h.c.c3, (other _ _ _ _ _ (by omega)).trans h.c.c4, (other _ _ _ _ _ (by omega)).trans h.c.c5⟩,
    by simpa using h.f0, by simpa using h.f1, by simpa using h.f2, by simpa using h.f3, by simpa using h.f4, by simpa using h.f5⟩
theorem SecW.set1 (h : SecW w b k e n a m p) (x : Nat) : SecW (w.setCell ⟨b, 1, none⟩ (.int .u64 (x : Int))) b k x n a m p :=
  ⟨⟨(other _ _ _ _ _ (by omega)).trans h.c.c0, World.cell?_setCell_same _ _ _ h.c.c1, (other _ _ _ _ _ (by omega)).trans h.c.c2, (other _ _ _ _ _ (by omega)).trans h.c.c3, (other _ _ _ _ _ (by omega)).trans h.c.c4, (other _ _ _ _ _ (by omega)).trans h.c.c5⟩,
    by simpa using h.f0, by simpa using h.f1, by simpa using h.f2, by simpa using h.f3, by simpa using h.f4, by simpa using h.f5⟩
theorem SecW.set2 (h : SecW w b k e n a m p) (x : Nat) : SecW (w.setCell ⟨b, 2, none⟩ (.int .u64 (x : Int))) b k e x a m p :=
  ⟨⟨(other _ _ _ _ _ (by omega)).trans h.c.c0, (other _ _ _ _ _ (by omega)).trans h.c.c1, World.cell?_setCell_same _ _ _ h.c.c2, (other _ _ _ _ _ (by omega)).trans h.c.c3, (other _ _ _ _ _ (by omega)).trans h.c.c4, (other _ _ _ _ _ (by omega)).trans h.c.c5⟩,
    by simpa using h.f0, by simpa using h.f1, by simpa using h.f2, by simpa using h.f3, by simpa using h.f4, by simpa using h.f5⟩
theorem SecW.set3 (h : SecW w b k e n a m p) (x : Int) : SecW (w.setCell ⟨b, 3, none⟩ (.int .i64 x)) b k e n x m p :=
  ⟨⟨(other _ _ _ _ _ (by omega)).trans h.c.c0, (other _ _ _ _ _ (by omega)).trans h.c.c1, (other _ _ _ _ _ (by omega)).trans h.c.c2, World.cell?_setCell_same _ _ _ h.c.c3, (other _ _ _ _ _ (by omega)).trans h.c.c4, (other _ _ _ _ _ (by omega)).trans h.c.c5⟩,
    by simpa using h.f0, by simpa using h.f1, by simpa using h.f2, by simpa using h.f3, by simpa using h.f4, by simpa using h.f5⟩
theorem SecW.set4 (h : SecW w b k e n a m p) (x : Int) : SecW (w.setCell ⟨b, 4, none⟩ (.int .i64 x)) b k e n a x p :=
  ⟨⟨(other _ _ _ _ _ (by omega)).trans h.c.c0, (other _ _ _ _ _ (by omega)).trans h.c.c1, (other _ _ _ _ _ (by omega)).trans h.c.c2, (other _ _ _ _ _ (by omega)).trans h.c.c3, World.cell?_setCell_same _ _ _ h.c.c4, (other _ _ _ _ _ (by omega)).trans h.c.c5⟩,
    by simpa using h.f0, by simpa using h.f1, by simpa using h.f2, by simpa using h.f3, by simpa using h.f4, by simpa using h.f5⟩
theorem SecW.set5 (h : SecW w b k e n a m p) (x : ByteArray) : SecW (w.setCell ⟨b, 5, none⟩ (.string x)) b k e n a m x :=
  ⟨⟨(other _ _ _ _ _ (by omega)).trans h.c.c0, (other _ _ _ _ _ (by omega)).trans h.c.c1, (other _ _ _ _ _ (by omega)).trans h.c.c2, (other _ _ _ _ _ (by omega)).trans h.c.c3, (other _ _ _ _ _ (by omega)).trans h.c.c4, World.cell?_setCell_same _ _ _ h.c.c5⟩,
    by simpa using h.f0, by simpa using h.f1, by simpa using h.f2, by simpa using h.f3, by simpa using h.f4, by simpa using h.f5⟩
end
theorem SecW.two (w : World) (o : Obj) (t : TypeId) : SecW ((w.alloc o).alloc (.cells #[.int .i64 0, .int .u64 0, .int .u64 0, .int .i64 0, .int .i64 0, .string ⟨#[]⟩] t)) (w.heap.size + 1) 0 0 0 0 0 ⟨#[]⟩ :=
  ⟨⟨by simp [go_sem], by simp [go_sem], by simp [go_sem], by simp [go_sem], by simp [go_sem], by simp [go_sem]⟩, by simp [go_sem], by simp [go_sem], by simp [go_sem], by simp [go_sem], by simp [go_sem], by simp [go_sem]⟩
theorem SecW.one (w : World) (o : Obj) (t : TypeId) : SecW ((w.alloc (.cells #[.int .i64 0, .int .u64 0, .int .u64 0, .int .i64 0, .int .i64 0, .string ⟨#[]⟩] t)).alloc o) w.heap.size 0 0 0 0 0 ⟨#[]⟩ :=
  ⟨⟨by simp [go_sem], by simp [go_sem], by simp [go_sem], by simp [go_sem], by simp [go_sem], by simp [go_sem]⟩, by simp [go_sem], by simp [go_sem], by simp [go_sem], by simp [go_sem], by simp [go_sem], by simp [go_sem]⟩
theorem results_sec {fn : Func} {P : Tmp} (h : fn.results = #[.cell P 70]) (tmps : Array Value) (w : World) (b : Nat) (k : Int) (e n : Nat) (a m : Int) (p : ByteArray) (hR : Sec w b k e n a m p)
    (hp : tmps.getD P undef = .pointer (some ⟨b, 0, none⟩)) : (results fn tmps).run Try.prog w = .ok (.agg #[.int .i64 k, .int .u64 (e : Int), .int .u64 (n : Int), .int .i64 a, .int .i64 m, .string p]) w := by
  have hp' : tmps[P]?.getD undef = .pointer (some ⟨b, 0, none⟩) := by simpa using hp
  simp [results, h, hp', asAddr, load29 w b k e n a m p hR]
theorem open_lit (s : ByteArray) (w : World) (r : Nat) (hr : w.heap.size = r) : Calls Try.prog 59 #[.string s] w fun e w' => e = .returned (.pointer (some ⟨r, 0, none⟩)) ∧ Rd w' r s 0 ∧ Below w.heap.size w w' := by
  subst hr; exact (open_any s w).mono fun e w' h => ⟨h.1, h.2.1, h.2.2.1⟩
set_option maxHeartbeats 1000000 in
theorem fields_any (b : ByteArray) (w : World) (hb : b.size ≤ maxLen) (t1 t2 t3 t4 t5 t6 t7 t8 t9 : ByteArray) (y1 y2 y3 y4 y5 y6 y7 y8 y9 : Int) (k a m e n : Nat) (o2 o5 o8 p : ByteArray)
    (h1 : NumStep b 0 1 t1 y1 k) (h2 : RawStep t1 y1 1 t2 y2 o2) (h3 : NumStep t2 y2 2 t3 y3 a) (h4 : NumStep t3 y3 2 t4 y4 m) (h5 : RawStep t4 y4 2 t5 y5 o5)
    (h6 : NumStep t5 y5 8 t6 y6 e) (h7 : NumStep t6 y6 8 t7 y7 n) (h8 : RawStep t7 y7 8 t8 y8 o8) (h9 : RawStep t8 y8 480 t9 y9 p) :
    Calls Try.prog 53 #[.string b] w fun x w' => x = .returned (.agg #[.int .i64 (k : Int), .int .u64 (e : Int), .int .u64 (n : Int), .int .i64 (a : Int), .int .i64 (m : Int), .string p]) ∧ Below w.heap.size w w' := by
  have k0 : RdOk b 0 := ⟨.inl rfl, hb⟩
  have k1 := k0.num h1
  have k2 := k1.raw h2
  have k3 := k2.num h3
  have k4 := k3.num h4
  have k5 := k4.raw h5
  have k6 := k5.num h6
  have k7 := k6.num h7
  have k8 := k7.raw h8
  have bk : k < 256 := h1.lt (by omega) (by omega)
  have ba : a < 65536 := h3.lt (by omega) (by omega)
  have bm : m < 65536 := h4.lt (by omega) (by omega)
  clear hb
  have n1 := Lib.hid (fun r w R => step_num r 1 1 rfl h1 w R k0)
  have n2 := Lib.hid (fun r w R => step_raw r 1 1 rfl h2 w R k1)
  have n3 := Lib.hid (fun r w R => step_num r 2 2 rfl h3 w R k2)
  have n4 := Lib.hid (fun r w R => step_num r 2 2 rfl h4 w R k3)
  have n5 := Lib.hid (fun r w R => step_raw r 2 2 rfl h5 w R k4)
  have n6 := Lib.hid (fun r w R => step_num r 8 8 rfl h6 w R k5)
  have n7 := Lib.hid (fun r w R => step_num r 8 8 rfl h7 w R k6)
  have n8 := Lib.hid (fun r w R => step_raw r 8 8 rfl h8 w R k7)
  have n9 := Lib.hid (fun r w R => step_raw r 480 480 rfl h9 w R k8)
  clear h1 h2 h3 h4 h5 h6 h7 h8 h9 k0 k1 k2 k3 k4 k5 k6 k7 k8
  go_enter Try.func53, Try.ntmps53
  go_wp2_with fail
  have S0 := SecW.one w (.cells #[.int .i64 0, .int .u64 0, .int .u64 0, .int .i64 0, .int .i64 0, .string ⟨#[]⟩] 70) 70
  have S1 := SecW.two w (.cells #[.int .i64 0, .int .u64 0, .int .u64 0, .int .i64 0, .int .i64 0, .string ⟨#[]⟩] 70) 70
  have B := below_two w (.cells #[.int .i64 0, .int .u64 0, .int .u64 0, .int .i64 0, .int .i64 0, .string ⟨#[]⟩] 70) (.cells #[.int .i64 0, .int .u64 0, .int .u64 0, .int .i64 0, .int .i64 0, .string ⟨#[]⟩] 70)
  obtain ⟨r, hr, hr1⟩ : ∃ r, ((w.alloc (.cells #[.int .i64 0, .int .u64 0, .int .u64 0, .int .i64 0, .int .i64 0, .string ⟨#[]⟩] 70)).alloc (.cells #[.int .i64 0, .int .u64 0, .int .u64 0, .int .i64 0, .int .i64 0, .string ⟨#[]⟩] 70)).heap.size = r ∧ w.heap.size + 1 < r := ⟨_, rfl, by simp⟩
  refine (open_lit b _ r hr).mono ?_
  rintro x w0 ⟨rfl, R, hb⟩
  replace S0 := S0.below hb
  replace S1 := S1.below hb
  replace B := below_to B hb
  clear hb hr
  go_wp2_with fail
  refine (n1.out r _ R).mono ?_
  rintro x w1 ⟨rfl, R1, O⟩
  replace S0 := S0.only O (by omega)
  replace S1 := S1.only O (by omega)
  replace B := O.below B (by omega) B.size
  clear O R
  have R := R1
  clear R1
  have cc := S1.c.c0
  have ff := S1.f0
  go_wp2_with fail
  clear cc ff
  replace S1 := S1.set0 k
  replace S0 := S0.only ((Only.refl (w.heap.size + 1) w1).setCell (o := 0) (.int .i64 (k : Int))) (by omega)
  replace R := R.only ((Only.refl (w.heap.size + 1) w1).setCell (o := 0) (.int .i64 (k : Int))) (by omega)
  replace B := B.setCell (p := ⟨w.heap.size + 1, 0, none⟩) (by show w.heap.size ≤ w.heap.size + 1; omega) (.int .i64 (k : Int))
  generalize w1.setCell ⟨w.heap.size + 1, 0, none⟩ (.int .i64 (k : Int)) = v1 at S0 S1 R B ⊢
  refine (n2.out r _ R).mono ?_
  rintro x w2 ⟨rfl, R2, O⟩
  replace S0 := S0.only O (by omega)
  replace S1 := S1.only O (by omega)
  replace B := O.below B (by omega) B.size
  clear O R
  have R := R2
  clear R2
  go_wp2_with fail
  refine (n3.out r _ R).mono ?_
  rintro x w3 ⟨rfl, R3, O⟩
  replace S0 := S0.only O (by omega)
  replace S1 := S1.only O (by omega)
  replace B := O.below B (by omega) B.size
  clear O R
  have R := R3
  clear R3
  have cc := S1.c.c3
  have ff := S1.f3
  go_wp2_with fail
  clear cc ff
  replace S1 := S1.set3 a
  replace S0 := S0.only ((Only.refl (w.heap.size + 1) w3).setCell (o := 3) (.int .i64 (a : Int))) (by omega)
  replace R := R.only ((Only.refl (w.heap.size + 1) w3).setCell (o := 3) (.int .i64 (a : Int))) (by omega)
  replace B := B.setCell (p := ⟨w.heap.size + 1, 3, none⟩) (by show w.heap.size ≤ w.heap.size + 1; omega) (.int .i64 (a : Int))
  generalize w3.setCell ⟨w.heap.size + 1, 3, none⟩ (.int .i64 (a : Int)) = v3 at S0 S1 R B ⊢
  refine (n4.out r _ R).mono ?_
  rintro x w4 ⟨rfl, R4, O⟩
  replace S0 := S0.only O (by omega)
  replace S1 := S1.only O (by omega)
  replace B := O.below B (by omega) B.size
  clear O R
  have R := R4
  clear R4
  have cc := S1.c.c4
  have ff := S1.f4
  go_wp2_with fail
  clear cc ff
  replace S1 := S1.set4 m
  replace S0 := S0.only ((Only.refl (w.heap.size + 1) w4).setCell (o := 4) (.int .i64 (m : Int))) (by omega)
  replace R := R.only ((Only.refl (w.heap.size + 1) w4).setCell (o := 4) (.int .i64 (m : Int))) (by omega)
  replace B := B.setCell (p := ⟨w.heap.size + 1, 4, none⟩) (by show w.heap.size ≤ w.heap.size + 1; omega) (.int .i64 (m : Int))
  generalize w4.setCell ⟨w.heap.size + 1, 4, none⟩ (.int .i64 (m : Int)) = v4 at S0 S1 R B ⊢
  refine (n5.out r _ R).mono ?_
  rintro x w5 ⟨rfl, R5, O⟩
  replace S0 := S0.only O (by omega)
  replace S1 := S1.only O (by omega)
  replace B := O.below B (by omega) B.size
  clear O R
  have R := R5
  clear R5
  go_wp2_with fail
  refine (n6.out r _ R).mono ?_
  rintro x w6 ⟨rfl, R6, O⟩
  replace S0 := S0.only O (by omega)
  replace S1 := S1.only O (by omega)
  replace B := O.below B (by omega) B.size
  clear O R
  have R := R6
  clear R6
  have cc := S1.c.c1
  have ff := S1.f1
  go_wp2_with fail
  clear cc ff
  replace S1 := S1.set1 e
  replace S0 := S0.only ((Only.refl (w.heap.size + 1) w6).setCell (o := 1) (.int .u64 (e : Int))) (by omega)
  replace R := R.only ((Only.refl (w.heap.size + 1) w6).setCell (o := 1) (.int .u64 (e : Int))) (by omega)
  replace B := B.setCell (p := ⟨w.heap.size + 1, 1, none⟩) (by show w.heap.size ≤ w.heap.size + 1; omega) (.int .u64 (e : Int))
  generalize w6.setCell ⟨w.heap.size + 1, 1, none⟩ (.int .u64 (e : Int)) = v6 at S0 S1 R B ⊢
  refine (n7.out r _ R).mono ?_
  rintro x w7 ⟨rfl, R7, O⟩
  replace S0 := S0.only O (by omega)
  replace S1 := S1.only O (by omega)
  replace B := O.below B (by omega) B.size
  clear O R
  have R := R7
  clear R7
  have cc := S1.c.c2
  have ff := S1.f2
  go_wp2_with fail
  clear cc ff
  replace S1 := S1.set2 n
  replace S0 := S0.only ((Only.refl (w.heap.size + 1) w7).setCell (o := 2) (.int .u64 (n : Int))) (by omega)
  replace R := R.only ((Only.refl (w.heap.size + 1) w7).setCell (o := 2) (.int .u64 (n : Int))) (by omega)
  replace B := B.setCell (p := ⟨w.heap.size + 1, 2, none⟩) (by show w.heap.size ≤ w.heap.size + 1; omega) (.int .u64 (n : Int))
  generalize w7.setCell ⟨w.heap.size + 1, 2, none⟩ (.int .u64 (n : Int)) = v7 at S0 S1 R B ⊢
  refine (n8.out r _ R).mono ?_
  rintro x w8 ⟨rfl, R8, O⟩
  replace S0 := S0.only O (by omega)
  replace S1 := S1.only O (by omega)
  replace B := O.below B (by omega) B.size
  clear O R
  have R := R8
  clear R8
  go_wp2_with fail
  refine (n9.out r _ R).mono ?_
  rintro x w9 ⟨rfl, R9, O⟩
  replace S0 := S0.only O (by omega)
  replace S1 := S1.only O (by omega)
  replace B := O.below B (by omega) B.size
  clear O R
  have R := R9
  clear R9
  have E := (((((((S0.only ((Only.refl (w.heap.size + 1) w9).setCell (o := 5) (.string p)) (by omega)).set0 k).set1 e).set2 n).set3 a).set4 m).set5 p)
  have T0 := S0
  have T1 := S1
  obtain ⟨⟨c0, c1, c2, c3, c4, c5⟩, f0, f1, f2, f3, f4, f5⟩ := S0
  obtain ⟨⟨d0, d1, d2, d3, d4, d5⟩, g0, g1, g2, g3, g4, g5⟩ := S1
  go_wp2_with fail
  refine bodyPost_ret (results_sec Try.results53 _ _ _ _ _ _ _ _ _ E.c rfl) rfl ⟨rfl, ?_⟩
  exact ((((((B.setCell (by show w.heap.size ≤ w.heap.size + 1; omega) _).setCell (Nat.le_refl _) _).setCell (Nat.le_refl _) _).setCell (Nat.le_refl _) _).setCell (Nat.le_refl _) _).setCell (Nat.le_refl _) _).setCell (Nat.le_refl _) _
end Go.Proofs.Ytbhebkjadgajeaa
