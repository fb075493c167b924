/- Contracts: record's closures that read. -/
import Derived.Test.YteekjndhehnpaaaSG
import Derived.Test.YteekjndhehnpaaaSE
import Derived.Deep.Cut
namespace Go.Proofs.Yteekjndhehnpaaa
open Go.RowKit
set_option maxRecDepth 100000
set_option linter.unusedVariables false
set_option linter.unusedSimpArgs false
set_option maxHeartbeats 4000000
/-- Block g begins with these values, and may be written. -/
structure Blk (w : World) (g : Nat) (vs : List Value) : Prop where
  lt : g < w.heap.size
  cell : ∀ (i : Nat) v, vs[i]? = some v → w.cell? ⟨g, i, none⟩ = some v
  froz : ∀ (i : Nat) v, vs[i]? = some v → w.frozen? ⟨g, i, none⟩ = false
theorem Blk.below {w w1 : World} {g : Nat} {vs : List Value} (h : Blk w g vs) (B : Below w.heap.size w w1) : Blk w1 g vs :=
  ⟨Nat.lt_of_lt_of_le h.lt B.size, fun i v hi => (B.cell (p := ⟨g, i, none⟩) h.lt).trans (h.cell i v hi), fun i v hi => (B.frozen (p := ⟨g, i, none⟩) h.lt).trans (h.froz i v hi)⟩
theorem Blk.only {w w1 : World} {g b : Nat} {vs : List Value} (h : Blk w g vs) (B : Only b w w1) (hb : g ≠ b) : Blk w1 g vs :=
  ⟨Nat.lt_of_lt_of_le h.lt B.size, fun i v hi => (B.cell h.lt hb).trans (h.cell i v hi), fun i v hi => (B.frozen h.lt hb).trans (h.froz i v hi)⟩
theorem Blk.new (w : World) (vs : List Value) (T : TypeId) : Blk (w.alloc (.cells vs.toArray T)) w.heap.size vs := by
  have hg : (w.alloc (.cells vs.toArray T)).heap[w.heap.size]? = some (.cells vs.toArray T (0, 0)) := by
    show (w.heap.push _)[w.heap.size]? = _
    simp
  refine ⟨by simp, fun i v hi => ?_, fun i v hi => ?_⟩
  · rw [cell_of_row _ _ i _ _ _ hg]
    simpa using hi
  · simp only [World.frozen?, hg]
    simp
theorem Blk.put {w : World} {g : Nat} {vs : List Value} (h : Blk w g vs) (i : Nat) (v : Value) (hi : i < vs.length) : Blk (w.setCell ⟨g, i, none⟩ v) g (vs.set i v) := by
  refine ⟨by simpa using h.lt, fun j x hj => ?_, fun j x hj => ?_⟩
  · rw [List.getElem?_set] at hj
    by_cases e : i = j
    · subst e
      simp only [↓reduceIte, hi] at hj
      cases hj
      exact World.cell?_setCell_same _ _ _ (h.cell i _ (List.getElem?_eq_getElem hi))
    · rw [if_neg e] at hj
      exact (World.cell?_setCell_other _ _ _ _ (fun e2 => e (by first | exact congrArg Addr.off e2 | exact (congrArg Addr.off e2).symm))).trans (h.cell j x hj)
  · rw [List.getElem?_set] at hj
    by_cases e : i = j
    · subst e
      have := h.froz i _ (List.getElem?_eq_getElem hi)
      simpa using this
    · rw [if_neg e] at hj
      have := h.froz j x hj
      simpa using this
theorem RdAt.put {w : World} {b g i : Nat} {s : ByteArray} {k : Nat} (h : RdAt w b s k) (v : Value) (hg : g ≠ b) : RdAt (w.setCell ⟨g, i, none⟩ v) b s k := by
  obtain ⟨c0, c1, f0, f1⟩ := h
  exact ⟨(World.cell?_setCell_other _ _ _ _ (fun e => hg (by have := congrArg Addr.block e; simpa using this))).trans c0, (World.cell?_setCell_other _ _ _ _ (fun e => hg (by have := congrArg Addr.block e; simpa using this))).trans c1, by simpa using f0, by simpa using f1⟩
theorem Only.putNew {w w1 : World} {b g i : Nat} (h : Only b w w1) (v : Value) (hg : w.heap.size ≤ g) : Only b w (w1.setCell ⟨g, i, none⟩ v) :=
  ⟨h.os, h.tape, h.output, by have := h.size; simpa using this, fun k hk hb => (Below.heap_setCell w1 ⟨g, i, none⟩ v k (by show k ≠ g; omega)).trans (h.block k hk hb)⟩
theorem wrapEq (x : Int) : IntKind.i64.wrap x = wrap64 x := by rw [IntKind.wrap_i64, wrap64]
theorem readCount_any (b k : Nat) (s : ByteArray) (hs : s.size ≤ 1000) (w : World) (hr : RdAt w b s k) :
    Calls Try.prog 77 #[.pointer (some ⟨b, 0, none⟩)] w fun x w' => x = .returned (.agg #[.int .i64 (cAt s k), .int .i64 (cAt s (k + 8))]) ∧ RdAt w' b s (k + 16) ∧ Only b w w' := by
  have H1 : Hid (∀ w, RdAt w b s k → Calls Try.prog 81 #[.pointer (some ⟨b, 0, none⟩), .int .i64 8] w fun x w' => x = .returned (.int .u64 (numAt s k 8 : Int)) ∧ RdAt w' b s (k + 8) ∧ Only b w w') := Lib.hid (fun w h => rdnum_any b 8 k s (by omega) (by omega) hs w h)
  have H2 : Hid (∀ w, RdAt w b s (k + 8) → Calls Try.prog 81 #[.pointer (some ⟨b, 0, none⟩), .int .i64 8] w fun x w' => x = .returned (.int .u64 (numAt s (k + 8) 8 : Int)) ∧ RdAt w' b s (k + 16) ∧ Only b w w') := Lib.hid (fun w h => rdnum_any b 8 (k + 8) s (by omega) (by omega) hs w h)
  have hlt := hr.lt
  unfold cAt
  generalize numAt s k 8 = c0 at H1 ⊢
  generalize numAt s (k + 8) 8 = c1 at H2 ⊢
  go_enter Try.func77, Try.ntmps77
  go_wp2_with fail
  refine (H1.out _ (hr.alloc _)).mono ?_
  rintro e w1 ⟨rfl, hr1, ho1⟩
  have K := (Blk.new w [.int .i64 0, .int .i64 0] 47).only ho1 (by omega)
  have O := (Only.of_below (b := b) (below_box w (.cells #[.int .i64 0, .int .i64 0] 47))).trans ho1
  clear ho1
  go_wp2_with fail
  refine (H2.out _ hr1).mono ?_
  rintro e w2 ⟨rfl, hr2, ho2⟩
  replace K := K.only ho2 (by omega)
  replace O := O.trans ho2
  clear hr1 ho2
  have x0 := K.cell 0 _ rfl
  have y0 := K.froz 0 _ rfl
  have x1 := K.cell 1 _ rfl
  have y1 := K.froz 1 _ rfl
  go_wp2_with fail
  have KK := ((K.put 0 (.int .i64 (wrap64 (c0 : Int))) (by simp)).put 1 (.int .i64 (wrap64 (c1 : Int))) (by simp))
  have z0 := KK.cell 0 _ rfl
  have z1 := KK.cell 1 _ rfl
  refine bodyPost_ret (v := .agg #[.int .i64 (wrap64 (c0 : Int)), .int .i64 (wrap64 (c1 : Int))]) (by simp [results, Try.results77, go_sem, z0, z1]) rfl ?_
  exact ⟨by simp only [wrapEq], ((hr2.put (.int .i64 (wrap64 (c0 : Int))) (by omega)).put (.int .i64 (wrap64 (c1 : Int))) (by omega)), ((O.putNew (.int .i64 (wrap64 (c0 : Int))) (Nat.le_refl _)).putNew (.int .i64 (wrap64 (c1 : Int))) (Nat.le_refl _))⟩
theorem readBlob_any (b k : Nat) (s : ByteArray) (hs : s.size ≤ 1000) (w : World) (hr : RdAt w b s k) :
    Calls Try.prog 86 #[.pointer (some ⟨b, 0, none⟩)] w fun x w' => x = .returned (.agg #[.int .i64 (mAt s k 2), .int .i64 (mAt s (k + 2) 2)]) ∧ RdAt w' b s (k + 4) ∧ Only b w w' := by
  have H1 : Hid (∀ w, RdAt w b s k → Calls Try.prog 81 #[.pointer (some ⟨b, 0, none⟩), .int .i64 2] w fun x w' => x = .returned (.int .u64 (numAt s k 2 : Int)) ∧ RdAt w' b s (k + 2) ∧ Only b w w') := Lib.hid (fun w h => rdnum_any b 2 k s (by omega) (by omega) hs w h)
  have H2 : Hid (∀ w, RdAt w b s (k + 2) → Calls Try.prog 81 #[.pointer (some ⟨b, 0, none⟩), .int .i64 2] w fun x w' => x = .returned (.int .u64 (numAt s (k + 2) 2 : Int)) ∧ RdAt w' b s (k + 4) ∧ Only b w w') := Lib.hid (fun w h => rdnum_any b 2 (k + 2) s (by omega) (by omega) hs w h)
  have hlt := hr.lt
  unfold mAt
  generalize numAt s k 2 = c0 at H1 ⊢
  generalize numAt s (k + 2) 2 = c1 at H2 ⊢
  go_enter Try.func86, Try.ntmps86
  go_wp2_with fail
  refine (H1.out _ (hr.alloc _)).mono ?_
  rintro e w1 ⟨rfl, hr1, ho1⟩
  have K := (Blk.new w [.int .i64 0, .int .i64 0] 54).only ho1 (by omega)
  have O := (Only.of_below (b := b) (below_box w (.cells #[.int .i64 0, .int .i64 0] 54))).trans ho1
  clear ho1
  go_wp2_with fail
  refine (H2.out _ hr1).mono ?_
  rintro e w2 ⟨rfl, hr2, ho2⟩
  replace K := K.only ho2 (by omega)
  replace O := O.trans ho2
  clear hr1 ho2
  have x0 := K.cell 0 _ rfl
  have y0 := K.froz 0 _ rfl
  have x1 := K.cell 1 _ rfl
  have y1 := K.froz 1 _ rfl
  go_wp2_with fail
  have KK := ((K.put 0 (.int .i64 (wrap64 (c0 : Int))) (by simp)).put 1 (.int .i64 (wrap64 (c1 : Int))) (by simp))
  have z0 := KK.cell 0 _ rfl
  have z1 := KK.cell 1 _ rfl
  refine bodyPost_ret (v := .agg #[.int .i64 (wrap64 (c0 : Int)), .int .i64 (wrap64 (c1 : Int))]) (by simp [results, Try.results86, go_sem, z0, z1]) rfl ?_
  exact ⟨by simp only [wrapEq], ((hr2.put (.int .i64 (wrap64 (c0 : Int))) (by omega)).put (.int .i64 (wrap64 (c1 : Int))) (by omega)), ((O.putNew (.int .i64 (wrap64 (c0 : Int))) (Nat.le_refl _)).putNew (.int .i64 (wrap64 (c1 : Int))) (Nat.le_refl _))⟩
theorem readSum_any (b k : Nat) (s : ByteArray) (hs : s.size ≤ 1000) (w : World) (hr : RdAt w b s k) :
    Calls Try.prog 85 #[.pointer (some ⟨b, 0, none⟩)] w fun x w' => x = .returned (.int .u32 (numAt s k 4 : Int)) ∧ RdAt w' b s (k + 4) ∧ Only b w w' := by
  have H1 : Hid (∀ w, RdAt w b s k → Calls Try.prog 81 #[.pointer (some ⟨b, 0, none⟩), .int .i64 4] w fun x w' => x = .returned (.int .u64 (numAt s k 4 : Int)) ∧ RdAt w' b s (k + 4) ∧ Only b w w') := Lib.hid (fun w h => rdnum_any b 4 k s (by omega) (by omega) hs w h)
  have hlt := numAt_lt s k 4
  generalize numAt s k 4 = c0 at H1 hlt ⊢
  have e : IntKind.u32.wrap (c0 : Int) = (c0 : Int) := by rw [IntKind.wrap_u32]; omega
  go_enter Try.func85, Try.ntmps85
  go_wp2_with fail
  refine (H1.out _ hr).mono ?_
  rintro e w1 ⟨rfl, hr1, ho1⟩
  go_wp2_with fail
  go_ret
  exact ⟨rfl, hr1, ho1⟩
theorem readLimit_any (b k : Nat) (s : ByteArray) (hs : s.size ≤ 1000) (w : World) (hr : RdAt w b s k) :
    Calls Try.prog 76 #[.pointer (some ⟨b, 0, none⟩)] w fun x w' => x = .returned (.agg #[.int .i64 (lAt s k), .int .i64 (lAt s (k + 8))]) ∧ RdAt w' b s (k + 16) ∧ Only b w w' := by
  have H1 := Lib.hid (fun w h => readCount_any b k s hs w h)
  have hlt := hr.lt
  unfold lAt
  have u0 : IntKind.i64.wrap (numAt s k 8) = cAt s k := rfl
  have u1 : IntKind.i64.wrap (numAt s (k + 8) 8) = cAt s (k + 8) := rfl
  rw [u0, u1]
  generalize cAt s k = c0 at H1 ⊢
  generalize cAt s (k + 8) = c1 at H1 ⊢
  clear u0 u1
  go_enter Try.func76, Try.ntmps76
  go_wp2_with fail
  refine (H1.out _ (hr.alloc _)).mono ?_
  rintro e w1 ⟨rfl, hr1, ho1⟩
  have K := (Blk.new w [.int .i64 0, .int .i64 0] 47).only ho1 (by omega)
  have O := (Only.of_below (b := b) (below_box w (.cells #[.int .i64 0, .int .i64 0] 47))).trans ho1
  clear ho1
  have hl1 := hr1.lt
  have hl2 := K.lt
  replace hr1 := hr1.alloc (.cells #[.int .i64 c0, .int .i64 c1] 47)
  replace K := K.below (below_box w1 (.cells #[.int .i64 c0, .int .i64 c1] 47))
  have K2 := Blk.new w1 [.int .i64 c0, .int .i64 c1] 47
  replace O := O.alloc (.cells #[.int .i64 c0, .int .i64 c1] 47)
  go_upto_region 2 with (fail)
  generalize w1.alloc (.cells #[.int .i64 c0, .int .i64 c1] 47) = w2 at hr1 K K2 O ⊢
  generalize w1.heap.size = g2 at K2 hl1 hl2 ⊢
  have x0 := K.cell 0 _ rfl
  have y0 := K.froz 0 _ rfl
  have x1 := K.cell 1 _ rfl
  have y1 := K.froz 1 _ rfl
  have x2 := K2.cell 0 _ rfl
  have x3 := K2.cell 1 _ rfl
  go_wp2_with fail
  have KK := ((K.put 0 (.int .i64 (wrap64 (c0 - 1))) (by simp)).put 1 (.int .i64 (wrap64 (c1 - 1))) (by simp))
  have z0 := KK.cell 0 _ rfl
  have z1 := KK.cell 1 _ rfl
  refine bodyPost_ret (v := .agg #[.int .i64 (wrap64 (c0 - 1)), .int .i64 (wrap64 (c1 - 1))]) (by simp [results, Try.results76, go_sem, z0, z1]) rfl ?_
  exact ⟨by simp only [wrapEq], ((hr1.put _ (by omega)).put _ (by omega)), ((O.putNew _ (Nat.le_refl _)).putNew _ (Nat.le_refl _))⟩
theorem cTenant_any (b : Nat) (s : ByteArray) (hs : s.size ≤ 1000) (w : World) (hr : RdAt w b s 0) :
    Calls Try.prog 75 #[.pointer (some ⟨b, 0, none⟩)] w fun x w' => x = .returned (.agg #[.int .i64 (lAt s 0), .int .i64 (lAt s 8), .int .i64 (cAt s 16), .int .i64 (cAt s 24)]) ∧ RdAt w' b s 32 ∧ Only b w w' := by
  have H1 : Hid (∀ w, RdAt w b s 0 → Calls Try.prog 76 #[.pointer (some ⟨b, 0, none⟩)] w fun x w' => x = .returned (.agg #[.int .i64 (lAt s 0), .int .i64 (lAt s 8)]) ∧ RdAt w' b s 16 ∧ Only b w w') := Lib.hid (fun w h => readLimit_any b 0 s hs w h)
  have H2 : Hid (∀ w, RdAt w b s 16 → Calls Try.prog 77 #[.pointer (some ⟨b, 0, none⟩)] w fun x w' => x = .returned (.agg #[.int .i64 (cAt s 16), .int .i64 (cAt s 24)]) ∧ RdAt w' b s 32 ∧ Only b w w') := Lib.hid (fun w h => readCount_any b 16 s hs w h)
  have hlt := hr.lt
  generalize lAt s 0 = a at H1 ⊢
  generalize lAt s 8 = b1 at H1 ⊢
  generalize cAt s 16 = c at H2 ⊢
  generalize cAt s 24 = d at H2 ⊢
  go_enter Try.func75, Try.ntmps75
  go_wp2_with fail
  refine (H1.out _ (hr.alloc _)).mono ?_
  rintro e w1 ⟨rfl, hr1, ho1⟩
  have K := (Blk.new w [.int .i64 0, .int .i64 0, .int .i64 0, .int .i64 0] 60).only ho1 (by omega)
  have O := (Only.of_below (b := b) (below_box w (.cells #[.int .i64 0, .int .i64 0, .int .i64 0, .int .i64 0] 60))).trans ho1
  clear ho1
  go_wp2_with fail
  refine (H2.out _ hr1).mono ?_
  rintro e w2 ⟨rfl, hr2, ho2⟩
  replace K := K.only ho2 (by omega)
  replace O := O.trans ho2
  clear hr1 ho2
  have x0 := K.cell 0 _ rfl
  have y0 := K.froz 0 _ rfl
  have x1 := K.cell 1 _ rfl
  have y1 := K.froz 1 _ rfl
  have x2 := K.cell 2 _ rfl
  have y2 := K.froz 2 _ rfl
  have x3 := K.cell 3 _ rfl
  have y3 := K.froz 3 _ rfl
  go_wp2_with fail
  have KK := ((((K.put 0 (.int .i64 a) (by simp)).put 1 (.int .i64 b1) (by simp)).put 2 (.int .i64 c) (by simp)).put 3 (.int .i64 d) (by simp))
  have z0 := KK.cell 0 _ rfl
  have z1 := KK.cell 1 _ rfl
  have z2 := KK.cell 2 _ rfl
  have z3 := KK.cell 3 _ rfl
  refine bodyPost_ret (v := .agg #[.int .i64 a, .int .i64 b1, .int .i64 c, .int .i64 d]) (by simp [results, Try.results75, go_sem, z0, z1, z2, z3]) rfl ?_
  exact ⟨by simp only [wrapEq], ((((hr2.put (.int .i64 a) (by omega)).put (.int .i64 b1) (by omega)).put (.int .i64 c) (by omega)).put (.int .i64 d) (by omega)), ((((O.putNew (.int .i64 a) (Nat.le_refl _)).putNew (.int .i64 b1) (Nat.le_refl _)).putNew (.int .i64 c) (Nat.le_refl _)).putNew (.int .i64 d) (Nat.le_refl _))⟩
theorem cBucket_any (b : Nat) (s : ByteArray) (hs : s.size ≤ 1000) (w : World) (hr : RdAt w b s 0) :
    Calls Try.prog 80 #[.pointer (some ⟨b, 0, none⟩)] w fun x w' => x = .returned (.agg #[.int .i64 (mAt s 0 1), .int .i64 (lAt s 1), .int .i64 (lAt s 9), .int .i64 (cAt s 17), .int .i64 (cAt s 25), .int .u64 (numAt s 33 8 : Int)]) ∧ RdAt w' b s 41 ∧ Only b w w' := by
  have H1 : Hid (∀ w, RdAt w b s 0 → Calls Try.prog 81 #[.pointer (some ⟨b, 0, none⟩), .int .i64 1] w fun x w' => x = .returned (.int .u64 (numAt s 0 1 : Int)) ∧ RdAt w' b s 1 ∧ Only b w w') := Lib.hid (fun w h => rdnum_any b 1 0 s (by omega) (by omega) hs w h)
  have H2 : Hid (∀ w, RdAt w b s 1 → Calls Try.prog 76 #[.pointer (some ⟨b, 0, none⟩)] w fun x w' => x = .returned (.agg #[.int .i64 (lAt s 1), .int .i64 (lAt s 9)]) ∧ RdAt w' b s 17 ∧ Only b w w') := Lib.hid (fun w h => readLimit_any b 1 s hs w h)
  have H3 : Hid (∀ w, RdAt w b s 17 → Calls Try.prog 77 #[.pointer (some ⟨b, 0, none⟩)] w fun x w' => x = .returned (.agg #[.int .i64 (cAt s 17), .int .i64 (cAt s 25)]) ∧ RdAt w' b s 33 ∧ Only b w w') := Lib.hid (fun w h => readCount_any b 17 s hs w h)
  have H4 : Hid (∀ w, RdAt w b s 33 → Calls Try.prog 81 #[.pointer (some ⟨b, 0, none⟩), .int .i64 8] w fun x w' => x = .returned (.int .u64 (numAt s 33 8 : Int)) ∧ RdAt w' b s 41 ∧ Only b w w') := Lib.hid (fun w h => rdnum_any b 8 33 s (by omega) (by omega) hs w h)
  have hlt := hr.lt
  unfold mAt
  generalize numAt s 0 1 = m at H1 ⊢
  generalize lAt s 1 = a at H2 ⊢
  generalize lAt s 9 = b1 at H2 ⊢
  generalize cAt s 17 = c at H3 ⊢
  generalize cAt s 25 = d at H3 ⊢
  generalize numAt s 33 8 = n at H4 ⊢
  go_enter Try.func80, Try.ntmps80
  go_wp2_with fail
  refine (H1.out _ (hr.alloc _)).mono ?_
  rintro e w1 ⟨rfl, hr1, ho1⟩
  have K := (Blk.new w [.int .i64 0, .int .i64 0, .int .i64 0, .int .i64 0, .int .i64 0, .int .u64 0] 51).only ho1 (by omega)
  have O := (Only.of_below (b := b) (below_box w (.cells #[.int .i64 0, .int .i64 0, .int .i64 0, .int .i64 0, .int .i64 0, .int .u64 0] 51))).trans ho1
  clear ho1
  go_wp2_with fail
  refine (H2.out _ hr1).mono ?_
  rintro e w2 ⟨rfl, hr2, ho2⟩
  replace K := K.only ho2 (by omega)
  replace O := O.trans ho2
  clear hr1 ho2
  go_wp2_with fail
  refine (H3.out _ hr2).mono ?_
  rintro e w3 ⟨rfl, hr3, ho3⟩
  replace K := K.only ho3 (by omega)
  replace O := O.trans ho3
  clear hr2 ho3
  go_wp2_with fail
  refine (H4.out _ hr3).mono ?_
  rintro e w4 ⟨rfl, hr4, ho4⟩
  replace K := K.only ho4 (by omega)
  replace O := O.trans ho4
  clear hr3 ho4
  have x0 := K.cell 0 _ rfl
  have y0 := K.froz 0 _ rfl
  have x1 := K.cell 1 _ rfl
  have y1 := K.froz 1 _ rfl
  have x2 := K.cell 2 _ rfl
  have y2 := K.froz 2 _ rfl
  have x3 := K.cell 3 _ rfl
  have y3 := K.froz 3 _ rfl
  have x4 := K.cell 4 _ rfl
  have y4 := K.froz 4 _ rfl
  have x5 := K.cell 5 _ rfl
  have y5 := K.froz 5 _ rfl
  go_wp2_with fail
  have KK := ((((((K.put 0 (.int .i64 (wrap64 (m : Int))) (by simp)).put 1 (.int .i64 a) (by simp)).put 2 (.int .i64 b1) (by simp)).put 3 (.int .i64 c) (by simp)).put 4 (.int .i64 d) (by simp)).put 5 (.int .u64 (n : Int)) (by simp))
  have z0 := KK.cell 0 _ rfl
  have z1 := KK.cell 1 _ rfl
  have z2 := KK.cell 2 _ rfl
  have z3 := KK.cell 3 _ rfl
  have z4 := KK.cell 4 _ rfl
  have z5 := KK.cell 5 _ rfl
  refine bodyPost_ret (v := .agg #[.int .i64 (wrap64 (m : Int)), .int .i64 a, .int .i64 b1, .int .i64 c, .int .i64 d, .int .u64 (n : Int)]) (by simp [results, Try.results80, go_sem, z0, z1, z2, z3, z4, z5]) rfl ?_
  exact ⟨by simp only [wrapEq], ((((((hr4.put (.int .i64 (wrap64 (m : Int))) (by omega)).put (.int .i64 a) (by omega)).put (.int .i64 b1) (by omega)).put (.int .i64 c) (by omega)).put (.int .i64 d) (by omega)).put (.int .u64 (n : Int)) (by omega)), ((((((O.putNew (.int .i64 (wrap64 (m : Int))) (Nat.le_refl _)).putNew (.int .i64 a) (Nat.le_refl _)).putNew (.int .i64 b1) (Nat.le_refl _)).putNew (.int .i64 c) (Nat.le_refl _)).putNew (.int .i64 d) (Nat.le_refl _)).putNew (.int .u64 (n : Int)) (Nat.le_refl _))⟩
theorem cVersion_any (b : Nat) (s : ByteArray) (hs : s.size ≤ 1000) (w : World) (hr : RdAt w b s 0) :
    Calls Try.prog 84 #[.pointer (some ⟨b, 0, none⟩)] w fun x w' => x = .returned (.agg #[.int .u64 (numAt s 0 8 : Int), .bool ((numAt s 8 1 : Int) == 1), .int .u32 (numAt s 9 4 : Int), .int .i64 (mAt s 13 2), .int .i64 (mAt s 15 2)]) ∧ RdAt w' b s 17 ∧ Only b w w' := by
  have H1 : Hid (∀ w, RdAt w b s 0 → Calls Try.prog 81 #[.pointer (some ⟨b, 0, none⟩), .int .i64 8] w fun x w' => x = .returned (.int .u64 (numAt s 0 8 : Int)) ∧ RdAt w' b s 8 ∧ Only b w w') := Lib.hid (fun w h => rdnum_any b 8 0 s (by omega) (by omega) hs w h)
  have H2 : Hid (∀ w, RdAt w b s 8 → Calls Try.prog 81 #[.pointer (some ⟨b, 0, none⟩), .int .i64 1] w fun x w' => x = .returned (.int .u64 (numAt s 8 1 : Int)) ∧ RdAt w' b s 9 ∧ Only b w w') := Lib.hid (fun w h => rdnum_any b 1 8 s (by omega) (by omega) hs w h)
  have H3 : Hid (∀ w, RdAt w b s 9 → Calls Try.prog 85 #[.pointer (some ⟨b, 0, none⟩)] w fun x w' => x = .returned (.int .u32 (numAt s 9 4 : Int)) ∧ RdAt w' b s 13 ∧ Only b w w') := Lib.hid (fun w h => readSum_any b 9 s hs w h)
  have H4 : Hid (∀ w, RdAt w b s 13 → Calls Try.prog 86 #[.pointer (some ⟨b, 0, none⟩)] w fun x w' => x = .returned (.agg #[.int .i64 (mAt s 13 2), .int .i64 (mAt s 15 2)]) ∧ RdAt w' b s 17 ∧ Only b w w') := Lib.hid (fun w h => readBlob_any b 13 s hs w h)
  have hlt := hr.lt
  generalize numAt s 0 8 = i at H1 ⊢
  generalize numAt s 8 1 = m at H2 ⊢
  obtain ⟨q, hq⟩ : ∃ q, ((m : Int) == 1) = q := ⟨_, rfl⟩
  rw [hq]
  generalize numAt s 9 4 = n at H3 ⊢
  generalize mAt s 13 2 = f at H4 ⊢
  generalize mAt s 15 2 = z at H4 ⊢
  go_enter Try.func84, Try.ntmps84
  go_wp2_with fail
  refine (H1.out _ (hr.alloc _)).mono ?_
  rintro e w1 ⟨rfl, hr1, ho1⟩
  have K := (Blk.new w [.int .u64 0, .bool false, .int .u32 0, .int .i64 0, .int .i64 0] 56).only ho1 (by omega)
  have O := (Only.of_below (b := b) (below_box w (.cells #[.int .u64 0, .bool false, .int .u32 0, .int .i64 0, .int .i64 0] 56))).trans ho1
  clear ho1
  go_wp2_with fail
  refine (H2.out _ hr1).mono ?_
  rintro e w2 ⟨rfl, hr2, ho2⟩
  replace K := K.only ho2 (by omega)
  replace O := O.trans ho2
  clear hr1 ho2
  go_wp2_with fail
  refine (H3.out _ hr2).mono ?_
  rintro e w3 ⟨rfl, hr3, ho3⟩
  replace K := K.only ho3 (by omega)
  replace O := O.trans ho3
  clear hr2 ho3
  go_wp2_with fail
  refine (H4.out _ hr3).mono ?_
  rintro e w4 ⟨rfl, hr4, ho4⟩
  replace K := K.only ho4 (by omega)
  replace O := O.trans ho4
  clear hr3 ho4
  have x0 := K.cell 0 _ rfl
  have y0 := K.froz 0 _ rfl
  have x1 := K.cell 1 _ rfl
  have y1 := K.froz 1 _ rfl
  have x2 := K.cell 2 _ rfl
  have y2 := K.froz 2 _ rfl
  have x3 := K.cell 3 _ rfl
  have y3 := K.froz 3 _ rfl
  have x4 := K.cell 4 _ rfl
  have y4 := K.froz 4 _ rfl
  go_wp2_with fail
  have KK := (((((K.put 0 (.int .u64 (i : Int)) (by simp)).put 1 (.bool q) (by simp)).put 2 (.int .u32 (n : Int)) (by simp)).put 3 (.int .i64 f) (by simp)).put 4 (.int .i64 z) (by simp))
  have z0 := KK.cell 0 _ rfl
  have z1 := KK.cell 1 _ rfl
  have z2 := KK.cell 2 _ rfl
  have z3 := KK.cell 3 _ rfl
  have z4 := KK.cell 4 _ rfl
  refine bodyPost_ret (v := .agg #[.int .u64 (i : Int), .bool q, .int .u32 (n : Int), .int .i64 f, .int .i64 z]) (by simp [results, Try.results84, go_sem, z0, z1, z2, z3, z4]) rfl ?_
  exact ⟨by simp only [wrapEq], (((((hr4.put (.int .u64 (i : Int)) (by omega)).put (.bool q) (by omega)).put (.int .u32 (n : Int)) (by omega)).put (.int .i64 f) (by omega)).put (.int .i64 z) (by omega)), (((((O.putNew (.int .u64 (i : Int)) (Nat.le_refl _)).putNew (.bool q) (Nat.le_refl _)).putNew (.int .u32 (n : Int)) (Nat.le_refl _)).putNew (.int .i64 f) (Nat.le_refl _)).putNew (.int .i64 z) (Nat.le_refl _))⟩
theorem cPart_any (b : Nat) (s : ByteArray) (hs : s.size ≤ 1000) (w : World) (hr : RdAt w b s 0) :
    Calls Try.prog 92 #[.pointer (some ⟨b, 0, none⟩)] w fun x w' => x = .returned (.agg #[.int .u32 (numAt s 0 4 : Int), .int .i64 (mAt s 4 2), .int .i64 (mAt s 6 2)]) ∧ RdAt w' b s 8 ∧ Only b w w' := by
  have H1 : Hid (∀ w, RdAt w b s 0 → Calls Try.prog 85 #[.pointer (some ⟨b, 0, none⟩)] w fun x w' => x = .returned (.int .u32 (numAt s 0 4 : Int)) ∧ RdAt w' b s 4 ∧ Only b w w') := Lib.hid (fun w h => readSum_any b 0 s hs w h)
  have H2 : Hid (∀ w, RdAt w b s 4 → Calls Try.prog 86 #[.pointer (some ⟨b, 0, none⟩)] w fun x w' => x = .returned (.agg #[.int .i64 (mAt s 4 2), .int .i64 (mAt s 6 2)]) ∧ RdAt w' b s 8 ∧ Only b w w') := Lib.hid (fun w h => readBlob_any b 4 s hs w h)
  have hlt := hr.lt
  generalize numAt s 0 4 = n at H1 ⊢
  generalize mAt s 4 2 = f at H2 ⊢
  generalize mAt s 6 2 = z at H2 ⊢
  go_enter Try.func92, Try.ntmps92
  go_wp2_with fail
  refine (H1.out _ (hr.alloc _)).mono ?_
  rintro e w1 ⟨rfl, hr1, ho1⟩
  have K := (Blk.new w [.int .u32 0, .int .i64 0, .int .i64 0] 69).only ho1 (by omega)
  have O := (Only.of_below (b := b) (below_box w (.cells #[.int .u32 0, .int .i64 0, .int .i64 0] 69))).trans ho1
  clear ho1
  go_wp2_with fail
  refine (H2.out _ hr1).mono ?_
  rintro e w2 ⟨rfl, hr2, ho2⟩
  replace K := K.only ho2 (by omega)
  replace O := O.trans ho2
  clear hr1 ho2
  have x0 := K.cell 0 _ rfl
  have y0 := K.froz 0 _ rfl
  have x1 := K.cell 1 _ rfl
  have y1 := K.froz 1 _ rfl
  have x2 := K.cell 2 _ rfl
  have y2 := K.froz 2 _ rfl
  go_wp2_with fail
  have KK := (((K.put 0 (.int .u32 (n : Int)) (by simp)).put 1 (.int .i64 f) (by simp)).put 2 (.int .i64 z) (by simp))
  have z0 := KK.cell 0 _ rfl
  have z1 := KK.cell 1 _ rfl
  have z2 := KK.cell 2 _ rfl
  refine bodyPost_ret (v := .agg #[.int .u32 (n : Int), .int .i64 f, .int .i64 z]) (by simp [results, Try.results92, go_sem, z0, z1, z2]) rfl ?_
  exact ⟨by simp only [wrapEq], (((hr2.put (.int .u32 (n : Int)) (by omega)).put (.int .i64 f) (by omega)).put (.int .i64 z) (by omega)), (((O.putNew (.int .u32 (n : Int)) (Nat.le_refl _)).putNew (.int .i64 f) (Nat.le_refl _)).putNew (.int .i64 z) (Nat.le_refl _))⟩
theorem cUpload_any (b : Nat) (s : ByteArray) (hs : s.size ≤ 1000) (w : World) (hr : RdAt w b s 0) :
    Calls Try.prog 88 #[.pointer (some ⟨b, 0, none⟩)] w fun x w' => x = .returned (.agg #[.string s]) ∧ w'.heap.size ≥ w.heap.size ∧ Only b w w' := by
  have H1 : Hid (∀ w, RdAt w b s 0 → Calls Try.prog 90 #[.pointer (some ⟨b, 0, none⟩)] w fun x w' => x = .returned (.int .i64 (s.size : Int)) ∧ w = w') := Lib.hid (fun w h => by
    have := left_any b _ _ w h
    rw [(rd_zero s).1] at this; exact this)
  have H2 : Hid (∀ w, RdAt w b s 0 → Calls Try.prog 89 #[.pointer (some ⟨b, 0, none⟩), .int .i64 (s.size : Int)] w fun x w' => x = .returned (.string s) ∧ Only b w w') := Lib.hid (fun w h => by
    have := raw_any b (s.size : Int) _ _ w h (rd_wf s 0) (Nat.le_trans (rdT_le s 0) (Nat.le_trans hs (by decide)))
    rw [(rd_zero s).1, (rd_zero s).2, rawS_ok (Nat.le_refl _), show s.extract 0 s.size = s from by rw [ext_front, blen, List.take_length, bs_of]] at this
    exact this.mono fun e w' h => ⟨h.1, h.2.2⟩)
  have hlt := hr.lt
  have hr' := hr.alloc (.cells #[.string ⟨#[]⟩] 66)
  generalize (s.size : Int) = z at H1 H2
  go_enter Try.func88, Try.ntmps88
  go_wp2_with fail
  refine (H1.out _ hr').mono ?_
  rintro e w1 ⟨rfl, rfl⟩
  go_wp2_with fail
  refine (H2.out _ hr').mono ?_
  rintro e w2 ⟨rfl, ho2⟩
  have K := (Blk.new w [.string ⟨#[]⟩] 66).only ho2 (by omega)
  have O := (Only.of_below (b := b) (below_box w (.cells #[.string ⟨#[]⟩] 66))).trans ho2
  clear ho2
  have x0 := K.cell 0 _ rfl
  have y0 := K.froz 0 _ rfl
  go_wp2_with fail
  have KK := (K.put 0 (.string s) (by simp))
  have z0 := KK.cell 0 _ rfl
  have O2 := (O.putNew (i := 0) (.string s) (Nat.le_refl _))
  refine bodyPost_ret (v := .agg #[.string s]) (by simp [results, Try.results88, go_sem, z0]) rfl ?_
  exact ⟨rfl, O2.size, O2⟩
end Go.Proofs.Yteekjndhehnpaaa
