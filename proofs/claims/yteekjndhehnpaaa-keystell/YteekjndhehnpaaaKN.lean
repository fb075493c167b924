/- Contracts: parsed. -/
import Derived.Test.YteekjndhehnpaaaKM
import Derived.Test.YteekjndhehnpaaaKI
namespace Go.Proofs.Yteekjndhehnpaaa
open Go.RowKit
set_option maxRecDepth 100000
set_option linter.unusedVariables false
set_option linter.unusedSimpArgs false
set_option maxHeartbeats 8000000
theorem Six.put0 {w : World} {g : Nat} {a b c d e f : Value} (h : Six w g a b c d e f) (v : Value) : Six (w.setCell ⟨g, 0, none⟩ v) g v b c d e f := by
  obtain ⟨c0, c1, c2, c3, c4, c5, f0, f1, f2, f3, f4, f5⟩ := h
  exact ⟨World.cell?_setCell_same _ _ _ c0, (World.cell?_setCell_other _ _ _ _ (fun e => by simp at e)).trans c1, (World.cell?_setCell_other _ _ _ _ (fun e => by simp at e)).trans c2, (World.cell?_setCell_other _ _ _ _ (fun e => by simp at e)).trans c3, (World.cell?_setCell_other _ _ _ _ (fun e => by simp at e)).trans c4, (World.cell?_setCell_other _ _ _ _ (fun e => by simp at e)).trans c5, by simpa using f0, by simpa using f1, by simpa using f2, by simpa using f3, by simpa using f4, by simpa using f5⟩
theorem Six.put1 {w : World} {g : Nat} {a b c d e f : Value} (h : Six w g a b c d e f) (v : Value) : Six (w.setCell ⟨g, 1, none⟩ v) g a v c d e f := by
  obtain ⟨c0, c1, c2, c3, c4, c5, f0, f1, f2, f3, f4, f5⟩ := h
  exact ⟨(World.cell?_setCell_other _ _ _ _ (fun e => by simp at e)).trans c0, World.cell?_setCell_same _ _ _ c1, (World.cell?_setCell_other _ _ _ _ (fun e => by simp at e)).trans c2, (World.cell?_setCell_other _ _ _ _ (fun e => by simp at e)).trans c3, (World.cell?_setCell_other _ _ _ _ (fun e => by simp at e)).trans c4, (World.cell?_setCell_other _ _ _ _ (fun e => by simp at e)).trans c5, by simpa using f0, by simpa using f1, by simpa using f2, by simpa using f3, by simpa using f4, by simpa using f5⟩
theorem Six.put2 {w : World} {g : Nat} {a b c d e f : Value} (h : Six w g a b c d e f) (v : Value) : Six (w.setCell ⟨g, 2, none⟩ v) g a b v d e f := by
  obtain ⟨c0, c1, c2, c3, c4, c5, f0, f1, f2, f3, f4, f5⟩ := h
  exact ⟨(World.cell?_setCell_other _ _ _ _ (fun e => by simp at e)).trans c0, (World.cell?_setCell_other _ _ _ _ (fun e => by simp at e)).trans c1, World.cell?_setCell_same _ _ _ c2, (World.cell?_setCell_other _ _ _ _ (fun e => by simp at e)).trans c3, (World.cell?_setCell_other _ _ _ _ (fun e => by simp at e)).trans c4, (World.cell?_setCell_other _ _ _ _ (fun e => by simp at e)).trans c5, by simpa using f0, by simpa using f1, by simpa using f2, by simpa using f3, by simpa using f4, by simpa using f5⟩
theorem Six.put3 {w : World} {g : Nat} {a b c d e f : Value} (h : Six w g a b c d e f) (v : Value) : Six (w.setCell ⟨g, 3, none⟩ v) g a b c v e f := by
  obtain ⟨c0, c1, c2, c3, c4, c5, f0, f1, f2, f3, f4, f5⟩ := h
  exact ⟨(World.cell?_setCell_other _ _ _ _ (fun e => by simp at e)).trans c0, (World.cell?_setCell_other _ _ _ _ (fun e => by simp at e)).trans c1, (World.cell?_setCell_other _ _ _ _ (fun e => by simp at e)).trans c2, World.cell?_setCell_same _ _ _ c3, (World.cell?_setCell_other _ _ _ _ (fun e => by simp at e)).trans c4, (World.cell?_setCell_other _ _ _ _ (fun e => by simp at e)).trans c5, by simpa using f0, by simpa using f1, by simpa using f2, by simpa using f3, by simpa using f4, by simpa using f5⟩
theorem Six.put4 {w : World} {g : Nat} {a b c d e f : Value} (h : Six w g a b c d e f) (v : Value) : Six (w.setCell ⟨g, 4, none⟩ v) g a b c d v f := by
  obtain ⟨c0, c1, c2, c3, c4, c5, f0, f1, f2, f3, f4, f5⟩ := h
  exact ⟨(World.cell?_setCell_other _ _ _ _ (fun e => by simp at e)).trans c0, (World.cell?_setCell_other _ _ _ _ (fun e => by simp at e)).trans c1, (World.cell?_setCell_other _ _ _ _ (fun e => by simp at e)).trans c2, (World.cell?_setCell_other _ _ _ _ (fun e => by simp at e)).trans c3, World.cell?_setCell_same _ _ _ c4, (World.cell?_setCell_other _ _ _ _ (fun e => by simp at e)).trans c5, by simpa using f0, by simpa using f1, by simpa using f2, by simpa using f3, by simpa using f4, by simpa using f5⟩
theorem Six.put5 {w : World} {g : Nat} {a b c d e f : Value} (h : Six w g a b c d e f) (v : Value) : Six (w.setCell ⟨g, 5, none⟩ v) g a b c d e v := by
  obtain ⟨c0, c1, c2, c3, c4, c5, f0, f1, f2, f3, f4, f5⟩ := h
  exact ⟨(World.cell?_setCell_other _ _ _ _ (fun e => by simp at e)).trans c0, (World.cell?_setCell_other _ _ _ _ (fun e => by simp at e)).trans c1, (World.cell?_setCell_other _ _ _ _ (fun e => by simp at e)).trans c2, (World.cell?_setCell_other _ _ _ _ (fun e => by simp at e)).trans c3, (World.cell?_setCell_other _ _ _ _ (fun e => by simp at e)).trans c4, World.cell?_setCell_same _ _ _ c5, by simpa using f0, by simpa using f1, by simpa using f2, by simpa using f3, by simpa using f4, by simpa using f5⟩
theorem load29 {w : World} {g : Nat} {a b c d e f : Value} (h : Six w g a b c d e f) (T : TypeId) (hT : T = 29 ∨ T = 24) : (loadVar T ⟨g, 0, none⟩).run Try.prog w = .ok (.agg #[a, b, c, d, e, f]) w := by
  obtain ⟨c0, c1, c2, c3, c4, c5, _, _, _, _, _, _⟩ := h
  rcases hT with rfl | rfl <;> simp [go_sem, c0, c1, c2, c3, c4, c5]
theorem res_cell {fn : Func} {p : Tmp} {ty : TypeId} (h : fn.results = #[.cell p ty]) (tmps : Array Value) (P : Program) (w : World) :
    (results fn tmps).run P w = ((asAddr (tmps.getD p undef)).run P w).andThen fun a w1 => (loadVar ty a).run P w1 := by
  simp only [results, h]
  simp [Sem.run_bind, Result.andThen]
theorem results53 {w : World} {g : Nat} {a b c d e f : Value} (h : Six w g a b c d e f) (tmps : Array Value) (hp : tmps.getD 2 undef = .pointer (some ⟨g, 0, none⟩)) : (results Try.f53 tmps).run Try.prog w = .ok (.agg #[a, b, c, d, e, f]) w := by
  have hl := load29 h 29 (.inl rfl)
  rw [res_cell Try.results53, hp]
  show ((asAddr (.pointer (some ⟨g, 0, none⟩))).run Try.prog w).andThen _ = _
  simp [asAddr, hl]
theorem cutL_le : ∀ l : List UInt8, (cutL l).2.length ≤ l.length ∧ (cutL l).1.length ≤ l.length
  | [] => ⟨Nat.le_refl _, Nat.le_refl _⟩
  | c :: l => by
    have := cutL_le l
    unfold cutL
    split <;> simp <;> omega
theorem cutZ_le (s : ByteArray) : (cutZ s).size ≤ s.size := by unfold cutZ; rw [bs_size, blen s]; exact (cutL_le _).1
theorem cutA_le (s : ByteArray) : (cutA s).size ≤ s.size := by unfold cutA; rw [bs_size, blen s]; exact (cutL_le _).2
/-- The letters' place of a byte. -/
theorem idx_any (c : Nat) (hc : c < 256) (w : World) : Calls Try.prog 95 #[.string ⟨#[84, 66, 86, 85, 80]⟩, .int .u8 (c : Int)] w fun e w' => e = .returned (.int .i64 (kd (UInt8.ofNat c) - 1)) ∧ w = w' := by
  refine (Try.strings_IndexByte ⟨#[84, 66, 86, 85, 80]⟩ (c : Int) w).mono ?_
  rintro e w' ⟨rfl, rfl⟩
  refine ⟨?_, rfl⟩
  have := kd_idx (UInt8.ofNat c)
  have h2 : (c : Int).toNat.toUInt8 = UInt8.ofNat c := by simp
  rw [h2]
  congr 2
  show Lib.indexByte [84, 66, 86, 85, 80] (UInt8.ofNat c) = _
  omega
theorem parsed0 (s : ByteArray) (hs : s.size ≤ maxLen) (hk : kd (s.data.toList.getD 0 0) = 0) (w : World) : Calls Try.prog 53 #[.string s] w fun e w' => e = .returned (kV (parseK true s.data.toList)) ∧ Below w.heap.size w w' := by
  obtain ⟨t1, y1, t2, y2, t3, y3, e1, e2, e3, f1, f2, s1, s2⟩ := read2 s
  obtain ⟨c0, hc0⟩ : ∃ c, (s.data.toList.getD 0 0).toNat = c := ⟨_, rfl⟩
  obtain ⟨c1, hc1⟩ : ∃ c, (s.data.toList.getD 1 0).toNat = c := ⟨_, rfl⟩
  have hl0 : c0 < 256 := by rw [← hc0]; exact UInt8.toNat_lt _
  have hl1 : c1 < 256 := by rw [← hc1]; exact UInt8.toNat_lt _
  have hof : UInt8.ofNat c0 = s.data.toList.getD 0 0 := by rw [← hc0]; simp
  have HI := Lib.hid (idx_any c0 hl0)
  rw [hof, hk] at HI
  obtain ⟨R, hR⟩ : ∃ R, bs (s.data.toList.drop 2) = R := ⟨_, rfl⟩
  have hRs : R.size ≤ maxLen := by
    rw [← hR, bs_size, List.length_drop, ← blen]
    exact Nat.le_trans (Nat.sub_le _ _) hs
  rw [hc0] at e1
  rw [hc1] at e2
  rw [hR] at e3
  have HN1 := Lib.hid (fun w b (h : Rd w b s 0) => rnumS_any b 1 s 0 w h (.inl rfl) hs)
  have HN2 := Lib.hid (fun w b (h : Rd w b t1 y1) => rnumS_any b 1 t1 y1 w h f1 (Nat.le_trans s1 hs))
  have HRW := Lib.hid (fun w b (h : Rd w b t2 y2) => raw_any b (t2.size : Int) t2 y2 w h f2 (Nat.le_trans s2 hs))
  have hmx : (maxLen : Nat) = 9223372036854775807 := rfl
  rw [e1] at HN1
  rw [e2] at HN2
  rw [e3] at HRW
  have HCU := Lib.hid (fun w => cut_any R w hRs)
  have hw8 : IntKind.u8.wrap (c0 : Int) = (c0 : Int) := by rw [IntKind.wrap_u8]; omega
  have hwi : IntKind.i64.wrap (c1 : Int) = (c1 : Int) := IntWalk.i64_in _ (by omega)
  clear e1 e2 e3 f1 f2 s1 s2 hof hmx hs
  obtain ⟨A, hA⟩ : ∃ A, cutA R = A := ⟨_, rfl⟩
  obtain ⟨Z, hZ⟩ : ∃ Z, cutZ R = Z := ⟨_, rfl⟩
  rw [hA, hZ] at HCU
  have HAN := Lib.hid (show .agg #[.int .i64 0, .int .i64 (c1 : Int), .string A, .string ⟨#[]⟩, .int .u64 0, .int .i64 0] = kV (parseK true s.data.toList) by
    unfold parseK kV restL
    simp only [hk, hc1]
    rw [← hA, ← hR]
    simp [cutA, cutZ, bs_toList]; try rfl)
  rw [← HAN.out]
  clear hc0 hc1 hR hA hZ hk hRs 
  go_enter Try.func53, Try.ntmps53
  go_wp2_with fail
  refine (open_any s _).mono ?_
  rintro e w2 ⟨rfl, hr2, hb2, hz2⟩
  have hs0 : (w.alloc (.cells #[.int .i64 0, .int .i64 0, .string ⟨#[]⟩, .string ⟨#[]⟩, .int .u64 0, .int .i64 0] 29)).heap.size = w.heap.size + 1 := by simp
  rw [hs0] at hr2 hz2
  have S0 := (Six.new w _ _ _ _ _ _ 29).below hb2
  have BB := below_alloc_to hb2
  clear hb2
  obtain ⟨c0', hc0'⟩ : ∃ z : Nat, z = 0 := ⟨_, rfl⟩
  go_wp2_with fail
  refine (HN1.out _ _ hr2).mono ?_
  rintro e w3 ⟨rfl, hr3, ho3⟩
  replace S0 := S0.only ho3 (by omega)
  replace BB := ho3.below BB (by omega) (by omega)
  have hz3 := ho3.size
  clear hr2 ho3
  go_wp2_with fail
  refine (HI.out _).mono ?_
  rintro e w' ⟨rfl, rfl⟩
  go_wp2_with fail
  refine (HN2.out _ _ hr3).mono ?_
  rintro e w4 ⟨rfl, hr4, ho4⟩
  replace S0 := S0.only ho4 (by omega)
  replace BB := ho4.below BB (by omega) (by omega)
  have hz4 := ho4.size
  clear hr3 ho4
  go_wp2_with fail
  have hg0 := hr4.lt
  refine (left_any _ _ _ _ (hr4.alloc _)).mono ?_
  rintro e w' ⟨rfl, rfl⟩
  go_wp2_with fail
  refine (HRW.out _ _ (hr4.alloc _)).mono ?_
  rintro e w5 ⟨rfl, hr5, ho5⟩
  replace S0 := (S0.below (below_box w4 _)).only ho5 (by omega)
  have K5 := (Six.new w4 _ _ _ _ _ _ 29).only ho5 (by omega)
  replace BB := ho5.below (BB.alloc (by omega) _) (by omega) (by simp; omega)
  obtain ⟨g, hg⟩ : ∃ g, w4.heap.size = g := ⟨_, rfl⟩
  rw [hg] at K5 hz4 hg0
  have hg1 : ¬ g = w.heap.size := by omega
  have hg2 : ¬ w.heap.size = g := by omega
  clear hr4 ho5 hr5
  go_wp2_with fail
  refine (HCU.out _).mono ?_
  rintro e w6 ⟨⟨f, rfl⟩, hb6⟩
  replace S0 := S0.below hb6
  replace K5 := K5.below hb6
  replace BB := below_to BB hb6
  clear hb6
  have hlt := K5.lt
  have hlt0 := S0.lt
  clear hz2 hz3 hz4 hs0 hc0'
  clear c0'
  have K6 := K5.set2 (.string A)
  have S6 := S0.other (k := g) (o := 2) (by omega) (.string A)
  have B6 := BB.setCell (p := ⟨g, 2, none⟩) (by show w.heap.size ≤ g; omega) (.string A)
  have SX := S6
  obtain ⟨p0, p1, p2, p3, p4, p5, f0, f1, f2, f3, f4, f5⟩ := K5
  obtain ⟨d0, d1, d2, d3, d4, d5, g0, g1, g2, g3, g4, g5⟩ := S6
  go_wp2_with fail
  refine bodyPost_ret (results53 ((((((SX.put0 _).put1 _).put2 _).put3 _).put4 _).put5 _) _ rfl) rfl ⟨rfl, ((((((B6.setCell (Nat.le_refl _) _).setCell (Nat.le_refl _) _).setCell (Nat.le_refl _) _).setCell (Nat.le_refl _) _).setCell (Nat.le_refl _) _).setCell (Nat.le_refl _) _)⟩
theorem parsed1 (s : ByteArray) (hs : s.size ≤ maxLen) (hk : kd (s.data.toList.getD 0 0) = 1) (w : World) : Calls Try.prog 53 #[.string s] w fun e w' => e = .returned (kV (parseK true s.data.toList)) ∧ Below w.heap.size w w' := by
  obtain ⟨t1, y1, t2, y2, t3, y3, e1, e2, e3, f1, f2, s1, s2⟩ := read2 s
  obtain ⟨c0, hc0⟩ : ∃ c, (s.data.toList.getD 0 0).toNat = c := ⟨_, rfl⟩
  obtain ⟨c1, hc1⟩ : ∃ c, (s.data.toList.getD 1 0).toNat = c := ⟨_, rfl⟩
  have hl0 : c0 < 256 := by rw [← hc0]; exact UInt8.toNat_lt _
  have hl1 : c1 < 256 := by rw [← hc1]; exact UInt8.toNat_lt _
  have hof : UInt8.ofNat c0 = s.data.toList.getD 0 0 := by rw [← hc0]; simp
  have HI := Lib.hid (idx_any c0 hl0)
  rw [hof, hk] at HI
  obtain ⟨R, hR⟩ : ∃ R, bs (s.data.toList.drop 2) = R := ⟨_, rfl⟩
  have hRs : R.size ≤ maxLen := by
    rw [← hR, bs_size, List.length_drop, ← blen]
    exact Nat.le_trans (Nat.sub_le _ _) hs
  rw [hc0] at e1
  rw [hc1] at e2
  rw [hR] at e3
  have HN1 := Lib.hid (fun w b (h : Rd w b s 0) => rnumS_any b 1 s 0 w h (.inl rfl) hs)
  have HN2 := Lib.hid (fun w b (h : Rd w b t1 y1) => rnumS_any b 1 t1 y1 w h f1 (Nat.le_trans s1 hs))
  have HRW := Lib.hid (fun w b (h : Rd w b t2 y2) => raw_any b (t2.size : Int) t2 y2 w h f2 (Nat.le_trans s2 hs))
  have hmx : (maxLen : Nat) = 9223372036854775807 := rfl
  rw [e1] at HN1
  rw [e2] at HN2
  rw [e3] at HRW
  have HCU := Lib.hid (fun w => cut_any R w hRs)
  have hw8 : IntKind.u8.wrap (c0 : Int) = (c0 : Int) := by rw [IntKind.wrap_u8]; omega
  have hwi : IntKind.i64.wrap (c1 : Int) = (c1 : Int) := IntWalk.i64_in _ (by omega)
  clear e1 e2 e3 f1 f2 s1 s2 hof hmx hs
  obtain ⟨A, hA⟩ : ∃ A, cutA R = A := ⟨_, rfl⟩
  obtain ⟨Z, hZ⟩ : ∃ Z, cutZ R = Z := ⟨_, rfl⟩
  rw [hA, hZ] at HCU
  have HAN := Lib.hid (show .agg #[.int .i64 1, .int .i64 (c1 : Int), .string A, .string ⟨#[]⟩, .int .u64 0, .int .i64 0] = kV (parseK true s.data.toList) by
    unfold parseK kV restL
    simp only [hk, hc1]
    rw [← hA, ← hR]
    simp [cutA, cutZ, bs_toList]; try rfl)
  rw [← HAN.out]
  clear hc0 hc1 hR hA hZ hk hRs 
  go_enter Try.func53, Try.ntmps53
  go_wp2_with fail
  refine (open_any s _).mono ?_
  rintro e w2 ⟨rfl, hr2, hb2, hz2⟩
  have hs0 : (w.alloc (.cells #[.int .i64 0, .int .i64 0, .string ⟨#[]⟩, .string ⟨#[]⟩, .int .u64 0, .int .i64 0] 29)).heap.size = w.heap.size + 1 := by simp
  rw [hs0] at hr2 hz2
  have S0 := (Six.new w _ _ _ _ _ _ 29).below hb2
  have BB := below_alloc_to hb2
  clear hb2
  obtain ⟨c0', hc0'⟩ : ∃ z : Nat, z = 0 := ⟨_, rfl⟩
  go_wp2_with fail
  refine (HN1.out _ _ hr2).mono ?_
  rintro e w3 ⟨rfl, hr3, ho3⟩
  replace S0 := S0.only ho3 (by omega)
  replace BB := ho3.below BB (by omega) (by omega)
  have hz3 := ho3.size
  clear hr2 ho3
  go_wp2_with fail
  refine (HI.out _).mono ?_
  rintro e w' ⟨rfl, rfl⟩
  go_wp2_with fail
  refine (HN2.out _ _ hr3).mono ?_
  rintro e w4 ⟨rfl, hr4, ho4⟩
  replace S0 := S0.only ho4 (by omega)
  replace BB := ho4.below BB (by omega) (by omega)
  have hz4 := ho4.size
  clear hr3 ho4
  go_wp2_with fail
  have hg0 := hr4.lt
  refine (left_any _ _ _ _ (hr4.alloc _)).mono ?_
  rintro e w' ⟨rfl, rfl⟩
  go_wp2_with fail
  refine (HRW.out _ _ (hr4.alloc _)).mono ?_
  rintro e w5 ⟨rfl, hr5, ho5⟩
  replace S0 := (S0.below (below_box w4 _)).only ho5 (by omega)
  have K5 := (Six.new w4 _ _ _ _ _ _ 29).only ho5 (by omega)
  replace BB := ho5.below (BB.alloc (by omega) _) (by omega) (by simp; omega)
  obtain ⟨g, hg⟩ : ∃ g, w4.heap.size = g := ⟨_, rfl⟩
  rw [hg] at K5 hz4 hg0
  have hg1 : ¬ g = w.heap.size := by omega
  have hg2 : ¬ w.heap.size = g := by omega
  clear hr4 ho5 hr5
  go_wp2_with fail
  refine (HCU.out _).mono ?_
  rintro e w6 ⟨⟨f, rfl⟩, hb6⟩
  replace S0 := S0.below hb6
  replace K5 := K5.below hb6
  replace BB := below_to BB hb6
  clear hb6
  have hlt := K5.lt
  have hlt0 := S0.lt
  clear hz2 hz3 hz4 hs0 hc0'
  clear c0'
  have K6 := K5.set2 (.string A)
  have S6 := S0.other (k := g) (o := 2) (by omega) (.string A)
  have B6 := BB.setCell (p := ⟨g, 2, none⟩) (by show w.heap.size ≤ g; omega) (.string A)
  have SX := S6
  obtain ⟨p0, p1, p2, p3, p4, p5, f0, f1, f2, f3, f4, f5⟩ := K5
  obtain ⟨d0, d1, d2, d3, d4, d5, g0, g1, g2, g3, g4, g5⟩ := S6
  go_wp2_with fail
  refine bodyPost_ret (results53 ((((((SX.put0 _).put1 _).put2 _).put3 _).put4 _).put5 _) _ rfl) rfl ⟨rfl, ((((((B6.setCell (Nat.le_refl _) _).setCell (Nat.le_refl _) _).setCell (Nat.le_refl _) _).setCell (Nat.le_refl _) _).setCell (Nat.le_refl _) _).setCell (Nat.le_refl _) _)⟩
theorem parsed2 (s : ByteArray) (hs : s.size ≤ maxLen) (hk : kd (s.data.toList.getD 0 0) = 2) (w : World) : Calls Try.prog 53 #[.string s] w fun e w' => e = .returned (kV (parseK true s.data.toList)) ∧ Below w.heap.size w w' := by
  obtain ⟨t1, y1, t2, y2, t3, y3, e1, e2, e3, f1, f2, s1, s2⟩ := read2 s
  obtain ⟨c0, hc0⟩ : ∃ c, (s.data.toList.getD 0 0).toNat = c := ⟨_, rfl⟩
  obtain ⟨c1, hc1⟩ : ∃ c, (s.data.toList.getD 1 0).toNat = c := ⟨_, rfl⟩
  have hl0 : c0 < 256 := by rw [← hc0]; exact UInt8.toNat_lt _
  have hl1 : c1 < 256 := by rw [← hc1]; exact UInt8.toNat_lt _
  have hof : UInt8.ofNat c0 = s.data.toList.getD 0 0 := by rw [← hc0]; simp
  have HI := Lib.hid (idx_any c0 hl0)
  rw [hof, hk] at HI
  obtain ⟨R, hR⟩ : ∃ R, bs (s.data.toList.drop 2) = R := ⟨_, rfl⟩
  have hRs : R.size ≤ maxLen := by
    rw [← hR, bs_size, List.length_drop, ← blen]
    exact Nat.le_trans (Nat.sub_le _ _) hs
  rw [hc0] at e1
  rw [hc1] at e2
  rw [hR] at e3
  have HN1 := Lib.hid (fun w b (h : Rd w b s 0) => rnumS_any b 1 s 0 w h (.inl rfl) hs)
  have HN2 := Lib.hid (fun w b (h : Rd w b t1 y1) => rnumS_any b 1 t1 y1 w h f1 (Nat.le_trans s1 hs))
  have HRW := Lib.hid (fun w b (h : Rd w b t2 y2) => raw_any b (t2.size : Int) t2 y2 w h f2 (Nat.le_trans s2 hs))
  have hmx : (maxLen : Nat) = 9223372036854775807 := rfl
  rw [e1] at HN1
  rw [e2] at HN2
  rw [e3] at HRW
  have HCU := Lib.hid (fun w => cut_any R w hRs)
  have hw8 : IntKind.u8.wrap (c0 : Int) = (c0 : Int) := by rw [IntKind.wrap_u8]; omega
  have hwi : IntKind.i64.wrap (c1 : Int) = (c1 : Int) := IntWalk.i64_in _ (by omega)
  clear e1 e2 e3 f1 f2 s1 s2 hof hmx hs
  obtain ⟨A, hA⟩ : ∃ A, cutA R = A := ⟨_, rfl⟩
  obtain ⟨Z, hZ⟩ : ∃ Z, cutZ R = Z := ⟨_, rfl⟩
  rw [hA, hZ] at HCU
  have HAN := Lib.hid (show .agg #[.int .i64 2, .int .i64 (c1 : Int), .string A, .string ⟨#[]⟩, .int .u64 0, .int .i64 0] = kV (parseK true s.data.toList) by
    unfold parseK kV restL
    simp only [hk, hc1]
    rw [← hA, ← hR]
    simp [cutA, cutZ, bs_toList]; try rfl)
  rw [← HAN.out]
  clear hc0 hc1 hR hA hZ hk hRs 
  go_enter Try.func53, Try.ntmps53
  go_wp2_with fail
  refine (open_any s _).mono ?_
  rintro e w2 ⟨rfl, hr2, hb2, hz2⟩
  have hs0 : (w.alloc (.cells #[.int .i64 0, .int .i64 0, .string ⟨#[]⟩, .string ⟨#[]⟩, .int .u64 0, .int .i64 0] 29)).heap.size = w.heap.size + 1 := by simp
  rw [hs0] at hr2 hz2
  have S0 := (Six.new w _ _ _ _ _ _ 29).below hb2
  have BB := below_alloc_to hb2
  clear hb2
  obtain ⟨c0', hc0'⟩ : ∃ z : Nat, z = 0 := ⟨_, rfl⟩
  go_wp2_with fail
  refine (HN1.out _ _ hr2).mono ?_
  rintro e w3 ⟨rfl, hr3, ho3⟩
  replace S0 := S0.only ho3 (by omega)
  replace BB := ho3.below BB (by omega) (by omega)
  have hz3 := ho3.size
  clear hr2 ho3
  go_wp2_with fail
  refine (HI.out _).mono ?_
  rintro e w' ⟨rfl, rfl⟩
  go_wp2_with fail
  refine (HN2.out _ _ hr3).mono ?_
  rintro e w4 ⟨rfl, hr4, ho4⟩
  replace S0 := S0.only ho4 (by omega)
  replace BB := ho4.below BB (by omega) (by omega)
  have hz4 := ho4.size
  clear hr3 ho4
  go_wp2_with fail
  have hg0 := hr4.lt
  refine (left_any _ _ _ _ (hr4.alloc _)).mono ?_
  rintro e w' ⟨rfl, rfl⟩
  go_wp2_with fail
  refine (HRW.out _ _ (hr4.alloc _)).mono ?_
  rintro e w5 ⟨rfl, hr5, ho5⟩
  replace S0 := (S0.below (below_box w4 _)).only ho5 (by omega)
  have K5 := (Six.new w4 _ _ _ _ _ _ 29).only ho5 (by omega)
  replace BB := ho5.below (BB.alloc (by omega) _) (by omega) (by simp; omega)
  obtain ⟨g, hg⟩ : ∃ g, w4.heap.size = g := ⟨_, rfl⟩
  rw [hg] at K5 hz4 hg0
  have hg1 : ¬ g = w.heap.size := by omega
  have hg2 : ¬ w.heap.size = g := by omega
  clear hr4 ho5 hr5
  go_wp2_with fail
  refine (HCU.out _).mono ?_
  rintro e w6 ⟨⟨f, rfl⟩, hb6⟩
  replace S0 := S0.below hb6
  replace K5 := K5.below hb6
  replace BB := below_to BB hb6
  clear hb6
  have hlt := K5.lt
  have hlt0 := S0.lt
  clear hz2 hz3 hz4 hs0 hc0'
  clear c0'
  have K6 := K5.set2 (.string A)
  have S6 := S0.other (k := g) (o := 2) (by omega) (.string A)
  have B6 := BB.setCell (p := ⟨g, 2, none⟩) (by show w.heap.size ≤ g; omega) (.string A)
  have SX := S6
  obtain ⟨p0, p1, p2, p3, p4, p5, f0, f1, f2, f3, f4, f5⟩ := K5
  obtain ⟨d0, d1, d2, d3, d4, d5, g0, g1, g2, g3, g4, g5⟩ := S6
  go_wp2_with fail
  refine bodyPost_ret (results53 ((((((SX.put0 _).put1 _).put2 _).put3 _).put4 _).put5 _) _ rfl) rfl ⟨rfl, ((((((B6.setCell (Nat.le_refl _) _).setCell (Nat.le_refl _) _).setCell (Nat.le_refl _) _).setCell (Nat.le_refl _) _).setCell (Nat.le_refl _) _).setCell (Nat.le_refl _) _)⟩
theorem parsed3 (s : ByteArray) (hs : s.size ≤ maxLen) (hk : kd (s.data.toList.getD 0 0) = 3) (w : World) : Calls Try.prog 53 #[.string s] w fun e w' => e = .returned (kV (parseK true s.data.toList)) ∧ Below w.heap.size w w' := by
  obtain ⟨t1, y1, t2, y2, t3, y3, e1, e2, e3, f1, f2, s1, s2⟩ := read2 s
  obtain ⟨c0, hc0⟩ : ∃ c, (s.data.toList.getD 0 0).toNat = c := ⟨_, rfl⟩
  obtain ⟨c1, hc1⟩ : ∃ c, (s.data.toList.getD 1 0).toNat = c := ⟨_, rfl⟩
  have hl0 : c0 < 256 := by rw [← hc0]; exact UInt8.toNat_lt _
  have hl1 : c1 < 256 := by rw [← hc1]; exact UInt8.toNat_lt _
  have hof : UInt8.ofNat c0 = s.data.toList.getD 0 0 := by rw [← hc0]; simp
  have HI := Lib.hid (idx_any c0 hl0)
  rw [hof, hk] at HI
  obtain ⟨R, hR⟩ : ∃ R, bs (s.data.toList.drop 2) = R := ⟨_, rfl⟩
  have hRs : R.size ≤ maxLen := by
    rw [← hR, bs_size, List.length_drop, ← blen]
    exact Nat.le_trans (Nat.sub_le _ _) hs
  rw [hc0] at e1
  rw [hc1] at e2
  rw [hR] at e3
  have HN1 := Lib.hid (fun w b (h : Rd w b s 0) => rnumS_any b 1 s 0 w h (.inl rfl) hs)
  have HN2 := Lib.hid (fun w b (h : Rd w b t1 y1) => rnumS_any b 1 t1 y1 w h f1 (Nat.le_trans s1 hs))
  have HRW := Lib.hid (fun w b (h : Rd w b t2 y2) => raw_any b (t2.size : Int) t2 y2 w h f2 (Nat.le_trans s2 hs))
  have hmx : (maxLen : Nat) = 9223372036854775807 := rfl
  rw [e1] at HN1
  rw [e2] at HN2
  rw [e3] at HRW
  have HCU := Lib.hid (fun w => cut_any R w hRs)
  have hw8 : IntKind.u8.wrap (c0 : Int) = (c0 : Int) := by rw [IntKind.wrap_u8]; omega
  have hwi : IntKind.i64.wrap (c1 : Int) = (c1 : Int) := IntWalk.i64_in _ (by omega)
  clear e1 e2 e3 f1 f2 s1 s2 hof hmx hs
  obtain ⟨A, hA⟩ : ∃ A, cutA R = A := ⟨_, rfl⟩
  obtain ⟨Z, hZ⟩ : ∃ Z, cutZ R = Z := ⟨_, rfl⟩
  rw [hA, hZ] at HCU
  have hZs : Z.size ≤ maxLen := by
    rw [← hZ]
    exact Nat.le_trans (cutZ_le R) hRs
  obtain ⟨A2, hA2⟩ : ∃ A, cutA Z = A := ⟨_, rfl⟩
  obtain ⟨Z2, hZ2⟩ : ∃ A, cutZ Z = A := ⟨_, rfl⟩
  have HC2 := Lib.hid (fun w => cut_any Z w hZs)
  rw [hA2, hZ2] at HC2
  obtain ⟨u, hu⟩ : ∃ u, fallN true Z2.data.toList = u := ⟨_, rfl⟩
  have HF := Lib.hid (ofFall_any Z2)
  rw [hu] at HF
  have HAN := Lib.hid (show .agg #[.int .i64 3, .int .i64 (c1 : Int), .string A, .string A2, .int .u64 (u : Int), .int .i64 0] = kV (parseK true s.data.toList) by
    unfold parseK kV restL
    simp only [hk, hc1]
    rw [← hu, ← hA2, ← hZ2, ← hA, ← hZ, ← hR]
    simp [cutA, cutZ, bs_toList])
  rw [← HAN.out]
  clear hc0 hc1 hR hA hZ hk hRs hA2 hZ2 hu hZs
  go_enter Try.func53, Try.ntmps53
  go_wp2_with fail
  refine (open_any s _).mono ?_
  rintro e w2 ⟨rfl, hr2, hb2, hz2⟩
  have hs0 : (w.alloc (.cells #[.int .i64 0, .int .i64 0, .string ⟨#[]⟩, .string ⟨#[]⟩, .int .u64 0, .int .i64 0] 29)).heap.size = w.heap.size + 1 := by simp
  rw [hs0] at hr2 hz2
  have S0 := (Six.new w _ _ _ _ _ _ 29).below hb2
  have BB := below_alloc_to hb2
  clear hb2
  obtain ⟨c0', hc0'⟩ : ∃ z : Nat, z = 0 := ⟨_, rfl⟩
  go_wp2_with fail
  refine (HN1.out _ _ hr2).mono ?_
  rintro e w3 ⟨rfl, hr3, ho3⟩
  replace S0 := S0.only ho3 (by omega)
  replace BB := ho3.below BB (by omega) (by omega)
  have hz3 := ho3.size
  clear hr2 ho3
  go_wp2_with fail
  refine (HI.out _).mono ?_
  rintro e w' ⟨rfl, rfl⟩
  go_wp2_with fail
  refine (HN2.out _ _ hr3).mono ?_
  rintro e w4 ⟨rfl, hr4, ho4⟩
  replace S0 := S0.only ho4 (by omega)
  replace BB := ho4.below BB (by omega) (by omega)
  have hz4 := ho4.size
  clear hr3 ho4
  go_wp2_with fail
  have hg0 := hr4.lt
  refine (left_any _ _ _ _ (hr4.alloc _)).mono ?_
  rintro e w' ⟨rfl, rfl⟩
  go_wp2_with fail
  refine (HRW.out _ _ (hr4.alloc _)).mono ?_
  rintro e w5 ⟨rfl, hr5, ho5⟩
  replace S0 := (S0.below (below_box w4 _)).only ho5 (by omega)
  have K5 := (Six.new w4 _ _ _ _ _ _ 29).only ho5 (by omega)
  replace BB := ho5.below (BB.alloc (by omega) _) (by omega) (by simp; omega)
  obtain ⟨g, hg⟩ : ∃ g, w4.heap.size = g := ⟨_, rfl⟩
  rw [hg] at K5 hz4 hg0
  have hg1 : ¬ g = w.heap.size := by omega
  have hg2 : ¬ w.heap.size = g := by omega
  clear hr4 ho5 hr5
  go_wp2_with fail
  refine (HCU.out _).mono ?_
  rintro e w6 ⟨⟨f, rfl⟩, hb6⟩
  replace S0 := S0.below hb6
  replace K5 := K5.below hb6
  replace BB := below_to BB hb6
  clear hb6
  have hlt := K5.lt
  have hlt0 := S0.lt
  clear hz2 hz3 hz4 hs0 hc0'
  clear c0'
  have K6 := K5.set2 (.string A)
  have S6 := S0.other (k := g) (o := 2) (by omega) (.string A)
  have B6 := BB.setCell (p := ⟨g, 2, none⟩) (by show w.heap.size ≤ g; omega) (.string A)
  obtain ⟨p0, p1, p2, p3, p4, p5, f0, f1, f2, f3, f4, f5⟩ := K5
  go_wp2_with fail
  refine (HC2.out _).mono ?_
  rintro e w7 ⟨⟨f', rfl⟩, hb7⟩
  have K7 := K6.below hb7
  have S7 := S6.below hb7
  have B7 := below_to B6 hb7
  clear p0 p1 p2 p3 p4 p5 f0 f1 f2 f3 f4 f5 K6 S6 B6 hb7 BB S0
  have K8 := K7.set3 (.string A2)
  have S8 := S7.other (k := g) (o := 3) (by omega) (.string A2)
  have B8 := B7.setCell (p := ⟨g, 3, none⟩) (by show w.heap.size ≤ g; omega) (.string A2)
  obtain ⟨p0, p1, p2, p3, p4, p5, f0, f1, f2, f3, f4, f5⟩ := K7
  clear S7 B7
  go_wp2_with fail
  refine (HF.out _).mono ?_
  rintro e w' ⟨⟨y, rfl⟩, rfl⟩
  unfold numErr
  clear p0 p1 p2 p3 p4 p5 f0 f1 f2 f3 f4 f5
  generalize w7.setCell ⟨g, 3, none⟩ (.string A2) = v at K8 S8 B8 ⊢
  have B9 := B8.setCell (p := ⟨g, 4, none⟩) (by show w.heap.size ≤ g; omega) (.int .u64 (u : Int))
  have SX := S8.other (k := g) (o := 4) (by omega) (.int .u64 (u : Int))
  obtain ⟨p0, p1, p2, p3, p4, p5, f0, f1, f2, f3, f4, f5⟩ := K8
  obtain ⟨d0, d1, d2, d3, d4, d5, g0, g1, g2, g3, g4, g5⟩ := S8
  clear B8
  go_wp2_with fail
  refine bodyPost_ret (results53 ((((((SX.put0 _).put1 _).put2 _).put3 _).put4 _).put5 _) _ rfl) rfl ⟨rfl, ((((((B9.setCell (Nat.le_refl _) _).setCell (Nat.le_refl _) _).setCell (Nat.le_refl _) _).setCell (Nat.le_refl _) _).setCell (Nat.le_refl _) _).setCell (Nat.le_refl _) _)⟩
theorem parsed4 (s : ByteArray) (hs : s.size ≤ maxLen) (hk : kd (s.data.toList.getD 0 0) = 4) (w : World) : Calls Try.prog 53 #[.string s] w fun e w' => e = .returned (kV (parseK true s.data.toList)) ∧ Below w.heap.size w w' := by
  obtain ⟨t1, y1, t2, y2, t3, y3, e1, e2, e3, f1, f2, s1, s2⟩ := read2 s
  obtain ⟨c0, hc0⟩ : ∃ c, (s.data.toList.getD 0 0).toNat = c := ⟨_, rfl⟩
  obtain ⟨c1, hc1⟩ : ∃ c, (s.data.toList.getD 1 0).toNat = c := ⟨_, rfl⟩
  have hl0 : c0 < 256 := by rw [← hc0]; exact UInt8.toNat_lt _
  have hl1 : c1 < 256 := by rw [← hc1]; exact UInt8.toNat_lt _
  have hof : UInt8.ofNat c0 = s.data.toList.getD 0 0 := by rw [← hc0]; simp
  have HI := Lib.hid (idx_any c0 hl0)
  rw [hof, hk] at HI
  obtain ⟨R, hR⟩ : ∃ R, bs (s.data.toList.drop 2) = R := ⟨_, rfl⟩
  have hRs : R.size ≤ maxLen := by
    rw [← hR, bs_size, List.length_drop, ← blen]
    exact Nat.le_trans (Nat.sub_le _ _) hs
  rw [hc0] at e1
  rw [hc1] at e2
  rw [hR] at e3
  have HN1 := Lib.hid (fun w b (h : Rd w b s 0) => rnumS_any b 1 s 0 w h (.inl rfl) hs)
  have HN2 := Lib.hid (fun w b (h : Rd w b t1 y1) => rnumS_any b 1 t1 y1 w h f1 (Nat.le_trans s1 hs))
  have HRW := Lib.hid (fun w b (h : Rd w b t2 y2) => raw_any b (t2.size : Int) t2 y2 w h f2 (Nat.le_trans s2 hs))
  have hmx : (maxLen : Nat) = 9223372036854775807 := rfl
  rw [e1] at HN1
  rw [e2] at HN2
  rw [e3] at HRW
  have HCU := Lib.hid (fun w => cut_any R w hRs)
  have hw8 : IntKind.u8.wrap (c0 : Int) = (c0 : Int) := by rw [IntKind.wrap_u8]; omega
  have hwi : IntKind.i64.wrap (c1 : Int) = (c1 : Int) := IntWalk.i64_in _ (by omega)
  clear e1 e2 e3 f1 f2 s1 s2 hof hmx hs
  obtain ⟨A, hA⟩ : ∃ A, cutA R = A := ⟨_, rfl⟩
  obtain ⟨Z, hZ⟩ : ∃ Z, cutZ R = Z := ⟨_, rfl⟩
  rw [hA, hZ] at HCU
  obtain ⟨u, hu⟩ : ∃ u, riseN true Z.data.toList = u := ⟨_, rfl⟩
  have HF := Lib.hid (ofRise_any Z)
  rw [hu] at HF
  have HAN := Lib.hid (show .agg #[.int .i64 4, .int .i64 (c1 : Int), .string A, .string ⟨#[]⟩, .int .u64 (u : Int), .int .i64 0] = kV (parseK true s.data.toList) by
    unfold parseK kV restL
    simp only [hk, hc1]
    rw [← hu, ← hA, ← hZ, ← hR]
    simp [cutA, cutZ, bs_toList]; try rfl)
  rw [← HAN.out]
  clear hc0 hc1 hR hA hZ hk hRs hu
  go_enter Try.func53, Try.ntmps53
  go_wp2_with fail
  refine (open_any s _).mono ?_
  rintro e w2 ⟨rfl, hr2, hb2, hz2⟩
  have hs0 : (w.alloc (.cells #[.int .i64 0, .int .i64 0, .string ⟨#[]⟩, .string ⟨#[]⟩, .int .u64 0, .int .i64 0] 29)).heap.size = w.heap.size + 1 := by simp
  rw [hs0] at hr2 hz2
  have S0 := (Six.new w _ _ _ _ _ _ 29).below hb2
  have BB := below_alloc_to hb2
  clear hb2
  obtain ⟨c0', hc0'⟩ : ∃ z : Nat, z = 0 := ⟨_, rfl⟩
  go_wp2_with fail
  refine (HN1.out _ _ hr2).mono ?_
  rintro e w3 ⟨rfl, hr3, ho3⟩
  replace S0 := S0.only ho3 (by omega)
  replace BB := ho3.below BB (by omega) (by omega)
  have hz3 := ho3.size
  clear hr2 ho3
  go_wp2_with fail
  refine (HI.out _).mono ?_
  rintro e w' ⟨rfl, rfl⟩
  go_wp2_with fail
  refine (HN2.out _ _ hr3).mono ?_
  rintro e w4 ⟨rfl, hr4, ho4⟩
  replace S0 := S0.only ho4 (by omega)
  replace BB := ho4.below BB (by omega) (by omega)
  have hz4 := ho4.size
  clear hr3 ho4
  go_wp2_with fail
  have hg0 := hr4.lt
  refine (left_any _ _ _ _ (hr4.alloc _)).mono ?_
  rintro e w' ⟨rfl, rfl⟩
  go_wp2_with fail
  refine (HRW.out _ _ (hr4.alloc _)).mono ?_
  rintro e w5 ⟨rfl, hr5, ho5⟩
  replace S0 := (S0.below (below_box w4 _)).only ho5 (by omega)
  have K5 := (Six.new w4 _ _ _ _ _ _ 29).only ho5 (by omega)
  replace BB := ho5.below (BB.alloc (by omega) _) (by omega) (by simp; omega)
  obtain ⟨g, hg⟩ : ∃ g, w4.heap.size = g := ⟨_, rfl⟩
  rw [hg] at K5 hz4 hg0
  have hg1 : ¬ g = w.heap.size := by omega
  have hg2 : ¬ w.heap.size = g := by omega
  clear hr4 ho5 hr5
  go_wp2_with fail
  refine (HCU.out _).mono ?_
  rintro e w6 ⟨⟨f, rfl⟩, hb6⟩
  replace S0 := S0.below hb6
  replace K5 := K5.below hb6
  replace BB := below_to BB hb6
  clear hb6
  have hlt := K5.lt
  have hlt0 := S0.lt
  clear hz2 hz3 hz4 hs0 hc0'
  clear c0'
  have K6 := K5.set2 (.string A)
  have S6 := S0.other (k := g) (o := 2) (by omega) (.string A)
  have B6 := BB.setCell (p := ⟨g, 2, none⟩) (by show w.heap.size ≤ g; omega) (.string A)
  obtain ⟨p0, p1, p2, p3, p4, p5, f0, f1, f2, f3, f4, f5⟩ := K5
  go_wp2_with fail
  refine (HF.out _).mono ?_
  rintro e w' ⟨⟨y, rfl⟩, rfl⟩
  unfold numErr
  clear p0 p1 p2 p3 p4 p5 f0 f1 f2 f3 f4 f5
  generalize w6.setCell ⟨g, 2, none⟩ (.string A) = v at K6 S6 B6 ⊢
  have B9 := B6.setCell (p := ⟨g, 4, none⟩) (by show w.heap.size ≤ g; omega) (.int .u64 (u : Int))
  have SX := S6.other (k := g) (o := 4) (by omega) (.int .u64 (u : Int))
  obtain ⟨p0, p1, p2, p3, p4, p5, f0, f1, f2, f3, f4, f5⟩ := K6
  obtain ⟨d0, d1, d2, d3, d4, d5, g0, g1, g2, g3, g4, g5⟩ := S6
  clear B6
  go_wp2_with fail
  refine bodyPost_ret (results53 ((((((SX.put0 _).put1 _).put2 _).put3 _).put4 _).put5 _) _ rfl) rfl ⟨rfl, ((((((B9.setCell (Nat.le_refl _) _).setCell (Nat.le_refl _) _).setCell (Nat.le_refl _) _).setCell (Nat.le_refl _) _).setCell (Nat.le_refl _) _).setCell (Nat.le_refl _) _)⟩
theorem parsed5 (s : ByteArray) (hs : s.size ≤ maxLen) (hk : kd (s.data.toList.getD 0 0) = 5) (w : World) : Calls Try.prog 53 #[.string s] w fun e w' => e = .returned (kV (parseK true s.data.toList)) ∧ Below w.heap.size w w' := by
  obtain ⟨t1, y1, t2, y2, t3, y3, e1, e2, e3, f1, f2, s1, s2⟩ := read2 s
  obtain ⟨c0, hc0⟩ : ∃ c, (s.data.toList.getD 0 0).toNat = c := ⟨_, rfl⟩
  obtain ⟨c1, hc1⟩ : ∃ c, (s.data.toList.getD 1 0).toNat = c := ⟨_, rfl⟩
  have hl0 : c0 < 256 := by rw [← hc0]; exact UInt8.toNat_lt _
  have hl1 : c1 < 256 := by rw [← hc1]; exact UInt8.toNat_lt _
  have hof : UInt8.ofNat c0 = s.data.toList.getD 0 0 := by rw [← hc0]; simp
  have HI := Lib.hid (idx_any c0 hl0)
  rw [hof, hk] at HI
  obtain ⟨R, hR⟩ : ∃ R, bs (s.data.toList.drop 2) = R := ⟨_, rfl⟩
  have hRs : R.size ≤ maxLen := by
    rw [← hR, bs_size, List.length_drop, ← blen]
    exact Nat.le_trans (Nat.sub_le _ _) hs
  rw [hc0] at e1
  rw [hc1] at e2
  rw [hR] at e3
  have HN1 := Lib.hid (fun w b (h : Rd w b s 0) => rnumS_any b 1 s 0 w h (.inl rfl) hs)
  have HN2 := Lib.hid (fun w b (h : Rd w b t1 y1) => rnumS_any b 1 t1 y1 w h f1 (Nat.le_trans s1 hs))
  have HRW := Lib.hid (fun w b (h : Rd w b t2 y2) => raw_any b (t2.size : Int) t2 y2 w h f2 (Nat.le_trans s2 hs))
  have hmx : (maxLen : Nat) = 9223372036854775807 := rfl
  rw [e1] at HN1
  rw [e2] at HN2
  rw [e3] at HRW
  have HCU := Lib.hid (fun w => cut_any R w hRs)
  have hw8 : IntKind.u8.wrap (c0 : Int) = (c0 : Int) := by rw [IntKind.wrap_u8]; omega
  have hwi : IntKind.i64.wrap (c1 : Int) = (c1 : Int) := IntWalk.i64_in _ (by omega)
  clear e1 e2 e3 f1 f2 s1 s2 hof hmx hs
  obtain ⟨A, hA⟩ : ∃ A, cutA R = A := ⟨_, rfl⟩
  obtain ⟨Z, hZ⟩ : ∃ Z, cutZ R = Z := ⟨_, rfl⟩
  rw [hA, hZ] at HCU
  have hZs : Z.size ≤ maxLen := by
    rw [← hZ]
    exact Nat.le_trans (cutZ_le R) hRs
  obtain ⟨z1, x1, z2, x2, r1, r2, r3, r4⟩ := read9 Z
  obtain ⟨u, hu⟩ : ∃ u, riseN false Z.data.toList = u := ⟨_, rfl⟩
  obtain ⟨q, hq⟩ : ∃ q, partN Z.data.toList = q := ⟨_, rfl⟩
  have hq2 : q < 256 := by rw [← hq]; exact UInt8.toNat_lt _
  rw [hu] at r1
  rw [hq] at r2
  have HM1 := Lib.hid (fun w b (h : Rd w b Z 0) => rnumS_any b 8 Z 0 w h (.inl rfl) hZs)
  have HM2 := Lib.hid (fun w b (h : Rd w b z1 x1) => rnumS_any b 1 z1 x1 w h r3 (Nat.le_trans r4 hZs))
  rw [r1] at HM1
  rw [r2] at HM2
  have hwq : IntKind.i64.wrap (q : Int) = (q : Int) := IntWalk.i64_in _ (by omega)
  have HAN := Lib.hid (show .agg #[.int .i64 5, .int .i64 (c1 : Int), .string A, .string ⟨#[]⟩, .int .u64 (u : Int), .int .i64 (q : Int)] = kV (parseK true s.data.toList) by
    unfold parseK kV restL
    simp only [hk, hc1]
    rw [← hu, ← hq, ← hA, ← hZ, ← hR]
    simp [cutA, cutZ, bs_toList]; try rfl)
  rw [← HAN.out]
  clear hc0 hc1 hR hA hZ hk hRs hu hq hZs r1 r2 r3 r4
  go_enter Try.func53, Try.ntmps53
  go_wp2_with fail
  refine (open_any s _).mono ?_
  rintro e w2 ⟨rfl, hr2, hb2, hz2⟩
  have hs0 : (w.alloc (.cells #[.int .i64 0, .int .i64 0, .string ⟨#[]⟩, .string ⟨#[]⟩, .int .u64 0, .int .i64 0] 29)).heap.size = w.heap.size + 1 := by simp
  rw [hs0] at hr2 hz2
  have S0 := (Six.new w _ _ _ _ _ _ 29).below hb2
  have BB := below_alloc_to hb2
  clear hb2
  obtain ⟨c0', hc0'⟩ : ∃ z : Nat, z = 0 := ⟨_, rfl⟩
  go_wp2_with fail
  refine (HN1.out _ _ hr2).mono ?_
  rintro e w3 ⟨rfl, hr3, ho3⟩
  replace S0 := S0.only ho3 (by omega)
  replace BB := ho3.below BB (by omega) (by omega)
  have hz3 := ho3.size
  clear hr2 ho3
  go_wp2_with fail
  refine (HI.out _).mono ?_
  rintro e w' ⟨rfl, rfl⟩
  go_wp2_with fail
  refine (HN2.out _ _ hr3).mono ?_
  rintro e w4 ⟨rfl, hr4, ho4⟩
  replace S0 := S0.only ho4 (by omega)
  replace BB := ho4.below BB (by omega) (by omega)
  have hz4 := ho4.size
  clear hr3 ho4
  go_wp2_with fail
  have hg0 := hr4.lt
  refine (left_any _ _ _ _ (hr4.alloc _)).mono ?_
  rintro e w' ⟨rfl, rfl⟩
  go_wp2_with fail
  refine (HRW.out _ _ (hr4.alloc _)).mono ?_
  rintro e w5 ⟨rfl, hr5, ho5⟩
  replace S0 := (S0.below (below_box w4 _)).only ho5 (by omega)
  have K5 := (Six.new w4 _ _ _ _ _ _ 29).only ho5 (by omega)
  replace BB := ho5.below (BB.alloc (by omega) _) (by omega) (by simp; omega)
  obtain ⟨g, hg⟩ : ∃ g, w4.heap.size = g := ⟨_, rfl⟩
  rw [hg] at K5 hz4 hg0
  have hg1 : ¬ g = w.heap.size := by omega
  have hg2 : ¬ w.heap.size = g := by omega
  clear hr4 ho5 hr5
  go_wp2_with fail
  refine (HCU.out _).mono ?_
  rintro e w6 ⟨⟨f, rfl⟩, hb6⟩
  replace S0 := S0.below hb6
  replace K5 := K5.below hb6
  replace BB := below_to BB hb6
  clear hb6
  have hlt := K5.lt
  have hlt0 := S0.lt
  clear hz2 hz3 hz4 hs0 hc0'
  clear c0'
  have K6 := K5.set2 (.string A)
  have S6 := S0.other (k := g) (o := 2) (by omega) (.string A)
  have B6 := BB.setCell (p := ⟨g, 2, none⟩) (by show w.heap.size ≤ g; omega) (.string A)
  obtain ⟨p0, p1, p2, p3, p4, p5, f0, f1, f2, f3, f4, f5⟩ := K5
  go_wp2_with fail
  clear p0 p1 p2 p3 p4 p5 f0 f1 f2 f3 f4 f5
  generalize w6.setCell ⟨g, 2, none⟩ (.string A) = v at K6 S6 B6 ⊢
  have hlv := K6.lt
  refine (open_any Z _).mono ?_
  rintro e w7 ⟨rfl, hr7, hb7, hz7⟩
  have K7 := K6.below hb7
  have S7 := S6.below hb7
  have B7 := below_to B6 hb7
  have hz9 := B6.size
  obtain ⟨r, hr⟩ : ∃ r, v.heap.size = r := ⟨_, rfl⟩
  rw [hr] at hr7 hz7 hlv hz9
  clear K6 S6 B6 hb7 BB S0
  go_wp2_with fail
  refine (HM1.out _ _ hr7).mono ?_
  rintro e w8 ⟨rfl, hr8, ho8⟩
  have K8 := K7.only ho8 (by omega)
  have S8 := S7.only ho8 (by omega)
  have B8 := ho8.below B7 (by omega) (by omega)
  clear K7 S7 B7 ho8 hr7
  have K9 := K8.set4 (.int .u64 (u : Int))
  have S9 := S8.other (k := g) (o := 4) (by omega) (.int .u64 (u : Int))
  have B9 := B8.setCell (p := ⟨g, 4, none⟩) (by show w.heap.size ≤ g; omega) (.int .u64 (u : Int))
  have hr9 := hr8.only ((Only.refl g w8).setCell (o := 4) (.int .u64 (u : Int))) (by omega)
  obtain ⟨p0, p1, p2, p3, p4, p5, f0, f1, f2, f3, f4, f5⟩ := K8
  clear S8 B8 hr8
  go_wp2_with fail
  clear p0 p1 p2 p3 p4 p5 f0 f1 f2 f3 f4 f5
  generalize w8.setCell ⟨g, 4, none⟩ (.int .u64 (u : Int)) = v9 at K9 S9 B9 hr9 ⊢
  have hl9 := hr9.lt
  refine (HM2.out _ _ hr9).mono ?_
  rintro e wa ⟨rfl, hra, hoa⟩
  have KA := K9.only hoa (by omega)
  have SA := S9.only hoa (by omega)
  have BA := hoa.below B9 (by omega) (by omega)
  clear K9 S9 B9 hr9 hra hoa
  have BX := BA.setCell (p := ⟨g, 5, none⟩) (by show w.heap.size ≤ g; omega) (.int .i64 (q : Int))
  have SX := SA.other (k := g) (o := 5) (by omega) (.int .i64 (q : Int))
  obtain ⟨p0, p1, p2, p3, p4, p5, f0, f1, f2, f3, f4, f5⟩ := KA
  obtain ⟨d0, d1, d2, d3, d4, d5, g0, g1, g2, g3, g4, g5⟩ := SA
  go_wp2_with fail
  refine bodyPost_ret (results53 ((((((SX.put0 _).put1 _).put2 _).put3 _).put4 _).put5 _) _ rfl) rfl ⟨rfl, ((((((BX.setCell (Nat.le_refl _) _).setCell (Nat.le_refl _) _).setCell (Nat.le_refl _) _).setCell (Nat.le_refl _) _).setCell (Nat.le_refl _) _).setCell (Nat.le_refl _) _)⟩
end Go.Proofs.Yteekjndhehnpaaa
