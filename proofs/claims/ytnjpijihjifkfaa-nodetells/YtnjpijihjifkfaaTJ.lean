/- Contracts: slices.Concat. -/
import Derived.Test.YtnjpijihjifkfaaTI
import Derived.Test.YtnjpijihjifkfaaShelf2
namespace Go.Proofs.Ytnjpijihjifkfaa
open Go.RowKit Go.Shelf
set_option linter.unusedVariables false
theorem wpList_append_run {P : Program} (w : World) {ops : Array Oper} {rest : List Oper} {o : Oper} {a : Act} {Q : Exit → Act → World → Prop} (hgd : o.guard = none) (d s : Operand) (t t' : TypeId)
    (ho : o.op = .call { callee := .builtin .append, args := #[d, s], argTypes := #[t, t'] }) (v u : Value) (hd : a.eval d = v) (hs : a.eval s = u) {v' : Value} {w' : World}
    (hr : (Builtin.append_ #[t, t'] o.type #[v, u]).run P w = .ok v' w') (h : wpList P ops Q rest (a.put o.dst v') w') : wpList P ops Q (o :: rest) a w :=
  wpList_plain hgd fun _ hK => by
    unfold Oper.wp execOp
    simp only [ho, resolve, invoke, builtin, Sem.run_bind, Sem.run_pure, Result.andThen_ok, List.map_toArray, List.map_cons, List.map_nil, hd, hs, hr]
    exact hK _ _ h
theorem growI_any (m : Nat) (w : World) (hm : m ≤ 100000) : Calls Try.prog 69 #[.slice none 0 0, .int .i64 (m : Int)] w fun e w' => ∃ v, e = .returned v ∧ w'.ownsRow w.heap.size 44 2 v 0 [] ∧ Below w.heap.size w w' := by
  obtain ⟨i0, hi0, hz0, hz1, hz2⟩ := info_parts info44
  by_cases h0 : m = 0
  · subst h0
    refine (Any8.slices_Grow_room Try.grow69 none 0 0 0 w (Nat.le_refl _) (by omega) (by omega) (by omega)).mono ?_
    rintro e w' ⟨rfl, rfl⟩
    exact ⟨_, rfl, World.ownsRow_nil _ _ _ _, Below.refl _ _⟩
  · refine (Any8.slices_Grow_grow Try.grow69 i0 (Value.agg #[.string ByteArray.empty, .string ByteArray.empty]) hi0 hz0 (by rw [hz1]; decide) none 0 0 m [] w (Nat.le_refl _) (by omega) (by rw [hz2]; omega) (by omega) (by simp) (fun _ => rfl) (fun a h => by cases h)).mono ?_
    rintro e w' ⟨rfl, rfl⟩
    refine ⟨_, rfl, ?_, ?_⟩
    · have hge := grownCap_ge w (0 + m) 0 44
      have hle := grownCap_le_maxLen w (0 + m) 0 44 (by unfold maxLen; omega)
      refine World.ownsRow_made w.drew _ _ (Nat.le_refl _) hle ?_
      rw [Array.size_append, Array.size_append, size_zeroCells, size_zeroCells, show Try.grow69_ren.t 25 = 44 from rfl]
      have hzs : ((Value.agg #[.string ByteArray.empty, .string ByteArray.empty])).cells.size = 2 := rfl
      rw [hzs]
      simp only [List.size_toArray, List.length_nil]
      omega
    · exact ((Below.refl w.heap.size w).drew).alloc (Nat.le_refl _) _
theorem appI_any (w : World) (base : Nat) (v : Value) (k : Nat) (xs : List Value) (a : Option Addr) (n c : Nat) (J : List It) (hown : w.ownsRow base 44 2 v k xs) (hJ : Its w a n J) (hbase : base ≤ w.heap.size) (hkn : k + n ≤ 100000) :
    ∃ v' w', (Builtin.append_ #[22, 22] 22 #[v, .slice a n c]).run Try.prog w = .ok v' w' ∧ w'.ownsRow base 44 2 v' (k + n) (xs ++ flatI J) ∧ w.grownBy w' v.ownBlock := by
  obtain ⟨i0, hi0, hz0, hz1, hz2⟩ := info_parts info44
  cases a with
  | none =>
    have hn0 : n = 0 := by rcases hJ.2 with h | ⟨b, off, h, _⟩; exact h; cases h
    subst hn0
    have hJ0 : J = [] := List.length_eq_zero_iff.1 hJ.1
    subst hJ0
    refine ⟨v, w, ?_, by rw [show flatI ([] : List It) = [] from rfl, List.append_nil]; exact hown, ⟨rfl, rfl, rfl, Nat.le_refl _, fun _ _ _ => rfl⟩⟩
    rcases hown.2 with ⟨rfl, rfl⟩ | ⟨g, cap, cur, rfl, _, _, hnc, _⟩
    · simp [Builtin.append_, run_underlying Try.underlying22, sizeOf, typeInfo, hi0, Builtin.lenOf, Builtin.firstCells]
    · simp [Builtin.append_, run_underlying Try.underlying22, sizeOf, typeInfo, hi0, Builtin.lenOf, Builtin.firstCells, hnc, storeCells]
  | some ad =>
    have hcells : ∀ j u, (flatI J)[j]? = some u → w.cell? (ad.add j) = some u := by
      intro j u hj
      rcases hJ.2 with h | ⟨b, off, h, hb, hc⟩
      · have := (List.getElem?_eq_some_iff.1 hj).1; have h2 := hJ.1; rw [flatI_length] at this; omega
      · simp only [Option.some.injEq] at h
        subst h
        exact flat_cells hJ.1 hc j u hj
    obtain ⟨v', w', hr, h2, h3, _⟩ := run_append_own_at (P := Try.prog) w base 22 22 44 i0 (Value.agg #[.string ByteArray.empty, .string ByteArray.empty]) 2 32 Try.underlying22 hi0 hz0 hz1 hz2 (by decide) (by decide) v k xs hown ad n c (flatI J) (by rw [flatI_length, hJ.1]) hcells (flatI_one J) (by unfold maxLen; omega) (by omega) hbase
    exact ⟨v', w', hr, h2, h3⟩
/-- The slices that are joined: each reads as it says. -/
def LstI (w : World) (B : Nat) (A : List (Option Addr × Nat × Nat)) (J : List (List It)) : Prop :=
  A.length = J.length ∧ B < w.heap.size ∧ ∀ j (h : j < A.length) (h2 : j < J.length), w.cell? ⟨B, j, none⟩ = some (.slice A[j].1 A[j].2.1 A[j].2.2) ∧ Its w A[j].1 A[j].2.1 J[j]
theorem LstI.below {w w1 : World} {B : Nat} {A : List (Option Addr × Nat × Nat)} {J : List (List It)} (h : LstI w B A J) (H : Below w.heap.size w w1) : LstI w1 B A J :=
  ⟨h.1, Nat.lt_of_lt_of_le h.2.1 H.size, fun j h1 h2 => ⟨(H.cell (p := ⟨B, j, none⟩) h.2.1).trans (h.2.2 j h1 h2).1, (h.2.2 j h1 h2).2.below H⟩⟩
def totI (J : List (List It)) : Nat := (J.map List.length).sum
theorem totI_take_succ (J : List (List It)) (k : Nat) (h : k < J.length) : totI (J.take (k + 1)) = totI (J.take k) + J[k].length := by
  unfold totI; rw [List.take_succ_eq_append_getElem h, List.map_append, List.sum_append]; simp
theorem totI_le (J : List (List It)) (k : Nat) : totI (J.take k) ≤ totI J := by
  have : totI J = totI (J.take k) + totI (J.drop k) := by
    unfold totI; rw [← List.sum_append, ← List.map_append, List.take_append_drop]
  omega
theorem flatI_take_succ (J : List (List It)) (k : Nat) (h : k < J.length) : flatI (J.take (k + 1)).flatten = flatI (J.take k).flatten ++ flatI J[k] := by
  rw [List.take_succ_eq_append_getElem h, List.flatten_append, flatI_app]; simp
set_option maxRecDepth 100000 in
set_option maxHeartbeats 2000000 in
theorem concatI_any (B m c : Nat) (A : List (Option Addr × Nat × Nat)) (J : List (List It)) (w : World) (hL : LstI w B A J) (hm : A.length = m) (hm2 : m ≤ 100) (ht : totI J ≤ 10000) :
    Calls Try.prog 49 #[.slice (some ⟨B, 0, none⟩) m c] w (ItRet w J.flatten) := by
  have HLs := Lib.hid hL
  have HM := Lib.hid hm
  have hJm : J.length = m := by rw [← hL.1]; exact hm
  have HJ := Lib.hid hJm
  obtain ⟨T, hT⟩ : ∃ T, totI J = T := ⟨_, rfl⟩
  have hTb : T ≤ 10000 := by omega
  have HT := Lib.hid hT
  have KG := Lib.hid (fun w => growI_any T w (by omega))
  clear hL hm hJm hT ht
  go_enter Try.func49, Try.ntmps49
  go_wp2_with fail
  go_loop [3, 11] (fun s i => ∃ (k t : Nat), k ≤ m ∧ Hid (totI (J.take k) = t) ∧ t ≤ T ∧ i = .int .i64 (k : Int) ∧ s = .int .i64 (t : Int)) (fun _ i => m - (intOf i).toNat)
  case atStart => exact ⟨0, 0, by omega, Lib.hid rfl, by omega, rfl, rfl⟩
  case round =>
    obtain ⟨k, t, hk, HTk, htT, rfl, rfl⟩ := hrel
    by_cases hlt : k < m
    · have hkA : k < A.length := by rw [HM.out]; exact hlt
      have hkJ : k < J.length := by rw [HJ.out]; exact hlt
      obtain ⟨e0, hI⟩ := HLs.out.2.2 k hkA hkJ
      obtain ⟨a, n, cc, hA⟩ : ∃ a n cc, A[k] = (a, n, cc) := ⟨_, _, _, rfl⟩
      rw [hA] at e0 hI
      simp only at e0 hI
      have hts := totI_take_succ J k hkJ
      have hle := totI_le J (k + 1)
      rw [hts, HTk.out, hI.1, HT.out] at hle
      have HTS := Lib.hid (show totI (J.take (k + 1)) = t + n by rw [hts, HTk.out, hI.1])
      clear hI hA hts
      go_wp2_with fail
      go_round
      case rel => exact ⟨k + 1, t + n, by omega, HTS, hle, by go_num, by go_num⟩
      case measure => simp [intOf]; omega
    · obtain rfl : k = m := by omega
      have HTE := Lib.hid (show t = T by rw [← HTk.out, List.take_of_length_le (by rw [HJ.out]; exact Nat.le_refl _), HT.out])
      have KG2 := Lib.hid (fun w => by have := KG.out w; rw [← HTE.out] at this; exact this)
      go_wp2_with fail
      refine (KG2.out _).mono ?_
      rintro e w1 ⟨v0, rfl, own0, B1⟩
      go_wp2_with fail
      go_loopw [6, 27] (fun v i wx => ∃ (k2 t2 : Nat), k2 ≤ k ∧ Hid (totI (J.take k2) = t2) ∧ t2 ≤ T ∧ wx.ownsRow w.heap.size 44 2 v t2 (flatI (J.take k2).flatten) ∧ Below w.heap.size w wx ∧ i = .int .i64 (k2 : Int)) (fun _ i _ => k - (intOf i).toNat)
      case atStart => exact ⟨0, 0, by omega, Lib.hid rfl, by omega, own0, B1, rfl⟩
      case round =>
        clear own0 B1
        obtain ⟨k2, t2, hk2, HT2, ht2, own, hB, rfl⟩ := hrel
        by_cases hlt2 : k2 < k
        · have hkA : k2 < A.length := by rw [HM.out]; exact hlt2
          have hkJ : k2 < J.length := by rw [HJ.out]; exact hlt2
          obtain ⟨e0, hI⟩ := (HLs.out.below hB).2.2 k2 hkA hkJ
          obtain ⟨a, n, cc, hA⟩ : ∃ a n cc, A[k2] = (a, n, cc) := ⟨_, _, _, rfl⟩
          rw [hA] at e0 hI
          simp only at e0 hI
          have hts := totI_take_succ J k2 hkJ
          have hle := totI_le J (k2 + 1)
          rw [hts, HT2.out, hI.1, HT.out] at hle
          have HTS := Lib.hid (show totI (J.take (k2 + 1)) = t2 + n by rw [hts, HT2.out, hI.1])
          obtain ⟨v', w', hrun, own', hg⟩ := appI_any _ w.heap.size u6 t2 _ a n cc J[k2] own hI hB.size (by omega)
          rw [← flatI_take_succ J k2 hkJ] at own'
          have hB' := hB.grown hg hB.size (fun j hj => (own.lt j hj).1)
          clear hI hA hts own hg
          go_wp2_with (at_builtin; refine wpList_append_run _ rfl _ _ 22 22 rfl _ _ rfl rfl hrun ?_)
          go_roundw
          case rel => exact ⟨k2 + 1, t2 + n, by omega, HTS, hle, own', hB', by go_num⟩
          case measure => simp [intOf]; omega
        · obtain rfl : k2 = k := by omega
          rw [List.take_of_length_le (by rw [HJ.out]; exact Nat.le_refl _)] at own HT2
          obtain ⟨a, cc, hv, hac, hI⟩ := its_of_own own
          subst hv
          have hf := own_fresh (h := w.heap.size) own (Nat.le_refl _)
          have HI := Lib.hid hI
          have hlen : J.flatten.length = t2 := hI.1
          have HLN := Lib.hid hlen
          clear hI hlen own
          go_wp2_with fail
          go_ret
          have hl := HLN.out
          exact ⟨a, cc, by rw [hl]; rfl, by rw [hl]; exact hac, hf, by rw [hl]; exact HI.out, hB⟩
theorem growK_any (m : Nat) (w : World) (hm : m ≤ 100000) : Calls Try.prog 70 #[.slice none 0 0, .int .i64 (m : Int)] w fun e w' => ∃ v, e = .returned v ∧ w'.ownsRow w.heap.size 3 1 v 0 [] ∧ Below w.heap.size w w' := by
  obtain ⟨i0, hi0, hz0, hz1, hz2⟩ := info_parts info3
  by_cases h0 : m = 0
  · subst h0
    refine (Any8.slices_Grow_room Try.grow70 none 0 0 0 w (Nat.le_refl _) (by omega) (by omega) (by omega)).mono ?_
    rintro e w' ⟨rfl, rfl⟩
    exact ⟨_, rfl, World.ownsRow_nil _ _ _ _, Below.refl _ _⟩
  · refine (Any8.slices_Grow_grow Try.grow70 i0 (Value.int .i64 0) hi0 hz0 (by rw [hz1]; decide) none 0 0 m [] w (Nat.le_refl _) (by omega) (by rw [hz2]; omega) (by omega) (by simp) (fun _ => rfl) (fun a h => by cases h)).mono ?_
    rintro e w' ⟨rfl, rfl⟩
    refine ⟨_, rfl, ?_, ?_⟩
    · have hge := grownCap_ge w (0 + m) 0 3
      have hle := grownCap_le_maxLen w (0 + m) 0 3 (by unfold maxLen; omega)
      refine World.ownsRow_made w.drew _ _ (Nat.le_refl _) hle ?_
      rw [Array.size_append, Array.size_append, size_zeroCells, size_zeroCells, show Try.grow70_ren.t 25 = 3 from rfl]
      have hzs : ((Value.int .i64 0)).cells.size = 1 := rfl
      rw [hzs]
      simp only [List.size_toArray, List.length_nil]
      omega
    · exact ((Below.refl w.heap.size w).drew).alloc (Nat.le_refl _) _
theorem appK_any (w : World) (base : Nat) (v : Value) (k : Nat) (xs : List Value) (a : Option Addr) (n c : Nat) (J : List Int) (hown : w.ownsRow base 3 1 v k xs) (hJ : Kds w a n J) (hbase : base ≤ w.heap.size) (hkn : k + n ≤ 100000) :
    ∃ v' w', (Builtin.append_ #[23, 23] 23 #[v, .slice a n c]).run Try.prog w = .ok v' w' ∧ w'.ownsRow base 3 1 v' (k + n) (xs ++ kidV J) ∧ w.grownBy w' v.ownBlock := by
  obtain ⟨i0, hi0, hz0, hz1, hz2⟩ := info_parts info3
  cases a with
  | none =>
    have hn0 : n = 0 := by rcases hJ.2 with h | ⟨b, off, h, _⟩; exact h; cases h
    subst hn0
    have hJ0 : J = [] := List.length_eq_zero_iff.1 hJ.1
    subst hJ0
    refine ⟨v, w, ?_, by rw [show kidV ([] : List Int) = [] from rfl, List.append_nil]; exact hown, ⟨rfl, rfl, rfl, Nat.le_refl _, fun _ _ _ => rfl⟩⟩
    rcases hown.2 with ⟨rfl, rfl⟩ | ⟨g, cap, cur, rfl, _, _, hnc, _⟩
    · simp [Builtin.append_, run_underlying Try.underlying23, sizeOf, typeInfo, hi0, Builtin.lenOf, Builtin.firstCells]
    · simp [Builtin.append_, run_underlying Try.underlying23, sizeOf, typeInfo, hi0, Builtin.lenOf, Builtin.firstCells, hnc, storeCells]
  | some ad =>
    have hcells : ∀ j u, (kidV J)[j]? = some u → w.cell? (ad.add j) = some u := by
      intro j u hj
      rcases hJ.2 with h | ⟨b, off, h, hb, hc⟩
      · have := (List.getElem?_eq_some_iff.1 hj).1; have h2 := hJ.1; rw [show (kidV J).length = J.length by simp [kidV]] at this; omega
      · simp only [Option.some.injEq] at h
        subst h
        exact kid_flat hJ.1 hc j u hj
    obtain ⟨v', w', hr, h2, h3, _⟩ := run_append_own_at (P := Try.prog) w base 23 23 3 i0 (Value.int .i64 0) 1 8 Try.underlying23 hi0 hz0 hz1 hz2 (by decide) (by decide) v k xs hown ad n c (kidV J) (by rw [show (kidV J).length = J.length by simp [kidV], hJ.1, Nat.mul_one]) hcells (kidV_one J) (by unfold maxLen; omega) (by omega) hbase
    exact ⟨v', w', hr, h2, h3⟩
/-- The slices that are joined: each reads as it says. -/
def LstK (w : World) (B : Nat) (A : List (Option Addr × Nat × Nat)) (J : List (List Int)) : Prop :=
  A.length = J.length ∧ B < w.heap.size ∧ ∀ j (h : j < A.length) (h2 : j < J.length), w.cell? ⟨B, j, none⟩ = some (.slice A[j].1 A[j].2.1 A[j].2.2) ∧ Kds w A[j].1 A[j].2.1 J[j]
theorem LstK.below {w w1 : World} {B : Nat} {A : List (Option Addr × Nat × Nat)} {J : List (List Int)} (h : LstK w B A J) (H : Below w.heap.size w w1) : LstK w1 B A J :=
  ⟨h.1, Nat.lt_of_lt_of_le h.2.1 H.size, fun j h1 h2 => ⟨(H.cell (p := ⟨B, j, none⟩) h.2.1).trans (h.2.2 j h1 h2).1, (h.2.2 j h1 h2).2.below H⟩⟩
def totK (J : List (List Int)) : Nat := (J.map List.length).sum
theorem totK_take_succ (J : List (List Int)) (k : Nat) (h : k < J.length) : totK (J.take (k + 1)) = totK (J.take k) + J[k].length := by
  unfold totK; rw [List.take_succ_eq_append_getElem h, List.map_append, List.sum_append]; simp
theorem totK_le (J : List (List Int)) (k : Nat) : totK (J.take k) ≤ totK J := by
  have : totK J = totK (J.take k) + totK (J.drop k) := by
    unfold totK; rw [← List.sum_append, ← List.map_append, List.take_append_drop]
  omega
theorem flatK_take_succ (J : List (List Int)) (k : Nat) (h : k < J.length) : kidV (J.take (k + 1)).flatten = kidV (J.take k).flatten ++ kidV J[k] := by
  rw [List.take_succ_eq_append_getElem h, List.flatten_append, kidV_app]; simp
set_option maxRecDepth 100000 in
set_option maxHeartbeats 2000000 in
theorem concatK_any (B m c : Nat) (A : List (Option Addr × Nat × Nat)) (J : List (List Int)) (w : World) (hL : LstK w B A J) (hm : A.length = m) (hm2 : m ≤ 100) (ht : totK J ≤ 10000) :
    Calls Try.prog 50 #[.slice (some ⟨B, 0, none⟩) m c] w (KdRet w J.flatten) := by
  have HLs := Lib.hid hL
  have HM := Lib.hid hm
  have hJm : J.length = m := by rw [← hL.1]; exact hm
  have HJ := Lib.hid hJm
  obtain ⟨T, hT⟩ : ∃ T, totK J = T := ⟨_, rfl⟩
  have hTb : T ≤ 10000 := by omega
  have HT := Lib.hid hT
  have KG := Lib.hid (fun w => growK_any T w (by omega))
  clear hL hm hJm hT ht
  go_enter Try.func50, Try.ntmps50
  go_wp2_with fail
  go_loop [3, 11] (fun s i => ∃ (k t : Nat), k ≤ m ∧ Hid (totK (J.take k) = t) ∧ t ≤ T ∧ i = .int .i64 (k : Int) ∧ s = .int .i64 (t : Int)) (fun _ i => m - (intOf i).toNat)
  case atStart => exact ⟨0, 0, by omega, Lib.hid rfl, by omega, rfl, rfl⟩
  case round =>
    obtain ⟨k, t, hk, HTk, htT, rfl, rfl⟩ := hrel
    by_cases hlt : k < m
    · have hkA : k < A.length := by rw [HM.out]; exact hlt
      have hkJ : k < J.length := by rw [HJ.out]; exact hlt
      obtain ⟨e0, hI⟩ := HLs.out.2.2 k hkA hkJ
      obtain ⟨a, n, cc, hA⟩ : ∃ a n cc, A[k] = (a, n, cc) := ⟨_, _, _, rfl⟩
      rw [hA] at e0 hI
      simp only at e0 hI
      have hts := totK_take_succ J k hkJ
      have hle := totK_le J (k + 1)
      rw [hts, HTk.out, hI.1, HT.out] at hle
      have HTS := Lib.hid (show totK (J.take (k + 1)) = t + n by rw [hts, HTk.out, hI.1])
      clear hI hA hts
      go_wp2_with fail
      go_round
      case rel => exact ⟨k + 1, t + n, by omega, HTS, hle, by go_num, by go_num⟩
      case measure => simp [intOf]; omega
    · obtain rfl : k = m := by omega
      have HTE := Lib.hid (show t = T by rw [← HTk.out, List.take_of_length_le (by rw [HJ.out]; exact Nat.le_refl _), HT.out])
      have KG2 := Lib.hid (fun w => by have := KG.out w; rw [← HTE.out] at this; exact this)
      go_wp2_with fail
      refine (KG2.out _).mono ?_
      rintro e w1 ⟨v0, rfl, own0, B1⟩
      go_wp2_with fail
      go_loopw [6, 27] (fun v i wx => ∃ (k2 t2 : Nat), k2 ≤ k ∧ Hid (totK (J.take k2) = t2) ∧ t2 ≤ T ∧ wx.ownsRow w.heap.size 3 1 v t2 (kidV (J.take k2).flatten) ∧ Below w.heap.size w wx ∧ i = .int .i64 (k2 : Int)) (fun _ i _ => k - (intOf i).toNat)
      case atStart => exact ⟨0, 0, by omega, Lib.hid rfl, by omega, own0, B1, rfl⟩
      case round =>
        clear own0 B1
        obtain ⟨k2, t2, hk2, HT2, ht2, own, hB, rfl⟩ := hrel
        by_cases hlt2 : k2 < k
        · have hkA : k2 < A.length := by rw [HM.out]; exact hlt2
          have hkJ : k2 < J.length := by rw [HJ.out]; exact hlt2
          obtain ⟨e0, hI⟩ := (HLs.out.below hB).2.2 k2 hkA hkJ
          obtain ⟨a, n, cc, hA⟩ : ∃ a n cc, A[k2] = (a, n, cc) := ⟨_, _, _, rfl⟩
          rw [hA] at e0 hI
          simp only at e0 hI
          have hts := totK_take_succ J k2 hkJ
          have hle := totK_le J (k2 + 1)
          rw [hts, HT2.out, hI.1, HT.out] at hle
          have HTS := Lib.hid (show totK (J.take (k2 + 1)) = t2 + n by rw [hts, HT2.out, hI.1])
          obtain ⟨v', w', hrun, own', hg⟩ := appK_any _ w.heap.size u6 t2 _ a n cc J[k2] own hI hB.size (by omega)
          rw [← flatK_take_succ J k2 hkJ] at own'
          have hB' := hB.grown hg hB.size (fun j hj => (own.lt j hj).1)
          clear hI hA hts own hg
          go_wp2_with (at_builtin; refine wpList_append_run _ rfl _ _ 23 23 rfl _ _ rfl rfl hrun ?_)
          go_roundw
          case rel => exact ⟨k2 + 1, t2 + n, by omega, HTS, hle, own', hB', by go_num⟩
          case measure => simp [intOf]; omega
        · obtain rfl : k2 = k := by omega
          rw [List.take_of_length_le (by rw [HJ.out]; exact Nat.le_refl _)] at own HT2
          obtain ⟨a, cc, hv, hac, hI⟩ := kds_of_own own
          subst hv
          have hf := own_fresh (h := w.heap.size) own (Nat.le_refl _)
          have HI := Lib.hid hI
          have hlen : J.flatten.length = t2 := hI.1
          have HLN := Lib.hid hlen
          clear hI hlen own
          go_wp2_with fail
          go_ret
          have hl := HLN.out
          exact ⟨a, cc, by rw [hl]; rfl, by rw [hl]; exact hac, hf, by rw [hl]; exact HI.out, hB⟩
end Go.Proofs.Ytnjpijihjifkfaa
