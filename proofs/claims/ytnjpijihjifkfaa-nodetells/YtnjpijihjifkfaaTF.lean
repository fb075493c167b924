/- Contracts: copies of slices and of nodes; slices cut. -/
import Derived.Test.YtnjpijihjifkfaaTE
namespace Go.Proofs.Ytnjpijihjifkfaa
open Go.RowKit
set_option linter.unusedVariables false
theorem eq22_nil (x : Addr) (n c : Nat) (w : World) : (binOp .eql 22 (.slice (some x) n c) (.slice none 0 0)).run Try.prog w = .ok (.bool false) w := Lib.run_eql_slice_nil w _ _ (some x) n c 0 0 Try.underlying22
theorem eq23_nil (x : Addr) (n c : Nat) (w : World) : (binOp .eql 23 (.slice (some x) n c) (.slice none 0 0)).run Try.prog w = .ok (.bool false) w := Lib.run_eql_slice_nil w _ _ (some x) n c 0 0 Try.underlying23
theorem eq22_none (n c : Nat) (w : World) : (binOp .eql 22 (.slice none n c) (.slice none 0 0)).run Try.prog w = .ok (.bool true) w := Lib.run_eql_slice_nil w _ _ none n c 0 0 Try.underlying22
theorem eq23_none (n c : Nat) (w : World) : (binOp .eql 23 (.slice none n c) (.slice none 0 0)).run Try.prog w = .ok (.bool true) w := Lib.run_eql_slice_nil w _ _ none n c 0 0 Try.underlying23
theorem add_at (b off n : Nat) : Addr.add ⟨b, off, none⟩ n = ⟨b, off + n, none⟩ := by
  unfold Addr.add
  by_cases h : n = 0
  · subst h; simp
  · simp [h]
theorem flat_cells {w : World} {b off n : Nat} {I : List It} (hl : I.length = n) (h : ∀ j, j < n → w.cell? ⟨b, off + j * 2, none⟩ = some (.string (kq I j)) ∧ w.cell? ⟨b, off + j * 2 + 1, none⟩ = some (.string (vq I j))) : ∀ j u, (flatI I)[j]? = some u → w.cell? ((⟨b, off, none⟩ : Addr).add j) = some u := by
  intro j u hj
  have hlt := (List.getElem?_eq_some_iff.1 hj).1
  rw [flatI_length] at hlt
  rw [add_at]
  have hk : j / 2 < I.length := by omega
  rcases Nat.mod_two_eq_zero_or_one j with h0 | h1
  · have e : j = j / 2 * 2 := by omega
    have h2 := (flatI_get I (j / 2) hk).1
    rw [← e, hj] at h2
    rw [h2]; have := (h (j / 2) (by omega)).1; rwa [← e] at this
  · have e : j = j / 2 * 2 + 1 := by omega
    have h2 := (flatI_get I (j / 2) hk).2
    rw [← e, hj] at h2
    rw [h2]; have := (h (j / 2) (by omega)).2; rwa [Nat.add_assoc, ← e] at this
theorem kid_flat {w : World} {b off n : Nat} {K : List Int} (hl : K.length = n) (h : ∀ j, j < n → w.cell? ⟨b, off + j, none⟩ = some (.int .i64 (K.getD j 0))) : ∀ j u, (kidV K)[j]? = some u → w.cell? ((⟨b, off, none⟩ : Addr).add j) = some u := by
  intro j u hj
  unfold kidV at hj
  rw [List.getElem?_map] at hj
  obtain ⟨z, hz, rfl⟩ := Option.map_eq_some_iff.1 hj
  obtain ⟨hlt, rfl⟩ := List.getElem?_eq_some_iff.1 hz
  rw [add_at]
  have := h j (by omega)
  rwa [getD_at _ _ _ hlt] at this
/-- A slice is answered, in memory of the call's own. -/
def ItRet (w : World) (L : List It) (e : Ending) (w' : World) : Prop := ∃ a c, e = .returned (.slice a L.length c) ∧ L.length ≤ c ∧ Fresh w.heap.size a ∧ Its w' a L.length L ∧ Below w.heap.size w w'
def KdRet (w : World) (K : List Int) (e : Ending) (w' : World) : Prop := ∃ a c, e = .returned (.slice a K.length c) ∧ K.length ≤ c ∧ Fresh w.heap.size a ∧ Kds w' a K.length K ∧ Below w.heap.size w w'
section
variable {w : World} {a : Option Addr} {n c : Nat} {ka : Option Addr} {kn kc : Nat} {I : List It} {K : List Int}
set_option maxRecDepth 100000 in
theorem cloneI_any (hI : Its w a n I) (hn : n ≤ 4096) : Calls Try.prog 46 #[.slice a n c] w (ItRet w I) := by
  obtain ⟨i0, hi0, hz0, hz1, hz2⟩ := info_parts info44
  have hl := hI.1
  cases a with
  | none =>
    have hn0 : n = 0 := by rcases hI.2 with h | ⟨b, off, h, _⟩; exact h; cases h
    have hI0 : I = [] := List.length_eq_zero_iff.1 (by omega)
    subst hI0
    subst hn0
    have q := fun w => eq22_none 0 c w
    clear hI hl
    go_enter Try.func46, Try.ntmps46
    go_wp2
    go_ret
    exact ⟨none, 0, rfl, Nat.le_refl _, (by intro x hx; cases hx), ⟨rfl, .inl rfl⟩, Below.refl _ _⟩
  | some ad =>
    have hcells : ∀ j u, (flatI I)[j]? = some u → (w.alloc (.cells #[] 44)).cell? (ad.add j) = some u := by
      intro j u hj
      rcases hI.2 with h | ⟨b, off, h, hb, hc⟩
      · have := (List.getElem?_eq_some_iff.1 hj).1; rw [flatI_length] at this; omega
      · simp only [Option.some.injEq] at h
        subst h
        exact Lib.cell?_alloc_some _ (flat_cells hl hc j u hj)
    have HC := Lib.hid hcells
    have HL := Lib.hid hl
    have q := fun w => eq22_nil ad n c w
    clear hI hcells hl
    go_enter Try.func46, Try.ntmps46
    go_wp2_with (at_builtin; refine wpList_append_own _ rfl _ _ 22 rfl w.heap.size 44 i0 (.agg #[.string ByteArray.empty, .string ByteArray.empty]) 2 32 Try.underlying22 hi0 hz0 hz1 hz2 rfl (by decide) _ _ _ rfl (World.ownsRow_made w #[] 0 (Nat.le_refl _) (Nat.zero_le _) (by simp)) ad n c (flatI I) rfl ?qc1 ?qc2 ?qc3 ?qc4 ?qc5 ?qc6 ?_)
    case qc1 => rw [flatI_length, HL.out]
    case qc2 => exact HC.out
    case qc3 => exact flatI_one I
    case qc4 => unfold maxLen; omega
    case qc5 => omega
    case qc6 => simp
    intro v' w1 hown hgrow _
    obtain ⟨a', c', rfl, hac, hIt⟩ := its_of_own hown
    have hf := own_fresh (h := w.heap.size) hown (Nat.le_refl _)
    have hB := ((new_below w (.cells #[] 44))).grown hgrow (by simp) (by intro k hk; simp [Value.ownBlock] at hk; omega)
    have HIt := Lib.hid hIt
    clear hown hgrow q hIt
    go_wp2
    go_ret
    have hl := HL.out
    subst hl
    exact ⟨a', c', rfl, hac, hf, HIt.out, hB⟩
set_option maxRecDepth 100000 in
theorem cloneK_any (hK : Kds w ka kn K) (hn : kn ≤ 4096) : Calls Try.prog 68 #[.slice ka kn kc] w (KdRet w K) := by
  obtain ⟨i0, hi0, hz0, hz1, hz2⟩ := info_parts info3
  have hl := hK.1
  cases ka with
  | none =>
    have hn0 : kn = 0 := by rcases hK.2 with h | ⟨b, off, h, _⟩; exact h; cases h
    have hK0 : K = [] := List.length_eq_zero_iff.1 (by omega)
    subst hK0
    subst hn0
    have q := fun w => eq23_none 0 kc w
    clear hK hl
    go_enter Try.func68, Try.ntmps68
    go_wp2
    go_ret
    exact ⟨none, 0, rfl, Nat.le_refl _, (by intro x hx; cases hx), ⟨rfl, .inl rfl⟩, Below.refl _ _⟩
  | some ad =>
    have hcells : ∀ j u, (kidV K)[j]? = some u → (w.alloc (.cells #[] 3)).cell? (ad.add j) = some u := by
      intro j u hj
      rcases hK.2 with h | ⟨b, off, h, hb, hc⟩
      · have := (List.getElem?_eq_some_iff.1 hj).1; simp [kidV] at this; omega
      · simp only [Option.some.injEq] at h
        subst h
        exact Lib.cell?_alloc_some _ (kid_flat hl hc j u hj)
    have HC := Lib.hid hcells
    have HL := Lib.hid hl
    have q := fun w => eq23_nil ad kn kc w
    clear hK hcells hl
    go_enter Try.func68, Try.ntmps68
    go_wp2_with (at_builtin; refine wpList_append_own _ rfl _ _ 23 rfl w.heap.size 3 i0 (.int .i64 0) 1 8 Try.underlying23 hi0 hz0 hz1 hz2 rfl (by decide) _ _ _ rfl (World.ownsRow_made w #[] 0 (Nat.le_refl _) (Nat.zero_le _) (by simp)) ad kn kc (kidV K) rfl ?qc1 ?qc2 ?qc3 ?qc4 ?qc5 ?qc6 ?_)
    case qc1 => unfold kidV; rw [List.length_map, HL.out, Nat.mul_one]
    case qc2 => exact HC.out
    case qc3 => exact kidV_one K
    case qc4 => unfold maxLen; omega
    case qc5 => omega
    case qc6 => simp
    intro v' w1 hown hgrow _
    obtain ⟨a', c', rfl, hac, hIt⟩ := kds_of_own hown
    have hf := own_fresh (h := w.heap.size) hown (Nat.le_refl _)
    have hB := ((new_below w (.cells #[] 3))).grown hgrow (by simp) (by intro k hk; simp [Value.ownBlock] at hk; omega)
    have HIt := Lib.hid hIt
    clear hown hgrow q hIt
    go_wp2
    go_ret
    have hl := HL.out
    subst hl
    exact ⟨a', c', rfl, hac, hf, HIt.out, hB⟩
end
/-- Where a slice that is cut ahead begins. -/
def cutA (sz : Nat) (a : Option Addr) (c i : Nat) : Option Addr := if c = i then a else a.map (·.add (i * sz))
theorem run_lo22 (a : Option Addr) (n c i : Nat) (h1 : i ≤ n) (w : World) : (Instr.slice 22 (.slice a n c) (some (.int .i64 (i : Int))) none none).run Try.prog w = .ok (.slice (cutA 2 a c i) (n - i) (c - i)) w := by
  have h2 : (i : Int) ≤ n := by omega
  have hs : ∀ w, (sizeOf 44).run Try.prog w = .ok 2 w := fun w => Try.sizeOf44 w
  simp [Instr.slice, run_underlying Try.underlying22, Instr.sliceBounds, Instr.sliceBound, asIntOf, hs, cutA, h1]
theorem run_lo23 (a : Option Addr) (n c i : Nat) (h1 : i ≤ n) (w : World) : (Instr.slice 23 (.slice a n c) (some (.int .i64 (i : Int))) none none).run Try.prog w = .ok (.slice (cutA 1 a c i) (n - i) (c - i)) w := by
  have h2 : (i : Int) ≤ n := by omega
  have hs : ∀ w, (sizeOf 3).run Try.prog w = .ok 1 w := fun w => Try.sizeOf3 w
  simp [Instr.slice, run_underlying Try.underlying23, Instr.sliceBounds, Instr.sliceBound, asIntOf, hs, cutA, h1]
theorem Its.cut {w : World} {a : Option Addr} {n c i : Nat} {I : List It} (h : Its w a n I) (h1 : i ≤ n) (h2 : n ≤ c) : Its w (cutA 2 a c i) (n - i) (I.drop i) := by
  refine ⟨by rw [List.length_drop, h.1], ?_⟩
  by_cases h0 : n - i = 0
  · exact .inl h0
  · rcases h.2 with h3 | ⟨b, off, rfl, hb, hc⟩
    · omega
    · refine .inr ⟨b, off + i * 2, ?_, hb, fun j hj => ?_⟩
      · unfold cutA; rw [if_neg (by omega), Option.map_some, add_at]
      · have := hc (i + j) (by omega)
        have e1 : kq (I.drop i) j = kq I (i + j) := by unfold kq; rw [List.getD_eq_getElem?_getD, List.getD_eq_getElem?_getD, List.getElem?_drop]
        have e2 : vq (I.drop i) j = vq I (i + j) := by unfold vq; rw [List.getD_eq_getElem?_getD, List.getD_eq_getElem?_getD, List.getElem?_drop]
        rw [e1, e2, show off + i * 2 + j * 2 = off + (i + j) * 2 by omega]
        exact this
theorem Kds.cut {w : World} {a : Option Addr} {n c i : Nat} {K : List Int} (h : Kds w a n K) (h1 : i ≤ n) (h2 : n ≤ c) : Kds w (cutA 1 a c i) (n - i) (K.drop i) := by
  refine ⟨by rw [List.length_drop, h.1], ?_⟩
  by_cases h0 : n - i = 0
  · exact .inl h0
  · rcases h.2 with h3 | ⟨b, off, rfl, hb, hc⟩
    · omega
    · refine .inr ⟨b, off + i * 1, ?_, hb, fun j hj => ?_⟩
      · unfold cutA; rw [if_neg (by omega), Option.map_some, add_at]
      · have := hc (i + j) (by omega)
        rw [List.getD_eq_getElem?_getD, List.getElem?_drop, ← List.getD_eq_getElem?_getD, Nat.mul_one, Nat.add_assoc]
        exact this
theorem Its.take {w : World} {a : Option Addr} {n i : Nat} {I : List It} (h : Its w a n I) (h1 : i ≤ n) : Its w a i (I.take i) := by
  refine ⟨by rw [List.length_take, h.1]; omega, ?_⟩
  rcases h.2 with h3 | ⟨b, off, rfl, hb, hc⟩
  · exact .inl (by omega)
  · refine .inr ⟨b, off, rfl, hb, fun j hj => ?_⟩
    have := hc j (by omega)
    have e1 : kq (I.take i) j = kq I j := by unfold kq; rw [List.getD_eq_getElem?_getD, List.getD_eq_getElem?_getD, List.getElem?_take, if_pos hj]
    have e2 : vq (I.take i) j = vq I j := by unfold vq; rw [List.getD_eq_getElem?_getD, List.getD_eq_getElem?_getD, List.getElem?_take, if_pos hj]
    rw [e1, e2]; exact this
theorem Kds.take {w : World} {a : Option Addr} {n i : Nat} {K : List Int} (h : Kds w a n K) (h1 : i ≤ n) : Kds w a i (K.take i) := by
  refine ⟨by rw [List.length_take, h.1]; omega, ?_⟩
  rcases h.2 with h3 | ⟨b, off, rfl, hb, hc⟩
  · exact .inl (by omega)
  · refine .inr ⟨b, off, rfl, hb, fun j hj => ?_⟩
    have := hc j (by omega)
    rw [List.getD_eq_getElem?_getD, List.getElem?_take, if_pos hj, ← List.getD_eq_getElem?_getD]; exact this
set_option maxRecDepth 100000 in
set_option maxHeartbeats 2000000 in
theorem cloneN_any {w : World} {a : Option Addr} {n c : Nat} {ka : Option Addr} {kn kc : Nat} {I : List It} {K : List Int} (hI : Its w a n I) (hK : Kds w ka kn K) (hn : n ≤ 4096) (hkn : kn ≤ 4096) :
    Calls Try.prog 47 #[.agg #[.slice a n c, .slice ka kn kc]] w (NdRet w I K) := by
  have N0 := (Nb.fresh w (.slice a n c) (.slice ka kn kc) 31).below (new_below _ (.cells #[.slice none 0 0, .slice none 0 0] 31))
  have N1 := Nb.fresh (w.alloc (.cells #[.slice a n c, .slice ka kn kc] 31)) (.slice none 0 0) (.slice none 0 0) 31
  have hs1 : (w.alloc (.cells #[.slice a n c, .slice ka kn kc] 31)).heap.size = w.heap.size + 1 := by simp
  rw [hs1] at N1
  have hBB := below_to (new_below w (.cells #[.slice a n c, .slice ka kn kc] 31)) (new_below _ (.cells #[.slice none 0 0, .slice none 0 0] 31))
  have hsz : w.heap.size + 2 ≤ ((w.alloc (.cells #[.slice a n c, .slice ka kn kc] 31)).alloc (.cells #[.slice none 0 0, .slice none 0 0] 31)).heap.size := by simp
  have KI := Lib.hid (fun (w1 : World) (B : Below w.heap.size w w1) => cloneI_any (c := c) (hI.below B) hn)
  have KK := Lib.hid (fun (w1 : World) (B : Below w.heap.size w w1) => cloneK_any (kc := kc) (hK.below B) hkn)
  clear hI hK hs1
  go_enter Try.func47, Try.ntmps47
  go_wp2_with fail
  generalize (w.alloc (.cells #[.slice a n c, .slice ka kn kc] 31)).alloc (.cells #[.slice none 0 0, .slice none 0 0] 31) = w2 at N0 N1 hBB hsz ⊢
  have c0 := N0.c0
  have c1 := N0.c1
  replace N0 := nb_drew N0
  replace N1 := nb_drew N1
  have d0 := N0.c0
  have d1 := N0.c1
  replace hBB : Below w.heap.size w w2.drew := below_to hBB (Below.refl w2.heap.size w2).drew
  replace hsz : w.heap.size + 2 ≤ w2.drew.heap.size := hsz
  go_region_law (first
    | (go_simp; go_at_call 46; refine (KI.out _ hBB).mono ?_; rintro e w4 ⟨a1, c1', rfl, hac, hfa, hIt, hb⟩; replace N0 := N0.below hb; replace N1 := N1.below hb; (try replace hKd := hKd.below hb); replace hfa := hfa.mono hsz; replace hBB := below_to hBB hb; replace hsz := Nat.le_trans hsz hb.size; have x0 := N0.c0; have x1 := N0.c1; have y0 := N1.c0; have y1 := N1.c1; have z0 := N1.f0; have z1 := N1.f1)
    | (go_simp; go_at_call 68; refine (KK.out _ hBB).mono ?_; rintro e w4 ⟨a2, c2', rfl, hkc, hfk, hKd, hb⟩; replace N0 := N0.below hb; replace N1 := N1.below hb; (try replace hIt := hIt.below hb); replace hfk := hfk.mono hsz; replace hBB := below_to hBB hb; replace hsz := Nat.le_trans hsz hb.size; have x0 := N0.c0; have x1 := N0.c1; have y0 := N1.c0; have y1 := N1.c1; have z0 := N1.f0; have z1 := N1.f1))
  all_goals
    have M := (N1.set0 (.slice a1 I.length c1')).set1 (.slice a2 K.length c2')
    have HI := Lib.hid ((hIt.set (g := w.heap.size + 1) (o := 0) (x := .slice a1 I.length c1') hfa (by omega)).set (g := w.heap.size + 1) (o := 1) (x := .slice a2 K.length c2') hfa (by omega))
    have HK := Lib.hid ((hKd.set (g := w.heap.size + 1) (o := 0) (x := .slice a1 I.length c1') hfk (by omega)).set (g := w.heap.size + 1) (o := 1) (x := .slice a2 K.length c2') hfk (by omega))
    have HB := Lib.hid ((hBB.setCell (p := ⟨w.heap.size + 1, 0, none⟩) (Nat.le_succ _) (.slice a1 I.length c1')).setCell (p := ⟨w.heap.size + 1, 1, none⟩) (Nat.le_succ _) (.slice a2 K.length c2'))
    have HFA := Lib.hid (hfa.mono (show w.heap.size ≤ w.heap.size + 2 by omega))
    have HFK := Lib.hid (hfk.mono (show w.heap.size ≤ w.heap.size + 2 by omega))
    have m0 := M.c0
    have m1 := M.c1
    clear hIt hKd hfa hfk hBB hb
    go_wp2_with fail
    refine bodyPost_ret (v := .agg #[.slice a1 I.length c1', .slice a2 K.length c2']) (by simp [results, Try.results47, go_sem, m0, m1]) rfl ?_
    exact ⟨a1, _, c1', a2, _, c2', rfl, hac, hkc, HFA.out, HFK.out, HI.out, HK.out, HB.out⟩
end Go.Proofs.Ytnjpijihjifkfaa
