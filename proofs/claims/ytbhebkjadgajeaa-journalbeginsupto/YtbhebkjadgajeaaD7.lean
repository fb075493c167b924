/- Contract: Read. -/
import Derived.Test.YtbhebkjadgajeaaD6
namespace Go.Proofs.Ytbhebkjadgajeaa
open Go.RowKit Go.Shelf
attribute [local go_sem] Oper.semAt_some
/-- What was written last to a sector. -/
def readT (S : List ByteArray) (P : List (Int × ByteArray)) (i : Nat) : ByteArray := P.foldl (fun s x => if x.1 = (i : Int) then x.2 else s) (S.getD i ByteArray.empty)
theorem fold_none (i : Int) (R : List (Int × ByteArray)) (a : ByteArray) (h : ∀ x ∈ R, x.1 ≠ i) : R.foldl (fun s x => if x.1 = i then x.2 else s) a = a := by
  induction R generalizing a with
  | nil => rfl
  | cons x l ih => rw [List.foldl_cons, if_neg (h x (by simp)), ih _ (fun y hy => h y (by simp [hy]))]
theorem readT_none {S : List ByteArray} {P : List (Int × ByteArray)} {i : Nat} (hi : i < S.length) (h : ∀ j (hj : j < P.length), P[j].1 ≠ (i : Int)) : readT S P i = S[i] := by
  unfold readT
  rw [fold_none _ _ _ (fun x hx => by obtain ⟨j, hj, rfl⟩ := List.getElem_of_mem hx; exact h j hj), List.getD_eq_getElem?_getD, List.getElem?_eq_getElem hi]; rfl
theorem readT_at {S : List ByteArray} {P : List (Int × ByteArray)} {i j : Nat} (hj : j < P.length) (he : P[j].1 = (i : Int)) (h : ∀ k (hk : k < P.length), j < k → P[k].1 ≠ (i : Int)) : readT S P i = P[j].2 := by
  unfold readT
  have e : P = P.take j ++ P[j] :: P.drop (j + 1) := by rw [← List.drop_eq_getElem_cons hj, List.take_append_drop]
  conv => lhs; rw [e]
  rw [List.foldl_append, List.foldl_cons, if_pos he, fold_none]
  intro x hx
  obtain ⟨k, hk, rfl⟩ := List.getElem_of_mem hx
  rw [List.length_drop] at hk
  rw [List.getElem_drop]
  exact h (j + 1 + k) (by omega) (by omega)
theorem backF_at (P : List (Int × ByteArray)) (j : Nat) (hj : j < P.length) : backF P (P.length - 1 - j) = (j, P[j]) := by
  unfold backF
  have e1 : P.length - 1 - (P.length - 1 - j) = j := by omega
  rw [e1, List.getD_eq_getElem?_getD, List.getElem?_eq_getElem hj, Option.getD_some]
theorem mem_upto {P : List (Int × ByteArray)} {m j : Nat} (hj : j < P.length) (hm : P.length - 1 - j < m) : ((j, P[j]) : Wr) ∈ upto (backF P) m := by
  unfold upto
  rw [List.mem_map]
  exact ⟨P.length - 1 - j, List.mem_range.2 hm, backF_at P j hj⟩
theorem upto_last {P : List (Int × ByteArray)} {k : Nat} {pre' : List Wr} {y : Wr} (hk : k ≤ P.length) (h : pre' ++ [y] = upto (backF P) k) : ∃ j, ∃ hj : j < P.length, y = (j, P[j]) ∧ k = P.length - j ∧ pre' = upto (backF P) (k - 1) := by
  cases k with
  | zero => simp [upto] at h
  | succ k =>
    rw [upto_succ] at h
    obtain ⟨h1, h2⟩ := List.append_inj' h rfl
    have hj : P.length - 1 - k < P.length := by omega
    refine ⟨P.length - 1 - k, hj, ?_, by omega, by rw [h1]; rfl⟩
    have := backF_at P (P.length - 1 - k) hj
    rw [show P.length - 1 - (P.length - 1 - k) = k by omega] at this
    rw [← this]
    simpa using h2
section
variable {K : Nat → Prop} {w w1 : World} {d sb : Nat} {S : List ByteArray} {pv : Value} {P : List (Int × ByteArray)} {fuse : Int} {down : Bool} {ops : Int}
theorem Disk.wrs (h : Disk K w d sb S pv P fuse down ops) : Wrs w.heap.size w pv P := by
  rcases h.pend.2 with ⟨rfl, hn⟩ | ⟨g, cap, cur, hv, h1, h2, h3⟩
  · exact .inl ⟨rfl, List.eq_nil_of_length_eq_zero hn⟩
  · exact .inr ⟨g, cap, hv, (Array.getElem?_eq_some_iff.1 h2).1, fun j hj => h.pcells hv j hj⟩
set_option maxRecDepth 100000 in
set_option maxHeartbeats 2000000 in
theorem read_ok (h : Disk K w d sb S pv P fuse false ops) (i : Nat) (hi : i < S.length) (hP : P.length ≤ 1000000) :
    Calls Try.prog 42 #[.pointer (some ⟨d, 0, none⟩), .int .i64 (i : Int)] w fun e w' => e = .returned (.tuple #[.string (readT S P i), .int .i64 0]) ∧ Below w.heap.size w w' := by
  refine (callsIn_wide (n := 8)).1 ?_
  refine callsIn_of_wp_marks Try.func42 rfl trivial ?_ rfl
  simp only [Try.ntmps42, List.size_toArray, List.length_cons, List.length_nil, Nat.reduceAdd, Nat.reduceSub, Array.replicate_succ, Array.replicate_zero, List.push_toArray, List.append_toArray, List.nil_append, List.cons_append]
  obtain ⟨pa, cap, hpv⟩ := h.pvForm
  subst hpv
  have hB3 : Below w.heap.size w (((w.alloc (.cells #[.int .i64 (i : Int)] 3)).alloc (.cells #[.string ⟨#[]⟩] 9)).alloc (.cells #[.int .i64 0] 26)) := (((Below.refl _ w).alloc (Nat.le_refl _) _).alloc (by simp) _).alloc (by simp; omega) _
  have hD3 := h.below hB3
  have c3 := hD3.c3
  have c1 := hD3.c1
  gi_wp2_with fail
  refine ⟨trivial, ?_⟩
  refine (callsIn_wide.2 (has_yes hD3 i hi)).mono ?_
  rintro e w' ⟨rfl, rfl⟩
  gi_wp2_with fail
  refine ⟨trivial, ?_⟩
  refine (back_in _ _ trivial rfl _ _ _ _).mono ?_
  rintro e w' ⟨rfl, rfl⟩
  gi_wp2_with fail
  have hB0 : Below w.heap.size w ((((w.alloc (.cells #[.int .i64 (i : Int)] 3)).alloc (.cells #[.string ⟨#[]⟩] 9)).alloc (.cells #[.int .i64 0] 26)).alloc (.cells #[.slice pa P.length cap] 61)) := hB3.alloc hB3.size _
  have hsz : ((((w.alloc (.cells #[.int .i64 (i : Int)] 3)).alloc (.cells #[.string ⟨#[]⟩] 9)).alloc (.cells #[.int .i64 0] 26)).alloc (.cells #[.slice pa P.length cap] 61)).heap.size = w.heap.size + 4 := by simp
  have q3 : ((((w.alloc (.cells #[.int .i64 (i : Int)] 3)).alloc (.cells #[.string ⟨#[]⟩] 9)).alloc (.cells #[.int .i64 0] 26)).alloc (.cells #[.slice pa P.length cap] 61)).cell? ⟨w.heap.size, 0, none⟩ = some (.int .i64 (i : Int)) := by simp [go_sem]
  have q4 : ((((w.alloc (.cells #[.int .i64 (i : Int)] 3)).alloc (.cells #[.string ⟨#[]⟩] 9)).alloc (.cells #[.int .i64 0] 26)).alloc (.cells #[.slice pa P.length cap] 61)).cell? ⟨w.heap.size + 1, 0, none⟩ = some (.string ⟨#[]⟩) := by simp [go_sem]
  have q5 : ((((w.alloc (.cells #[.int .i64 (i : Int)] 3)).alloc (.cells #[.string ⟨#[]⟩] 9)).alloc (.cells #[.int .i64 0] 26)).alloc (.cells #[.slice pa P.length cap] 61)).cell? ⟨w.heap.size + 1 + 1, 0, none⟩ = some (.int .i64 0) := by simp [go_sem]
  have r4 : ((((w.alloc (.cells #[.int .i64 (i : Int)] 3)).alloc (.cells #[.string ⟨#[]⟩] 9)).alloc (.cells #[.int .i64 0] 26)).alloc (.cells #[.slice pa P.length cap] 61)).frozen? ⟨w.heap.size + 1, 0, none⟩ = false := by simp [go_sem]
  have r5 : ((((w.alloc (.cells #[.int .i64 (i : Int)] 3)).alloc (.cells #[.string ⟨#[]⟩] 9)).alloc (.cells #[.int .i64 0] 26)).alloc (.cells #[.slice pa P.length cap] 61)).frozen? ⟨w.heap.size + 1 + 1, 0, none⟩ = false := by simp [go_sem]
  have qs : ((((w.alloc (.cells #[.int .i64 (i : Int)] 3)).alloc (.cells #[.string ⟨#[]⟩] 9)).alloc (.cells #[.int .i64 0] 26)).alloc (.cells #[.slice pa P.length cap] 61)).cell? ⟨w.heap.size + 1 + 1 + 1, 0, none⟩ = some (.slice pa P.length cap) := by simp [go_sem]
  generalize (((w.alloc (.cells #[.int .i64 (i : Int)] 3)).alloc (.cells #[.string ⟨#[]⟩] 9)).alloc (.cells #[.int .i64 0] 26)).alloc (.cells #[.slice pa P.length cap] 61) = W0 at hB0 hsz q3 q4 q5 r4 r5 qs ⊢
  have hD0 := h.below hB0
  clear hD3 c3 c1 hB3
  refine wpIn_rangeFunc_ownH rfl (by omega) (gf := 58) (lb := #[.pointer (some ⟨w.heap.size + 1 + 1 + 1, 0, none⟩)]) rfl trivial (enters_of Try.func58 (by kernel_rfl) rfl)
    (back_stops Fence.wide 7 trivial rfl (by omega) (w.heap.size + 1 + 1 + 1) W0.heap.size _ P hP W0 (by omega) (Nat.le_refl _) qs hD0.wrs) belowK_t (belowK_b (Nat.le_refl _)) (Below.refl _ _) (fun _ => rfl)
    (fun pre W => (∀ y ∈ pre, y.2.1 ≠ (i : Int)) ∧ Below W0.heap.size W0 W)
    (fun c pre W => (c = .ret ∧ (∃ pre' y, pre = pre' ++ [y] ∧ (∀ z ∈ pre', z.2.1 ≠ (i : Int)) ∧ y.2.1 = (i : Int) ∧ W.cell? ⟨w.heap.size + 1, 0, none⟩ = some (.string y.2.2)) ∧ W.cell? ⟨w.heap.size + 1 + 1, 0, none⟩ = some (.int .i64 0)) ∧ Below w.heap.size w W)
    (OwnFrom.and (ownFrom_pure _ _) (ownFrom_below (Nat.le_refl _) (Nat.le_refl _)))
    (fun c => OwnFrom.and (Own.from (fun s A B row hs hg hr => by
      obtain ⟨h1, ⟨pre', y, h2, h3, h4, h5⟩, h6⟩ := hs
      exact ⟨h1, ⟨pre', y, h2, h3, h4, cell_kept h5 hg hr⟩, cell_kept h6 hg hr⟩) _) (ownFrom_below (Nat.le_refl _) (by omega)))
    ⟨by simp, Below.refl _ _⟩
    (fun x a' W => ∃ Bx, W0.heap.size ≤ Bx ∧ W.cell? ⟨Bx, 0, none⟩ = some (.int .i64 x.2.1) ∧ W.cell? ⟨Bx, 1, none⟩ = some (.string x.2.2) ∧ a' = { tmps := #[.pointer (some ⟨d, 0, none⟩), .int .i64 (i : Int), undef, .pointer (some ⟨w.heap.size, 0, none⟩), .pointer (some ⟨w.heap.size + 1, 0, none⟩), .pointer (some ⟨w.heap.size + 1 + 1, 0, none⟩), undef, .pointer (some ⟨Bx, 0, none⟩), .pointer (some ⟨d, 0, none⟩), .bool false, .pointer (some ⟨d, 0, none⟩), .pointer (some ⟨d, 0, none⟩), .pointer (some ⟨d, 3, none⟩), .bool false, .pointer (some ⟨d, 0, none⟩), .int .i64 (i : Int), .bool true, .bool false, .pointer (some ⟨d, 0, none⟩), .pointer (some ⟨d, 0, none⟩), .pointer (some ⟨d, 1, none⟩), .slice pa P.length cap, .func (.func 58) #[] #[.pointer (some ⟨w.heap.size + 1 + 1 + 1, 0, none⟩)], .int .i64 (x.1 : Int), .agg #[.int .i64 x.2.1, .string x.2.2], undef, undef, undef, undef, undef, undef, undef, undef, undef, undef, undef, undef, undef], defers := [] })
    (fun x a' _ X Y row hs hg hr => by obtain ⟨Bx, h1, h2, h3, h4⟩ := hs; exact ⟨Bx, h1, cell_kept h2 hg (fun r e => (hr r e).2), cell_kept h3 hg (fun r e => (hr r e).2), h4⟩)
    ?assign ?body ?done ?stop
  case assign =>
    rintro l pre x W K ⟨hp, hB1⟩ hK
    unfold wrV
    gi_wp2
    exact hK _ _ ((KeepsOthers.alloc _ _).from _) ((Below.refl _ W).alloc hB1.size _) ⟨hp, hB1.alloc hB1.size _⟩ ⟨W.heap.size, hB1.size, by simp [go_sem], by simp [go_sem], rfl⟩
  case body =>
    rintro l pre x a' W hl ⟨r, hr⟩ ⟨hp, hB1⟩ ⟨Bx, hBx, x0, x1, rfl⟩ hlt
    have u3 := (hB1.cell (p := ⟨w.heap.size, 0, none⟩) (by show w.heap.size < _; omega)).trans q3
    have u4 := (hB1.cell (p := ⟨w.heap.size + 1, 0, none⟩) (by show w.heap.size + 1 < _; omega)).trans q4
    have u5 := (hB1.cell (p := ⟨w.heap.size + 1 + 1, 0, none⟩) (by show w.heap.size + 1 + 1 < _; omega)).trans q5
    have v4 := (hB1.frozen (p := ⟨w.heap.size + 1, 0, none⟩) (by show w.heap.size + 1 < _; omega)).trans r4
    have v5 := (hB1.frozen (p := ⟨w.heap.size + 1 + 1, 0, none⟩) (by show w.heap.size + 1 + 1 < _; omega)).trans r5
    gi_wp2
    · rename_i hx
      have hx' : x.2.1 = (i : Int) := eq_of_beq hx
      refine ⟨((KeepsOthers.setCell _ _ _).from _).trans ((KeepsOthers.setCell _ _ _).from _), ⟨rfl, ⟨pre, x, rfl, hp, hx', ?_⟩, ?_⟩, ?_⟩
      · exact (World.cell?_setCell_other _ _ _ _ (fun e => by injection e with e1 _ _; omega)).trans (World.cell?_setCell_same' _ _ _ (by rw [u4]; rfl))
      · refine World.cell?_setCell_same' _ _ _ ?_
        rw [World.cell?_setCell_other _ _ _ _ (fun e => by injection e with e1 _ _; omega), u5]; rfl
      · exact ((below_to hB0 hB1).setCell (p := ⟨w.heap.size + 1, 0, none⟩) (by simp) _).setCell (p := ⟨w.heap.size + 1 + 1, 0, none⟩) (by simp; omega) _
    · rename_i hx
      have hx' : x.2.1 ≠ (i : Int) := ne_of_beq_false hx
      exact ⟨KeepsFrom.refl _ _, Below.refl _ _, fun y hy => (List.mem_append.1 hy).elim (hp y) (fun e => by simp at e; subst e; exact hx'), hB1⟩
  case done =>
    rintro D ys W hD rfl ⟨hp, hB1⟩ hK
    have hT : readT S P i = S[i] := readT_none hi (fun j hj => hp _ (mem_upto hj (by omega)))
    have HT := Lib.hid hT
    have hD1 := hD0.below hB1
    obtain ⟨sc0, c0⟩ := hD1.c0
    have u3 := (hB1.cell (p := ⟨w.heap.size, 0, none⟩) (by show w.heap.size < _; omega)).trans q3
    have u4 := (hB1.cell (p := ⟨w.heap.size + 1, 0, none⟩) (by show w.heap.size + 1 < _; omega)).trans q4
    have u5 := (hB1.cell (p := ⟨w.heap.size + 1 + 1, 0, none⟩) (by show w.heap.size + 1 + 1 < _; omega)).trans q5
    have v4 := (hB1.frozen (p := ⟨w.heap.size + 1, 0, none⟩) (by show w.heap.size + 1 < _; omega)).trans r4
    have v5 := (hB1.frozen (p := ⟨w.heap.size + 1 + 1, 0, none⟩) (by show w.heap.size + 1 + 1 < _; omega)).trans r5
    have rw' := (hD1.row i hi).1
    generalize S[i] = T at HT rw'
    clear hT hD1
    have hBw := below_to hB0 hB1
    clear hB1 hp qs q3 q4 q5 r4 r5 hD0
    gi_wp2_with fail
    gi_region
    gi_wp2_with fail
    have hK2 := (KeepsOthers.setCell W ⟨w.heap.size + 1, 0, none⟩ (.string T)).same D _ hK rfl
    have hK3 : ((W.setCell ⟨w.heap.size + 1, 0, none⟩ (.string T)).setCell ⟨w.heap.size + 1 + 1, 0, none⟩ (.int .i64 0)).drew.heap[D]? = some (.deferred (some [])) := (KeepsOthers.setCell (W.setCell ⟨w.heap.size + 1, 0, none⟩ (.string T)) ⟨w.heap.size + 1 + 1, 0, none⟩ (.int .i64 0)).same D _ hK2 rfl
    have k4 : ((W.setCell ⟨w.heap.size + 1, 0, none⟩ (.string T)).setCell ⟨w.heap.size + 1 + 1, 0, none⟩ (.int .i64 0)).drew.cell? ⟨w.heap.size + 1, 0, none⟩ = some (.string T) := (World.cell?_setCell_other _ _ _ _ (fun e => by injection e with e1 _ _; omega)).trans (World.cell?_setCell_same' _ _ _ (by rw [u4]; rfl))
    have k5 : ((W.setCell ⟨w.heap.size + 1, 0, none⟩ (.string T)).setCell ⟨w.heap.size + 1 + 1, 0, none⟩ (.int .i64 0)).drew.cell? ⟨w.heap.size + 1 + 1, 0, none⟩ = some (.int .i64 0) := World.cell?_setCell_same' _ _ _ (by rw [World.cell?_setCell_other _ _ _ _ (fun e => by injection e with e1 _ _; omega), u5]; rfl)
    have hBz : Below w.heap.size w ((W.setCell ⟨w.heap.size + 1, 0, none⟩ (.string T)).setCell ⟨w.heap.size + 1 + 1, 0, none⟩ (.int .i64 0)).drew := ((hBw.setCell (p := ⟨w.heap.size + 1, 0, none⟩) (by simp) _).setCell (p := ⟨w.heap.size + 1 + 1, 0, none⟩) (by simp; omega) _).drew
    generalize ((W.setCell ⟨w.heap.size + 1, 0, none⟩ (.string T)).setCell ⟨w.heap.size + 1 + 1, 0, none⟩ (.int .i64 0)).drew = Wz at hK3 k4 k5 hBz ⊢
    refine ⟨by simp, .inl ⟨_, _, rfl, run_takeDeferred hK3, ?_⟩⟩
    have hc4 := cell_kept k4 (grownBy_putObj' _ D (.deferred none)) (fun r e => by cases e; exact ⟨_, hK3, rfl⟩)
    have hc5 := cell_kept k5 (grownBy_putObj' _ D (.deferred none)) (fun r e => by cases e; exact ⟨_, hK3, rfl⟩)
    refine ⟨.tuple #[.string T, .int .i64 0], ?_, by rw [HT.out], hBz.trans (belowK_b (w := w) (Nat.le_refl _) Wz D _ _ (by omega) hK3 rfl rfl)⟩
    simp [results, Try.results42, go_sem, hc4, hc5]
  case stop =>
    rintro D c pre W hD ⟨k, hk, hpk⟩ ⟨⟨rfl, ⟨pre', y, hpe, hne, hy, k4⟩, k5⟩, hB1⟩ hK
    obtain ⟨j, hj, rfl, hkj, hpre⟩ := upto_last hk (hpe.symm.trans hpk)
    have hT : readT S P i = P[j].2 := readT_at hj hy (fun m hm hjm => hne _ (by rw [hpre]; exact mem_upto hm (by omega)))
    have HT := Lib.hid hT
    clear hT
    gi_wp2
    refine ⟨by simp, .inl ⟨_, _, rfl, run_takeDeferred hK, ?_⟩⟩
    have hc4 := cell_kept k4 (grownBy_putObj' _ D (.deferred none)) (fun r e => by cases e; exact ⟨_, hK, rfl⟩)
    have hc5 := cell_kept k5 (grownBy_putObj' _ D (.deferred none)) (fun r e => by cases e; exact ⟨_, hK, rfl⟩)
    refine ⟨.tuple #[.string P[j].2, .int .i64 0], ?_, by rw [HT.out], hB1.trans (belowK_b (w := w) (Nat.le_refl _) W D _ _ (by omega) hK rfl rfl)⟩
    simp [results, Try.results42, go_sem, hc4, hc5]
end
end Go.Proofs.Ytbhebkjadgajeaa
