/- TopHomes: all rows; a step law; the plain mathematics. -/
import Derived.Test.YtplngodilalbhaaH3
import Derived.Deep.RegionHeldLaw
import Derived.Deep.AppendLies
namespace Go.Proofs.Ytplngodilalbhaa
open Go.RowKit Go.Shelf
/-- An append in a region that draws its order, by its run. -/
theorem step_append_run {P : Program} {w : World} {ops : Array Oper} {o : Oper} {a : Act} {K : Act → World → Prop} {Q : Exit → Act → World → Prop} {E : Prop} (hgd : o.guard = none) (s x : Operand) (t : TypeId)
    (ho : o.op = .call { callee := .builtin .append, args := #[s, x], argTypes := #[t, t] }) (v xv : Value) (hs : a.eval s = v) (hx : a.eval x = xv) (R : Value → World → Prop)
    (hrun : ∃ v' w', (Builtin.append_ #[t, t] o.type #[v, xv]).run P w = .ok v' w' ∧ R v' w') (h : ∀ v' w', R v' w' → K (a.put o.dst v') w') :
    if Region.wanted o (yielded ops a.tmps) = true then Oper.wp P o a w K Q else E := by
  have hw : Region.wanted o (yielded ops a.tmps) = true := by simp [Region.wanted, hgd]
  rw [if_pos hw]
  obtain ⟨v', w', hr, hR⟩ := hrun
  unfold Oper.wp execOp
  simp only [ho, resolve, invoke, builtin, Sem.run_bind, Sem.run_pure, Result.andThen_ok, List.map_toArray, List.map_cons, List.map_nil, hs, hx, hr]
  exact h v' w' hR
/-- Row by row: what each page may be. -/
structure May (K : Nat → Prop) (w : World) (mb : Nat) (G : Nat → Nat) (M : List (List UInt8)) : Prop where
  own : K mb
  row : ∀ i (hi : i < M.length), ∃ v, w.cell? ⟨mb, i, none⟩ = some v ∧ w.frozen? ⟨mb, i, none⟩ = false ∧ MRow w v (G i) M[i]
  ne : ∀ i, i < M.length → G i ≠ mb ∧ K (G i)
  inj : ∀ i j, i < M.length → j < M.length → i ≠ j → G i ≠ G j
theorem May.keep {K : Nat → Prop} {w w1 : World} {mb : Nat} {G : Nat → Nat} {M : List (List UInt8)} (h : May K w mb G M) (hk : ∀ k, K k → w1.heap[k]? = w.heap[k]?) : May K w1 mb G M := by
  refine ⟨h.own, fun i hi => ?_, h.ne, h.inj⟩
  obtain ⟨v, h1, h2, h3⟩ := h.row i hi
  exact ⟨v, (World.cell?_of_block (a := ⟨mb, i, none⟩) (hk mb h.own)).trans h1, (World.frozen?_of_block (a := ⟨mb, i, none⟩) (hk mb h.own)).trans h2, h3.block (hk _ (h.ne i hi).2)⟩
theorem May.wider {K L : Nat → Prop} {w : World} {mb : Nat} {G : Nat → Nat} {M : List (List UInt8)} (h : May K w mb G M) (hl : ∀ k, K k → L k) : May L w mb G M :=
  ⟨hl _ h.own, h.row, fun i hi => ⟨(h.ne i hi).1, hl _ (h.ne i hi).2⟩, h.inj⟩
/-- One row is written anew. -/
theorem May.put {K L : Nat → Prop} {w w1 : World} {mb : Nat} {G : Nat → Nat} {M : List (List UInt8)} (h : May K w mb G M) {p : Nat} (hp : p < M.length) {v' : Value} {g' : Nat} {l' : List UInt8} (hl : ∀ k, K k → L k)
    (hgr : ∀ k, K k → k ≠ G p → w1.heap[k]? = w.heap[k]?) (hr : MRow w1 v' g' l') (hg : g' = G p ∨ ¬ K g') (hgL : L g') :
    May L (w1.setCell ⟨mb, p, none⟩ v') mb (fun i => if i = p then g' else G i) (M.set p l') := by
  have hgm : g' ≠ mb := by
    rcases hg with rfl | hg
    · exact (h.ne p hp).1
    · rintro rfl; exact hg h.own
  refine ⟨hl _ h.own, fun i hi => ?_, fun i hi => ?_, fun i j hi hj hij => ?_⟩
  · have hi' : i < M.length := by simpa using hi
    obtain ⟨v, h1, h2, h3⟩ := h.row i hi'
    have hmb := hgr mb h.own (fun e => (h.ne p hp).1 e.symm)
    by_cases hip : i = p
    · subst hip
      refine ⟨v', World.cell?_setCell_same' _ _ _ (by rw [World.cell?_of_block (a := ⟨mb, i, none⟩) hmb, h1]; rfl), by rw [World.frozen?_setCell, World.frozen?_of_block (a := ⟨mb, i, none⟩) hmb]; exact h2, ?_⟩
      simp only [if_pos, List.getElem_set_self]
      exact hr.block (Below.heap_setCell w1 ⟨mb, i, none⟩ v' g' hgm)
    · refine ⟨v, (World.cell?_setCell_other _ _ _ _ (fun e => hip (congrArg Addr.off e).symm)).trans ((World.cell?_of_block (a := ⟨mb, i, none⟩) hmb).trans h1), by rw [World.frozen?_setCell, World.frozen?_of_block (a := ⟨mb, i, none⟩) hmb]; exact h2, ?_⟩
      simp only [if_neg hip]
      rw [List.getElem_set_ne (fun e => hip e.symm)]
      exact h3.block ((Below.heap_setCell w1 ⟨mb, p, none⟩ v' _ (h.ne i hi').1).trans (hgr _ (h.ne i hi').2 (h.inj i p hi' hp hip)))
  · have hi' : i < M.length := by simpa using hi
    by_cases hip : i = p
    · subst hip; simp only [if_pos]; exact ⟨hgm, hgL⟩
    · simp only [if_neg hip]; exact ⟨(h.ne i hi').1, hl _ (h.ne i hi').2⟩
  · have hi' : i < M.length := by simpa using hi
    have hj' : j < M.length := by simpa using hj
    by_cases hip : i = p
    · subst hip
      simp only [if_pos, if_neg (fun e => hij e.symm : ¬ j = i)]
      rcases hg with rfl | hg
      · exact h.inj i j hi' hj' hij
      · rintro rfl; exact hg (h.ne j hj').2
    · by_cases hjp : j = p
      · subst hjp
        simp only [if_pos, if_neg hip]
        rcases hg with rfl | hg
        · exact h.inj i j hi' hj' hij
        · rintro rfl; exact hg (h.ne i hi').2
      · simp only [if_neg hip, if_neg hjp]; exact h.inj i j hi' hj' hij
/-- The bytes that were written to page i, in order. -/
def bytesAt (B : List (Nat × UInt8)) (i : Nat) : List UInt8 := (B.filter (fun x => x.1 == i)).map (·.2)
/-- The writes of these pages. -/
def wrs (B : List (Nat × UInt8)) : List (Int × ByteArray) := B.map fun x => ((x.1 : Int), homeB x.1 (pgB x.2))
/-- What is safe, what is pending, and what each page may be. -/
def Inv (S : List ByteArray) (B : List (Nat × UInt8)) (M : List (List UInt8)) : Prop :=
  S.length = M.length ∧ (∀ x ∈ B, x.1 < M.length) ∧ ∀ i (hi : i < M.length), ∃ c0, S[i]? = some (homeB i (pgB c0)) ∧ M[i] = c0 :: bytesAt B i
theorem bytesAt_snoc (B : List (Nat × UInt8)) (a : Nat) (c : UInt8) (i : Nat) : bytesAt (B ++ [(a, c)]) i = if a = i then bytesAt B i ++ [c] else bytesAt B i := by
  unfold bytesAt
  rw [List.filter_append, List.map_append]
  by_cases h : a = i
  · rw [if_pos h]; simp [h]
  · rw [if_neg h]; simp [h]
theorem wrs_snoc (B : List (Nat × UInt8)) (a : Nat) (c : UInt8) : wrs (B ++ [(a, c)]) = wrs B ++ [((a : Int), homeB a (pgB c))] := by simp [wrs]
theorem Inv.write {S : List ByteArray} {B : List (Nat × UInt8)} {M : List (List UInt8)} (h : Inv S B M) {a : Nat} (ha : a < M.length) (c : UInt8) : Inv S (B ++ [(a, c)]) (M.set a (M[a] ++ [c])) := by
  obtain ⟨h1, h2, h3⟩ := h
  refine ⟨by rw [List.length_set]; exact h1, fun x hx => ?_, fun i hi => ?_⟩
  · rw [List.length_set]
    rcases List.mem_append.1 hx with hx | hx
    · exact h2 x hx
    · simp at hx; rw [hx]; exact ha
  · have hi' : i < M.length := by simpa using hi
    obtain ⟨c0, e1, e2⟩ := h3 i hi'
    refine ⟨c0, e1, ?_⟩
    rw [bytesAt_snoc]
    by_cases hai : a = i
    · subst hai
      rw [if_pos rfl, List.getElem_set_self, e2]; rfl
    · rw [if_neg hai, List.getElem_set_ne hai, e2]
theorem wrs_fits {S : List ByteArray} {B : List (Nat × UInt8)} {M : List (List UInt8)} (h : Inv S B M) : Fits (wrs B) S.length := by
  intro j hj
  have hj' : j < B.length := by simpa [wrs] using hj
  have hg : (wrs B)[j] = (((B[j].1 : Nat) : Int), homeB B[j].1 (pgB B[j].2)) := by simp [wrs]
  exact ⟨B[j].1, by rw [h.1]; exact h.2.1 _ (List.getElem_mem hj'), by rw [hg]⟩
/-- Behind a failure each page is one of those that it may be. -/
theorem Inv.after {S : List ByteArray} {B : List (Nat × UInt8)} {M : List (List UInt8)} (h : Inv S B M) (q : Nat → Bool) (i : Nat) (hi : i < M.length) : ∃ c ∈ M[i], (appl S (wrs B) q (wrs B).length)[i]? = some (homeB i (pgB c)) := by
  obtain ⟨c0, e1, e2⟩ := h.2.2 i hi
  rcases appl_from (q := q) (i := i) (wrs_fits h) (Nat.le_refl _) with hx | ⟨j, hj, hp, hx⟩
  · exact ⟨c0, by rw [e2]; exact List.mem_cons_self, hx.trans e1⟩
  · have hj' : j < B.length := by simpa [wrs] using hj
    have hg : (wrs B)[j] = (((B[j].1 : Nat) : Int), homeB B[j].1 (pgB B[j].2)) := by simp [wrs]
    rw [hg] at hp hx
    have hbi : B[j].1 = i := by have hp' : ((B[j].1 : Nat) : Int) = (i : Int) := hp; omega
    refine ⟨B[j].2, ?_, by rw [hx, hbi]⟩
    rw [e2]
    refine List.mem_cons_of_mem _ ?_
    unfold bytesAt
    exact List.mem_map.2 ⟨B[j], List.mem_filter.2 ⟨List.getElem_mem hj', by simp [hbi]⟩, rfl⟩
/-- The last one. -/
def lastB (l : List UInt8) : UInt8 := l.getLastD 0
theorem last_cons (c0 : UInt8) (l : List UInt8) (c : UInt8) : lastB (c0 :: (l ++ [c])) = c := by
  unfold lastB
  rw [← List.cons_append, List.getLastD_concat]
theorem appl_all_last {S : List ByteArray} {B : List (Nat × UInt8)} {c0 : UInt8} {i : Nat} (hs : S[i]? = some (homeB i (pgB c0))) (hF : Fits (wrs B) S.length) (k : Nat) (hk : k ≤ B.length) : (appl S (wrs B) (fun _ => true) k)[i]? = some (homeB i (pgB (lastB (c0 :: bytesAt (B.take k) i)))) := by
  induction k with
  | zero => exact hs
  | succ k ih =>
    have hlt : k < B.length := by omega
    have hlw : k < (wrs B).length := by simpa [wrs] using hlt
    have hg : (wrs B)[k] = (((B[k].1 : Nat) : Int), homeB B[k].1 (pgB B[k].2)) := by simp [wrs]
    obtain ⟨a, ha, hp⟩ := hF k hlw
    have hB : B[k].1 < S.length := by
      rw [hg] at hp
      have hp' : ((B[k].1 : Nat) : Int) = (a : Int) := hp
      omega
    have e : B[k] = (B[k].1, B[k].2) := rfl
    rw [appl_yes rfl hlw hg, List.getElem?_set, List.take_succ_eq_append_getElem hlt, e]
    have hb := bytesAt_snoc (B.take k) B[k].1 B[k].2 i
    by_cases h : B[k].1 = i
    · rw [if_pos h] at hb
      rw [if_pos h, if_pos (by rw [appl_length]; exact hB)]
      rw [hb, last_cons, h]
    · rw [if_neg h] at hb
      rw [if_neg h, hb]
      exact ih (by omega)
/-- Behind a flush each page is the last that was written. -/
theorem Inv.flush {S : List ByteArray} {B : List (Nat × UInt8)} {M : List (List UInt8)} (h : Inv S B M) : Inv (appl S (wrs B) (fun _ => true) (wrs B).length) [] (M.map fun l => [lastB l]) := by
  refine ⟨by rw [appl_length, List.length_map]; exact h.1, fun x hx => by simp at hx, fun i hi => ?_⟩
  have hi' : i < M.length := by simpa using hi
  obtain ⟨c0, e1, e2⟩ := h.2.2 i hi'
  have hl := appl_all_last e1 (wrs_fits h) B.length (Nat.le_refl _)
  rw [List.take_length] at hl
  have hwl : (wrs B).length = B.length := by simp [wrs]
  refine ⟨lastB (c0 :: bytesAt B i), by rw [hwl]; exact hl, ?_⟩
  simp only [List.getElem_map, e2]
  rfl
end Go.Proofs.Ytplngodilalbhaa
