/- The reference's disk: New, Up. -/
import Derived.Test.YtplngodilalbhaaR6
namespace Go.Proofs.Ytplngodilalbhaa
open Go.RowKit Go.Shelf
/-- The writes that are kept. -/
def keptL (W : List (Int × ByteArray)) (q : Nat → Bool) : Nat → List (Int × ByteArray)
  | 0 => []
  | k + 1 => if q k then keptL W q k ++ [W.getD k (0, ByteArray.empty)] else keptL W q k
theorem keptL_yes {W : List (Int × ByteArray)} {q : Nat → Bool} {k : Nat} (hq : q k = true) (hk : k < W.length) : keptL W q (k + 1) = keptL W q k ++ [W[k]] := by
  conv => lhs; unfold keptL
  rw [if_pos hq, List.getD_eq_getElem?_getD, List.getElem?_eq_getElem hk]; rfl
theorem keptL_no {W : List (Int × ByteArray)} {q : Nat → Bool} {k : Nat} (hq : q k = false) : keptL W q (k + 1) = keptL W q k := by
  conv => lhs; unfold keptL
  rw [if_neg (by rw [hq]; decide)]
theorem keptL_length (W : List (Int × ByteArray)) (q : Nat → Bool) (k : Nat) : (keptL W q k).length = cntq q k := by
  induction k with
  | zero => rfl
  | succ k ih =>
    cases hq : q k with
    | true => unfold keptL; rw [if_pos hq, List.length_append, ih, cntq_yes hq]; rfl
    | false => rw [keptL_no hq, cntq_no hq, ih]
theorem appl_left {S : List ByteArray} {L M : List (Int × ByteArray)} (k : Nat) (hk : k ≤ L.length) : appl S (L ++ M) (fun _ => true) k = appl S L (fun _ => true) k := by
  induction k with
  | zero => rfl
  | succ k ih =>
    have hlt : k < L.length := by omega
    unfold appl
    rw [if_pos rfl, if_pos rfl, ih (by omega)]
    rw [List.getD_eq_getElem?_getD, List.getD_eq_getElem?_getD, List.getElem?_append_left hlt]
theorem appl_kept {S : List ByteArray} {W : List (Int × ByteArray)} {q : Nat → Bool} {k : Nat} (hF : Fits W S.length) (hk : k ≤ W.length) : appl S (keptL W q k) (fun _ => true) (keptL W q k).length = appl S W q k ∧ Fits (keptL W q k) S.length := by
  induction k with
  | zero => exact ⟨rfl, fun j hj => by simp [keptL] at hj⟩
  | succ k ih =>
    obtain ⟨i1, i2⟩ := ih (by omega)
    cases hq : q k with
    | false => rw [keptL_no hq, appl_no hq]; exact ⟨i1, i2⟩
    | true =>
      obtain ⟨a, ha, hp⟩ := hF k (by omega)
      have hP : W[k] = ((a : Int), W[k].2) := by rw [← hp]
      rw [keptL_yes hq (by omega), appl_yes hq (by omega) hP]
      constructor
      · rw [List.length_append]
        have hl : (keptL W q k).length < (keptL W q k ++ [W[k]]).length := by simp
        rw [show (keptL W q k).length + [W[k]].length = (keptL W q k).length + 1 from rfl, appl_yes (a := a) (t := W[k].2) rfl hl (by rw [List.getElem_append_right (Nat.le_refl _)]; simp only [Nat.sub_self, List.getElem_singleton]; exact hP), appl_left _ (Nat.le_refl _), i1]
      · intro j hj
        by_cases hlt : j < (keptL W q k).length
        · rw [List.getElem_append_left hlt]; exact i2 j hlt
        · rw [List.getElem_append_right (by omega)]
          simp only [List.getElem_singleton]
          exact ⟨a, ha, hp⟩
theorem rnew_bad (n : Int) (w : World) (h : n < 1 ∨ 4865 < n) : Calls Try.prog 24 #[.int .i64 n] w fun e w' => e = .returned (.tuple #[.agg #[.slice none 0 0, .slice none 0 0, .int .i64 0, .bool false, .int .i64 0], .bool false]) ∧ Below w.heap.size w w' := by
  by_cases h1 : n < 1
  · clear h
    go_enter Try.func24, Try.ntmps24
    go_wp2
    refine bodyPost_ret (v := .tuple #[.agg #[.slice none 0 0, .slice none 0 0, .int .i64 0, .bool false, .int .i64 0], .bool false]) (by simp [results, Try.results24, go_sem]) rfl ⟨rfl, ?_⟩
    repeat (first | exact ((Below.refl _ w).alloc (Nat.le_refl _) _) | refine Below.setCell ?_ (by simp) _)
  · have h2 : 4865 < n := by omega
    clear h
    go_enter Try.func24, Try.ntmps24
    go_wp2
    refine bodyPost_ret (v := .tuple #[.agg #[.slice none 0 0, .slice none 0 0, .int .i64 0, .bool false, .int .i64 0], .bool false]) (by simp [results, Try.results24, go_sem]) rfl ⟨rfl, ?_⟩
    repeat (first | exact ((Below.refl _ w).alloc (Nat.le_refl _) _) | refine Below.setCell ?_ (by simp) _)
theorem SRow.zeros (w : World) (n : Nat) : SRow (w.alloc (.cells (List.replicate n (.string ⟨#[]⟩)).toArray 9)) w.heap.size (List.replicate n ⟨#[]⟩) := by
  intro j hj
  have hj' : j < n := by simpa using hj
  have hg : (w.alloc (.cells (List.replicate n (Value.string ⟨#[]⟩)).toArray 9)).heap[w.heap.size]? = some (.cells (List.replicate n (.string ⟨#[]⟩)).toArray 9 (0, 0)) := by
    show (w.heap.push _)[w.heap.size]? = _
    simp
  constructor
  · rw [cell_of_row _ _ j _ _ _ hg]
    simp [hj']
  · unfold World.frozen?
    simp only [hg]
    simp
/-- What New gives. -/
def NewRet (S : List ByteArray) (w : World) (e : Ending) (w' : World) : Prop :=
  ∃ g, e = .returned (.tuple #[.agg #[.slice (some ⟨g, 0, none⟩) S.length S.length, .slice none 0 0, .int .i64 0, .bool false, .int .i64 0], .bool true]) ∧ w.heap.size ≤ g ∧ g < w'.heap.size ∧ StrRow w' g S ∧ Below w.heap.size w w'
theorem fill_strs (n k : Nat) (z y : ByteArray) (h : k < n) : (List.replicate k z ++ List.replicate (n - k) y).set k z = List.replicate (k + 1) z ++ List.replicate (n - (k + 1)) y := by
  rw [List.set_append_right _ _ (by simp), List.length_replicate, Nat.sub_self, show n - k = (n - (k + 1)) + 1 by omega, List.replicate_succ, List.set_cons_zero, List.replicate_succ', List.append_assoc]
  rfl
set_option maxRecDepth 100000 in
set_option maxHeartbeats 1000000 in
theorem rnew_ok (n : Nat) (w : World) (h1 : 1 ≤ n) (h2 : n ≤ 4865) (Z : ByteArray) (hZ : bs (List.replicate 512 0) = Z) : Calls Try.prog 24 #[.int .i64 (n : Int)] w (NewRet (List.replicate n Z) w) := by
  have n1 := Lib.hid (fun w => rzeros_lit 512 512 Z rfl hZ w (by omega) (by omega))
  have km := run_make9 (w.alloc (.cells #[.slice none 0 0, .slice none 0 0, .int .i64 0, .bool false, .int .i64 0] 52)) n (by omega)
  have hR0 := SRow.zeros (w.alloc (.cells #[.slice none 0 0, .slice none 0 0, .int .i64 0, .bool false, .int .i64 0] 52)) n
  have hS : (w.alloc (.cells #[.slice none 0 0, .slice none 0 0, .int .i64 0, .bool false, .int .i64 0] 52)).heap.size = w.heap.size + 1 := by simp
  rw [hS] at km hR0
  have FR := (Five.new w (.slice none 0 0) (.slice none 0 0) (.int .i64 0) (.bool false) (.int .i64 0) 52).alloc (.cells (List.replicate n (.string ⟨#[]⟩)).toArray 9)
  have hB0 : Below w.heap.size w ((w.alloc (.cells #[.slice none 0 0, .slice none 0 0, .int .i64 0, .bool false, .int .i64 0] 52)).alloc (.cells (List.replicate n (.string ⟨#[]⟩)).toArray 9)) := ((Below.refl _ w).alloc (Nat.le_refl _) _).alloc (by simp) _
  have hsz : ((w.alloc (.cells #[.slice none 0 0, .slice none 0 0, .int .i64 0, .bool false, .int .i64 0] 52)).alloc (.cells (List.replicate n (.string ⟨#[]⟩)).toArray 9)).heap.size = w.heap.size + 2 := by simp
  generalize (w.alloc (.cells #[.slice none 0 0, .slice none 0 0, .int .i64 0, .bool false, .int .i64 0] 52)).alloc (.cells (List.replicate n (.string ⟨#[]⟩)).toArray 9) = wa at km hR0 FR hB0 hsz
  have HSZ := Lib.hid hsz
  clear hZ hS hsz
  go_enter Try.func24, Try.ntmps24
  go_wp2_with fail
  refine (n1.out _).mono ?_
  rintro e w1 ⟨rfl, B⟩
  have hws : wa.heap.size = w.heap.size + 2 := HSZ.out
  have F1 := (Five.new wa (.slice (some ⟨w.heap.size + 1, 0, none⟩) n n) (.slice none 0 0) (.int .i64 0) (.bool false) (.int .i64 0) 52).below B (by simp)
  have F2 := (FR.alloc (.cells #[.slice (some ⟨w.heap.size + 1, 0, none⟩) n n, .slice none 0 0, .int .i64 0, .bool false, .int .i64 0] 52)).below B (by have := FR.lt; simp; omega)
  have hB1 := below_to (hB0.alloc hB0.size (.cells #[.slice (some ⟨w.heap.size + 1, 0, none⟩) n n, .slice none 0 0, .int .i64 0, .bool false, .int .i64 0] 52)) B
  have hR1 : SRow w1 (w.heap.size + 1) (List.replicate n ⟨#[]⟩) := fun j hj => by
    obtain ⟨q1, q2⟩ := hR0 j hj
    have hbk : w1.heap[w.heap.size + 1]? = wa.heap[w.heap.size + 1]? := (B.block (w.heap.size + 1) (by simp; omega)).trans (Below.heap_alloc wa _ _ (by omega))
    exact ⟨(World.cell?_of_block (a := ⟨w.heap.size + 1, j, none⟩) hbk).trans q1, (World.frozen?_of_block (a := ⟨w.heap.size + 1, j, none⟩) hbk).trans q2⟩
  have hsz1 : w.heap.size + 2 < w1.heap.size := by have := F1.lt; omega
  rw [hws] at F1 ⊢
  clear B hR0 FR hB0 km HSZ hws n1
  go_wp2_with fail
  go_loopw [6] (fun i wx => ∃ (k : Nat) (l : List ByteArray), k ≤ n ∧ Hid (l = List.replicate k Z ++ List.replicate (n - k) ⟨#[]⟩) ∧ SRow wx (w.heap.size + 1) l ∧ Five wx (w.heap.size + 2) (.slice (some ⟨w.heap.size + 1, 0, none⟩) n n) (.slice none 0 0) (.int .i64 0) (.bool false) (.int .i64 0) ∧ Five wx w.heap.size (.slice none 0 0) (.slice none 0 0) (.int .i64 0) (.bool false) (.int .i64 0) ∧ Below w.heap.size w wx ∧ i = .int .i64 (k : Int)) (fun i _ => n - (intOf i).toNat)
  case atStart => exact ⟨0, _, by omega, Lib.hid rfl, hR1, F1, F2, hB1, rfl⟩
  case round =>
    clear F1 F2 hB1 hR1
    obtain ⟨k, l, hk, HL, hR, F1, F2, hB, rfl⟩ := hrel
    have hll : l.length = n := by rw [HL.out]; simp; omega
    by_cases hlt : k < n
    · obtain ⟨x1, x2⟩ := hR k (by omega)
      have G1 := F1.block (heap_set wr (w.heap.size + 1) k (.string Z) (w.heap.size + 2) (by omega))
      have G2 := F2.block (heap_set wr (w.heap.size + 1) k (.string Z) w.heap.size (by omega))
      have hR' := hR.put k Z
      have hB' := hB.setCell (p := ⟨w.heap.size + 1, k, none⟩) (by simp) (.string Z)
      generalize l[k] = old at x1
      have c0 := F1.c0
      clear hll hR hB F2
      go_wp2_with fail
      go_roundw
      case rel => exact ⟨k + 1, l.set k Z, by omega, Lib.hid (by rw [HL.out, fill_strs n k _ _ hlt]), hR', G1, G2, hB', by go_num⟩
      case measure => simp [intOf]; omega
    · obtain rfl : k = n := by omega
      have hl : l = List.replicate k Z := by rw [HL.out]; simp
      subst hl
      have hlen : (List.replicate k Z).length = k := by simp
      have HX : Hid (∀ w' : World, Below w.heap.size w w' → wr.heap.size ≤ w'.heap.size → w'.heap[w.heap.size + 1]? = wr.heap[w.heap.size + 1]? → NewRet (List.replicate k Z) w (.returned (.tuple #[.agg #[.slice (some ⟨w.heap.size + 1, 0, none⟩) k k, .slice none 0 0, .int .i64 0, .bool false, .int .i64 0], .bool true])) w') := Lib.hid (fun w' B hs hb => ⟨w.heap.size + 1, by rw [hlen], by omega, by have := F1.lt; omega, (show StrRow wr (w.heap.size + 1) (List.replicate k Z) from fun j hj => (hR j hj).1).block hb, B⟩)
      clear hlen hll HL hR
      obtain ⟨c0, c1, c2, c3, c4, f0, f1, f2, f3, f4⟩ := F1
      obtain ⟨d0, d1, d2, d3, d4, e0, e1, e2, e3, e4⟩ := F2
      go_wp2_with fail
      refine bodyPost_ret (v := .tuple #[.agg #[.slice (some ⟨w.heap.size + 1, 0, none⟩) k k, .slice none 0 0, .int .i64 0, .bool false, .int .i64 0], .bool true]) (by simp [results, Try.results24, go_sem, d0, d1, d2, d3, d4]) rfl ?_
      refine HX.out _ ?_ ?_ ?_
      · iterate 5 refine Below.setCell ?_ (by simp) _
        exact hB
      · simp
      · iterate 5 refine (heap_set _ _ _ _ _ (by omega)).trans ?_
        rfl
end Go.Proofs.Ytplngodilalbhaa
