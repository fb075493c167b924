/- Contract: Put. -/
import Derived.Test.YtnjpijihjifkfaaTG
namespace Go.Proofs.Ytnjpijihjifkfaa
open Go.RowKit
set_option linter.unusedVariables false
theorem copy_any (w : World) (g o dLen dCap i c : Nat) (a dp : Option Addr) (cur : Array Value) (J : List It) (hJ : Its w a i J) (hg : w.heap[g]? = some (.cells cur 44 (0, 0))) (hi : i ≤ dLen) (hfit : o + i * 2 ≤ cur.size) (hdp : 0 < i → dp = some ⟨g, o, none⟩) (ty : TypeId) :
    (Builtin.copy_ #[22, 22] ty #[.slice dp dLen dCap, .slice a i c]).run Try.prog w = .ok (goInt i) (w.setRow g (cur.toList.take o ++ flatI J ++ cur.toList.drop (o + i * 2)).toArray) := by
  by_cases h0 : i = 0
  · subst h0
    have hJ0 : J = [] := List.length_eq_zero_iff.1 hJ.1
    subst hJ0
    rw [run_copyk_none w 22 22 ty 44 dp a dLen dCap 0 c 2 Try.underlying22 size44 (by simp)]
    have e : (cur.toList.take o ++ flatI [] ++ cur.toList.drop (o + 0 * 2)).toArray = cur := by simp [flatI]
    rw [e, setRow_self w g cur 44 (0, 0) hg]
    rfl
  · rcases hJ.2 with h1 | ⟨b, off, rfl, hb, hc⟩
    · omega
    · rw [hdp (by omega)]
      have hl : (flatI J).length = i * 2 := by rw [flatI_length, hJ.1]
      have := run_copyk w 22 22 ty 44 g o dLen dCap ⟨b, off, none⟩ i c cur 44 (flatI J) 2 i Try.underlying22 size44 hg (Nat.min_eq_left hi) hl (flat_cells hJ.1 hc) (by rw [hl]; exact hfit) (flatI_one J)
      rwa [hl] at this
theorem only_setRow (w : World) (g : Nat) (cs : Array Value) : Only g w (w.setRow g cs) :=
  ⟨rfl, rfl, rfl, by simp [World.setRow], fun k _ hk => setRow_other w g k cs hk⟩
theorem put_list (A B Z : List Value) (p q : Value) (hZ : Z.length = A.length + 2 + B.length) :
    ((((A ++ Z.drop A.length).set A.length p).set (A.length + 1) q).take (A.length + 2) ++ B ++ (((A ++ Z.drop A.length).set A.length p).set (A.length + 1) q).drop (A.length + 2 + B.length)) = A ++ [p, q] ++ B := by
  obtain ⟨z0, z1, R, hR⟩ : ∃ z0 z1 R, Z.drop A.length = z0 :: z1 :: R := by
    have : (Z.drop A.length).length = 2 + B.length := by rw [List.length_drop]; omega
    match h : Z.drop A.length with
    | [] => rw [h] at this; simp at this; omega
    | [x] => rw [h] at this; simp at this; omega
    | x :: y :: R => exact ⟨x, y, R, rfl⟩
  have hRl : R.length = B.length := by
    have : (Z.drop A.length).length = 2 + B.length := by rw [List.length_drop]; omega
    rw [hR] at this; simp at this; omega
  rw [hR, List.set_append_right _ _ (Nat.le_refl _), Nat.sub_self, List.set_cons_zero, List.set_append_right _ _ (by omega), show A.length + 1 - A.length = 1 by omega, List.set_cons_succ, List.set_cons_zero]
  have e1 : (A ++ p :: q :: R).take (A.length + 2) = A ++ [p, q] := by rw [List.take_append, List.take_of_length_le (by omega)]; simp
  have e2 : (A ++ p :: q :: R).drop (A.length + 2 + B.length) = [] := List.drop_of_length_le (by simp; omega)
  rw [e1, e2, List.append_nil]
theorem its_row {w : World} {g : Nat} {cur : Array Value} {fr : Nat × Nat} {T : TypeId} {J : List It} (hg : w.heap[g]? = some (.cells cur T fr)) (h : cur.toList = flatI J) : Its w (some ⟨g, 0, none⟩) J.length J := by
  refine ⟨rfl, .inr ⟨g, 0, rfl, (Array.getElem?_eq_some_iff.1 hg).1, fun j hj => ?_⟩⟩
  have h1 := flatI_get J j hj
  rw [← h] at h1
  simp only [Array.getElem?_toList] at h1
  simp only [Nat.zero_add]
  exact ⟨by rw [cell_of_row w g _ _ _ _ hg]; exact h1.1, by rw [cell_of_row w g _ _ _ _ hg]; exact h1.2⟩
theorem run_mk22 (w : World) (m : Nat) (hm : m ≤ 4398046511104) : (Instr.makeSlice 22 (.int .i64 (m : Int)) (.int .i64 (m : Int))).run Try.prog w = .ok (.slice (some ⟨w.heap.size, 0, none⟩) m m) (w.alloc (.cells (madeCells (Value.agg #[.string ByteArray.empty, .string ByteArray.empty]).cells (m * 2)) 44)) := by
  obtain ⟨i0, hi, hz0, hz1, hz2⟩ := info_parts info44
  have := run_make (P := Try.prog) w 22 44 i0 _ Try.underlying22 hi hz0 .i64 .i64 m m (by omega) (by omega) (by rw [hz2]; omega) (by omega)
  rw [this]
  simp only [Int.toNat_natCast]
  rw [hz1]
/-- A slice lies below a height, if it has anything. -/
def Inn (h : Nat) (a : Option Addr) (n : Nat) : Prop := n = 0 ∨ ∃ b off, a = some ⟨b, off, none⟩ ∧ b < h
theorem Its.inn {w : World} {a : Option Addr} {n : Nat} {I : List It} (h : Its w a n I) : Inn w.heap.size a n := by
  rcases h.2 with h0 | ⟨b, off, ha, hb, _⟩
  · exact .inl h0
  · exact .inr ⟨b, off, ha, hb⟩
theorem Inn.cut {h : Nat} {a : Option Addr} {n c i sz : Nat} (H : Inn h a n) : Inn h (cutA sz a c i) (n - i) := by
  rcases H with h0 | ⟨b, off, rfl, hb⟩
  · exact .inl (by omega)
  · right
    unfold cutA
    split
    · exact ⟨b, off, rfl, hb⟩
    · exact ⟨b, off + i * sz, by rw [Option.map_some, add_at], hb⟩
theorem Its.far {w w1 : World} {a : Option Addr} {n g h : Nat} {I : List It} (H : Its w a n I) (hi : Inn h a n) (hg : h ≤ g) (O : Only g w w1) : Its w1 a n I :=
  H.block (fun b off ha hn => by
    rcases hi with h0 | ⟨b2, off2, h2, hb2⟩
    · omega
    · rw [ha] at h2
      simp only [Option.some.injEq, Addr.mk.injEq, and_true] at h2
      rcases H.2 with h3 | ⟨b3, off3, h3, hb3, _⟩
      · omega
      · rw [ha] at h3
        simp only [Option.some.injEq, Addr.mk.injEq, and_true] at h3
        exact ⟨Nat.lt_of_lt_of_le (by omega) O.size, O.block b (by omega) (by omega)⟩)
theorem run_lo22s (a : Option Addr) (n c i : Nat) (h1 : i + 1 ≤ n) (w : World) : (Instr.slice 22 (.slice a n c) (some (.int .i64 ((i : Int) + 1))) none none).run Try.prog w = .ok (.slice (cutA 2 a c (i + 1)) (n - (i + 1)) (c - (i + 1))) w := run_lo22 a n c (i + 1) h1 w
theorem run_lo22o (a : Option Addr) (n c : Nat) (h1 : 1 ≤ n) (w : World) : (Instr.slice 22 (.slice a n c) (some (.int .i64 1)) none none).run Try.prog w = .ok (.slice (cutA 2 a c 1) (n - 1) (c - 1)) w := run_lo22 a n c 1 h1 w
section
variable {w : World} {a : Option Addr} {n c : Nat} {ka : Option Addr} {kn kc : Nat} {I : List It}
set_option maxRecDepth 100000 in
set_option maxHeartbeats 4000000 in
theorem putLeaf_any (p q : ByteArray) (hI : Its w a n I) (hn : n ≤ 2000) (hnc : n ≤ c) (hR : RiseTo I I.length) :
    Calls Try.prog 26 #[.agg #[.slice a n c, .slice ka 0 kc], .agg #[.string p, .string q]] w (NdRet w (putL I (p, q)) []) := by
  have hp := posN_pos I p hR
  have hfr := find_rest (key := p) hR
  have hpe := put_eq (x := (p, q)) hR
  obtain ⟨i, y, hf⟩ : ∃ i y, findN true I p = (i, y) := ⟨_, _, rfl⟩
  have hy : hasN I p = y := by have := congrArg Prod.snd hf; exact this
  rw [hf, hy] at hfr
  simp only at hpe hfr
  rw [hf] at hpe
  simp only at hpe
  obtain ⟨m, hm⟩ : ∃ m, posN I p = m := ⟨_, rfl⟩
  rw [hm] at hp hfr hpe
  have hmn : m ≤ n := by have := hp.1; rw [hI.1] at this; exact this
  have hin : i ≤ n := by have := hfr.2; rw [hI.1] at this; exact this
  have KF := Lib.hid (fun (w1 : World) (B : Below w.heap.size w w1) => find_any (c := c) (ka := ka) (kn := 0) (kc := kc) p (hI.below B) (by omega) hR true rfl i y hf)
  have KL := Lib.hid (fun w => isLeaf_yes a n c ka kc w)
  have N0 := ((Nd.new w a n c ka 0 kc 31).below (new_below _ (.cells #[.string p, .string q] 44))).below (new_below _ (.cells #[.slice none 0 0, .slice none 0 0] 31))
  have hX := (ItB.new (w.alloc (.cells #[.slice a n c, .slice ka 0 kc] 31)) p q).below (new_below _ (.cells #[.slice none 0 0, .slice none 0 0] 31))
  have N1 := Nb.fresh ((w.alloc (.cells #[.slice a n c, .slice ka 0 kc] 31)).alloc (.cells #[.string p, .string q] 44)) (.slice none 0 0) (.slice none 0 0) 31
  have hs1 : (w.alloc (.cells #[.slice a n c, .slice ka 0 kc] 31)).heap.size = w.heap.size + 1 := by simp
  have hs2 : ((w.alloc (.cells #[.slice a n c, .slice ka 0 kc] 31)).alloc (.cells #[.string p, .string q] 44)).heap.size = w.heap.size + 1 + 1 := by simp
  rw [hs1] at hX
  rw [hs2] at N1
  have hBB := below_to (below_to (new_below w (.cells #[.slice a n c, .slice ka 0 kc] 31)) (new_below _ (.cells #[.string p, .string q] 44))) (new_below _ (.cells #[.slice none 0 0, .slice none 0 0] 31))
  have HI := Lib.hid hI
  have HPE := Lib.hid hpe
  have HFR := Lib.hid hfr.1
  have HL := Lib.hid hI.1
  clear hI hp hpe hf hy hm hfr hs1 hs2
  go_enter Try.func26, Try.ntmps26
  go_wp2_with fail
  generalize ((w.alloc (.cells #[.slice a n c, .slice ka 0 kc] 31)).alloc (.cells #[.string p, .string q] 44)).alloc (.cells #[.slice none 0 0, .slice none 0 0] 31) = w1 at N0 hX N1 hBB ⊢
  refine (KL.out _).mono ?_
  rintro e w2 ⟨rfl, hb⟩
  replace N0 := N0.below hb
  replace hX := hX.below hb
  replace N1 := N1.below hb
  replace hBB := below_to hBB hb
  clear hb
  have c0 := N0.c0
  have c1 := N0.c1
  have x0 := hX.cells.1
  go_wp2_with fail
  refine (KF.out _ hBB).mono ?_
  rintro e w3 ⟨rfl, hb⟩
  replace N0 := N0.below hb
  replace hX := hX.below hb
  replace N1 := N1.below hb
  replace hBB := below_to hBB hb
  clear hb c0 c1 x0
  have c0 := N0.c0
  cases y with
  | false =>
    have q1 := fun w => run_lo22 a n c i hin w
    have hmi : i = m := by have := HFR.out; simpa using this
    have hrst := HI.out.cut hin hnc
    have hRinn := (HI.out.inn).cut (c := c) (i := i) (sz := 2)
    rw [show I.drop i = I.drop m by rw [hmi]] at hrst
    obtain ⟨rn, hrn⟩ : ∃ rn, n - i = rn := ⟨_, rfl⟩
    obtain ⟨rc, hrc⟩ : ∃ rc, c - i = rc := ⟨_, rfl⟩
    generalize hra : cutA 2 a c i = ra at q1 hrst hRinn
    rw [hrn] at q1 hrst hRinn
    rw [hrc] at q1
    have hrnn : rn ≤ n := by omega
    clear hra hrn hmi hrc
    have HLR := Lib.hid (show (I.drop m).length = rn from hrst.1)
    obtain ⟨L, hL⟩ : ∃ L, i + 1 + rn = L := ⟨_, rfl⟩
    have hLi : (i : Int) + 1 + (rn : Int) = (L : Int) := by omega
    have km := run_mk22 w3 L (by omega)
    have hLL := Lib.hid hL
    have hiL : i ≤ L := by omega
    have hiL1 : i < L := by omega
    have hic : i ≤ c := by omega
    have q3 := fun w => run_lo22s (some ⟨w3.heap.size, 0, none⟩) L L i hiL1 w
    rw [show L - (i + 1) = rn by omega] at q3
    have hda : 0 < rn → cutA 2 (some ⟨w3.heap.size, 0, none⟩) L (i + 1) = some ⟨w3.heap.size, (i + 1) * 2, none⟩ := by
      intro h0
      unfold cutA
      rw [if_neg (by omega), Option.map_some, add_at, Nat.zero_add]
    generalize cutA 2 (some ⟨w3.heap.size, 0, none⟩) L (i + 1) = da at q3 hda
    have hZ : (madeCells (Value.agg #[.string ByteArray.empty, .string ByteArray.empty]).cells (L * 2)).size = L * 2 := size_madeCells _ _
    generalize madeCells (Value.agg #[.string ByteArray.empty, .string ByteArray.empty]).cells (L * 2) = Z at km hZ
    have hg0 : (w3.alloc (.cells Z 44)).heap[w3.heap.size]? = some (.cells Z 44 (0, 0)) := heap_alloc_new w3 _
    have N0a := N0.below (new_below w3 (.cells Z 44))
    have hXa := hX.below (new_below w3 (.cells Z 44))
    have N1a := N1.below (new_below w3 (.cells Z 44))
    have hBa := below_to hBB (new_below w3 (.cells Z 44))
    have hn1 : w.heap.size + 1 + 1 < w3.heap.size := N1.lt
    obtain ⟨g, hgg⟩ : ∃ g, w3.heap.size = g := ⟨_, rfl⟩
    rw [hgg] at km q3 hda hg0 hn1
    generalize w3.alloc (.cells Z 44) = w4 at km hg0 N0a hXa N1a hBa
    clear N0 hX N1 hBB hgg hL
    have c0a := N0a.c0
    have kcp := copy_any w4 g 0 L L i c a _ Z (I.take i) ((HI.out.below hBa).take hin) hg0 hiL (by omega) (fun _ => rfl) 3
    have O5 := only_setRow w4 g (Z.toList.take 0 ++ flatI (I.take i) ++ Z.toList.drop (0 + i * 2)).toArray
    have hg5 := setRow_heap w4 g Z (Z.toList.take 0 ++ flatI (I.take i) ++ Z.toList.drop (0 + i * 2)).toArray 44 (0, 0) hg0
    have hA : (flatI (I.take i)).length = i * 2 := by rw [flatI_length, List.length_take, HL.out, Nat.min_eq_left hin]
    have hZl : Z.toList.length = L * 2 := by rw [Array.length_toList]; exact hZ
    have hYe : Z.toList.take 0 ++ flatI (I.take i) ++ Z.toList.drop (0 + i * 2) = flatI (I.take i) ++ Z.toList.drop (flatI (I.take i)).length := by rw [hA, Nat.zero_add, List.take_zero, List.nil_append]
    have hc5 : (Z.toList.take 0 ++ flatI (I.take i) ++ Z.toList.drop (0 + i * 2)).length = L * 2 := by
      simp only [List.take_zero, List.nil_append, List.length_append, List.length_drop, Nat.zero_add]; omega
    obtain ⟨Y, hY⟩ : ∃ Y, Z.toList.take 0 ++ flatI (I.take i) ++ Z.toList.drop (0 + i * 2) = Y := ⟨_, rfl⟩
    rw [hY] at O5 hg5 hc5 kcp hYe
    have N0b : Nd (w4.setRow g Y.toArray) w.heap.size a n c ka 0 kc := ⟨Nat.lt_of_lt_of_le N0a.lt O5.size, (O5.cell N0a.lt (by omega)).trans N0a.c0, (O5.cell N0a.lt (by omega)).trans N0a.c1⟩
    have hXb : ItB (w4.setRow g Y.toArray) (w.heap.size + 1) p q := (O5.block _ (Array.getElem?_eq_some_iff.1 hXa).1 (by omega)).trans hXa
    have N1b := N1a.only O5 (by omega)
    have hBb : Below w.heap.size w (w4.setRow g Y.toArray) := O5.below hBa (by omega) hBa.size
    generalize w4.setRow g Y.toArray = w5 at kcp hg5 N0b hXb N1b hBb
    clear N0a hXa N1a O5 hY hg0 hBa
    have k0 : w5.cell? ⟨g, i * 2, none⟩ = some (Y.getD (i * 2) (.bool false)) := by
      rw [cell_of_row w5 g _ _ _ _ hg5]; simp; rw [List.getElem?_eq_getElem (by omega)]; simp
    have k1 : w5.cell? ⟨g, i * 2 + 1, none⟩ = some (Y.getD (i * 2 + 1) (.bool false)) := by
      rw [cell_of_row w5 g _ _ _ _ hg5]; simp; rw [List.getElem?_eq_getElem (by omega)]; simp
    have kf0 : w5.frozen? ⟨g, i * 2, none⟩ = false := by simp [World.frozen?, hg5]
    have kf1 : w5.frozen? ⟨g, i * 2 + 1, none⟩ = false := by simp [World.frozen?, hg5]
    have x0 := hXb.cells.1
    have x1 := hXb.cells.2
    have e6 : (w5.setCell ⟨g, i * 2, none⟩ (.string p)).setCell ⟨g, i * 2 + 1, none⟩ (.string q) = w5.setRow g ((Y.set (i * 2) (.string p)).set (i * 2 + 1) (.string q)).toArray := by
      rw [setCell_eq_setRow w5 g (i * 2) _ _ _ _ hg5, setCell_eq_setRow _ g (i * 2 + 1) _ _ _ _ (setRow_heap w5 g _ _ 44 (0, 0) hg5), setRow_setRow]
      simp
    have O6 := only_setRow w5 g ((Y.set (i * 2) (.string p)).set (i * 2 + 1) (.string q)).toArray
    have hg6 := setRow_heap w5 g Y.toArray ((Y.set (i * 2) (.string p)).set (i * 2 + 1) (.string q)).toArray 44 (0, 0) hg5
    rw [← e6] at O6 hg6
    have hR6 := (hrst.below hBb).far hRinn (Nat.le_trans (by omega) (Nat.le_of_lt hn1)) O6
    have N1c := N1b.only O6 (by omega)
    have hBc : Below w.heap.size w _ := O6.below hBb (by omega) hBb.size
    have kcq := copy_any _ g ((i + 1) * 2) rn rn rn rc ra da _ (I.drop m) hR6 hg6 (Nat.le_refl _) (by simp; omega) hda 3
    have O7 := only_setRow ((w5.setCell ⟨g, i * 2, none⟩ (.string p)).setCell ⟨g, i * 2 + 1, none⟩ (.string q)) g (((Y.set (i * 2) (.string p)).set (i * 2 + 1) (.string q)).toArray.toList.take ((i + 1) * 2) ++ flatI (I.drop m) ++ ((Y.set (i * 2) (.string p)).set (i * 2 + 1) (.string q)).toArray.toList.drop ((i + 1) * 2 + rn * 2)).toArray
    have hg7 := setRow_heap _ g _ (((Y.set (i * 2) (.string p)).set (i * 2 + 1) (.string q)).toArray.toList.take ((i + 1) * 2) ++ flatI (I.drop m) ++ ((Y.set (i * 2) (.string p)).set (i * 2 + 1) (.string q)).toArray.toList.drop ((i + 1) * 2 + rn * 2)).toArray 44 (0, 0) hg6
    have hfin : ((Y.set (i * 2) (.string p)).set (i * 2 + 1) (.string q)).toArray.toList.take ((i + 1) * 2) ++ flatI (I.drop m) ++ ((Y.set (i * 2) (.string p)).set (i * 2 + 1) (.string q)).toArray.toList.drop ((i + 1) * 2 + rn * 2) = flatI (putL I (p, q)) := by
      have hB : (flatI (I.drop m)).length = rn * 2 := by rw [flatI_length, HLR.out]
      have h := put_list (flatI (I.take i)) (flatI (I.drop m)) Z.toList (.string p) (.string q) (by omega)
      rw [← hYe, hA, hB] at h
      rw [HPE.out, flatI_app, flatI_app]
      simp only
      rw [show (i + 1) * 2 = i * 2 + 2 by omega, h]
      simp [flatI, itemV]
    rw [hfin] at O7 hg7 kcq
    have hLp : (putL I (p, q)).length = L := by
      rw [HPE.out, List.length_append, List.length_append, List.length_take, HL.out, HLR.out, Nat.min_eq_left hin, ← hLL.out]; rfl
    have N1d := N1c.only O7 (by omega)
    have hBd : Below w.heap.size w _ := O7.below hBc (by omega) hBc.size
    generalize ((w5.setCell ⟨g, i * 2, none⟩ (.string p)).setCell ⟨g, i * 2 + 1, none⟩ (.string q)).setRow g (flatI (putL I (p, q))).toArray = w7 at kcq hg7 N1d hBd
    clear N0b hXb N1b hBb O6 O7 hg6 hR6 N1c hBc hfin hg5 e6 hYe hA hZl hc5 hZ hrst hRinn hda
    have hJ := its_row (J := putL I (p, q)) hg7 (by simp)
    rw [hLp] at hJ
    have M := (N1d.set0 (.slice (some ⟨g, 0, none⟩) L L)).set1 (.slice none 0 0)
    have hF : Fresh g (some (⟨g, 0, none⟩ : Addr)) := by intro x hx; simp at hx; subst hx; exact Nat.le_refl _
    have HJ := Lib.hid ((hJ.set (g := w.heap.size + 1 + 1) (o := 0) (x := .slice (some ⟨g, 0, none⟩) L L) hF hn1).set (g := w.heap.size + 1 + 1) (o := 1) (x := .slice none 0 0) hF hn1)
    have HB := Lib.hid ((hBd.setCell (p := ⟨w.heap.size + 1 + 1, 0, none⟩) (by show w.heap.size ≤ w.heap.size + 1 + 1; omega) (.slice (some ⟨g, 0, none⟩) L L)).setCell (p := ⟨w.heap.size + 1 + 1, 1, none⟩) (by show w.heap.size ≤ w.heap.size + 1 + 1; omega) (.slice none 0 0))
    have d0 := N1d.c0
    have d1 := N1d.c1
    have f0 := N1d.f0
    have f1 := N1d.f1
    have m0 := M.c0
    have m1 := M.c1
    clear hJ hg7 hBd hLp
    go_wp2_with fail
    refine bodyPost_ret (v := .agg #[.slice (some ⟨g, 0, none⟩) L L, .slice none 0 0]) (by simp [results, Try.results26, go_sem, m0, m1]) rfl ?_
    exact ⟨_, _, _, _, _, _, rfl, Nat.le_refl _, Nat.le_refl _, hF.mono (by omega), (by intro x hx; cases hx), HJ.out, ⟨rfl, .inl rfl⟩, HB.out⟩
  | true =>
    have hmi : i + 1 = m := by have := HFR.out; simpa using this
    have q1 := fun w => run_lo22 a n c i hin w
    have q2 := fun w => run_lo22o (cutA 2 a c i) (n - i) (c - i) (by omega) w
    have hrst := (HI.out.cut hin hnc).cut (i := 1) (by omega) (show n - i ≤ c - i by omega)
    have hRinn := ((HI.out.inn).cut (c := c) (i := i) (sz := 2)).cut (c := c - i) (i := 1) (sz := 2)
    rw [List.drop_drop, show i + 1 = m from hmi] at hrst
    obtain ⟨rn, hrn⟩ : ∃ rn, n - i - 1 = rn := ⟨_, rfl⟩
    obtain ⟨rc, hrc⟩ : ∃ rc, c - i - 1 = rc := ⟨_, rfl⟩
    generalize hra : cutA 2 (cutA 2 a c i) (c - i) 1 = ra at q2 hrst hRinn
    rw [hrn] at q2 hrst hRinn
    rw [hrc] at q2
    have hrnn : rn ≤ n := by omega
    clear hra hrn hmi hrc
    have HLR := Lib.hid (show (I.drop m).length = rn from hrst.1)
    obtain ⟨L, hL⟩ : ∃ L, i + 1 + rn = L := ⟨_, rfl⟩
    have hLi : (i : Int) + 1 + (rn : Int) = (L : Int) := by omega
    have km := run_mk22 w3 L (by omega)
    have hLL := Lib.hid hL
    have hiL : i ≤ L := by omega
    have hiL1 : i < L := by omega
    have hic : i ≤ c := by omega
    have q3 := fun w => run_lo22s (some ⟨w3.heap.size, 0, none⟩) L L i hiL1 w
    rw [show L - (i + 1) = rn by omega] at q3
    have hda : 0 < rn → cutA 2 (some ⟨w3.heap.size, 0, none⟩) L (i + 1) = some ⟨w3.heap.size, (i + 1) * 2, none⟩ := by
      intro h0
      unfold cutA
      rw [if_neg (by omega), Option.map_some, add_at, Nat.zero_add]
    generalize cutA 2 (some ⟨w3.heap.size, 0, none⟩) L (i + 1) = da at q3 hda
    have hZ : (madeCells (Value.agg #[.string ByteArray.empty, .string ByteArray.empty]).cells (L * 2)).size = L * 2 := size_madeCells _ _
    generalize madeCells (Value.agg #[.string ByteArray.empty, .string ByteArray.empty]).cells (L * 2) = Z at km hZ
    have hg0 : (w3.alloc (.cells Z 44)).heap[w3.heap.size]? = some (.cells Z 44 (0, 0)) := heap_alloc_new w3 _
    have N0a := N0.below (new_below w3 (.cells Z 44))
    have hXa := hX.below (new_below w3 (.cells Z 44))
    have N1a := N1.below (new_below w3 (.cells Z 44))
    have hBa := below_to hBB (new_below w3 (.cells Z 44))
    have hn1 : w.heap.size + 1 + 1 < w3.heap.size := N1.lt
    obtain ⟨g, hgg⟩ : ∃ g, w3.heap.size = g := ⟨_, rfl⟩
    rw [hgg] at km q3 hda hg0 hn1
    generalize w3.alloc (.cells Z 44) = w4 at km hg0 N0a hXa N1a hBa
    clear N0 hX N1 hBB hgg hL
    have c0a := N0a.c0
    have kcp := copy_any w4 g 0 L L i c a _ Z (I.take i) ((HI.out.below hBa).take hin) hg0 hiL (by omega) (fun _ => rfl) 3
    have O5 := only_setRow w4 g (Z.toList.take 0 ++ flatI (I.take i) ++ Z.toList.drop (0 + i * 2)).toArray
    have hg5 := setRow_heap w4 g Z (Z.toList.take 0 ++ flatI (I.take i) ++ Z.toList.drop (0 + i * 2)).toArray 44 (0, 0) hg0
    have hA : (flatI (I.take i)).length = i * 2 := by rw [flatI_length, List.length_take, HL.out, Nat.min_eq_left hin]
    have hZl : Z.toList.length = L * 2 := by rw [Array.length_toList]; exact hZ
    have hYe : Z.toList.take 0 ++ flatI (I.take i) ++ Z.toList.drop (0 + i * 2) = flatI (I.take i) ++ Z.toList.drop (flatI (I.take i)).length := by rw [hA, Nat.zero_add, List.take_zero, List.nil_append]
    have hc5 : (Z.toList.take 0 ++ flatI (I.take i) ++ Z.toList.drop (0 + i * 2)).length = L * 2 := by
      simp only [List.take_zero, List.nil_append, List.length_append, List.length_drop, Nat.zero_add]; omega
    obtain ⟨Y, hY⟩ : ∃ Y, Z.toList.take 0 ++ flatI (I.take i) ++ Z.toList.drop (0 + i * 2) = Y := ⟨_, rfl⟩
    rw [hY] at O5 hg5 hc5 kcp hYe
    have N0b : Nd (w4.setRow g Y.toArray) w.heap.size a n c ka 0 kc := ⟨Nat.lt_of_lt_of_le N0a.lt O5.size, (O5.cell N0a.lt (by omega)).trans N0a.c0, (O5.cell N0a.lt (by omega)).trans N0a.c1⟩
    have hXb : ItB (w4.setRow g Y.toArray) (w.heap.size + 1) p q := (O5.block _ (Array.getElem?_eq_some_iff.1 hXa).1 (by omega)).trans hXa
    have N1b := N1a.only O5 (by omega)
    have hBb : Below w.heap.size w (w4.setRow g Y.toArray) := O5.below hBa (by omega) hBa.size
    generalize w4.setRow g Y.toArray = w5 at kcp hg5 N0b hXb N1b hBb
    clear N0a hXa N1a O5 hY hg0 hBa
    have k0 : w5.cell? ⟨g, i * 2, none⟩ = some (Y.getD (i * 2) (.bool false)) := by
      rw [cell_of_row w5 g _ _ _ _ hg5]; simp; rw [List.getElem?_eq_getElem (by omega)]; simp
    have k1 : w5.cell? ⟨g, i * 2 + 1, none⟩ = some (Y.getD (i * 2 + 1) (.bool false)) := by
      rw [cell_of_row w5 g _ _ _ _ hg5]; simp; rw [List.getElem?_eq_getElem (by omega)]; simp
    have kf0 : w5.frozen? ⟨g, i * 2, none⟩ = false := by simp [World.frozen?, hg5]
    have kf1 : w5.frozen? ⟨g, i * 2 + 1, none⟩ = false := by simp [World.frozen?, hg5]
    have x0 := hXb.cells.1
    have x1 := hXb.cells.2
    have e6 : (w5.setCell ⟨g, i * 2, none⟩ (.string p)).setCell ⟨g, i * 2 + 1, none⟩ (.string q) = w5.setRow g ((Y.set (i * 2) (.string p)).set (i * 2 + 1) (.string q)).toArray := by
      rw [setCell_eq_setRow w5 g (i * 2) _ _ _ _ hg5, setCell_eq_setRow _ g (i * 2 + 1) _ _ _ _ (setRow_heap w5 g _ _ 44 (0, 0) hg5), setRow_setRow]
      simp
    have O6 := only_setRow w5 g ((Y.set (i * 2) (.string p)).set (i * 2 + 1) (.string q)).toArray
    have hg6 := setRow_heap w5 g Y.toArray ((Y.set (i * 2) (.string p)).set (i * 2 + 1) (.string q)).toArray 44 (0, 0) hg5
    rw [← e6] at O6 hg6
    have hR6 := (hrst.below hBb).far hRinn (Nat.le_trans (by omega) (Nat.le_of_lt hn1)) O6
    have N1c := N1b.only O6 (by omega)
    have hBc : Below w.heap.size w _ := O6.below hBb (by omega) hBb.size
    have kcq := copy_any _ g ((i + 1) * 2) rn rn rn rc ra da _ (I.drop m) hR6 hg6 (Nat.le_refl _) (by simp; omega) hda 3
    have O7 := only_setRow ((w5.setCell ⟨g, i * 2, none⟩ (.string p)).setCell ⟨g, i * 2 + 1, none⟩ (.string q)) g (((Y.set (i * 2) (.string p)).set (i * 2 + 1) (.string q)).toArray.toList.take ((i + 1) * 2) ++ flatI (I.drop m) ++ ((Y.set (i * 2) (.string p)).set (i * 2 + 1) (.string q)).toArray.toList.drop ((i + 1) * 2 + rn * 2)).toArray
    have hg7 := setRow_heap _ g _ (((Y.set (i * 2) (.string p)).set (i * 2 + 1) (.string q)).toArray.toList.take ((i + 1) * 2) ++ flatI (I.drop m) ++ ((Y.set (i * 2) (.string p)).set (i * 2 + 1) (.string q)).toArray.toList.drop ((i + 1) * 2 + rn * 2)).toArray 44 (0, 0) hg6
    have hfin : ((Y.set (i * 2) (.string p)).set (i * 2 + 1) (.string q)).toArray.toList.take ((i + 1) * 2) ++ flatI (I.drop m) ++ ((Y.set (i * 2) (.string p)).set (i * 2 + 1) (.string q)).toArray.toList.drop ((i + 1) * 2 + rn * 2) = flatI (putL I (p, q)) := by
      have hB : (flatI (I.drop m)).length = rn * 2 := by rw [flatI_length, HLR.out]
      have h := put_list (flatI (I.take i)) (flatI (I.drop m)) Z.toList (.string p) (.string q) (by omega)
      rw [← hYe, hA, hB] at h
      rw [HPE.out, flatI_app, flatI_app]
      simp only
      rw [show (i + 1) * 2 = i * 2 + 2 by omega, h]
      simp [flatI, itemV]
    rw [hfin] at O7 hg7 kcq
    have hLp : (putL I (p, q)).length = L := by
      rw [HPE.out, List.length_append, List.length_append, List.length_take, HL.out, HLR.out, Nat.min_eq_left hin, ← hLL.out]; rfl
    have N1d := N1c.only O7 (by omega)
    have hBd : Below w.heap.size w _ := O7.below hBc (by omega) hBc.size
    generalize ((w5.setCell ⟨g, i * 2, none⟩ (.string p)).setCell ⟨g, i * 2 + 1, none⟩ (.string q)).setRow g (flatI (putL I (p, q))).toArray = w7 at kcq hg7 N1d hBd
    clear N0b hXb N1b hBb O6 O7 hg6 hR6 N1c hBc hfin hg5 e6 hYe hA hZl hc5 hZ hrst hRinn hda
    have hJ := its_row (J := putL I (p, q)) hg7 (by simp)
    rw [hLp] at hJ
    have M := (N1d.set0 (.slice (some ⟨g, 0, none⟩) L L)).set1 (.slice none 0 0)
    have hF : Fresh g (some (⟨g, 0, none⟩ : Addr)) := by intro x hx; simp at hx; subst hx; exact Nat.le_refl _
    have HJ := Lib.hid ((hJ.set (g := w.heap.size + 1 + 1) (o := 0) (x := .slice (some ⟨g, 0, none⟩) L L) hF hn1).set (g := w.heap.size + 1 + 1) (o := 1) (x := .slice none 0 0) hF hn1)
    have HB := Lib.hid ((hBd.setCell (p := ⟨w.heap.size + 1 + 1, 0, none⟩) (by show w.heap.size ≤ w.heap.size + 1 + 1; omega) (.slice (some ⟨g, 0, none⟩) L L)).setCell (p := ⟨w.heap.size + 1 + 1, 1, none⟩) (by show w.heap.size ≤ w.heap.size + 1 + 1; omega) (.slice none 0 0))
    have d0 := N1d.c0
    have d1 := N1d.c1
    have f0 := N1d.f0
    have f1 := N1d.f1
    have m0 := M.c0
    have m1 := M.c1
    clear hJ hg7 hBd hLp
    go_wp2_with fail
    refine bodyPost_ret (v := .agg #[.slice (some ⟨g, 0, none⟩) L L, .slice none 0 0]) (by simp [results, Try.results26, go_sem, m0, m1]) rfl ?_
    exact ⟨_, _, _, _, _, _, rfl, Nat.le_refl _, Nat.le_refl _, hF.mono (by omega), (by intro x hx; cases hx), HJ.out, ⟨rfl, .inl rfl⟩, HB.out⟩
end
end Go.Proofs.Ytnjpijihjifkfaa
