/- Contracts: a node, read; Decode. -/
import Derived.Test.YtnjpijihjifkfaaTC
namespace Go.Proofs.Ytnjpijihjifkfaa
open Go.RowKit
set_option linter.unusedVariables false
/-- A node is answered, in memory of the call's own. -/
def NdRet (w : World) (L : List It) (K : List Int) (e : Ending) (w' : World) : Prop :=
  ∃ a n c ka kn kc, e = .returned (.agg #[.slice a n c, .slice ka kn kc]) ∧ n ≤ c ∧ kn ≤ kc ∧ Fresh w.heap.size a ∧ Fresh w.heap.size ka ∧ Its w' a n L ∧ Kds w' ka kn K ∧ Below w.heap.size w w'
theorem Kds.block {w w1 : World} {a : Option Addr} {n : Nat} {K : List Int} (h : Kds w a n K) (H : ∀ b off, a = some ⟨b, off, none⟩ → 0 < n → b < w1.heap.size ∧ w1.heap[b]? = w.heap[b]?) : Kds w1 a n K := by
  refine ⟨h.1, ?_⟩
  rcases h.2 with h0 | ⟨b, off, ha, hb, hc⟩
  · exact .inl h0
  · by_cases h0 : n = 0
    · exact .inl h0
    · have hB := H b off ha (by omega)
      exact .inr ⟨b, off, ha, hB.1, fun j hj => (World.cell?_of_block (a := ⟨b, off + j, none⟩) hB.2).trans (hc j hj)⟩
theorem Its.set {w : World} {a : Option Addr} {n g o m : Nat} {I : List It} {x : Value} (h : Its w a n I) (hf : Fresh m a) (hg : g < m) : Its (w.setCell ⟨g, o, none⟩ x) a n I := by
  refine h.block (fun b off ha hn => ⟨?_, Below.heap_setCell w ⟨g, o, none⟩ x b (by have := hf _ ha; show b ≠ g; simp at this; omega)⟩)
  rcases h.2 with h0 | ⟨b2, off2, ha2, hb, _⟩
  · omega
  · rw [ha] at ha2; simp at ha2; simpa [ha2.1] using hb
theorem Kds.set {w : World} {a : Option Addr} {n g o m : Nat} {K : List Int} {x : Value} (h : Kds w a n K) (hf : Fresh m a) (hg : g < m) : Kds (w.setCell ⟨g, o, none⟩ x) a n K := by
  refine h.block (fun b off ha hn => ⟨?_, Below.heap_setCell w ⟨g, o, none⟩ x b (by have := hf _ ha; show b ≠ g; simp at this; omega)⟩)
  rcases h.2 with h0 | ⟨b2, off2, ha2, hb, _⟩
  · omega
  · rw [ha] at ha2; simp at ha2; simpa [ha2.1] using hb
theorem Fresh.mono {m n : Nat} {a : Option Addr} (h : Fresh n a) (hm : m ≤ n) : Fresh m a := fun x hx => Nat.le_trans hm (h x hx)
theorem numS1_lt (s : ByteArray) (e : Int) : (numS s e 1).2.2 < 256 := by
  have h : (numS s e 1).2.2 < 256 ^ 1 := numS_lt s e 1 (by omega) (by omega)
  simpa using h
set_option maxRecDepth 100000 in
set_option maxHeartbeats 2000000 in
theorem read_any (s : ByteArray) (w : World) (hs : s.size ≤ maxLen) : Calls Try.prog 34 #[.string s] w (NdRet w (readP s).1 (readP s).2) := by
  obtain ⟨t1, y1, k, h1⟩ : ∃ t1 y1 k, numS s 0 1 = (t1, y1, k) := ⟨_, _, _, rfl⟩
  obtain ⟨t2, y2, m, h2⟩ : ∃ t2 y2 m, numS t1 y1 1 = (t2, y2, m) := ⟨_, _, _, rfl⟩
  obtain ⟨t3, y3, z, h3⟩ : ∃ t3 y3 z, numS t2 y2 2 = (t3, y3, z) := ⟨_, _, _, rfl⟩
  have hw1 := numS_wf (n := 1) (show RWf s 0 from .inl rfl)
  have hl1 := numS_le s 0 1
  have hk := numS1_lt s 0
  rw [h1] at hw1 hl1 hk
  have hw2 := numS_wf (n := 1) hw1
  have hl2 := numS_le t1 y1 1
  have hm := numS1_lt t1 y1
  rw [h2] at hw2 hl2 hm
  simp only at hk hm hw1 hl1 hw2 hl2
  have hs1 := Nat.le_trans hl1 hs
  have hs2 := Nat.le_trans hl2 hs1
  have HP := Lib.hid (show readP s = if k = 1 then (rdLeaf m t2 y2, []) else if k = 2 then ((rdBr (m - 1) t3 y3).1, (z : Int) :: (rdBr (m - 1) t3 y3).2) else ([], []) by
    unfold readP; rw [h1]; simp only; rw [h2]; simp only; rw [h3])
  have K1 := Lib.hid (fun b w hr => rnumS_lit b s t1 0 y1 1 k h1 w hr (.inl rfl) hs)
  have K2 := Lib.hid (fun b w hr => rnumS_lit b t1 t2 y1 y2 1 m h2 w hr hw1 hs1)
  have K3 := Lib.hid (fun b w hr => readLeaf_any b m t2 y2 w hr hw2 hs2 (by omega))
  have K4 := Lib.hid (fun b w hr => readBranch_any b m t2 t3 y2 y3 z h3 w hr hw2 hs2 (by omega))
  have N0 := Nb.fresh w (.slice none 0 0) (.slice none 0 0) 31
  have B0 := new_below w (.cells #[.slice none 0 0, .slice none 0 0] 31)
  clear h1 h2 h3 hw1 hl1 hw2 hl2 hs1 hs2
  go_enter Try.func34, Try.ntmps34
  go_wp2_with fail
  refine (open_any _ _).mono ?_
  rintro e w1 ⟨rfl, R1, hb, hsz⟩
  have hrb : w.heap.size + 1 = (w.alloc (.cells #[.slice none 0 0, .slice none 0 0] 31)).heap.size := by simp
  rw [← hrb] at R1
  have N1 := N0.below hb
  have B1 := below_to B0 hb
  have hsz1 : w.heap.size ≤ w1.heap.size := B1.size
  clear hb hsz hrb N0 B0
  go_wp2_with fail
  refine (K1.out _ _ R1).mono ?_
  rintro e w2 ⟨rfl, R2, o2⟩
  have N2 := N1.only o2 (by omega)
  have B2 := o2.below B1 (by omega) hsz1
  have hsz2 : w.heap.size ≤ w2.heap.size := B2.size
  clear R1 o2 N1 B1 hsz1
  go_wp2_with fail
  refine (K2.out _ _ R2).mono ?_
  rintro e w3 ⟨rfl, R3, o3⟩
  have N3 := N2.only o3 (by omega)
  have B3 := o3.below B2 (by omega) hsz2
  have hsz3 : w.heap.size ≤ w3.heap.size := B3.size
  have hlt3 := N3.lt
  clear R2 o3 N2 B2 hsz2
  by_cases hk1 : k = 1
  · have HP2 := Lib.hid (show readP s = (rdLeaf m t2 y2, []) by rw [HP.out, if_pos hk1])
    have hki : ((k : Int) == 1) = true := by rw [beq_iff_eq]; omega
    clear hk1
    go_wp2_with fail
    refine (K3.out _ _ R3).mono ?_
    rintro e w4 ⟨a, n, c, ka, kn, kc, rfl, hac, hkc, hfa, hfk, hI, hK, o4⟩
    have N4 := N3.only o4 (by omega)
    have B4 := o4.below B3 (by omega) hsz3
    have M := (N4.set0 (.slice a n c)).set1 (.slice ka kn kc)
    have HI := Lib.hid ((hI.set (g := w.heap.size) (o := 0) (x := .slice a n c) hfa hlt3).set (g := w.heap.size) (o := 1) (x := .slice ka kn kc) hfa hlt3)
    have HK := Lib.hid ((hK.set (g := w.heap.size) (o := 0) (x := .slice a n c) hfk hlt3).set (g := w.heap.size) (o := 1) (x := .slice ka kn kc) hfk hlt3)
    have HB := Lib.hid ((B4.setCell (p := ⟨w.heap.size, 0, none⟩) (Nat.le_refl _) (.slice a n c)).setCell (p := ⟨w.heap.size, 1, none⟩) (Nat.le_refl _) (.slice ka kn kc))
    have HFA := Lib.hid (hfa.mono hsz3)
    have HFK := Lib.hid (hfk.mono hsz3)
    have d0 := N4.c0
    have d1 := N4.c1
    have f0 := N4.f0
    have f1 := N4.f1
    have m0 := M.c0
    have m1 := M.c1
    clear R3 N3 B3 hI hK hfa hfk o4 B4
    go_wp2_with fail
    refine bodyPost_ret (v := .agg #[.slice a n c, .slice ka kn kc]) (by simp [results, Try.results34, go_sem, m0, m1]) rfl ?_
    exact ⟨a, n, c, ka, kn, kc, rfl, hac, hkc, HFA.out, HFK.out, by rw [HP2.out]; exact HI.out, by rw [HP2.out]; exact HK.out, HB.out⟩
  · have hki : ((k : Int) == 1) = false := by rw [beq_eq_false_iff_ne]; omega
    by_cases hk2 : k = 2
    · have HP2 := Lib.hid (show readP s = ((rdBr (m - 1) t3 y3).1, (z : Int) :: (rdBr (m - 1) t3 y3).2) by rw [HP.out, if_neg hk1, if_pos hk2])
      have hkj : ((k : Int) == 2) = true := by rw [beq_iff_eq]; omega
      clear hk1 hk2
      go_wp2_with fail
      refine (K4.out _ _ R3).mono ?_
      rintro e w4 ⟨a, n, c, ka, kn, kc, rfl, hac, hkc, hfa, hfk, hI, hK, o4⟩
      have N4 := N3.only o4 (by omega)
      have B4 := o4.below B3 (by omega) hsz3
      have M := (N4.set0 (.slice a n c)).set1 (.slice ka kn kc)
      have HI := Lib.hid ((hI.set (g := w.heap.size) (o := 0) (x := .slice a n c) hfa hlt3).set (g := w.heap.size) (o := 1) (x := .slice ka kn kc) hfa hlt3)
      have HK := Lib.hid ((hK.set (g := w.heap.size) (o := 0) (x := .slice a n c) hfk hlt3).set (g := w.heap.size) (o := 1) (x := .slice ka kn kc) hfk hlt3)
      have HB := Lib.hid ((B4.setCell (p := ⟨w.heap.size, 0, none⟩) (Nat.le_refl _) (.slice a n c)).setCell (p := ⟨w.heap.size, 1, none⟩) (Nat.le_refl _) (.slice ka kn kc))
      have HFA := Lib.hid (hfa.mono hsz3)
      have HFK := Lib.hid (hfk.mono hsz3)
      have d0 := N4.c0
      have d1 := N4.c1
      have f0 := N4.f0
      have f1 := N4.f1
      have m0 := M.c0
      have m1 := M.c1
      clear R3 N3 B3 hI hK hfa hfk o4 B4
      go_wp2_with fail
      refine bodyPost_ret (v := .agg #[.slice a n c, .slice ka kn kc]) (by simp [results, Try.results34, go_sem, m0, m1]) rfl ?_
      exact ⟨a, n, c, ka, kn, kc, rfl, hac, hkc, HFA.out, HFK.out, by rw [HP2.out]; exact HI.out, by rw [HP2.out]; exact HK.out, HB.out⟩
    · have HP2 := Lib.hid (show readP s = ([], []) by rw [HP.out, if_neg hk1, if_neg hk2])
      have hkj : ((k : Int) == 2) = false := by rw [beq_eq_false_iff_ne]; omega
      have M := (N3.set0 (.slice none 0 0)).set1 (.slice none 0 0)
      have HB := Lib.hid ((B3.setCell (p := ⟨w.heap.size, 0, none⟩) (Nat.le_refl _) (.slice none 0 0)).setCell (p := ⟨w.heap.size, 1, none⟩) (Nat.le_refl _) (.slice none 0 0))
      have d0 := N3.c0
      have d1 := N3.c1
      have f0 := N3.f0
      have f1 := N3.f1
      have m0 := M.c0
      have m1 := M.c1
      clear hk1 hk2 R3 N3 B3
      go_wp2_with fail
      refine bodyPost_ret (v := .agg #[.slice none 0 0, .slice none 0 0]) (by simp [results, Try.results34, go_sem, m0, m1]) rfl ?_
      exact ⟨none, 0, 0, none, 0, 0, rfl, by omega, by omega, (by intro x hx; cases hx), (by intro x hx; cases hx), by rw [HP2.out]; exact ⟨rfl, .inl rfl⟩, by rw [HP2.out]; exact ⟨rfl, .inl rfl⟩, HB.out⟩
theorem rdLeaf_len : ∀ (n : Nat) (s : ByteArray) (e : Int), (rdLeaf n s e).length = n
  | 0, _, _ => rfl
  | n + 1, s, e => by rw [rdLeaf, List.length_cons, rdLeaf_len n]
theorem rdBr_len : ∀ (n : Nat) (s : ByteArray) (e : Int), (rdBr n s e).1.length = n ∧ (rdBr n s e).2.length = n
  | 0, _, _ => ⟨rfl, rfl⟩
  | n + 1, s, e => by rw [rdBr]; simp only [List.length_cons]; rw [(rdBr_len n _ _).1, (rdBr_len n _ _).2]; exact ⟨rfl, rfl⟩
def Tiny (I : List It) : Prop := ∀ x ∈ I, x.1.size ≤ 255 ∧ x.2.size ≤ 255
theorem Tiny.short {I : List It} (h : Tiny I) : Short I := fun x hx => by have := h x hx; omega
theorem rdLeaf_tiny : ∀ (n : Nat) (s : ByteArray) (e : Int), Tiny (rdLeaf n s e)
  | 0, _, _ => by intro x hx; simp [rdLeaf] at hx
  | n + 1, s, e => by
    intro x hx
    rw [rdLeaf, List.mem_cons] at hx
    rcases hx with rfl | hx
    · exact ⟨shortS_out _ _, shortS_out _ _⟩
    · exact rdLeaf_tiny n _ _ x hx
theorem rdBr_tiny : ∀ (n : Nat) (s : ByteArray) (e : Int), Tiny (rdBr n s e).1
  | 0, _, _ => by intro x hx; simp [rdBr] at hx
  | n + 1, s, e => by
    intro x hx
    rw [rdBr, List.mem_cons] at hx
    rcases hx with rfl | hx
    · exact ⟨shortS_out _ _, by show ByteArray.empty.size ≤ 255; decide⟩
    · exact rdBr_tiny n _ _ x hx
theorem readP_small (s : ByteArray) : (readP s).1.length ≤ 255 ∧ (readP s).2.length ≤ 255 ∧ Tiny (readP s).1 := by
  have h := numS1_lt (numS s 0 1).1 (numS s 0 1).2.1
  unfold readP
  split
  · exact ⟨by simp only [rdLeaf_len]; omega, by simp, rdLeaf_tiny _ _ _⟩
  · split
    · refine ⟨by simp only [(rdBr_len _ _ _).1]; omega, by simp only [List.length_cons, (rdBr_len _ _ _).2]; omega, rdBr_tiny _ _ _⟩
    · exact ⟨by simp, by simp, by intro x hx; simp at hx⟩
def DecRet (w : World) (L : List It) (K : List Int) (y : Int) (e : Ending) (w' : World) : Prop :=
  ∃ a n c ka kn kc, e = .returned (.tuple #[.agg #[.slice a n c, .slice ka kn kc], .int .i64 y]) ∧ n ≤ c ∧ kn ≤ kc ∧ Fresh w.heap.size a ∧ Fresh w.heap.size ka ∧ Its w' a n L ∧ Kds w' ka kn K ∧ Below w.heap.size w w'
set_option maxRecDepth 100000 in
set_option maxHeartbeats 2000000 in
theorem decode_any (s : ByteArray) (w : World) (hs : s.size ≤ maxLen) (L : List It) (K : List Int) (y : Int) (hd : decQ s (readP s) = ((L, K), y)) : Calls Try.prog 12 #[.string s] w (DecRet w L K y) := by
  have hsm := readP_small s
  have K1 := Lib.hid (fun w => read_any s w hs)
  obtain ⟨I0, K0, hq⟩ : ∃ I0 K0, readP s = (I0, K0) := ⟨_, _, rfl⟩
  rw [hq] at hsm hd K1
  simp only at hsm K1
  obtain ⟨hsm1, hsm2, hsm3⟩ := hsm
  obtain ⟨t, y1, he⟩ : ∃ t y1, encR I0 K0 = (t, y1) := ⟨_, _, rfl⟩
  have N0 := Nb.fresh w (.slice none 0 0) (.slice none 0 0) 31
  have B0 := new_below w (.cells #[.slice none 0 0, .slice none 0 0] 31)
  have HD := Lib.hid hd
  have HE := Lib.hid he
  have HT := Lib.hid hsm3
  clear hd hq he hsm3
  go_enter Try.func12, Try.ntmps12
  go_wp2_with fail
  refine (K1.out _).mono ?_
  rintro e w1 ⟨a, n, c, ka, kn, kc, rfl, hac, hkc, hfa, hfk, hI, hK, hb⟩
  have e0 : (w.alloc (.cells #[.slice none 0 0, .slice none 0 0] 31)).heap.size = w.heap.size + 1 := by simp
  rw [e0] at hfa hfk
  have N1 := N0.below hb
  have B1 := below_to B0 hb
  have hn : n = I0.length := hI.1.symm
  have hkn : kn = K0.length := hK.1.symm
  have M2 := Nd.new w1 a n c ka kn kc 31
  have N2 := N1.below (new_below w1 (.cells #[.slice a n c, .slice ka kn kc] 31))
  have B2 := below_to B1 (new_below w1 (.cells #[.slice a n c, .slice ka kn kc] 31))
  have hI2 := hI.below (new_below w1 (.cells #[.slice a n c, .slice ka kn kc] 31))
  have hK2 := hK.below (new_below w1 (.cells #[.slice a n c, .slice ka kn kc] 31))
  have hn255 : n ≤ 4096 := by omega
  have hk255 : kn ≤ 9223372036854775806 := by omega
  have hlt1 := N1.lt
  clear hb N0 N1 B0 B1 hI hK e0 hn hkn hsm1 hsm2
  go_wp2_with fail
  refine (encode_any hI2 hK2 hn255 hk255 HT.out.short t y1 HE.out).mono ?_
  rintro e w3 ⟨rfl, hb⟩
  have N3 := N2.below hb
  have M3 := M2.below hb
  have B3 := below_to B2 hb
  have hI3 := hI2.below hb
  have hK3 := hK2.below hb
  have hlt3 : w.heap.size < w3.heap.size := N3.lt
  clear hb N2 M2 B2 hI2 hK2
  have d0 := N3.c0
  have d1 := N3.c1
  have f0 := N3.f0
  have f1 := N3.f1
  have c0 := M3.c0
  have c1 := M3.c1
  have hd := HD.out
  have he := HE.out
  unfold decQ at hd
  unfold encR at he
  by_cases hR : RightP I0 K0
  · rw [if_pos hR] at he
    simp only [Prod.mk.injEq] at he
    obtain ⟨he, rfl⟩ := he
    by_cases hse : encF I0 K0 = s.data.toList
    · rw [if_pos ⟨hR, hse⟩] at hd
      simp only [Prod.mk.injEq] at hd
      obtain ⟨⟨rfl, rfl⟩, rfl⟩ := hd
      have hts : t = s := by rw [← he, hse, bs_of]
      subst hts
      have M := (N3.set0 (.slice a n c)).set1 (.slice ka kn kc)
      have HI := Lib.hid ((hI3.set (g := w.heap.size) (o := 0) (x := .slice a n c) hfa (by omega)).set (g := w.heap.size) (o := 1) (x := .slice ka kn kc) hfa (by omega))
      have HK := Lib.hid ((hK3.set (g := w.heap.size) (o := 0) (x := .slice a n c) hfk (by omega)).set (g := w.heap.size) (o := 1) (x := .slice ka kn kc) hfk (by omega))
      have HB := Lib.hid ((B3.setCell (p := ⟨w.heap.size, 0, none⟩) (Nat.le_refl _) (.slice a n c)).setCell (p := ⟨w.heap.size, 1, none⟩) (Nat.le_refl _) (.slice ka kn kc))
      have HFA := Lib.hid (hfa.mono (Nat.le_succ _))
      have HFK := Lib.hid (hfk.mono (Nat.le_succ _))
      have m0 := M.c0
      have m1 := M.c1
      clear hR he hse HD HE hI3 hK3 hfa hfk B3
      go_wp2_with fail
      refine bodyPost_ret (v := .tuple #[.agg #[.slice a n c, .slice ka kn kc], .int .i64 0]) (by simp [results, Try.results12, go_sem, m0, m1]; try rfl) rfl ?_
      exact ⟨a, n, c, ka, kn, kc, rfl, hac, hkc, HFA.out, HFK.out, HI.out, HK.out, HB.out⟩
    · rw [if_neg (fun h => hse h.2)] at hd
      simp only [Prod.mk.injEq] at hd
      obtain ⟨⟨rfl, rfl⟩, rfl⟩ := hd
      have hts : (t.toList == s.toList) = false := by
        rw [ByteArray.toList_eq, ByteArray.toList_eq, beq_eq_false_iff_ne]
        intro e; apply hse; rw [← e, ← he, bs_toList]
      have M := (N3.set0 (.slice none 0 0)).set1 (.slice none 0 0)
      have HB := Lib.hid ((B3.setCell (p := ⟨w.heap.size, 0, none⟩) (Nat.le_refl _) (.slice none 0 0)).setCell (p := ⟨w.heap.size, 1, none⟩) (Nat.le_refl _) (.slice none 0 0))
      have m0 := M.c0
      have m1 := M.c1
      clear hR he hse HD HE hI3 hK3 hfa hfk B3
      go_wp2_with fail
      refine bodyPost_ret (v := .tuple #[.agg #[.slice none 0 0, .slice none 0 0], .int .i64 19]) (by simp [results, Try.results12, go_sem, m0, m1]; try rfl) rfl ?_
      exact ⟨none, 0, 0, none, 0, 0, rfl, by omega, by omega, (by intro x hx; cases hx), (by intro x hx; cases hx), ⟨rfl, .inl rfl⟩, ⟨rfl, .inl rfl⟩, HB.out⟩
  · rw [if_neg hR] at he
    simp only [Prod.mk.injEq] at he
    obtain ⟨rfl, rfl⟩ := he
    rw [if_neg (fun h => hR h.1)] at hd
    simp only [Prod.mk.injEq] at hd
    obtain ⟨⟨rfl, rfl⟩, rfl⟩ := hd
    have M := (N3.set0 (.slice none 0 0)).set1 (.slice none 0 0)
    have HB := Lib.hid ((B3.setCell (p := ⟨w.heap.size, 0, none⟩) (Nat.le_refl _) (.slice none 0 0)).setCell (p := ⟨w.heap.size, 1, none⟩) (Nat.le_refl _) (.slice none 0 0))
    have m0 := M.c0
    have m1 := M.c1
    clear hR HD HE hI3 hK3 hfa hfk B3
    go_wp2_with fail
    refine bodyPost_ret (v := .tuple #[.agg #[.slice none 0 0, .slice none 0 0], .int .i64 19]) (by simp [results, Try.results12, go_sem, m0, m1]; try rfl) rfl ?_
    exact ⟨none, 0, 0, none, 0, 0, rfl, by omega, by omega, (by intro x hx; cases hx), (by intro x hx; cases hx), ⟨rfl, .inl rfl⟩, ⟨rfl, .inl rfl⟩, HB.out⟩
end Go.Proofs.Ytnjpijihjifkfaa
