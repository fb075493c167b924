/- Contract: Join. -/
import Derived.Test.YtnjpijihjifkfaaRI
namespace Go.Proofs.Ytnjpijihjifkfaa
open Go.RowKit
set_option linter.unusedVariables false
set_option linter.unusedSimpArgs false
def Inv1 (w1 : World) (va vb : Value) (b : Bool) (a0 : Act) (D : Nat → Bool) (a : Act) (w : World) : Prop :=
  ∃ x10 x11 x12 x13 x14, a = ((((a0.put (some 10) x10).put (some 11) x11).put (some 12) x12).put (some 13) x13).put (some 14) x14 ∧ Below w1.heap.size w1 w ∧
    (D 0 = true → x10 = va) ∧ (D 1 = true → x11 = .bool b) ∧ (D 2 = true → x12 = vb) ∧ (D 3 = true → x13 = .bool b) ∧ (D 4 = true → x14 = .bool false)
/-- A slot holds slices that are joined; what they are joined to; a node; a fresh cell. -/
def GI (w : World) (A : List (Option Addr × Nat × Nat)) (J : List (List It)) (x : Value) : Prop := ∃ B, x = .slice (some ⟨B, 0, none⟩) 3 3 ∧ LstI w B A J
def GK (w : World) (A : List (Option Addr × Nat × Nat)) (J : List (List Int)) (x : Value) : Prop := ∃ B, x = .slice (some ⟨B, 0, none⟩) 2 2 ∧ LstK w B A J
def HI (w : World) (h n : Nat) (L : List It) (x : Value) : Prop := ∃ a c, x = .slice a n c ∧ n ≤ c ∧ Fresh h a ∧ Its w a n L
def HK (w : World) (h n : Nat) (L : List Int) (x : Value) : Prop := ∃ a c, x = .slice a n c ∧ n ≤ c ∧ Fresh h a ∧ Kds w a n L
def HN (w : World) (h n m : Nat) (L : List It) (M : List Int) (x : Value) : Prop := ∃ y z, x = .agg #[y, z] ∧ HI w h n L y ∧ HK w h m M z
def HC (w : World) (h : Nat) (x : Value) : Prop := ∃ g, x = .pointer (some ⟨g, 0, none⟩) ∧ h ≤ g ∧ Nb w g (.slice none 0 0) (.slice none 0 0) ∧ w.heap[g]? = some (.cells #[.slice none 0 0, .slice none 0 0] 31)
def HF (w : World) (h n m : Nat) (L : List It) (M : List Int) (x : Value) : Prop := ∃ g y z, x = .pointer (some ⟨g, 0, none⟩) ∧ h ≤ g ∧ Nb w g y z ∧ HI w h n L y ∧ HK w h m M z
section
variable {w w1 : World} (hb : Below w.heap.size w w1)
include hb
theorem GI.below {A : List (Option Addr × Nat × Nat)} {J : List (List It)} {x : Value} (H : GI w A J x) : GI w1 A J x := by obtain ⟨B, h, h2⟩ := H; exact ⟨B, h, h2.below hb⟩
theorem GK.below {A : List (Option Addr × Nat × Nat)} {J : List (List Int)} {x : Value} (H : GK w A J x) : GK w1 A J x := by obtain ⟨B, h, h2⟩ := H; exact ⟨B, h, h2.below hb⟩
theorem HI.below {h n : Nat} {L : List It} {x : Value} (H : HI w h n L x) : HI w1 h n L x := by obtain ⟨a, c, h1, h2, h3, h4⟩ := H; exact ⟨a, c, h1, h2, h3, h4.below hb⟩
theorem HK.below {h n : Nat} {L : List Int} {x : Value} (H : HK w h n L x) : HK w1 h n L x := by obtain ⟨a, c, h1, h2, h3, h4⟩ := H; exact ⟨a, c, h1, h2, h3, h4.below hb⟩
theorem HN.below {h n m : Nat} {L : List It} {M : List Int} {x : Value} (H : HN w h n m L M x) : HN w1 h n m L M x := by obtain ⟨y, z, h1, h2, h3⟩ := H; exact ⟨y, z, h1, h2.below hb, h3.below hb⟩
theorem HC.below {h : Nat} {x : Value} (H : HC w h x) : HC w1 h x := by obtain ⟨g, h1, h2, h3, h4⟩ := H; exact ⟨g, h1, h2, h3.below hb, (hb.block g h3.lt).trans h4⟩
end
theorem lstI_new {w : World} {a b e : Option Addr} {n c m d k f : Nat} {I J L : List It} (T : TypeId) (h1 : Its w a n I) (h2 : Its w b m J) (h3 : Its w e k L) :
    LstI (w.alloc (.cells #[.slice a n c, .slice b m d, .slice e k f] T)) w.heap.size [(a, n, c), (b, m, d), (e, k, f)] [I, J, L] := by
  have B := new_below w (.cells #[.slice a n c, .slice b m d, .slice e k f] T)
  refine ⟨rfl, by simp, fun j h h' => ?_⟩
  match j, h, h' with
  | 0, _, _ => exact ⟨by simp [go_sem], h1.below B⟩
  | 1, _, _ => exact ⟨by simp [go_sem], h2.below B⟩
  | 2, _, _ => exact ⟨by simp [go_sem], h3.below B⟩
theorem lstK_new {w : World} {a b : Option Addr} {n c m d : Nat} {I J : List Int} (T : TypeId) (h1 : Kds w a n I) (h2 : Kds w b m J) :
    LstK (w.alloc (.cells #[.slice a n c, .slice b m d] T)) w.heap.size [(a, n, c), (b, m, d)] [I, J] := by
  have B := new_below w (.cells #[.slice a n c, .slice b m d] T)
  refine ⟨rfl, by simp, fun j h h' => ?_⟩
  match j, h, h' with
  | 0, _, _ => exact ⟨by simp [go_sem], h1.below B⟩
  | 1, _, _ => exact ⟨by simp [go_sem], h2.below B⟩
theorem heap_new (w : World) (o : Obj) : (w.alloc o).heap[w.heap.size]? = some o := by show (w.heap.push o)[w.heap.size]? = some o; simp
theorem nil_cell {w : World} {g o : Nat} {T : TypeId} {v : Value} (h : w.heap[g]? = some (.cells #[.slice none 0 0, .slice none 0 0] T)) (hc : w.cell? ⟨g, o, none⟩ = some v) : v = .slice none 0 0 := by
  simp [World.cell?, h] at hc
  match o, hc with
  | 0, hc => simpa using hc.symm
  | 1, hc => simpa using hc.symm
  | o + 2, hc => simp at hc
theorem its_put {w : World} {a : Option Addr} {n g : Nat} {I : List It} {u v : Value} {T : TypeId} (H : Its w a n I) (h : w.heap[g]? = some (.cells #[.slice none 0 0, .slice none 0 0] T)) : Its ((w.setCell ⟨g, 0, none⟩ u).setCell ⟨g, 1, none⟩ v) a n I := by
  rcases H.2 with h0 | ⟨b, off, rfl, hb, hc⟩
  · exact ⟨H.1, .inl h0⟩
  · by_cases hn : n = 0
    · exact ⟨H.1, .inl hn⟩
    · have hne : b ≠ g := by
        intro e; subst e
        have := nil_cell h (hc 0 (by omega)).1
        cases this
      refine H.block fun b2 off2 h2 _ => ?_
      simp only [Option.some.injEq, Addr.mk.injEq] at h2
      obtain ⟨rfl, -, -⟩ := h2
      exact ⟨by simpa using hb, (Below.heap_setCell _ ⟨g, 1, none⟩ v b hne).trans (Below.heap_setCell _ ⟨g, 0, none⟩ u b hne)⟩
theorem kds_put {w : World} {a : Option Addr} {n g : Nat} {I : List Int} {u v : Value} {T : TypeId} (H : Kds w a n I) (h : w.heap[g]? = some (.cells #[.slice none 0 0, .slice none 0 0] T)) : Kds ((w.setCell ⟨g, 0, none⟩ u).setCell ⟨g, 1, none⟩ v) a n I := by
  rcases H.2 with h0 | ⟨b, off, rfl, hb, hc⟩
  · exact ⟨H.1, .inl h0⟩
  · by_cases hn : n = 0
    · exact ⟨H.1, .inl hn⟩
    · have hne : b ≠ g := by
        intro e; subst e
        have := nil_cell h (hc 0 (by omega))
        cases this
      refine H.block fun b2 off2 h2 _ => ?_
      simp only [Option.some.injEq, Addr.mk.injEq] at h2
      obtain ⟨rfl, -, -⟩ := h2
      exact ⟨by simpa using hb, (Below.heap_setCell _ ⟨g, 1, none⟩ v b hne).trans (Below.heap_setCell _ ⟨g, 0, none⟩ u b hne)⟩
theorem no15 {D : Nat → Bool} (h : D 15 = false) {p : Prop} : D 15 = true → p := fun e => by rw [h] at e; cases e
theorem d15 {D : Nat → Bool} {i : Nat} (H : D 15 = true → ∀ j, j < 15 → D j = true) (hi : i < 15) (h : D i = false) : D 15 = false := by
  cases e : D 15 with
  | false => rfl
  | true => have := H e i hi; rw [h] at this; cases this
def Inv6 (w1 : World) (p q n m : Nat) (s23 s24 s26 s30 s32 : Value) (A A2 : List (Option Addr × Nat × Nat)) (J : List (List It)) (J2 : List (List Int)) (L : List It) (M : List Int) (pre mid post : List Value) (D : Nat → Bool) (a : Act) (w : World) : Prop :=
  ∃ x22 x23 x24 x25 x26 x27 x28 x29 x30 x31 x32 x33 x34 x35 x9, a = ⟨(pre ++ x9 :: (mid ++ x22 :: x23 :: x24 :: x25 :: x26 :: x27 :: x28 :: x29 :: x30 :: x31 :: x32 :: x33 :: x34 :: x35 :: post)).toArray, []⟩ ∧ Below w1.heap.size w1 w ∧ (D 15 = true → ∀ j, j < 15 → D j = true) ∧
    (D 15 = false → (D 0 = true → x22 = .pointer (some ⟨p, 0, none⟩)) ∧ (D 1 = true → x23 = s23) ∧ (D 2 = true → x24 = s24) ∧ (D 3 = true → x25 = .pointer (some ⟨q, 0, none⟩)) ∧ (D 4 = true → x26 = s26) ∧ (D 5 = true → GI w A J x27) ∧ (D 6 = true → HI w w1.heap.size n L x28) ∧ (D 7 = true → x29 = .pointer (some ⟨p, 1, none⟩)) ∧ (D 8 = true → x30 = s30) ∧ (D 9 = true → x31 = .pointer (some ⟨q, 1, none⟩)) ∧ (D 10 = true → x32 = s32) ∧ (D 11 = true → GK w A2 J2 x33) ∧ (D 12 = true → HK w w1.heap.size m M x34) ∧ (D 13 = true → HN w w1.heap.size n m L M x35) ∧ (D 14 = true → HC w w1.heap.size x9)) ∧
    (D 15 = true → HF w w1.heap.size n m L M x9)
/-- Join answers the joined node, if it is right. -/
def JoinRet (w : World) (L : List It) (M : List Int) (e : Ending) (w' : World) : Prop :=
  ∃ a n c ka kn kc, e = .returned (.tuple #[.agg #[.slice a n c, .slice ka kn kc], .bool (decide (RightP L M))]) ∧ n ≤ c ∧ kn ≤ kc ∧ Fresh w.heap.size a ∧ Fresh w.heap.size ka ∧
    Its w' a n (if RightP L M then L else []) ∧ Kds w' ka kn (if RightP L M then M else []) ∧ Below w.heap.size w w'
section
variable {w : World} {a a2 : Option Addr} {n c n2 c2 : Nat} {ka ka2 : Option Addr} {kn kc kn2 kc2 : Nat} {I I2 : List It} {K K2 : List Int}
set_option maxRecDepth 100000 in
set_option maxHeartbeats 1000000 in
theorem joinLeaf_any (hI : Its w a n I) (hJ : Its w a2 n2 I2) (hK : Kds w ka kn K) (hL : Kds w ka2 kn2 K2) (key : ByteArray) (h : (kn == 0) = true) (h2 : (kn2 == 0) = true) (hn : n ≤ 2000) (hn2 : n2 ≤ 2000) (hkn : kn ≤ 2000) (hkn2 : kn2 ≤ 2000) (LL : List It) (hLL : [I, ([] : List It), I2].flatten = LL) (hS : Short LL) (ML : List Int) (hML : [K, K2].flatten = ML) :
    Calls Try.prog 24 #[.agg #[.slice a n c, .slice ka kn kc], .string key, .agg #[.slice a2 n2 c2, .slice ka2 kn2 kc2]] w (JoinRet w LL ML) := by
  have N0 := ((Nd.new w a n c ka kn kc 31).below (new_below _ (.cells #[.slice a2 n2 c2, .slice ka2 kn2 kc2] 31))).below (new_below _ (.cells #[.slice none 0 0, .slice none 0 0] 31))
  have N1 := (Nd.new (w.alloc (.cells #[.slice a n c, .slice ka kn kc] 31)) a2 n2 c2 ka2 kn2 kc2 31).below (new_below _ (.cells #[.slice none 0 0, .slice none 0 0] 31))
  have N2 := Nb.fresh ((w.alloc (.cells #[.slice a n c, .slice ka kn kc] 31)).alloc (.cells #[.slice a2 n2 c2, .slice ka2 kn2 kc2] 31)) (.slice none 0 0) (.slice none 0 0) 31
  have hs1 : (w.alloc (.cells #[.slice a n c, .slice ka kn kc] 31)).heap.size = w.heap.size + 1 := by simp
  have hs2 : ((w.alloc (.cells #[.slice a n c, .slice ka kn kc] 31)).alloc (.cells #[.slice a2 n2 c2, .slice ka2 kn2 kc2] 31)).heap.size = w.heap.size + 1 + 1 := by simp
  rw [hs1] at N1
  rw [hs2] at N2
  have hBB := below_to (below_to (new_below w (.cells #[.slice a n c, .slice ka kn kc] 31)) (new_below _ (.cells #[.slice a2 n2 c2, .slice ka2 kn2 kc2] 31))) (new_below _ (.cells #[.slice none 0 0, .slice none 0 0] 31))
  have KA := Lib.hid (fun w => isLeaf_any a n c ka kn kc true h w)
  have KB := Lib.hid (fun w => isLeaf_any a2 n2 c2 ka2 kn2 kc2 true h2 w)
  have hlen : LL.length = n + 0 + n2 := by rw [← hLL]; simp [hI.1, hJ.1]
  have hlem : ML.length = kn + kn2 := by rw [← hML]; simp [hK.1, hL.1]
  have hti : totI [I, ([] : List It), I2] ≤ 10000 := by unfold totI; simp [hI.1, hJ.1]; omega
  have htk : totK [K, K2] ≤ 10000 := by unfold totK; simp [hK.1, hL.1]; omega
  obtain ⟨NN, hNN⟩ : ∃ x, LL.length = x := ⟨_, rfl⟩
  obtain ⟨MM, hMM⟩ : ∃ x, ML.length = x := ⟨_, rfl⟩
  have KCI := Lib.hid (fun (A : List (Option Addr × Nat × Nat)) (hA : A.length = 3) (wx : World) (B : Nat) (hL : LstI wx B A [I, ([] : List It), I2]) => concatI_any B 3 3 A _ wx hL hA (by omega) hti)
  have KCK := Lib.hid (fun (A : List (Option Addr × Nat × Nat)) (hA : A.length = 2) (wx : World) (B : Nat) (hL : LstK wx B A [K, K2]) => concatK_any B 2 2 A _ wx hL hA (by omega) htk)
  unfold ItRet at KCI
  unfold KdRet at KCK
  rw [hLL] at KCI
  rw [hML] at KCK
  rw [hNN] at KCI
  rw [hMM] at KCK
  rw [hNN] at hlen
  rw [hMM] at hlem
  have KCh := Lib.hid (fun (wx : World) (a c ka kc) (h1 : Its wx a NN LL) (h2 : Kds wx ka MM ML) => check_any (c := c) (kc := kc) h1 h2 (by omega) (by omega) hS _ rfl)
  have HIw := Lib.hid hI
  have HJw := Lib.hid hJ
  have HKw := Lib.hid hK
  have HLw := Lib.hid hL
  have HFL := Lib.hid hLL
  have HFM := Lib.hid hML
  clear hs1 hs2 h h2 hI hJ hK hL hlen hlem hti htk hNN hMM hS hLL hML
  go_enter Try.func24, Try.ntmps24
  go_wp2_with fail
  generalize ((w.alloc (.cells #[.slice a n c, .slice ka kn kc] 31)).alloc (.cells #[.slice a2 n2 c2, .slice ka2 kn2 kc2] 31)).alloc (.cells #[.slice none 0 0, .slice none 0 0] 31) = w1 at N0 N1 N2 hBB ⊢
  refine wp_region_inv0 (Inv1 w1 (.agg #[.slice a n c, .slice ka kn kc]) (.agg #[.slice a2 n2 c2, .slice ka2 kn2 kc2]) true) (by kernel_rfl) (by decide) ?_ ?_ ?_
  · exact ⟨_, _, _, _, _, rfl, (Below.refl w1.heap.size w1).drew, (by intro h; cases h), (by intro h; cases h), (by intro h; cases h), (by intro h; cases h), (by intro h; cases h)⟩
  · refine AllI.cons ?_ (AllI.cons ?_ (AllI.cons ?_ (AllI.cons ?_ (AllI.cons ?_ AllI.nil))))
    · rintro D aa wx ⟨x10, x11, x12, x13, x14, rfl, hB, f0, f1, f2, f3, f4⟩ hD hdep KK hKK
      have c0 := (N0.below hB).c0
      have c1 := (N0.below hB).c1
      simp only [Act.put, List.cons_append, List.nil_append, List.setIfInBounds_toArray, List.set_cons_zero, List.set_cons_succ]
      go_simp
      exact hKK _ _ ⟨_, _, _, _, _, rfl, hB, fun _ => rfl, (by first | exact f1 | exact fun _ => rfl), (by first | exact f2 | exact fun _ => rfl), (by first | exact f3 | exact fun _ => rfl), (by first | exact f4 | exact fun _ => rfl)⟩
    · rintro D aa wx ⟨x10, x11, x12, x13, x14, rfl, hB, f0, f1, f2, f3, f4⟩ hD hdep KK hKK
      simp [Region.binds] at hdep
      have e0 := f0 (by simp [*])
      subst e0
      simp only [Act.put, List.cons_append, List.nil_append, List.setIfInBounds_toArray, List.set_cons_zero, List.set_cons_succ]
      go_simp
      refine (KA.out _).mono ?_
      rintro e w2 ⟨rfl, hb⟩
      exact hKK _ _ ⟨_, _, _, _, _, rfl, below_to hB hb, (by first | exact f0 | exact fun _ => rfl), fun _ => rfl, (by first | exact f2 | exact fun _ => rfl), (by first | exact f3 | exact fun _ => rfl), (by first | exact f4 | exact fun _ => rfl)⟩
    · rintro D aa wx ⟨x10, x11, x12, x13, x14, rfl, hB, f0, f1, f2, f3, f4⟩ hD hdep KK hKK
      have c0 := (N1.below hB).c0
      have c1 := (N1.below hB).c1
      simp only [Act.put, List.cons_append, List.nil_append, List.setIfInBounds_toArray, List.set_cons_zero, List.set_cons_succ]
      go_simp
      exact hKK _ _ ⟨_, _, _, _, _, rfl, hB, (by first | exact f0 | exact fun _ => rfl), (by first | exact f1 | exact fun _ => rfl), fun _ => rfl, (by first | exact f3 | exact fun _ => rfl), (by first | exact f4 | exact fun _ => rfl)⟩
    · rintro D aa wx ⟨x10, x11, x12, x13, x14, rfl, hB, f0, f1, f2, f3, f4⟩ hD hdep KK hKK
      simp [Region.binds] at hdep
      have e2 := f2 (by simp [*])
      subst e2
      simp only [Act.put, List.cons_append, List.nil_append, List.setIfInBounds_toArray, List.set_cons_zero, List.set_cons_succ]
      go_simp
      refine (KB.out _).mono ?_
      rintro e w2 ⟨rfl, hb⟩
      exact hKK _ _ ⟨_, _, _, _, _, rfl, below_to hB hb, (by first | exact f0 | exact fun _ => rfl), (by first | exact f1 | exact fun _ => rfl), (by first | exact f2 | exact fun _ => rfl), fun _ => rfl, (by first | exact f4 | exact fun _ => rfl)⟩
    · rintro D aa wx ⟨x10, x11, x12, x13, x14, rfl, hB, f0, f1, f2, f3, f4⟩ hD hdep KK hKK
      simp [Region.binds] at hdep
      have e1 := f1 (by simp [*])
      have e3 := f3 (by simp [*])
      subst e1
      subst e3
      simp only [Act.put, List.cons_append, List.nil_append, List.setIfInBounds_toArray, List.set_cons_zero, List.set_cons_succ]
      go_simp
      exact hKK _ _ ⟨_, _, _, _, _, rfl, hB, (by first | exact f0 | exact fun _ => rfl), (by first | exact f1 | exact fun _ => rfl), (by first | exact f2 | exact fun _ => rfl), (by first | exact f3 | exact fun _ => rfl), fun _ => rfl⟩
  rintro D aa w2 ⟨x10, x11, x12, x13, x14, rfl, hB, f0, f1, f2, f3, f4⟩ hall
  have e4 := f4 (hall 4 (by simp))
  subst e4
  simp only [Act.put, List.setIfInBounds_toArray, List.set_cons_zero, List.set_cons_succ]
  clear f0 f1 f2 f3 f4 hall
  replace N0 := N0.below hB
  replace N1 := N1.below hB
  replace N2 := N2.below hB
  replace hBB := below_to hBB hB
  clear hB
  have c0 := N0.c0
  have c1 := N0.c1
  go_wp2_with fail
  refine (KA.out _).mono ?_
  rintro e w3 ⟨rfl, hb⟩
  replace N0 := N0.below hb
  replace N1 := N1.below hb
  replace N2 := N2.below hb
  replace hBB := below_to hBB hb
  clear hb c0 c1
  go_wp2_with fail
  have HBt : Its w3 none 0 ([] : List It) := ⟨rfl, .inl rfl⟩
  obtain ⟨wy, hwy⟩ : ∃ x, x = w3 := ⟨_, rfl⟩
  rw [← hwy] at N0 N1 N2 hBB HBt ⊢
  clear hwy
  have HIt := Lib.hid (HIw.out.below hBB)
  have HIu := Lib.hid (HJw.out.below hBB)
  have HKt := Lib.hid (HKw.out.below hBB)
  have HKu := Lib.hid (HLw.out.below hBB)
  have KCI2 := Lib.hid (KCI.out [(a, n, c), (none, 0, 0), (a2, n2, c2)] rfl)
  have KCK2 := Lib.hid (KCK.out [(ka, kn, kc), (ka2, kn2, kc2)] rfl)
  refine wp_region_inv (Inv6 wy w.heap.size (w.heap.size + 1) NN MM (.slice a n c) (.slice none 0 0) (.slice a2 n2 c2) (.slice ka kn kc) (.slice ka2 kn2 kc2) [(a, n, c), (none, 0, 0), (a2, n2, c2)] [(ka, kn, kc), (ka2, kn2, kc2)] [I, ([] : List It), I2] [K, K2] LL ML [.agg #[.slice a n c, .slice ka kn kc], .string key, .agg #[.slice a2 n2 c2, .slice ka2 kn2 kc2], .pointer (some ⟨w.heap.size, 0, none⟩), undef, .pointer (some ⟨w.heap.size + 1, 0, none⟩), .pointer (some ⟨w.heap.size + 1 + 1, 0, none⟩), .bool false, .slice none 0 0] [x10, x11, x12, x13, .bool false, undef, .agg #[.slice a n c, .slice ka kn kc], .bool true, .bool false, undef, undef, undef] [undef, undef, undef, undef, undef]) (by kernel_rfl) (by decide) ?_ ?_ ?_
  · exact ⟨_, _, _, _, _, _, _, _, _, _, _, _, _, _, _, rfl, (Below.refl wy.heap.size wy).drew, (by intro h; cases h), fun _ => ⟨(by intro h; cases h), (by intro h; cases h), (by intro h; cases h), (by intro h; cases h), (by intro h; cases h), (by intro h; cases h), (by intro h; cases h), (by intro h; cases h), (by intro h; cases h), (by intro h; cases h), (by intro h; cases h), (by intro h; cases h), (by intro h; cases h), (by intro h; cases h), (by intro h; cases h)⟩, (by intro h; cases h)⟩
  · refine AllI.cons ?_ (AllI.cons ?_ (AllI.cons ?_ (AllI.cons ?_ (AllI.cons ?_ (AllI.cons ?_ (AllI.cons ?_ (AllI.cons ?_ (AllI.cons ?_ (AllI.cons ?_ (AllI.cons ?_ (AllI.cons ?_ (AllI.cons ?_ (AllI.cons ?_ (AllI.cons ?_ (AllI.cons ?_ AllI.nil)))))))))))))))
    · rintro D aa wx ⟨x22, x23, x24, x25, x26, x27, x28, x29, x30, x31, x32, x33, x34, x35, x9, rfl, hB, hall, hfs, hfin⟩ hD hdep KK hKK
      have hd := d15 hall (show 0 < 15 by omega) hD
      obtain ⟨f0, f1, f2, f3, f4, f5, f6, f7, f8, f9, f10, f11, f12, f13, f14⟩ := hfs hd
      simp only [Act.put, List.cons_append, List.nil_append, List.setIfInBounds_toArray, List.set_cons_zero, List.set_cons_succ]
      go_simp
      exact hKK _ _ ⟨_, _, _, _, _, _, _, _, _, _, _, _, _, _, _, rfl, hB, no15 (D := D) hd, fun _ => ⟨fun _ => rfl, (by first | exact f1 | exact fun _ => rfl), (by first | exact f2 | exact fun _ => rfl), (by first | exact f3 | exact fun _ => rfl), (by first | exact f4 | exact fun _ => rfl), (by first | exact f5 | exact fun _ => rfl), (by first | exact f6 | exact fun _ => rfl), (by first | exact f7 | exact fun _ => rfl), (by first | exact f8 | exact fun _ => rfl), (by first | exact f9 | exact fun _ => rfl), (by first | exact f10 | exact fun _ => rfl), (by first | exact f11 | exact fun _ => rfl), (by first | exact f12 | exact fun _ => rfl), (by first | exact f13 | exact fun _ => rfl), (by first | exact f14 | exact fun _ => rfl)⟩, no15 (D := D) hd⟩
    · rintro D aa wx ⟨x22, x23, x24, x25, x26, x27, x28, x29, x30, x31, x32, x33, x34, x35, x9, rfl, hB, hall, hfs, hfin⟩ hD hdep KK hKK
      have hd := d15 hall (show 1 < 15 by omega) hD
      obtain ⟨f0, f1, f2, f3, f4, f5, f6, f7, f8, f9, f10, f11, f12, f13, f14⟩ := hfs hd
      simp [Region.binds] at hdep
      have e0 := f0 (by simp [*])
      subst e0
      have c0 := (N0.below hB).c0
      simp only [Act.put, List.cons_append, List.nil_append, List.setIfInBounds_toArray, List.set_cons_zero, List.set_cons_succ]
      go_simp
      exact hKK _ _ ⟨_, _, _, _, _, _, _, _, _, _, _, _, _, _, _, rfl, hB, no15 (D := D) hd, fun _ => ⟨(by first | exact f0 | exact fun _ => rfl), fun _ => rfl, (by first | exact f2 | exact fun _ => rfl), (by first | exact f3 | exact fun _ => rfl), (by first | exact f4 | exact fun _ => rfl), (by first | exact f5 | exact fun _ => rfl), (by first | exact f6 | exact fun _ => rfl), (by first | exact f7 | exact fun _ => rfl), (by first | exact f8 | exact fun _ => rfl), (by first | exact f9 | exact fun _ => rfl), (by first | exact f10 | exact fun _ => rfl), (by first | exact f11 | exact fun _ => rfl), (by first | exact f12 | exact fun _ => rfl), (by first | exact f13 | exact fun _ => rfl), (by first | exact f14 | exact fun _ => rfl)⟩, no15 (D := D) hd⟩
    · rintro D aa wx ⟨x22, x23, x24, x25, x26, x27, x28, x29, x30, x31, x32, x33, x34, x35, x9, rfl, hB, hall, hfs, hfin⟩ hD hdep KK hKK
      have hd := d15 hall (show 2 < 15 by omega) hD
      obtain ⟨f0, f1, f2, f3, f4, f5, f6, f7, f8, f9, f10, f11, f12, f13, f14⟩ := hfs hd
      simp only [Act.put, List.cons_append, List.nil_append, List.setIfInBounds_toArray, List.set_cons_zero, List.set_cons_succ]
      go_simp
      exact hKK _ _ ⟨_, _, _, _, _, _, _, _, _, _, _, _, _, _, _, rfl, hB, no15 (D := D) hd, fun _ => ⟨(by first | exact f0 | exact fun _ => rfl), (by first | exact f1 | exact fun _ => rfl), fun _ => rfl, (by first | exact f3 | exact fun _ => rfl), (by first | exact f4 | exact fun _ => rfl), (by first | exact f5 | exact fun _ => rfl), (by first | exact f6 | exact fun _ => rfl), (by first | exact f7 | exact fun _ => rfl), (by first | exact f8 | exact fun _ => rfl), (by first | exact f9 | exact fun _ => rfl), (by first | exact f10 | exact fun _ => rfl), (by first | exact f11 | exact fun _ => rfl), (by first | exact f12 | exact fun _ => rfl), (by first | exact f13 | exact fun _ => rfl), (by first | exact f14 | exact fun _ => rfl)⟩, no15 (D := D) hd⟩
    · rintro D aa wx ⟨x22, x23, x24, x25, x26, x27, x28, x29, x30, x31, x32, x33, x34, x35, x9, rfl, hB, hall, hfs, hfin⟩ hD hdep KK hKK
      have hd := d15 hall (show 3 < 15 by omega) hD
      obtain ⟨f0, f1, f2, f3, f4, f5, f6, f7, f8, f9, f10, f11, f12, f13, f14⟩ := hfs hd
      simp only [Act.put, List.cons_append, List.nil_append, List.setIfInBounds_toArray, List.set_cons_zero, List.set_cons_succ]
      go_simp
      exact hKK _ _ ⟨_, _, _, _, _, _, _, _, _, _, _, _, _, _, _, rfl, hB, no15 (D := D) hd, fun _ => ⟨(by first | exact f0 | exact fun _ => rfl), (by first | exact f1 | exact fun _ => rfl), (by first | exact f2 | exact fun _ => rfl), fun _ => rfl, (by first | exact f4 | exact fun _ => rfl), (by first | exact f5 | exact fun _ => rfl), (by first | exact f6 | exact fun _ => rfl), (by first | exact f7 | exact fun _ => rfl), (by first | exact f8 | exact fun _ => rfl), (by first | exact f9 | exact fun _ => rfl), (by first | exact f10 | exact fun _ => rfl), (by first | exact f11 | exact fun _ => rfl), (by first | exact f12 | exact fun _ => rfl), (by first | exact f13 | exact fun _ => rfl), (by first | exact f14 | exact fun _ => rfl)⟩, no15 (D := D) hd⟩
    · rintro D aa wx ⟨x22, x23, x24, x25, x26, x27, x28, x29, x30, x31, x32, x33, x34, x35, x9, rfl, hB, hall, hfs, hfin⟩ hD hdep KK hKK
      have hd := d15 hall (show 4 < 15 by omega) hD
      obtain ⟨f0, f1, f2, f3, f4, f5, f6, f7, f8, f9, f10, f11, f12, f13, f14⟩ := hfs hd
      simp [Region.binds] at hdep
      have e3 := f3 (by simp [*])
      subst e3
      have c0 := (N1.below hB).c0
      simp only [Act.put, List.cons_append, List.nil_append, List.setIfInBounds_toArray, List.set_cons_zero, List.set_cons_succ]
      go_simp
      exact hKK _ _ ⟨_, _, _, _, _, _, _, _, _, _, _, _, _, _, _, rfl, hB, no15 (D := D) hd, fun _ => ⟨(by first | exact f0 | exact fun _ => rfl), (by first | exact f1 | exact fun _ => rfl), (by first | exact f2 | exact fun _ => rfl), (by first | exact f3 | exact fun _ => rfl), fun _ => rfl, (by first | exact f5 | exact fun _ => rfl), (by first | exact f6 | exact fun _ => rfl), (by first | exact f7 | exact fun _ => rfl), (by first | exact f8 | exact fun _ => rfl), (by first | exact f9 | exact fun _ => rfl), (by first | exact f10 | exact fun _ => rfl), (by first | exact f11 | exact fun _ => rfl), (by first | exact f12 | exact fun _ => rfl), (by first | exact f13 | exact fun _ => rfl), (by first | exact f14 | exact fun _ => rfl)⟩, no15 (D := D) hd⟩
    · rintro D aa wx ⟨x22, x23, x24, x25, x26, x27, x28, x29, x30, x31, x32, x33, x34, x35, x9, rfl, hB, hall, hfs, hfin⟩ hD hdep KK hKK
      have hd := d15 hall (show 5 < 15 by omega) hD
      obtain ⟨f0, f1, f2, f3, f4, f5, f6, f7, f8, f9, f10, f11, f12, f13, f14⟩ := hfs hd
      simp [Region.binds] at hdep
      have e1 := f1 (by simp [*])
      subst e1
      have e2 := f2 (by simp [*])
      subst e2
      have e4 := f4 (by simp [*])
      subst e4
      simp only [Act.put, List.cons_append, List.nil_append, List.setIfInBounds_toArray, List.set_cons_zero, List.set_cons_succ]
      go_simp
      have hb := new_below wx (.cells #[.slice a n c, .slice none 0 0, .slice a2 n2 c2] 22)
      exact hKK _ _ ⟨_, _, _, _, _, _, _, _, _, _, _, _, _, _, _, rfl, below_to hB hb, no15 (D := D) hd, fun _ => ⟨(by first | exact f0 | exact fun _ => rfl), (by first | exact f1 | exact fun _ => rfl), (by first | exact f2 | exact fun _ => rfl), (by first | exact f3 | exact fun _ => rfl), (by first | exact f4 | exact fun _ => rfl), fun _ => ⟨_, rfl, lstI_new _ (HIt.out.below hB) (HBt.below hB) (HIu.out.below hB)⟩, fun h => (f6 h).below hb, (by first | exact f7 | exact fun _ => rfl), (by first | exact f8 | exact fun _ => rfl), (by first | exact f9 | exact fun _ => rfl), (by first | exact f10 | exact fun _ => rfl), fun h => (f11 h).below hb, fun h => (f12 h).below hb, fun h => (f13 h).below hb, fun h => (f14 h).below hb⟩, no15 (D := D) hd⟩
    · rintro D aa wx ⟨x22, x23, x24, x25, x26, x27, x28, x29, x30, x31, x32, x33, x34, x35, x9, rfl, hB, hall, hfs, hfin⟩ hD hdep KK hKK
      have hd := d15 hall (show 6 < 15 by omega) hD
      obtain ⟨f0, f1, f2, f3, f4, f5, f6, f7, f8, f9, f10, f11, f12, f13, f14⟩ := hfs hd
      simp [Region.binds] at hdep
      obtain ⟨B5, rfl, e5⟩ := f5 (by simp [*])
      simp only [Act.put, List.cons_append, List.nil_append, List.setIfInBounds_toArray, List.set_cons_zero, List.set_cons_succ]
      go_simp
      refine (KCI2.out _ _ e5).mono ?_
      rintro e w2 ⟨a1, c1, rfl, hac, hfa, hIt, hb⟩
      exact hKK _ _ ⟨_, _, _, _, _, _, _, _, _, _, _, _, _, _, _, rfl, below_to hB hb, no15 (D := D) hd, fun _ => ⟨(by first | exact f0 | exact fun _ => rfl), (by first | exact f1 | exact fun _ => rfl), (by first | exact f2 | exact fun _ => rfl), (by first | exact f3 | exact fun _ => rfl), (by first | exact f4 | exact fun _ => rfl), fun _ => ⟨B5, rfl, e5.below hb⟩, fun _ => ⟨a1, c1, rfl, hac, hfa.mono hB.size, hIt⟩, (by first | exact f7 | exact fun _ => rfl), (by first | exact f8 | exact fun _ => rfl), (by first | exact f9 | exact fun _ => rfl), (by first | exact f10 | exact fun _ => rfl), fun h => (f11 h).below hb, fun h => (f12 h).below hb, fun h => (f13 h).below hb, fun h => (f14 h).below hb⟩, no15 (D := D) hd⟩
    · rintro D aa wx ⟨x22, x23, x24, x25, x26, x27, x28, x29, x30, x31, x32, x33, x34, x35, x9, rfl, hB, hall, hfs, hfin⟩ hD hdep KK hKK
      have hd := d15 hall (show 7 < 15 by omega) hD
      obtain ⟨f0, f1, f2, f3, f4, f5, f6, f7, f8, f9, f10, f11, f12, f13, f14⟩ := hfs hd
      simp only [Act.put, List.cons_append, List.nil_append, List.setIfInBounds_toArray, List.set_cons_zero, List.set_cons_succ]
      go_simp
      exact hKK _ _ ⟨_, _, _, _, _, _, _, _, _, _, _, _, _, _, _, rfl, hB, no15 (D := D) hd, fun _ => ⟨(by first | exact f0 | exact fun _ => rfl), (by first | exact f1 | exact fun _ => rfl), (by first | exact f2 | exact fun _ => rfl), (by first | exact f3 | exact fun _ => rfl), (by first | exact f4 | exact fun _ => rfl), (by first | exact f5 | exact fun _ => rfl), (by first | exact f6 | exact fun _ => rfl), fun _ => rfl, (by first | exact f8 | exact fun _ => rfl), (by first | exact f9 | exact fun _ => rfl), (by first | exact f10 | exact fun _ => rfl), (by first | exact f11 | exact fun _ => rfl), (by first | exact f12 | exact fun _ => rfl), (by first | exact f13 | exact fun _ => rfl), (by first | exact f14 | exact fun _ => rfl)⟩, no15 (D := D) hd⟩
    · rintro D aa wx ⟨x22, x23, x24, x25, x26, x27, x28, x29, x30, x31, x32, x33, x34, x35, x9, rfl, hB, hall, hfs, hfin⟩ hD hdep KK hKK
      have hd := d15 hall (show 8 < 15 by omega) hD
      obtain ⟨f0, f1, f2, f3, f4, f5, f6, f7, f8, f9, f10, f11, f12, f13, f14⟩ := hfs hd
      simp [Region.binds] at hdep
      have e7 := f7 (by simp [*])
      subst e7
      have c0 := (N0.below hB).c1
      simp only [Act.put, List.cons_append, List.nil_append, List.setIfInBounds_toArray, List.set_cons_zero, List.set_cons_succ]
      go_simp
      exact hKK _ _ ⟨_, _, _, _, _, _, _, _, _, _, _, _, _, _, _, rfl, hB, no15 (D := D) hd, fun _ => ⟨(by first | exact f0 | exact fun _ => rfl), (by first | exact f1 | exact fun _ => rfl), (by first | exact f2 | exact fun _ => rfl), (by first | exact f3 | exact fun _ => rfl), (by first | exact f4 | exact fun _ => rfl), (by first | exact f5 | exact fun _ => rfl), (by first | exact f6 | exact fun _ => rfl), (by first | exact f7 | exact fun _ => rfl), fun _ => rfl, (by first | exact f9 | exact fun _ => rfl), (by first | exact f10 | exact fun _ => rfl), (by first | exact f11 | exact fun _ => rfl), (by first | exact f12 | exact fun _ => rfl), (by first | exact f13 | exact fun _ => rfl), (by first | exact f14 | exact fun _ => rfl)⟩, no15 (D := D) hd⟩
    · rintro D aa wx ⟨x22, x23, x24, x25, x26, x27, x28, x29, x30, x31, x32, x33, x34, x35, x9, rfl, hB, hall, hfs, hfin⟩ hD hdep KK hKK
      have hd := d15 hall (show 9 < 15 by omega) hD
      obtain ⟨f0, f1, f2, f3, f4, f5, f6, f7, f8, f9, f10, f11, f12, f13, f14⟩ := hfs hd
      simp only [Act.put, List.cons_append, List.nil_append, List.setIfInBounds_toArray, List.set_cons_zero, List.set_cons_succ]
      go_simp
      exact hKK _ _ ⟨_, _, _, _, _, _, _, _, _, _, _, _, _, _, _, rfl, hB, no15 (D := D) hd, fun _ => ⟨(by first | exact f0 | exact fun _ => rfl), (by first | exact f1 | exact fun _ => rfl), (by first | exact f2 | exact fun _ => rfl), (by first | exact f3 | exact fun _ => rfl), (by first | exact f4 | exact fun _ => rfl), (by first | exact f5 | exact fun _ => rfl), (by first | exact f6 | exact fun _ => rfl), (by first | exact f7 | exact fun _ => rfl), (by first | exact f8 | exact fun _ => rfl), fun _ => rfl, (by first | exact f10 | exact fun _ => rfl), (by first | exact f11 | exact fun _ => rfl), (by first | exact f12 | exact fun _ => rfl), (by first | exact f13 | exact fun _ => rfl), (by first | exact f14 | exact fun _ => rfl)⟩, no15 (D := D) hd⟩
    · rintro D aa wx ⟨x22, x23, x24, x25, x26, x27, x28, x29, x30, x31, x32, x33, x34, x35, x9, rfl, hB, hall, hfs, hfin⟩ hD hdep KK hKK
      have hd := d15 hall (show 10 < 15 by omega) hD
      obtain ⟨f0, f1, f2, f3, f4, f5, f6, f7, f8, f9, f10, f11, f12, f13, f14⟩ := hfs hd
      simp [Region.binds] at hdep
      have e9 := f9 (by simp [*])
      subst e9
      have c0 := (N1.below hB).c1
      simp only [Act.put, List.cons_append, List.nil_append, List.setIfInBounds_toArray, List.set_cons_zero, List.set_cons_succ]
      go_simp
      exact hKK _ _ ⟨_, _, _, _, _, _, _, _, _, _, _, _, _, _, _, rfl, hB, no15 (D := D) hd, fun _ => ⟨(by first | exact f0 | exact fun _ => rfl), (by first | exact f1 | exact fun _ => rfl), (by first | exact f2 | exact fun _ => rfl), (by first | exact f3 | exact fun _ => rfl), (by first | exact f4 | exact fun _ => rfl), (by first | exact f5 | exact fun _ => rfl), (by first | exact f6 | exact fun _ => rfl), (by first | exact f7 | exact fun _ => rfl), (by first | exact f8 | exact fun _ => rfl), (by first | exact f9 | exact fun _ => rfl), fun _ => rfl, (by first | exact f11 | exact fun _ => rfl), (by first | exact f12 | exact fun _ => rfl), (by first | exact f13 | exact fun _ => rfl), (by first | exact f14 | exact fun _ => rfl)⟩, no15 (D := D) hd⟩
    · rintro D aa wx ⟨x22, x23, x24, x25, x26, x27, x28, x29, x30, x31, x32, x33, x34, x35, x9, rfl, hB, hall, hfs, hfin⟩ hD hdep KK hKK
      have hd := d15 hall (show 11 < 15 by omega) hD
      obtain ⟨f0, f1, f2, f3, f4, f5, f6, f7, f8, f9, f10, f11, f12, f13, f14⟩ := hfs hd
      simp [Region.binds] at hdep
      have e8 := f8 (by simp [*])
      subst e8
      have e10 := f10 (by simp [*])
      subst e10
      simp only [Act.put, List.cons_append, List.nil_append, List.setIfInBounds_toArray, List.set_cons_zero, List.set_cons_succ]
      go_simp
      have hb := new_below wx (.cells #[.slice ka kn kc, .slice ka2 kn2 kc2] 23)
      exact hKK _ _ ⟨_, _, _, _, _, _, _, _, _, _, _, _, _, _, _, rfl, below_to hB hb, no15 (D := D) hd, fun _ => ⟨(by first | exact f0 | exact fun _ => rfl), (by first | exact f1 | exact fun _ => rfl), (by first | exact f2 | exact fun _ => rfl), (by first | exact f3 | exact fun _ => rfl), (by first | exact f4 | exact fun _ => rfl), fun h => (f5 h).below hb, fun h => (f6 h).below hb, (by first | exact f7 | exact fun _ => rfl), (by first | exact f8 | exact fun _ => rfl), (by first | exact f9 | exact fun _ => rfl), (by first | exact f10 | exact fun _ => rfl), fun _ => ⟨_, rfl, lstK_new _ (HKt.out.below hB) (HKu.out.below hB)⟩, fun h => (f12 h).below hb, fun h => (f13 h).below hb, fun h => (f14 h).below hb⟩, no15 (D := D) hd⟩
    · rintro D aa wx ⟨x22, x23, x24, x25, x26, x27, x28, x29, x30, x31, x32, x33, x34, x35, x9, rfl, hB, hall, hfs, hfin⟩ hD hdep KK hKK
      have hd := d15 hall (show 12 < 15 by omega) hD
      obtain ⟨f0, f1, f2, f3, f4, f5, f6, f7, f8, f9, f10, f11, f12, f13, f14⟩ := hfs hd
      simp [Region.binds] at hdep
      obtain ⟨B11, rfl, e11⟩ := f11 (by simp [*])
      simp only [Act.put, List.cons_append, List.nil_append, List.setIfInBounds_toArray, List.set_cons_zero, List.set_cons_succ]
      go_simp
      refine (KCK2.out _ _ e11).mono ?_
      rintro e w2 ⟨a1, c1, rfl, hac, hfa, hIt, hb⟩
      exact hKK _ _ ⟨_, _, _, _, _, _, _, _, _, _, _, _, _, _, _, rfl, below_to hB hb, no15 (D := D) hd, fun _ => ⟨(by first | exact f0 | exact fun _ => rfl), (by first | exact f1 | exact fun _ => rfl), (by first | exact f2 | exact fun _ => rfl), (by first | exact f3 | exact fun _ => rfl), (by first | exact f4 | exact fun _ => rfl), fun h => (f5 h).below hb, fun h => (f6 h).below hb, (by first | exact f7 | exact fun _ => rfl), (by first | exact f8 | exact fun _ => rfl), (by first | exact f9 | exact fun _ => rfl), (by first | exact f10 | exact fun _ => rfl), fun _ => ⟨B11, rfl, e11.below hb⟩, fun _ => ⟨a1, c1, rfl, hac, hfa.mono hB.size, hIt⟩, fun h => (f13 h).below hb, fun h => (f14 h).below hb⟩, no15 (D := D) hd⟩
    · rintro D aa wx ⟨x22, x23, x24, x25, x26, x27, x28, x29, x30, x31, x32, x33, x34, x35, x9, rfl, hB, hall, hfs, hfin⟩ hD hdep KK hKK
      have hd := d15 hall (show 13 < 15 by omega) hD
      obtain ⟨f0, f1, f2, f3, f4, f5, f6, f7, f8, f9, f10, f11, f12, f13, f14⟩ := hfs hd
      simp [Region.binds] at hdep
      obtain ⟨a6, c6, rfl, h6, k6, l6⟩ := f6 (by simp [*])
      obtain ⟨a12, c12, rfl, h12, k12, l12⟩ := f12 (by simp [*])
      simp only [Act.put, List.cons_append, List.nil_append, List.setIfInBounds_toArray, List.set_cons_zero, List.set_cons_succ]
      go_simp
      exact hKK _ _ ⟨_, _, _, _, _, _, _, _, _, _, _, _, _, _, _, rfl, hB, no15 (D := D) hd, fun _ => ⟨(by first | exact f0 | exact fun _ => rfl), (by first | exact f1 | exact fun _ => rfl), (by first | exact f2 | exact fun _ => rfl), (by first | exact f3 | exact fun _ => rfl), (by first | exact f4 | exact fun _ => rfl), (by first | exact f5 | exact fun _ => rfl), fun _ => ⟨a6, c6, rfl, h6, k6, l6⟩, (by first | exact f7 | exact fun _ => rfl), (by first | exact f8 | exact fun _ => rfl), (by first | exact f9 | exact fun _ => rfl), (by first | exact f10 | exact fun _ => rfl), (by first | exact f11 | exact fun _ => rfl), fun _ => ⟨a12, c12, rfl, h12, k12, l12⟩, fun _ => ⟨_, _, rfl, ⟨a6, c6, rfl, h6, k6, l6⟩, ⟨a12, c12, rfl, h12, k12, l12⟩⟩, (by first | exact f14 | exact fun _ => rfl)⟩, no15 (D := D) hd⟩
    · rintro D aa wx ⟨x22, x23, x24, x25, x26, x27, x28, x29, x30, x31, x32, x33, x34, x35, x9, rfl, hB, hall, hfs, hfin⟩ hD hdep KK hKK
      have hd := d15 hall (show 14 < 15 by omega) hD
      obtain ⟨f0, f1, f2, f3, f4, f5, f6, f7, f8, f9, f10, f11, f12, f13, f14⟩ := hfs hd
      simp only [Act.put, List.cons_append, List.nil_append, List.setIfInBounds_toArray, List.set_cons_zero, List.set_cons_succ]
      go_simp
      have hb := new_below wx (.cells #[.slice none 0 0, .slice none 0 0] 31)
      exact hKK _ _ ⟨_, _, _, _, _, _, _, _, _, _, _, _, _, _, _, rfl, below_to hB hb, no15 (D := D) hd, fun _ => ⟨(by first | exact f0 | exact fun _ => rfl), (by first | exact f1 | exact fun _ => rfl), (by first | exact f2 | exact fun _ => rfl), (by first | exact f3 | exact fun _ => rfl), (by first | exact f4 | exact fun _ => rfl), fun h => (f5 h).below hb, fun h => (f6 h).below hb, (by first | exact f7 | exact fun _ => rfl), (by first | exact f8 | exact fun _ => rfl), (by first | exact f9 | exact fun _ => rfl), (by first | exact f10 | exact fun _ => rfl), fun h => (f11 h).below hb, fun h => (f12 h).below hb, fun h => (f13 h).below hb, fun _ => ⟨_, rfl, hB.size, Nb.fresh _ _ _ _, heap_new _ _⟩⟩, no15 (D := D) hd⟩
    · rintro D aa wx ⟨x22, x23, x24, x25, x26, x27, x28, x29, x30, x31, x32, x33, x34, x35, x9, rfl, hB, hall, hfs, hfin⟩ hD hdep KK hKK
      obtain ⟨f0, f1, f2, f3, f4, f5, f6, f7, f8, f9, f10, f11, f12, f13, f14⟩ := hfs hD
      have hq := List.all_eq_true.1 hdep
      have hal : ∀ j, j < 15 → D j = true := by
        intro j hj
        have : j = 0 ∨ j = 1 ∨ j = 2 ∨ j = 3 ∨ j = 4 ∨ j = 5 ∨ j = 6 ∨ j = 7 ∨ j = 8 ∨ j = 9 ∨ j = 10 ∨ j = 11 ∨ j = 12 ∨ j = 13 ∨ j = 14 := by omega
        rcases this with rfl | rfl | rfl | rfl | rfl | rfl | rfl | rfl | rfl | rfl | rfl | rfl | rfl | rfl | rfl
        · simpa [Region.binds] using hq ⟨0, Ground.phase⟩ (by simp)
        · simpa [Region.binds] using hq ⟨1, Ground.phase⟩ (by simp)
        · simpa [Region.binds] using hq ⟨2, Ground.phase⟩ (by simp)
        · simpa [Region.binds] using hq ⟨3, Ground.phase⟩ (by simp)
        · simpa [Region.binds] using hq ⟨4, Ground.phase⟩ (by simp)
        · simpa [Region.binds] using hq ⟨5, Ground.phase⟩ (by simp)
        · simpa [Region.binds] using hq ⟨6, Ground.phase⟩ (by simp)
        · simpa [Region.binds] using hq ⟨7, Ground.phase⟩ (by simp)
        · simpa [Region.binds] using hq ⟨8, Ground.phase⟩ (by simp)
        · simpa [Region.binds] using hq ⟨9, Ground.phase⟩ (by simp)
        · simpa [Region.binds] using hq ⟨10, Ground.phase⟩ (by simp)
        · simpa [Region.binds] using hq ⟨11, Ground.phase⟩ (by simp)
        · simpa [Region.binds] using hq ⟨12, Ground.phase⟩ (by simp)
        · simpa [Region.binds] using hq ⟨13, Ground.phase⟩ (by simp)
        · simpa [Region.binds] using hq ⟨14, Ground.phase⟩ (by simp)
      obtain ⟨y, z, rfl, ⟨a1, c1, rfl, h1, h2, h3⟩, ⟨a3, c3, rfl, h4, h5, h6⟩⟩ := f13 (hal 13 (by omega))
      obtain ⟨g, rfl, hg, hNb, hgb⟩ := f14 (hal 14 (by omega))
      have y0 := hNb.c0
      have y1 := hNb.c1
      have z0 := hNb.f0
      have z1 := hNb.f1
      have hfn := Lib.hid (show HF ((wx.setCell ⟨g, 0, none⟩ (.slice a1 NN c1)).setCell ⟨g, 1, none⟩ (.slice a3 MM c3)) wy.heap.size NN MM LL ML (.pointer (some ⟨g, 0, none⟩)) from ⟨g, _, _, rfl, hg, (hNb.set0 _).set1 _, ⟨a1, c1, rfl, h1, h2, its_put h3 hgb⟩, ⟨a3, c3, rfl, h4, h5, kds_put h6 hgb⟩⟩)
      have hB2 := Lib.hid ((hB.setCell (p := ⟨g, 0, none⟩) hg (.slice a1 NN c1)).setCell (p := ⟨g, 1, none⟩) hg (.slice a3 MM c3))
      have hal := Lib.hid hal
      clear f0 f1 f2 f3 f4 f5 f6 f7 f8 f9 f10 f11 f12 f13 f14 hfs hfin hdep hq
      simp only [Act.put, List.cons_append, List.nil_append, List.setIfInBounds_toArray, List.set_cons_zero, List.set_cons_succ]
      go_simp
      refine hKK _ _ ⟨_, _, _, _, _, _, _, _, _, _, _, _, _, _, _, rfl, hB2.out, fun _ j hj => ?_, (by intro h; cases h), fun _ => hfn.out⟩
      show (if j = 15 then true else D j) = true
      rw [if_neg (by omega)]; exact hal.out j hj
  rintro D aa w4 ⟨x22, x23, x24, x25, x26, x27, x28, x29, x30, x31, x32, x33, x34, x35, x9, rfl, hB, hall, hfs, hfin⟩ hD
  obtain ⟨g, y, z, rfl, hg, hNb, ⟨a1, c1, rfl, h1, h2, h3⟩, ⟨a3, c3, rfl, h4, h5, h6⟩⟩ := hfin (hD 15 (by simp))
  simp only [Act.put, List.cons_append, List.nil_append, List.setIfInBounds_toArray, List.set_cons_zero, List.set_cons_succ]
  clear hall hfs hfin hD
  have hgs : w.heap.size + 1 + 1 < wy.heap.size := N2.lt
  replace N2 := N2.below hB
  replace hBB := below_to hBB hB
  clear hB
  have d0 := hNb.c0
  have d1 := hNb.c1
  have HIt2 := Lib.hid h3
  have HKt2 := Lib.hid h6
  clear h3 h6
  go_wp2_with fail
  refine (KCh.out _ _ _ _ _ HIt2.out HKt2.out).mono ?_
  rintro e w5 ⟨rfl, hb⟩
  replace N2 := N2.below hb
  replace hNb := hNb.below hb
  replace hBB := below_to hBB hb
  have HIt3 := Lib.hid (HIt2.out.below hb)
  have HKt3 := Lib.hid (HKt2.out.below hb)
  clear hb d0 d1
  have d0 := hNb.c0
  have d1 := hNb.c1
  have y0 := N2.c0
  have y1 := N2.c1
  have z0 := N2.f0
  have z1 := N2.f1
  by_cases hR : RightP LL ML
  · have hc : chkE LL ML = 0 := if_pos hR
    rw [hc]
    have M2 := (N2.set0 (.slice a1 NN c1)).set1 (.slice a3 MM c3)
    have m0 := M2.c0
    have m1 := M2.c1
    have HB := Lib.hid ((hBB.setCell (p := ⟨w.heap.size + 1 + 1, 0, none⟩) (by show w.heap.size ≤ w.heap.size + 1 + 1; omega) (.slice a1 NN c1)).setCell (p := ⟨w.heap.size + 1 + 1, 1, none⟩) (by show w.heap.size ≤ w.heap.size + 1 + 1; omega) (.slice a3 MM c3))
    have HI1 := Lib.hid ((HIt3.out.set (g := w.heap.size + 1 + 1) (o := 0) (x := .slice a1 NN c1) h2 hgs).set (g := w.heap.size + 1 + 1) (o := 1) (x := .slice a3 MM c3) h2 hgs)
    have HK1 := Lib.hid ((HKt3.out.set (g := w.heap.size + 1 + 1) (o := 0) (x := .slice a1 NN c1) h5 hgs).set (g := w.heap.size + 1 + 1) (o := 1) (x := .slice a3 MM c3) h5 hgs)
    have HF1 := Lib.hid (h2.mono (show w.heap.size ≤ wy.heap.size by omega))
    have HF2 := Lib.hid (h5.mono (show w.heap.size ≤ wy.heap.size by omega))
    have HR := Lib.hid hR
    have HL1 := Lib.hid h1
    have HL4 := Lib.hid h4
    clear M2 hBB N0 N1 h2 h5 hgs hR hc hNb h1 h4
    go_wp2_with fail
    refine bodyPost_ret (v := .tuple #[.agg #[.slice a1 NN c1, .slice a3 MM c3], .bool true]) (by simp [results, Try.results24, go_sem, m0, m1]) rfl ?_
    exact ⟨a1, NN, c1, a3, MM, c3, by rw [decide_eq_true HR.out], HL1.out, HL4.out, HF1.out, HF2.out, by rw [if_pos HR.out]; exact HI1.out, by rw [if_pos HR.out]; exact HK1.out, HB.out⟩
  · have hc : chkE LL ML = 18 := if_neg hR
    rw [hc]
    have M2 := (N2.set0 (.slice none 0 0)).set1 (.slice none 0 0)
    have m0 := M2.c0
    have m1 := M2.c1
    have HB := Lib.hid ((hBB.setCell (p := ⟨w.heap.size + 1 + 1, 0, none⟩) (by show w.heap.size ≤ w.heap.size + 1 + 1; omega) (.slice none 0 0)).setCell (p := ⟨w.heap.size + 1 + 1, 1, none⟩) (by show w.heap.size ≤ w.heap.size + 1 + 1; omega) (.slice none 0 0))
    have HR := Lib.hid hR
    clear M2 hBB N0 N1 h2 h5 hgs hR hc hNb h1 h4
    go_wp2_with fail
    refine bodyPost_ret (v := .tuple #[.agg #[.slice none 0 0, .slice none 0 0], .bool false]) (by simp [results, Try.results24, go_sem, m0, m1]) rfl ?_
    exact ⟨none, 0, 0, none, 0, 0, by rw [decide_eq_false HR.out], Nat.le_refl _, Nat.le_refl _, (by intro x hx; cases hx), (by intro x hx; cases hx), by rw [if_neg HR.out]; exact ⟨rfl, .inl rfl⟩, by rw [if_neg HR.out]; exact ⟨rfl, .inl rfl⟩, HB.out⟩
end
end Go.Proofs.Ytnjpijihjifkfaa
