/- NodeCuts: the walk of the whole statement, at nodes, keys and items. -/
import Derived.Test.YtnjpijihjifkfaaV1
import Derived.Test.YtnjpijihjifkfaaTU
namespace Go.Proofs.Ytnjpijihjifkfaa
open Go.RowKit
set_option linter.unusedVariables false
set_option linter.unusedSimpArgs false
def JR (w : World) (L : List It) (M : List Int) (t : Bool) (x : Value) : Prop := ∃ a n c ka kn kc, x = .tuple #[.agg #[.slice a n c, .slice ka kn kc], .bool t] ∧ Its w a n L ∧ Kds w ka kn M
def NR (w : World) (L : List It) (M : List Int) (x : Value) : Prop := ∃ a n c ka kn kc, x = .agg #[.slice a n c, .slice ka kn kc] ∧ Its w a n L ∧ Kds w ka kn M
def HX (w : World) (L : List It) (M : List Int) (x : Value) : Prop := ∃ g a n c ka kn kc, x = .pointer (some ⟨g, 0, none⟩) ∧ NodeAt w g a n c ka kn kc L M
section
variable {w w1 : World} (hb : Below w.heap.size w w1)
include hb
theorem JR.below {L : List It} {M : List Int} {t : Bool} {x : Value} (H : JR w L M t x) : JR w1 L M t x := by obtain ⟨a, n, c, ka, kn, kc, h1, h2, h3⟩ := H; exact ⟨a, n, c, ka, kn, kc, h1, h2.below hb, h3.below hb⟩
theorem NR.below {L : List It} {M : List Int} {x : Value} (H : NR w L M x) : NR w1 L M x := by obtain ⟨a, n, c, ka, kn, kc, h1, h2, h3⟩ := H; exact ⟨a, n, c, ka, kn, kc, h1, h2.below hb, h3.below hb⟩
theorem HX.below {L : List It} {M : List Int} {x : Value} (H : HX w L M x) : HX w1 L M x := by obtain ⟨g, a, n, c, ka, kn, kc, h1, h2⟩ := H; exact ⟨g, a, n, c, ka, kn, kc, h1, h2.below hb⟩
end
theorem JR.put {w : World} {L : List It} {M : List Int} {t : Bool} {x u v : Value} {g : Nat} {T : TypeId} (H : JR w L M t x) (h : w.heap[g]? = some (.cells #[.slice none 0 0, .slice none 0 0] T)) : JR ((w.setCell ⟨g, 0, none⟩ u).setCell ⟨g, 1, none⟩ v) L M t x := by
  obtain ⟨a, n, c, ka, kn, kc, h1, h2, h3⟩ := H; exact ⟨a, n, c, ka, kn, kc, h1, its_put h2 h, kds_put h3 h⟩
theorem NR.put {w : World} {L : List It} {M : List Int} {x u v : Value} {g : Nat} {T : TypeId} (H : NR w L M x) (h : w.heap[g]? = some (.cells #[.slice none 0 0, .slice none 0 0] T)) : NR ((w.setCell ⟨g, 0, none⟩ u).setCell ⟨g, 1, none⟩ v) L M x := by
  obtain ⟨a, n, c, ka, kn, kc, h1, h2, h3⟩ := H; exact ⟨a, n, c, ka, kn, kc, h1, its_put h2 h, kds_put h3 h⟩
structure XB (w : World) (g : Nat) (p q : ByteArray) : Prop where
  lt : g < w.heap.size
  c0 : w.cell? ⟨g, 0, none⟩ = some (.string p)
  c1 : w.cell? ⟨g, 1, none⟩ = some (.string q)
theorem XB.below {w w1 : World} {g : Nat} {p q : ByteArray} (h : XB w g p q) (B : Below w.heap.size w w1) : XB w1 g p q :=
  ⟨Nat.lt_of_lt_of_le h.lt B.size, (B.cell (p := ⟨g, 0, none⟩) h.lt).trans h.c0, (B.cell (p := ⟨g, 1, none⟩) h.lt).trans h.c1⟩
theorem same_ex {w : World} {L : List It} {M : List Int} {a a' ka ka' : Option Addr} {n n' kn kn' c c' kc kc' : Nat} (h1 : Its w a n L) (h2 : Kds w ka kn M) (h3 : Its w a' n' L) (h4 : Kds w ka' kn' M) (hL : L.length ≤ 1000) (hM : M.length ≤ 1000) :
    Calls Try.prog 15 #[.agg #[.slice a n c, .slice ka kn kc], .agg #[.slice a' n' c', .slice ka' kn' kc']] w fun e w' => e = .returned (.bool true) ∧ Below w.heap.size w w' := by
  obtain rfl : n = n' := by rw [← h1.1, ← h3.1]
  obtain rfl : kn = kn' := by rw [← h2.1, ← h4.1]
  exact same_any h1 h3 h2 h4 (by rw [← h1.1]; omega) (by rw [← h2.1]; omega)
theorem cond_factP {D P : Nat → Bool} {f V : Nat → Value} {j : Nat} {v : Value} (h : ∀ k, P k = false → D k = true → f k = V k) (hv : v = V j) : ∀ k, P k = false → D k = true → cond (Nat.beq k j) v (f k) = V k := by
  intro k hp hk
  by_cases e : k = j
  · subst e; rw [Nat.beq_refl]; exact hv
  · have : Nat.beq k j = false := by
      cases h2 : Nat.beq k j with
      | false => rfl
      | true => exact absurd (Nat.eq_of_beq_eq_true h2) e
    rw [this]; exact h k hp hk
theorem upd_factP {D P : Nat → Bool} {f V : Nat → Value} {i : Nat} {v : Value} (h : ∀ k, P k = false → D k = true → f k = V k) (hv : v = V i) : ∀ k, P k = false → upd D i k = true → cond (Nat.beq k i) v (f k) = V k := by
  intro k hp hk
  by_cases e : k = i
  · subst e; rw [Nat.beq_refl]; exact hv
  · have : Nat.beq k i = false := by
      cases h2 : Nat.beq k i with
      | false => rfl
      | true => exact absurd (Nat.eq_of_beq_eq_true h2) e
    rw [this]
    refine h k hp ?_
    unfold upd at hk
    rwa [if_neg e] at hk
theorem cond_rowP {D P : Nat → Bool} {f V : Nat → Value} {r : Nat} {v : Value} (hr : P r = true) (h : ∀ k, P k = false → D k = true → f k = V k) : ∀ k, P k = false → D k = true → cond (Nat.beq k r) v (f k) = V k := by
  intro k hp hk
  have : Nat.beq k r = false := by
    cases h2 : Nat.beq k r with
    | false => rfl
    | true => rw [Nat.eq_of_beq_eq_true h2, hr] at hp; cases hp
  rw [this]; exact h k hp hk
theorem upd_rowP {D P : Nat → Bool} {f V : Nat → Value} {r : Nat} {v : Value} (hr : P r = true) (h : ∀ k, P k = false → D k = true → f k = V k) : ∀ k, P k = false → upd D r k = true → cond (Nat.beq k r) v (f k) = V k := by
  intro k hp hk
  have e : k ≠ r := fun e => by rw [e, hr] at hp; cases hp
  have : Nat.beq k r = false := by
    cases h2 : Nat.beq k r with
    | false => rfl
    | true => exact absurd (Nat.eq_of_beq_eq_true h2) e
  rw [this]
  refine h k hp ?_
  unfold upd at hk
  rwa [if_neg e] at hk
def Inv7 (W1 : World) (sA : Value) (sB : Value) (key : ByteArray) (L : List It) (M : List Int) (t : Bool) (a0 : Act) (D : Nat → Bool) (act : Act) (w : World) : Prop :=
  ∃ x19 x20 x70 x71 x72 x73 x74 x75 x76 x77 x78, act = ⟨(a0.tmps.toList.take 19 ++ x19 :: x20 :: ((a0.tmps.toList.drop 21).take 49 ++ x70 :: x71 :: x72 :: x73 :: x74 :: x75 :: x76 :: x77 :: x78 :: a0.tmps.toList.drop 79)).toArray, []⟩ ∧ Below W1.heap.size W1 w ∧ Hid ((D 0 = true → x71 = sA) ∧ (D 1 = true → x72 = sA) ∧ (D 2 = true → x73 = .string key) ∧ (D 3 = true → x74 = sB) ∧ (D 4 = true → x75 = sB) ∧ (D 5 = true → JR w L M t x76) ∧ (D 6 = true → JR w L M t x70) ∧ (D 7 = true → NR w L M x77) ∧ (D 8 = true → x78 = .bool t) ∧ (D 9 = true → (D 10 = false → HC w W1.heap.size x19)) ∧ (D 10 = true → (D 9 = true ∧ HX w L M x19)) ∧ (D 11 = true → x20 = .bool t))
def Inv9_v (i : Nat) (is : Bool) (sA : Value) (sX : Value) (s13 : Value) (s16 : Value) (kk : ByteArray) (s15 : Value) (s18 : Value) (s19 : Value) (s21 : Value) (t : Bool) (PL : List It) (PM : List Int) (zi : Nat) : Value := ([.bool true, .bool true, .int .i64 (i : Int), .int .i64 (i : Int), .bool true, .bool true, .bool true, .bool is, .bool is, .bool true, .bool true, .bool true, sA, sA, sX, undef, sA, sX, undef, .bool true, .bool true, .bool true, s13, s16, .bool true, .bool true, .bool true, .string kk, .string kk, .bool true, .bool true, .bool true, s15, s18, .bool true, .bool true, .bool true, s19, s21, .bool true, .bool true, .bool true, .bool t, .bool t, .bool true, .bool true, .bool true] : List Value).getD zi undef
def Inv9_p (i : Nat) : Bool := Nat.beq i 15 || Nat.beq i 18
def Inv9 (W1 : World) (i : Nat) (is : Bool) (sA : Value) (sX : Value) (s13 : Value) (s16 : Value) (kk : ByteArray) (s15 : Value) (s18 : Value) (s19 : Value) (s21 : Value) (t : Bool) (PL : List It) (PM : List Int) (a0 : Act) (D : Nat → Bool) (act : Act) (w : World) : Prop :=
  ∃ f : Nat → Value, act = ⟨(a0.tmps.toList.take 8 ++ f 46 :: ((a0.tmps.toList.drop 9).take 77 ++ f 0 :: f 1 :: f 2 :: f 3 :: f 4 :: f 5 :: f 6 :: f 7 :: f 8 :: f 9 :: f 10 :: f 11 :: f 12 :: f 13 :: f 14 :: f 15 :: f 16 :: f 17 :: f 18 :: f 19 :: f 20 :: f 21 :: f 22 :: f 23 :: f 24 :: f 25 :: f 26 :: f 27 :: f 28 :: f 29 :: f 30 :: f 31 :: f 32 :: f 33 :: f 34 :: f 35 :: f 36 :: f 37 :: f 38 :: f 39 :: f 40 :: f 41 :: f 42 :: f 43 :: f 44 :: f 45 :: a0.tmps.toList.drop 132)).toArray, []⟩ ∧ Below W1.heap.size W1 w ∧ Hid (∀ zi, Inv9_p zi = false → D zi = true → f zi = Inv9_v i is sA sX s13 s16 kk s15 s18 s19 s21 t PL PM zi) ∧ Hid (D 15 = true → NR w PL PM (f 15)) ∧ Hid (D 18 = true → NR w PL PM (f 18))
section
variable {w : World} {a : Option Addr} {n c : Nat} {ka : Option Addr} {kn kc : Nat} {I : List It} {K : List Int} {a2 : Option Addr} {n2 c2 : Nat} {ka2 : Option Addr} {kn2 kc2 : Nat} {I2 : List It} {K2 : List Int}
set_option maxRecDepth 100000 in
set_option maxHeartbeats 20000000 in
theorem nodeCuts_walk (hI : Its w a n I) (hK : Kds w ka kn K) (hnc : n ≤ c) (hkc : kn ≤ kc) (hn : n ≤ 9223372036854775807) (hkn : kn ≤ 9223372036854775807) (hl : ∀ k, k < n → (kq I k).size ≤ 9223372036854775807 ∧ (vq I k).size ≤ 9223372036854775807)
    (hI2 : Its w a2 n2 I2) (hK2 : Kds w ka2 kn2 K2) (hn2 : n2 ≤ 9223372036854775807) (hkn2 : kn2 ≤ 9223372036854775807) (hl2 : ∀ k, k < n2 → (kq I2 k).size ≤ 9223372036854775807 ∧ (vq I2 k).size ≤ 9223372036854775807)
    (key : ByteArray) (hkey : key.size ≤ 140737488355328) (p q : ByteArray) :
    Calls Try.prog 4 #[.agg #[.slice a n c, .slice ka kn kc], .agg #[.slice a2 n2 c2, .slice ka2 kn2 kc2], .string key, .agg #[.string p, .string q]] w fun e w' => e = .returned (.bool true) ∧ Below w.heap.size w w' := by
  have A4 := ((NodeAt.new (c := c) (kc := kc) hI hK 25).below (new_below _ (.cells #[.slice a2 n2 c2, .slice ka2 kn2 kc2] 25))).below (new_below _ (.cells #[.string p, .string q] 44))
  have A5 := (NodeAt.new (w := w.alloc (.cells #[.slice a n c, .slice ka kn kc] 25)) (c := c2) (kc := kc2) (hI2.below (new_below _ _)) (hK2.below (new_below _ _)) 25).below (new_below _ (.cells #[.string p, .string q] 44))
  have AX : XB (((w.alloc (.cells #[.slice a n c, .slice ka kn kc] 25)).alloc (.cells #[.slice a2 n2 c2, .slice ka2 kn2 kc2] 25)).alloc (.cells #[.string p, .string q] 44)) (w.heap.size + 1 + 1) p q := ⟨by simp, by simp [go_sem], by simp [go_sem]⟩
  have hs1 : (w.alloc (.cells #[.slice a n c, .slice ka kn kc] 25)).heap.size = w.heap.size + 1 := by simp
  rw [hs1] at A5
  have BB := below_to (below_to (new_below w (.cells #[.slice a n c, .slice ka kn kc] 25)) (new_below _ (.cells #[.slice a2 n2 c2, .slice ka2 kn2 kc2] 25))) (new_below _ (.cells #[.string p, .string q] 44))
  obtain ⟨s1, hs1⟩ : ∃ b, smallF I K = b := ⟨_, rfl⟩
  obtain ⟨s2, hs2⟩ : ∃ b, smallF I2 K2 = b := ⟨_, rfl⟩
  have KS1 := Lib.hid (fun (w : World) (a c ka kc) (h1 : Its w a n I) (h2 : Kds w ka kn K) => by
    have := small_any (c := c) (kc := kc) h1 h2 hn hkn hl
    rw [hs1] at this; exact this)
  have KS2 := Lib.hid (fun (w : World) (a c ka kc) (h1 : Its w a n2 I2) (h2 : Kds w ka kn2 K2) => by
    have := small_any (c := c) (kc := kc) h1 h2 hn2 hkn2 hl2
    rw [hs2] at this; exact this)
  have KOA := Lib.hid (fun w => ours_any a n c ka kn kc w)
  have KOB := Lib.hid (fun w => ours_any a2 n2 c2 ka2 kn2 kc2 w)
  have K0 := Lib.hid (fun w => lives_any w)
  have hn0 := hI.1
  have hk0 := hK.1
  have hn20 := hI2.1
  have hk20 := hK2.1
  clear hI hK hI2 hK2 hl hl2
  go_enter Try.func4, Try.ntmps4
  go_wp2_with fail
  generalize ((w.alloc (.cells #[.slice a n c, .slice ka kn kc] 25)).alloc (.cells #[.slice a2 n2 c2, .slice ka2 kn2 kc2] 25)).alloc (.cells #[.string p, .string q] 44) = w1 at A4 A5 AX BB ⊢
  refine (KS1.out _ _ _ _ _ A4.its A4.kds).mono ?_
  rintro e w2 ⟨rfl, hb⟩
  replace A4 := A4.below hb
  replace A5 := A5.below hb
  replace AX := AX.below hb
  replace BB := below_to BB hb
  clear hb KS1
  cases s1 with
  | false =>
    go_wp2_with fail
    refine (K0.out _).mono ?_
    rintro e w9 ⟨rfl, hb⟩
    replace BB := below_to BB hb
    clear hb
    go_wp2_with fail
    go_ret
    exact ⟨rfl, BB⟩
  | true =>
  have c0 := A5.nd.c0
  have c1 := A5.nd.c1
  go_wp2_with fail
  refine (KS2.out _ _ _ _ _ A5.its A5.kds).mono ?_
  rintro e w3 ⟨rfl, hb⟩
  replace A4 := A4.below hb
  replace A5 := A5.below hb
  replace AX := AX.below hb
  replace BB := below_to BB hb
  clear hb KS2 c0 c1
  cases s2 with
  | false =>
    go_wp2_with fail
    refine (K0.out _).mono ?_
    rintro e w9 ⟨rfl, hb⟩
    replace BB := below_to BB hb
    clear hb
    go_wp2_with fail
    go_ret
    exact ⟨rfl, BB⟩
  | true =>
  obtain ⟨hS, hI2, hK2⟩ := small_partsB hs1
  obtain ⟨hS2, hI22, hK22⟩ := small_partsB hs2
  rw [hn0] at hI2
  rw [hk0] at hK2
  rw [hn20] at hI22
  rw [hk20] at hK22
  obtain ⟨r1, hr1⟩ : ∃ r, decide (RiseTo I I.length) = r := ⟨_, rfl⟩
  obtain ⟨r2, hr2⟩ : ∃ r, decide (RiseTo I2 I2.length) = r := ⟨_, rfl⟩
  have KR1 := Lib.hid (fun (w : World) (h1 : Its w a n I) => by
    have := rises_any (c := c) h1 (by omega)
    rw [hr1] at this; exact this)
  have KR2 := Lib.hid (fun (w : World) (h1 : Its w a2 n2 I2) => by
    have := rises_any (c := c2) h1 (by omega)
    rw [hr2] at this; exact this)
  have c0 := A4.nd.c0
  go_wp2_with fail
  refine (KR1.out _ A4.its).mono ?_
  rintro e w4 ⟨rfl, hb⟩
  replace A4 := A4.below hb
  replace A5 := A5.below hb
  replace AX := AX.below hb
  replace BB := below_to BB hb
  clear hb KR1 c0
  cases r1 with
  | false =>
    go_wp2_with fail
    refine (K0.out _).mono ?_
    rintro e w9 ⟨rfl, hb⟩
    replace BB := below_to BB hb
    clear hb
    go_wp2_with fail
    go_ret
    exact ⟨rfl, BB⟩
  | true =>
  have c0 := A5.nd.c0
  go_wp2_with fail
  refine (KR2.out _ A5.its).mono ?_
  rintro e w5 ⟨rfl, hb⟩
  replace A4 := A4.below hb
  replace A5 := A5.below hb
  replace AX := AX.below hb
  replace BB := below_to BB hb
  clear hb KR2 c0
  cases r2 with
  | false =>
    go_wp2_with fail
    refine (K0.out _).mono ?_
    rintro e w9 ⟨rfl, hb⟩
    replace BB := below_to BB hb
    clear hb
    go_wp2_with fail
    go_ret
    exact ⟨rfl, BB⟩
  | true =>
  have hR1 := of_decide_eq_true hr1
  have hR2 := of_decide_eq_true hr2
  obtain ⟨bl, hbl⟩ : ∃ b, (kn == 0) = b := ⟨_, rfl⟩
  obtain ⟨i, is, hf⟩ : ∃ i is, findN bl I key = (i, is) := ⟨_, _, rfl⟩
  have KF := Lib.hid (fun (w : World) (h1 : Its w a n I) => find_any (c := c) (ka := ka) (kn := kn) (kc := kc) key h1 (by omega) hR1 bl hbl i is hf)
  have KRF := Lib.hid (fun (w : World) (h1 : Its w a n I) => rfind_any (c := c) (ka := ka) (kn := kn) (kc := kc) key h1 (by omega) hR1 hbl i is hf)
  obtain ⟨L1, K1, kk, L2, M2, ⟨hb1, hb2, hb3, hb4⟩, kc1, kc2'⟩ := cut_ex hn0 hk0 hI2 hK2 hS
  have KC := Lib.hid (fun (w : World) (h1 : Its w a n I) (h2 : Kds w ka kn K) => kc1 w a c ka kc h1 h2 hnc hkc)
  have KRC := Lib.hid (fun (w : World) (h1 : Its w a n I) (h2 : Kds w ka kn K) => kc2' w a c ka kc h1 h2 hnc hkc)
  unfold CutRet at KC
  unfold RCutRet at KRC
  obtain ⟨L, M, t, hLM, kj1, kj2⟩ := join_ex hn0 hk0 hn20 hk20 hI2 hK2 hI22 hK22 hS hS2 key hkey
  obtain ⟨PL, PM, hPL, kp1, kp2⟩ := put_ex hn0 hk0 hI2 hK2 hR1 p q
  have c0 := A4.nd.c0
  have c1 := A4.nd.c1
  go_wp2_with fail
  refine (KOA.out _).mono ?_
  rintro e w6 ⟨rfl, hb⟩
  replace A4 := A4.below hb
  replace A5 := A5.below hb
  replace AX := AX.below hb
  replace BB := below_to BB hb
  clear hb c0 c1
  go_wp2_with fail
  refine (KF.out _ A4.its).mono ?_
  rintro e w7 ⟨rfl, hb⟩
  replace A4 := A4.below hb
  replace A5 := A5.below hb
  replace AX := AX.below hb
  replace BB := below_to BB hb
  clear hb KF
  have c0 := A4.nd.c0
  have c1 := A4.nd.c1
  go_wp2_with fail
  refine (KRF.out _ A4.its).mono ?_
  rintro e w8 ⟨rfl, hb⟩
  replace A4 := A4.below hb
  replace A5 := A5.below hb
  replace AX := AX.below hb
  replace BB := below_to BB hb
  clear hb KRF c0 c1
  have c0 := A4.nd.c0
  have c1 := A4.nd.c1
  go_wp2_with fail
  refine (KOA.out _).mono ?_
  rintro e w9 ⟨rfl, hb⟩
  replace A4 := A4.below hb
  replace A5 := A5.below hb
  replace AX := AX.below hb
  replace BB := below_to BB hb
  clear hb c0 c1
  go_wp2_with fail
  refine (KC.out _ A4.its A4.kds).mono ?_
  rintro e w10 ⟨ca, cn, cc, cka, ckn, ckc, da, dn, dc, dka, dkn, dkc, rfl, -, -, hC1, hC2, hC3, hC4, hb⟩
  replace A4 := A4.below hb
  replace A5 := A5.below hb
  replace AX := AX.below hb
  replace BB := below_to BB hb
  clear hb KC
  go_upto_region 6 with (fail)
  have hb := below_to (new_below w10 (.cells #[.slice ca cn cc, .slice cka ckn ckc] 31)) (new_below _ (.cells #[.slice da dn dc, .slice dka dkn dkc] 31))
  have A13 := (NodeAt.new (c := cc) (kc := ckc) hC1 hC2 31).below (new_below _ (.cells #[.slice da dn dc, .slice dka dkn dkc] 31))
  have A15 := NodeAt.new (w := w10.alloc (.cells #[.slice ca cn cc, .slice cka ckn ckc] 31)) (c := dc) (kc := dkc) (hC3.below (new_below _ _)) (hC4.below (new_below _ _)) 31
  have hs : (w10.alloc (.cells #[.slice ca cn cc, .slice cka ckn ckc] 31)).heap.size = w10.heap.size + 1 := by simp
  rw [hs] at A15
  replace A4 := A4.below hb
  replace A5 := A5.below hb
  replace AX := AX.below hb
  replace BB := below_to BB hb
  clear hb hs hC1 hC2 hC3 hC4
  generalize (w10.alloc (.cells #[.slice ca cn cc, .slice cka ckn ckc] 31)).alloc (.cells #[.slice da dn dc, .slice dka dkn dkc] 31) = w11 at A4 A5 AX A13 A15 BB ⊢
  generalize w10.heap.size = g13 at A13 A15 ⊢
  have c0 := A4.nd.c0
  have c1 := A4.nd.c1
  go_wp2_with fail
  refine (KRC.out _ A4.its A4.kds).mono ?_
  rintro e w12 ⟨ea, en, ec, eka, ekn, ekc, fa, fn, fc, fka, fkn, fkc, rfl, hC1, hC2, hC3, hC4, hb⟩
  replace A4 := A4.below hb
  replace A5 := A5.below hb
  replace AX := AX.below hb
  replace A13 := A13.below hb
  replace A15 := A15.below hb
  replace BB := below_to BB hb
  clear hb KRC c0 c1
  go_upto_region 7 with (fail)
  have hb := below_to (new_below w12 (.cells #[.slice ea en ec, .slice eka ekn ekc] 25)) (new_below _ (.cells #[.slice fa fn fc, .slice fka fkn fkc] 25))
  have A16 := (NodeAt.new (c := ec) (kc := ekc) hC1 hC2 25).below (new_below _ (.cells #[.slice fa fn fc, .slice fka fkn fkc] 25))
  have A18 := NodeAt.new (w := w12.alloc (.cells #[.slice ea en ec, .slice eka ekn ekc] 25)) (c := fc) (kc := fkc) (hC3.below (new_below _ _)) (hC4.below (new_below _ _)) 25
  have hs : (w12.alloc (.cells #[.slice ea en ec, .slice eka ekn ekc] 25)).heap.size = w12.heap.size + 1 := by simp
  rw [hs] at A18
  replace A4 := A4.below hb
  replace A5 := A5.below hb
  replace AX := AX.below hb
  replace A13 := A13.below hb
  replace A15 := A15.below hb
  replace BB := below_to BB hb
  clear hb hs hC1 hC2 hC3 hC4
  generalize (w12.alloc (.cells #[.slice ea en ec, .slice eka ekn ekc] 25)).alloc (.cells #[.slice fa fn fc, .slice fka fkn fkc] 25) = w1 at A4 A5 AX A13 A15 A16 A18 BB ⊢
  generalize w12.heap.size = g16 at A16 A18 ⊢
  have KJ := Lib.hid (fun (w2 : World) (B : Below w1.heap.size w1 w2) => kj1 w2 a c ka kc a2 c2 ka2 kc2 (A4.its.below B) (A4.kds.below B) (A5.its.below B) (A5.kds.below B))
  unfold TRet at KJ
  refine wp_region_inv0 (Inv7 w1 (.agg #[.slice a n c, .slice ka kn kc]) (.agg #[.slice a2 n2 c2, .slice ka2 kn2 kc2]) key L M t) (by kernel_rfl) (by decide) ?_ ?_ ?_
  · exact ⟨_, _, _, _, _, _, _, _, _, _, _, rfl, (Below.refl _ _).drew, Lib.hid ⟨(by intro h; cases h), (by intro h; cases h), (by intro h; cases h), (by intro h; cases h), (by intro h; cases h), (by intro h; cases h), (by intro h; cases h), (by intro h; cases h), (by intro h; cases h), (by intro h; cases h), (by intro h; cases h), (by intro h; cases h)⟩⟩
  · refine AllI.cons ?_ (AllI.cons ?_ (AllI.cons ?_ (AllI.cons ?_ (AllI.cons ?_ (AllI.cons ?_ (AllI.cons ?_ (AllI.cons ?_ (AllI.cons ?_ (AllI.cons ?_ (AllI.cons ?_ (AllI.cons ?_ AllI.nil)))))))))))
    · rintro D aa wx ⟨x19, x20, x70, x71, x72, x73, x74, x75, x76, x77, x78, rfl, hB, HF⟩ hD hdep KK hKK
      have c0 := (A4.nd.below hB).c0
      have c1 := (A4.nd.below hB).c1
      simp only [Act.put, List.toList_toArray, List.take_succ_cons, List.take_zero, List.drop_succ_cons, List.drop_zero, List.cons_append, List.nil_append, List.setIfInBounds_toArray, List.set_cons_zero, List.set_cons_succ]
      go_simp
      exact hKK _ _ ⟨_, _, _, _, _, _, _, _, _, _, _, rfl, hB, Lib.hid (by obtain ⟨f0, f1, f2, f3, f4, f5, f6, f7, f8, f9, f10, f11⟩ := HF.out; exact ⟨fun _ => rfl, f1, f2, f3, f4, f5, f6, f7, f8, f9, f10, f11⟩)⟩
    · rintro D aa wx ⟨x19, x20, x70, x71, x72, x73, x74, x75, x76, x77, x78, rfl, hB, HF⟩ hD hdep KK hKK
      simp [Region.binds] at hdep
      have h0 : D 0 = true := by simp [hdep]
      have HE := Lib.hid (show x71 = (.agg #[.slice a n c, .slice ka kn kc]) by obtain ⟨f0, f1, f2, f3, f4, f5, f6, f7, f8, f9, f10, f11⟩ := HF.out; exact f0 h0)
      obtain rfl := HE.out
      clear HE
      simp only [Act.put, List.toList_toArray, List.take_succ_cons, List.take_zero, List.drop_succ_cons, List.drop_zero, List.cons_append, List.nil_append, List.setIfInBounds_toArray, List.set_cons_zero, List.set_cons_succ]
      go_simp
      refine (KOA.out _).mono ?_
      rintro e w5 ⟨rfl, hb⟩
      exact hKK _ _ ⟨_, _, _, _, _, _, _, _, _, _, _, rfl, below_to hB hb, Lib.hid (by obtain ⟨f0, f1, f2, f3, f4, f5, f6, f7, f8, f9, f10, f11⟩ := HF.out; exact ⟨fun _ => rfl, fun _ => rfl, f2, f3, f4, fun h => (f5 h).below hb, fun h => (f6 h).below hb, fun h => (f7 h).below hb, f8, fun h h2 => (f9 h h2).below hb, fun h => ⟨(f10 h).1, (f10 h).2.below hb⟩, f11⟩)⟩
    · rintro D aa wx ⟨x19, x20, x70, x71, x72, x73, x74, x75, x76, x77, x78, rfl, hB, HF⟩ hD hdep KK hKK
      simp only [Act.put, List.toList_toArray, List.take_succ_cons, List.take_zero, List.drop_succ_cons, List.drop_zero, List.cons_append, List.nil_append, List.setIfInBounds_toArray, List.set_cons_zero, List.set_cons_succ]
      go_simp
      exact hKK _ _ ⟨_, _, _, _, _, _, _, _, _, _, _, rfl, hB, Lib.hid (by obtain ⟨f0, f1, f2, f3, f4, f5, f6, f7, f8, f9, f10, f11⟩ := HF.out; exact ⟨f0, f1, fun _ => rfl, f3, f4, f5, f6, f7, f8, f9, f10, f11⟩)⟩
    · rintro D aa wx ⟨x19, x20, x70, x71, x72, x73, x74, x75, x76, x77, x78, rfl, hB, HF⟩ hD hdep KK hKK
      have c0 := (A5.nd.below hB).c0
      have c1 := (A5.nd.below hB).c1
      simp only [Act.put, List.toList_toArray, List.take_succ_cons, List.take_zero, List.drop_succ_cons, List.drop_zero, List.cons_append, List.nil_append, List.setIfInBounds_toArray, List.set_cons_zero, List.set_cons_succ]
      go_simp
      exact hKK _ _ ⟨_, _, _, _, _, _, _, _, _, _, _, rfl, hB, Lib.hid (by obtain ⟨f0, f1, f2, f3, f4, f5, f6, f7, f8, f9, f10, f11⟩ := HF.out; exact ⟨f0, f1, f2, fun _ => rfl, f4, f5, f6, f7, f8, f9, f10, f11⟩)⟩
    · rintro D aa wx ⟨x19, x20, x70, x71, x72, x73, x74, x75, x76, x77, x78, rfl, hB, HF⟩ hD hdep KK hKK
      simp [Region.binds] at hdep
      have h3 : D 3 = true := by simp [hdep]
      have HE := Lib.hid (show x74 = (.agg #[.slice a2 n2 c2, .slice ka2 kn2 kc2]) by obtain ⟨f0, f1, f2, f3, f4, f5, f6, f7, f8, f9, f10, f11⟩ := HF.out; exact f3 h3)
      obtain rfl := HE.out
      clear HE
      simp only [Act.put, List.toList_toArray, List.take_succ_cons, List.take_zero, List.drop_succ_cons, List.drop_zero, List.cons_append, List.nil_append, List.setIfInBounds_toArray, List.set_cons_zero, List.set_cons_succ]
      go_simp
      refine (KOB.out _).mono ?_
      rintro e w5 ⟨rfl, hb⟩
      exact hKK _ _ ⟨_, _, _, _, _, _, _, _, _, _, _, rfl, below_to hB hb, Lib.hid (by obtain ⟨f0, f1, f2, f3, f4, f5, f6, f7, f8, f9, f10, f11⟩ := HF.out; exact ⟨f0, f1, f2, fun _ => rfl, fun _ => rfl, fun h => (f5 h).below hb, fun h => (f6 h).below hb, fun h => (f7 h).below hb, f8, fun h h2 => (f9 h h2).below hb, fun h => ⟨(f10 h).1, (f10 h).2.below hb⟩, f11⟩)⟩
    · rintro D aa wx ⟨x19, x20, x70, x71, x72, x73, x74, x75, x76, x77, x78, rfl, hB, HF⟩ hD hdep KK hKK
      simp [Region.binds] at hdep
      have h1 : D 1 = true := by simp [hdep]
      have h2 : D 2 = true := by simp [hdep]
      have h4 : D 4 = true := by simp [hdep]
      have HE := Lib.hid (show x72 = (.agg #[.slice a n c, .slice ka kn kc]) ∧ x73 = .string key ∧ x75 = (.agg #[.slice a2 n2 c2, .slice ka2 kn2 kc2]) by obtain ⟨f0, f1, f2, f3, f4, f5, f6, f7, f8, f9, f10, f11⟩ := HF.out; exact ⟨f1 h1, f2 h2, f4 h4⟩)
      obtain ⟨rfl, rfl, rfl⟩ := HE.out
      clear HE
      simp only [Act.put, List.toList_toArray, List.take_succ_cons, List.take_zero, List.drop_succ_cons, List.drop_zero, List.cons_append, List.nil_append, List.setIfInBounds_toArray, List.set_cons_zero, List.set_cons_succ]
      go_simp
      refine (KJ.out _ hB).mono ?_
      rintro e w5 ⟨ja, jn, jc, jka, jkn, jkc, rfl, h1, h2, hb⟩
      exact hKK _ _ ⟨_, _, _, _, _, _, _, _, _, _, _, rfl, below_to hB hb, Lib.hid (by obtain ⟨f0, f1, f2, f3, f4, f5, f6, f7, f8, f9, f10, f11⟩ := HF.out; exact ⟨f0, fun _ => rfl, fun _ => rfl, f3, fun _ => rfl, fun _ => ⟨_, _, _, _, _, _, rfl, h1, h2⟩, fun h => (f6 h).below hb, fun h => (f7 h).below hb, f8, fun h h2 => (f9 h h2).below hb, fun h => ⟨(f10 h).1, (f10 h).2.below hb⟩, f11⟩)⟩
    · rintro D aa wx ⟨x19, x20, x70, x71, x72, x73, x74, x75, x76, x77, x78, rfl, hB, HF⟩ hD hdep KK hKK
      simp [Region.binds] at hdep
      have h5 : D 5 = true := by simp [hdep]
      simp only [Act.put, List.toList_toArray, List.take_succ_cons, List.take_zero, List.drop_succ_cons, List.drop_zero, List.cons_append, List.nil_append, List.setIfInBounds_toArray, List.set_cons_zero, List.set_cons_succ]
      go_simp
      exact hKK _ _ ⟨_, _, _, _, _, _, _, _, _, _, _, rfl, hB, Lib.hid (by obtain ⟨f0, f1, f2, f3, f4, f5, f6, f7, f8, f9, f10, f11⟩ := HF.out; exact ⟨f0, f1, f2, f3, f4, f5, fun _ => f5 h5, f7, f8, f9, f10, f11⟩)⟩
    · rintro D aa wx ⟨x19, x20, x70, x71, x72, x73, x74, x75, x76, x77, x78, rfl, hB, HF⟩ hD hdep KK hKK
      simp [Region.binds] at hdep
      have h6 : D 6 = true := by simp [hdep]
      obtain ⟨ja, jn, jc, jka, jkn, jkc, rfl, hj1, hj2⟩ := (show JR wx L M t x70 by obtain ⟨f0, f1, f2, f3, f4, f5, f6, f7, f8, f9, f10, f11⟩ := HF.out; exact f6 h6)
      simp only [Act.put, List.toList_toArray, List.take_succ_cons, List.take_zero, List.drop_succ_cons, List.drop_zero, List.cons_append, List.nil_append, List.setIfInBounds_toArray, List.set_cons_zero, List.set_cons_succ]
      go_simp
      exact hKK _ _ ⟨_, _, _, _, _, _, _, _, _, _, _, rfl, hB, Lib.hid (by obtain ⟨f0, f1, f2, f3, f4, f5, f6, f7, f8, f9, f10, f11⟩ := HF.out; exact ⟨f0, f1, f2, f3, f4, f5, f6, fun _ => ⟨_, _, _, _, _, _, rfl, hj1, hj2⟩, f8, f9, f10, f11⟩)⟩
    · rintro D aa wx ⟨x19, x20, x70, x71, x72, x73, x74, x75, x76, x77, x78, rfl, hB, HF⟩ hD hdep KK hKK
      simp [Region.binds] at hdep
      have h6 : D 6 = true := by simp [hdep]
      obtain ⟨ja, jn, jc, jka, jkn, jkc, rfl, hj1, hj2⟩ := (show JR wx L M t x70 by obtain ⟨f0, f1, f2, f3, f4, f5, f6, f7, f8, f9, f10, f11⟩ := HF.out; exact f6 h6)
      simp only [Act.put, List.toList_toArray, List.take_succ_cons, List.take_zero, List.drop_succ_cons, List.drop_zero, List.cons_append, List.nil_append, List.setIfInBounds_toArray, List.set_cons_zero, List.set_cons_succ]
      go_simp
      exact hKK _ _ ⟨_, _, _, _, _, _, _, _, _, _, _, rfl, hB, Lib.hid (by obtain ⟨f0, f1, f2, f3, f4, f5, f6, f7, f8, f9, f10, f11⟩ := HF.out; exact ⟨f0, f1, f2, f3, f4, f5, f6, f7, fun _ => rfl, f9, f10, f11⟩)⟩
    · rintro D aa wx ⟨x19, x20, x70, x71, x72, x73, x74, x75, x76, x77, x78, rfl, hB, HF⟩ hD hdep KK hKK
      simp only [Act.put, List.toList_toArray, List.take_succ_cons, List.take_zero, List.drop_succ_cons, List.drop_zero, List.cons_append, List.nil_append, List.setIfInBounds_toArray, List.set_cons_zero, List.set_cons_succ]
      go_simp
      have hb := new_below wx (.cells #[.slice none 0 0, .slice none 0 0] 31)
      exact hKK _ _ ⟨_, _, _, _, _, _, _, _, _, _, _, rfl, below_to hB hb, Lib.hid (by obtain ⟨f0, f1, f2, f3, f4, f5, f6, f7, f8, f9, f10, f11⟩ := HF.out; exact ⟨f0, f1, f2, f3, f4, fun h => (f5 h).below hb, fun h => (f6 h).below hb, fun h => (f7 h).below hb, f8, fun _ _ => ⟨_, rfl, hB.size, Nb.fresh _ _ _ _, heap_new _ _⟩, fun h => noDI (D := D) hD (f10 h).1, f11⟩)⟩
    · rintro D aa wx ⟨x19, x20, x70, x71, x72, x73, x74, x75, x76, x77, x78, rfl, hB, HF⟩ hD hdep KK hKK
      simp [Region.binds] at hdep
      have h9 : D 9 = true := by simp [hdep]
      have h7 : D 7 = true := by simp [hdep]
      obtain ⟨ja, jn, jc, jka, jkn, jkc, rfl, hj1, hj2⟩ := (show NR wx L M x77 by obtain ⟨f0, f1, f2, f3, f4, f5, f6, f7, f8, f9, f10, f11⟩ := HF.out; exact f7 h7)
      obtain ⟨g, rfl, hg, hNb, hgb⟩ := (show HC wx w1.heap.size x19 by obtain ⟨f0, f1, f2, f3, f4, f5, f6, f7, f8, f9, f10, f11⟩ := HF.out; exact f9 h9 hD)
      have y0 := hNb.c0
      have y1 := hNb.c1
      have z0 := hNb.f0
      have z1 := hNb.f1
      have hB2 := (hB.setCell (p := ⟨g, 0, none⟩) hg (.slice ja jn jc)).setCell (p := ⟨g, 1, none⟩) hg (.slice jka jkn jkc)
      have M2 := (hNb.set0 (.slice ja jn jc)).set1 (.slice jka jkn jkc)
      have HBB2 := Lib.hid hB2
      have HNA := Lib.hid (show NodeAt ((wx.setCell ⟨g, 0, none⟩ (.slice ja jn jc)).setCell ⟨g, 1, none⟩ (.slice jka jkn jkc)) g ja jn jc jka jkn jkc L M from ⟨⟨M2.lt, M2.c0, M2.c1⟩, its_put hj1 hgb, kds_put hj2 hgb⟩)
      have HGB := Lib.hid hgb
      clear hB2 M2 hj1 hj2 hgb
      simp only [Act.put, List.toList_toArray, List.take_succ_cons, List.take_zero, List.drop_succ_cons, List.drop_zero, List.cons_append, List.nil_append, List.setIfInBounds_toArray, List.set_cons_zero, List.set_cons_succ]
      go_simp
      exact hKK _ _ ⟨_, _, _, _, _, _, _, _, _, _, _, rfl, HBB2.out, Lib.hid (by obtain ⟨f0, f1, f2, f3, f4, f5, f6, f7, f8, f9, f10, f11⟩ := HF.out; exact ⟨f0, f1, f2, f3, f4, fun h => (f5 h).put HGB.out, fun h => (f6 h).put HGB.out, fun h => (f7 h).put HGB.out, f8, fun _ h2 => by simp [upd] at h2, fun _ => ⟨h9, _, _, _, _, _, _, _, rfl, HNA.out⟩, f11⟩)⟩
    · rintro D aa wx ⟨x19, x20, x70, x71, x72, x73, x74, x75, x76, x77, x78, rfl, hB, HF⟩ hD hdep KK hKK
      simp [Region.binds] at hdep
      have h8 : D 8 = true := by simp [hdep]
      have HE := Lib.hid (show x78 = .bool t by obtain ⟨f0, f1, f2, f3, f4, f5, f6, f7, f8, f9, f10, f11⟩ := HF.out; exact f8 h8)
      obtain rfl := HE.out
      clear HE
      simp only [Act.put, List.toList_toArray, List.take_succ_cons, List.take_zero, List.drop_succ_cons, List.drop_zero, List.cons_append, List.nil_append, List.setIfInBounds_toArray, List.set_cons_zero, List.set_cons_succ]
      go_simp
      exact hKK _ _ ⟨_, _, _, _, _, _, _, _, _, _, _, rfl, hB, Lib.hid (by obtain ⟨f0, f1, f2, f3, f4, f5, f6, f7, f8, f9, f10, f11⟩ := HF.out; exact ⟨f0, f1, f2, f3, f4, f5, f6, f7, fun _ => rfl, f9, f10, fun _ => rfl⟩)⟩
  rintro D aa w14 ⟨x19, x20, x70, x71, x72, x73, x74, x75, x76, x77, x78, rfl, hb, HF⟩ hD
  obtain ⟨e11, ⟨g19, ja, jn, jc, jka, jkn, jkc, e19, A19⟩⟩ : x20 = .bool t ∧ HX w14 L M x19 := by obtain ⟨f0, f1, f2, f3, f4, f5, f6, f7, f8, f9, f10, f11⟩ := HF.out; exact ⟨f11 (hD 11 (by simp)), (f10 (hD 10 (by simp))).2⟩
  subst e11 e19
  simp only [Act.put, List.toList_toArray, List.take_succ_cons, List.take_zero, List.drop_succ_cons, List.drop_zero, List.cons_append, List.nil_append]
  clear HF hD KJ
  replace A4 := A4.below hb
  replace A5 := A5.below hb
  replace AX := AX.below hb
  replace A13 := A13.below hb
  replace A15 := A15.below hb
  replace A16 := A16.below hb
  replace A18 := A18.below hb
  replace BB := below_to BB hb
  clear hb
  have KRJ := Lib.hid (fun (w2 : World) (B : Below w14.heap.size w14 w2) => kj2 w2 a c ka kc a2 c2 ka2 kc2 (A4.its.below B) (A4.kds.below B) (A5.its.below B) (A5.kds.below B))
  unfold TRet at KRJ
  have c0 := A4.nd.c0
  have c1 := A4.nd.c1
  have d0 := A5.nd.c0
  have d1 := A5.nd.c1
  go_wp2_with fail
  refine (KRJ.out _ (Below.refl _ _)).mono ?_
  rintro e w15 ⟨la, ln, lc, lka, lkn, lkc, rfl, hC1, hC2, hb⟩
  replace A4 := A4.below hb
  replace A5 := A5.below hb
  replace AX := AX.below hb
  replace A13 := A13.below hb
  replace A15 := A15.below hb
  replace A16 := A16.below hb
  replace A18 := A18.below hb
  replace A19 := A19.below hb
  replace BB := below_to BB hb
  clear hb KRJ c0 c1 d0 d1
  go_upto_region 9 with (fail)
  have hb := new_below w15 (.cells #[.slice la ln lc, .slice lka lkn lkc] 25)
  have A21 := NodeAt.new (c := lc) (kc := lkc) hC1 hC2 25
  replace A4 := A4.below hb
  replace A5 := A5.below hb
  replace AX := AX.below hb
  replace A13 := A13.below hb
  replace A15 := A15.below hb
  replace A16 := A16.below hb
  replace A18 := A18.below hb
  replace A19 := A19.below hb
  replace BB := below_to BB hb
  clear hb hC1 hC2
  generalize w15.alloc (.cells #[.slice la ln lc, .slice lka lkn lkc] 25) = wq at A4 A5 AX A13 A15 A16 A18 A19 A21 BB ⊢
  generalize w15.heap.size = g21 at A21 ⊢
  have KP := Lib.hid (fun (w2 : World) (B : Below wq.heap.size wq w2) => kp1 w2 a c ka kc (A4.its.below B) (A4.kds.below B) hnc)
  have KRP := Lib.hid (fun (w2 : World) (B : Below wq.heap.size wq w2) => kp2 w2 a c ka kc (A4.its.below B) (A4.kds.below B) hnc)
  unfold NRet at KP KRP
  clear kc1 kc2' kj1 kj2 kp1 kp2 hf hbl hR1 hR2 hr1 hr2 hs1 hs2
  refine wp_region_inv0 (Inv9 wq i is (.agg #[.slice a n c, .slice ka kn kc]) (.agg #[.string p, .string q]) (.agg #[.slice ca cn cc, .slice cka ckn ckc]) (.agg #[.slice ea en ec, .slice eka ekn ekc]) kk (.agg #[.slice da dn dc, .slice dka dkn dkc]) (.agg #[.slice fa fn fc, .slice fka fkn fkc]) (.agg #[.slice ja jn jc, .slice jka jkn jkc]) (.agg #[.slice la ln lc, .slice lka lkn lkc]) t PL PM) (by kernel_rfl) (by decide) ?_ ?_ ?_
  · exact ⟨fun zz => cond (Nat.beq zz 46) (.bool false) (undef), rfl, (Below.refl _ _).drew, Lib.hid (fun i _ h => by cases h), Lib.hid (fun h => by cases h), Lib.hid (fun h => by cases h)⟩
  · refine AllI.cons ?_ (AllI.cons ?_ (AllI.cons ?_ (AllI.cons ?_ (AllI.cons ?_ (AllI.cons ?_ (AllI.cons ?_ (AllI.cons ?_ (AllI.cons ?_ (AllI.cons ?_ (AllI.cons ?_ (AllI.cons ?_ (AllI.cons ?_ (AllI.cons ?_ (AllI.cons ?_ (AllI.cons ?_ (AllI.cons ?_ (AllI.cons ?_ (AllI.cons ?_ (AllI.cons ?_ (AllI.cons ?_ (AllI.cons ?_ (AllI.cons ?_ (AllI.cons ?_ (AllI.cons ?_ (AllI.cons ?_ (AllI.cons ?_ (AllI.cons ?_ (AllI.cons ?_ (AllI.cons ?_ (AllI.cons ?_ (AllI.cons ?_ (AllI.cons ?_ (AllI.cons ?_ (AllI.cons ?_ (AllI.cons ?_ (AllI.cons ?_ (AllI.cons ?_ (AllI.cons ?_ (AllI.cons ?_ (AllI.cons ?_ (AllI.cons ?_ (AllI.cons ?_ (AllI.cons ?_ (AllI.cons ?_ (AllI.cons ?_ (AllI.cons ?_ AllI.nil))))))))))))))))))))))))))))))))))))))))))))))
    · intro D aa wx HI hD hdep KK hKK
      obtain ⟨f, rfl, hB, HF, HX15, HX18⟩ := HI
      simp only [Act.put, List.toList_toArray, List.take_succ_cons, List.take_zero, List.drop_succ_cons, List.drop_zero, List.cons_append, List.nil_append, List.setIfInBounds_toArray, List.set_cons_zero, List.set_cons_succ]
      go_simp
      refine (K0.out _).mono ?_
      rintro e w5 ⟨rfl, hb⟩
      exact hKK _ _ ⟨fun zz => cond (Nat.beq zz 0) (.bool true) (f zz), rfl, below_to hB hb, Lib.hid (upd_factP (i := 0) (v := .bool true) HF.out rfl), Lib.hid (fun h => (HX15.out h).below hb), Lib.hid (fun h => (HX18.out h).below hb)⟩
    · intro D aa wx HI hD hdep KK hKK
      obtain ⟨f, rfl, hB, HF, HX15, HX18⟩ := HI
      simp [Region.binds] at hdep
      have E0 : f 0 = .bool true := HF.out 0 rfl (by simp [hdep])
      simp only [E0, Act.put, List.toList_toArray, List.take_succ_cons, List.take_zero, List.drop_succ_cons, List.drop_zero, List.cons_append, List.nil_append, List.setIfInBounds_toArray, List.set_cons_zero, List.set_cons_succ]
      go_simp
      exact hKK _ _ ⟨fun zz => cond (Nat.beq zz 1) (.bool true) (cond (Nat.beq zz 0) (.bool true) (f zz)), rfl, hB, Lib.hid (upd_factP (i := 1) (v := .bool true) (cond_factP (j := 0) (v := .bool true) HF.out rfl) rfl), Lib.hid (fun h => (HX15.out h)), Lib.hid (fun h => (HX18.out h))⟩
    · intro D aa wx HI hD hdep KK hKK
      obtain ⟨f, rfl, hB, HF, HX15, HX18⟩ := HI
      simp [Region.binds] at hdep
      have E1 : f 1 = .bool true := HF.out 1 rfl (by simp [hdep])
      simp only [E1, Act.put, List.toList_toArray, List.take_succ_cons, List.take_zero, List.drop_succ_cons, List.drop_zero, List.cons_append, List.nil_append, List.setIfInBounds_toArray, List.set_cons_zero, List.set_cons_succ]
      go_simp
      exact hKK _ _ ⟨fun zz => cond (Nat.beq zz 2) (.int .i64 (i : Int)) (cond (Nat.beq zz 1) (.bool true) (f zz)), rfl, hB, Lib.hid (upd_factP (i := 2) (v := .int .i64 (i : Int)) (cond_factP (j := 1) (v := .bool true) HF.out rfl) rfl), Lib.hid (fun h => (HX15.out h)), Lib.hid (fun h => (HX18.out h))⟩
    · intro D aa wx HI hD hdep KK hKK
      obtain ⟨f, rfl, hB, HF, HX15, HX18⟩ := HI
      simp [Region.binds] at hdep
      have E1 : f 1 = .bool true := HF.out 1 rfl (by simp [hdep])
      simp only [E1, Act.put, List.toList_toArray, List.take_succ_cons, List.take_zero, List.drop_succ_cons, List.drop_zero, List.cons_append, List.nil_append, List.setIfInBounds_toArray, List.set_cons_zero, List.set_cons_succ]
      go_simp
      exact hKK _ _ ⟨fun zz => cond (Nat.beq zz 3) (.int .i64 (i : Int)) (cond (Nat.beq zz 1) (.bool true) (f zz)), rfl, hB, Lib.hid (upd_factP (i := 3) (v := .int .i64 (i : Int)) (cond_factP (j := 1) (v := .bool true) HF.out rfl) rfl), Lib.hid (fun h => (HX15.out h)), Lib.hid (fun h => (HX18.out h))⟩
    · intro D aa wx HI hD hdep KK hKK
      obtain ⟨f, rfl, hB, HF, HX15, HX18⟩ := HI
      simp [Region.binds] at hdep
      have E1 : f 1 = .bool true := HF.out 1 rfl (by simp [hdep])
      have E2 : f 2 = .int .i64 (i : Int) := HF.out 2 rfl (by simp [hdep])
      have E3 : f 3 = .int .i64 (i : Int) := HF.out 3 rfl (by simp [hdep])
      simp only [E1, E2, E3, Act.put, List.toList_toArray, List.take_succ_cons, List.take_zero, List.drop_succ_cons, List.drop_zero, List.cons_append, List.nil_append, List.setIfInBounds_toArray, List.set_cons_zero, List.set_cons_succ]
      go_simp
      exact hKK _ _ ⟨fun zz => cond (Nat.beq zz 4) (.bool true) (cond (Nat.beq zz 3) (.int .i64 (i : Int)) (cond (Nat.beq zz 2) (.int .i64 (i : Int)) (cond (Nat.beq zz 1) (.bool true) (f zz)))), rfl, hB, Lib.hid (upd_factP (i := 4) (v := .bool true) (cond_factP (j := 3) (v := .int .i64 (i : Int)) (cond_factP (j := 2) (v := .int .i64 (i : Int)) (cond_factP (j := 1) (v := .bool true) HF.out rfl) rfl) rfl) rfl), Lib.hid (fun h => (HX15.out h)), Lib.hid (fun h => (HX18.out h))⟩
    · intro D aa wx HI hD hdep KK hKK
      obtain ⟨f, rfl, hB, HF, HX15, HX18⟩ := HI
      simp [Region.binds] at hdep
      have E1 : f 1 = .bool true := HF.out 1 rfl (by simp [hdep])
      have E4 : f 4 = .bool true := HF.out 4 rfl (by simp [hdep])
      simp only [E1, E4, Act.put, List.toList_toArray, List.take_succ_cons, List.take_zero, List.drop_succ_cons, List.drop_zero, List.cons_append, List.nil_append, List.setIfInBounds_toArray, List.set_cons_zero, List.set_cons_succ]
      go_simp
      exact hKK _ _ ⟨fun zz => cond (Nat.beq zz 5) (.bool true) (cond (Nat.beq zz 4) (.bool true) (cond (Nat.beq zz 1) (.bool true) (f zz))), rfl, hB, Lib.hid (upd_factP (i := 5) (v := .bool true) (cond_factP (j := 4) (v := .bool true) (cond_factP (j := 1) (v := .bool true) HF.out rfl) rfl) rfl), Lib.hid (fun h => (HX15.out h)), Lib.hid (fun h => (HX18.out h))⟩
    · intro D aa wx HI hD hdep KK hKK
      obtain ⟨f, rfl, hB, HF, HX15, HX18⟩ := HI
      simp [Region.binds] at hdep
      have E5 : f 5 = .bool true := HF.out 5 rfl (by simp [hdep])
      simp only [E5, Act.put, List.toList_toArray, List.take_succ_cons, List.take_zero, List.drop_succ_cons, List.drop_zero, List.cons_append, List.nil_append, List.setIfInBounds_toArray, List.set_cons_zero, List.set_cons_succ]
      go_simp
      exact hKK _ _ ⟨fun zz => cond (Nat.beq zz 6) (.bool true) (cond (Nat.beq zz 5) (.bool true) (f zz)), rfl, hB, Lib.hid (upd_factP (i := 6) (v := .bool true) (cond_factP (j := 5) (v := .bool true) HF.out rfl) rfl), Lib.hid (fun h => (HX15.out h)), Lib.hid (fun h => (HX18.out h))⟩
    · intro D aa wx HI hD hdep KK hKK
      obtain ⟨f, rfl, hB, HF, HX15, HX18⟩ := HI
      simp [Region.binds] at hdep
      have E6 : f 6 = .bool true := HF.out 6 rfl (by simp [hdep])
      simp only [E6, Act.put, List.toList_toArray, List.take_succ_cons, List.take_zero, List.drop_succ_cons, List.drop_zero, List.cons_append, List.nil_append, List.setIfInBounds_toArray, List.set_cons_zero, List.set_cons_succ]
      go_simp
      exact hKK _ _ ⟨fun zz => cond (Nat.beq zz 7) (.bool is) (cond (Nat.beq zz 6) (.bool true) (f zz)), rfl, hB, Lib.hid (upd_factP (i := 7) (v := .bool is) (cond_factP (j := 6) (v := .bool true) HF.out rfl) rfl), Lib.hid (fun h => (HX15.out h)), Lib.hid (fun h => (HX18.out h))⟩
    · intro D aa wx HI hD hdep KK hKK
      obtain ⟨f, rfl, hB, HF, HX15, HX18⟩ := HI
      simp [Region.binds] at hdep
      have E6 : f 6 = .bool true := HF.out 6 rfl (by simp [hdep])
      simp only [E6, Act.put, List.toList_toArray, List.take_succ_cons, List.take_zero, List.drop_succ_cons, List.drop_zero, List.cons_append, List.nil_append, List.setIfInBounds_toArray, List.set_cons_zero, List.set_cons_succ]
      go_simp
      exact hKK _ _ ⟨fun zz => cond (Nat.beq zz 8) (.bool is) (cond (Nat.beq zz 6) (.bool true) (f zz)), rfl, hB, Lib.hid (upd_factP (i := 8) (v := .bool is) (cond_factP (j := 6) (v := .bool true) HF.out rfl) rfl), Lib.hid (fun h => (HX15.out h)), Lib.hid (fun h => (HX18.out h))⟩
    · intro D aa wx HI hD hdep KK hKK
      obtain ⟨f, rfl, hB, HF, HX15, HX18⟩ := HI
      simp [Region.binds] at hdep
      have E6 : f 6 = .bool true := HF.out 6 rfl (by simp [hdep])
      have E7 : f 7 = .bool is := HF.out 7 rfl (by simp [hdep])
      have E8 : f 8 = .bool is := HF.out 8 rfl (by simp [hdep])
      simp only [E6, E7, E8, Act.put, List.toList_toArray, List.take_succ_cons, List.take_zero, List.drop_succ_cons, List.drop_zero, List.cons_append, List.nil_append, List.setIfInBounds_toArray, List.set_cons_zero, List.set_cons_succ]
      go_simp
      exact hKK _ _ ⟨fun zz => cond (Nat.beq zz 9) (.bool true) (cond (Nat.beq zz 8) (.bool is) (cond (Nat.beq zz 7) (.bool is) (cond (Nat.beq zz 6) (.bool true) (f zz)))), rfl, hB, Lib.hid (upd_factP (i := 9) (v := .bool true) (cond_factP (j := 8) (v := .bool is) (cond_factP (j := 7) (v := .bool is) (cond_factP (j := 6) (v := .bool true) HF.out rfl) rfl) rfl) rfl), Lib.hid (fun h => (HX15.out h)), Lib.hid (fun h => (HX18.out h))⟩
    · intro D aa wx HI hD hdep KK hKK
      obtain ⟨f, rfl, hB, HF, HX15, HX18⟩ := HI
      simp [Region.binds] at hdep
      have E6 : f 6 = .bool true := HF.out 6 rfl (by simp [hdep])
      have E9 : f 9 = .bool true := HF.out 9 rfl (by simp [hdep])
      simp only [E6, E9, Act.put, List.toList_toArray, List.take_succ_cons, List.take_zero, List.drop_succ_cons, List.drop_zero, List.cons_append, List.nil_append, List.setIfInBounds_toArray, List.set_cons_zero, List.set_cons_succ]
      go_simp
      exact hKK _ _ ⟨fun zz => cond (Nat.beq zz 10) (.bool true) (cond (Nat.beq zz 9) (.bool true) (cond (Nat.beq zz 6) (.bool true) (f zz))), rfl, hB, Lib.hid (upd_factP (i := 10) (v := .bool true) (cond_factP (j := 9) (v := .bool true) (cond_factP (j := 6) (v := .bool true) HF.out rfl) rfl) rfl), Lib.hid (fun h => (HX15.out h)), Lib.hid (fun h => (HX18.out h))⟩
    · intro D aa wx HI hD hdep KK hKK
      obtain ⟨f, rfl, hB, HF, HX15, HX18⟩ := HI
      simp [Region.binds] at hdep
      have E10 : f 10 = .bool true := HF.out 10 rfl (by simp [hdep])
      simp only [E10, Act.put, List.toList_toArray, List.take_succ_cons, List.take_zero, List.drop_succ_cons, List.drop_zero, List.cons_append, List.nil_append, List.setIfInBounds_toArray, List.set_cons_zero, List.set_cons_succ]
      go_simp
      exact hKK _ _ ⟨fun zz => cond (Nat.beq zz 11) (.bool true) (cond (Nat.beq zz 10) (.bool true) (f zz)), rfl, hB, Lib.hid (upd_factP (i := 11) (v := .bool true) (cond_factP (j := 10) (v := .bool true) HF.out rfl) rfl), Lib.hid (fun h => (HX15.out h)), Lib.hid (fun h => (HX18.out h))⟩
    · intro D aa wx HI hD hdep KK hKK
      obtain ⟨f, rfl, hB, HF, HX15, HX18⟩ := HI
      simp [Region.binds] at hdep
      have E11 : f 11 = .bool true := HF.out 11 rfl (by simp [hdep])
      have c0 := (A4.nd.below hB).c0
      have c1 := (A4.nd.below hB).c1
      simp only [E11, Act.put, List.toList_toArray, List.take_succ_cons, List.take_zero, List.drop_succ_cons, List.drop_zero, List.cons_append, List.nil_append, List.setIfInBounds_toArray, List.set_cons_zero, List.set_cons_succ]
      go_simp
      exact hKK _ _ ⟨fun zz => cond (Nat.beq zz 12) ((.agg #[.slice a n c, .slice ka kn kc])) (cond (Nat.beq zz 11) (.bool true) (f zz)), rfl, hB, Lib.hid (upd_factP (i := 12) (v := (.agg #[.slice a n c, .slice ka kn kc])) (cond_factP (j := 11) (v := .bool true) HF.out rfl) rfl), Lib.hid (fun h => (HX15.out h)), Lib.hid (fun h => (HX18.out h))⟩
    · intro D aa wx HI hD hdep KK hKK
      obtain ⟨f, rfl, hB, HF, HX15, HX18⟩ := HI
      simp [Region.binds] at hdep
      have E11 : f 11 = .bool true := HF.out 11 rfl (by simp [hdep])
      have E12 : f 12 = (.agg #[.slice a n c, .slice ka kn kc]) := HF.out 12 rfl (by simp [hdep])
      simp only [E11, E12, Act.put, List.toList_toArray, List.take_succ_cons, List.take_zero, List.drop_succ_cons, List.drop_zero, List.cons_append, List.nil_append, List.setIfInBounds_toArray, List.set_cons_zero, List.set_cons_succ]
      go_simp
      refine (KOA.out _).mono ?_
      rintro e w5 ⟨rfl, hb⟩
      exact hKK _ _ ⟨fun zz => cond (Nat.beq zz 13) ((.agg #[.slice a n c, .slice ka kn kc])) (cond (Nat.beq zz 12) ((.agg #[.slice a n c, .slice ka kn kc])) (cond (Nat.beq zz 11) (.bool true) (f zz))), rfl, below_to hB hb, Lib.hid (upd_factP (i := 13) (v := (.agg #[.slice a n c, .slice ka kn kc])) (cond_factP (j := 12) (v := (.agg #[.slice a n c, .slice ka kn kc])) (cond_factP (j := 11) (v := .bool true) HF.out rfl) rfl) rfl), Lib.hid (fun h => (HX15.out h).below hb), Lib.hid (fun h => (HX18.out h).below hb)⟩
    · intro D aa wx HI hD hdep KK hKK
      obtain ⟨f, rfl, hB, HF, HX15, HX18⟩ := HI
      simp [Region.binds] at hdep
      have E11 : f 11 = .bool true := HF.out 11 rfl (by simp [hdep])
      have c0 := (AX.below hB).c0
      have c1 := (AX.below hB).c1
      simp only [E11, Act.put, List.toList_toArray, List.take_succ_cons, List.take_zero, List.drop_succ_cons, List.drop_zero, List.cons_append, List.nil_append, List.setIfInBounds_toArray, List.set_cons_zero, List.set_cons_succ]
      go_simp
      exact hKK _ _ ⟨fun zz => cond (Nat.beq zz 14) ((.agg #[.string p, .string q])) (cond (Nat.beq zz 11) (.bool true) (f zz)), rfl, hB, Lib.hid (upd_factP (i := 14) (v := (.agg #[.string p, .string q])) (cond_factP (j := 11) (v := .bool true) HF.out rfl) rfl), Lib.hid (fun h => (HX15.out h)), Lib.hid (fun h => (HX18.out h))⟩
    · intro D aa wx HI hD hdep KK hKK
      obtain ⟨f, rfl, hB, HF, HX15, HX18⟩ := HI
      simp [Region.binds] at hdep
      have E11 : f 11 = .bool true := HF.out 11 rfl (by simp [hdep])
      have E13 : f 13 = (.agg #[.slice a n c, .slice ka kn kc]) := HF.out 13 rfl (by simp [hdep])
      have E14 : f 14 = (.agg #[.string p, .string q]) := HF.out 14 rfl (by simp [hdep])
      simp only [E11, E13, E14, Act.put, List.toList_toArray, List.take_succ_cons, List.take_zero, List.drop_succ_cons, List.drop_zero, List.cons_append, List.nil_append, List.setIfInBounds_toArray, List.set_cons_zero, List.set_cons_succ]
      go_simp
      refine (KP.out _ hB).mono ?_
      rintro e w5 ⟨xa, xn, xc, xka, xkn, xkc, rfl, h1, h2, hb⟩
      exact hKK _ _ ⟨fun zz => cond (Nat.beq zz 15) (.agg #[.slice xa xn xc, .slice xka xkn xkc]) (cond (Nat.beq zz 14) ((.agg #[.string p, .string q])) (cond (Nat.beq zz 13) ((.agg #[.slice a n c, .slice ka kn kc])) (cond (Nat.beq zz 11) (.bool true) (f zz)))), rfl, below_to hB hb, Lib.hid (upd_rowP (r := 15) (v := .agg #[.slice xa xn xc, .slice xka xkn xkc]) rfl (cond_factP (j := 14) (v := (.agg #[.string p, .string q])) (cond_factP (j := 13) (v := (.agg #[.slice a n c, .slice ka kn kc])) (cond_factP (j := 11) (v := .bool true) HF.out rfl) rfl) rfl)), Lib.hid (fun _ => ⟨_, _, _, _, _, _, rfl, h1, h2⟩), Lib.hid (fun h => (HX18.out h).below hb)⟩
    · intro D aa wx HI hD hdep KK hKK
      obtain ⟨f, rfl, hB, HF, HX15, HX18⟩ := HI
      simp [Region.binds] at hdep
      have E11 : f 11 = .bool true := HF.out 11 rfl (by simp [hdep])
      have c0 := (A4.nd.below hB).c0
      have c1 := (A4.nd.below hB).c1
      simp only [E11, Act.put, List.toList_toArray, List.take_succ_cons, List.take_zero, List.drop_succ_cons, List.drop_zero, List.cons_append, List.nil_append, List.setIfInBounds_toArray, List.set_cons_zero, List.set_cons_succ]
      go_simp
      exact hKK _ _ ⟨fun zz => cond (Nat.beq zz 16) ((.agg #[.slice a n c, .slice ka kn kc])) (cond (Nat.beq zz 11) (.bool true) (f zz)), rfl, hB, Lib.hid (upd_factP (i := 16) (v := (.agg #[.slice a n c, .slice ka kn kc])) (cond_factP (j := 11) (v := .bool true) HF.out rfl) rfl), Lib.hid (fun h => (HX15.out h)), Lib.hid (fun h => (HX18.out h))⟩
    · intro D aa wx HI hD hdep KK hKK
      obtain ⟨f, rfl, hB, HF, HX15, HX18⟩ := HI
      simp [Region.binds] at hdep
      have E11 : f 11 = .bool true := HF.out 11 rfl (by simp [hdep])
      have c0 := (AX.below hB).c0
      have c1 := (AX.below hB).c1
      simp only [E11, Act.put, List.toList_toArray, List.take_succ_cons, List.take_zero, List.drop_succ_cons, List.drop_zero, List.cons_append, List.nil_append, List.setIfInBounds_toArray, List.set_cons_zero, List.set_cons_succ]
      go_simp
      exact hKK _ _ ⟨fun zz => cond (Nat.beq zz 17) ((.agg #[.string p, .string q])) (cond (Nat.beq zz 11) (.bool true) (f zz)), rfl, hB, Lib.hid (upd_factP (i := 17) (v := (.agg #[.string p, .string q])) (cond_factP (j := 11) (v := .bool true) HF.out rfl) rfl), Lib.hid (fun h => (HX15.out h)), Lib.hid (fun h => (HX18.out h))⟩
    · intro D aa wx HI hD hdep KK hKK
      obtain ⟨f, rfl, hB, HF, HX15, HX18⟩ := HI
      simp [Region.binds] at hdep
      have E11 : f 11 = .bool true := HF.out 11 rfl (by simp [hdep])
      have E16 : f 16 = (.agg #[.slice a n c, .slice ka kn kc]) := HF.out 16 rfl (by simp [hdep])
      have E17 : f 17 = (.agg #[.string p, .string q]) := HF.out 17 rfl (by simp [hdep])
      simp only [E11, E16, E17, Act.put, List.toList_toArray, List.take_succ_cons, List.take_zero, List.drop_succ_cons, List.drop_zero, List.cons_append, List.nil_append, List.setIfInBounds_toArray, List.set_cons_zero, List.set_cons_succ]
      go_simp
      refine (KRP.out _ hB).mono ?_
      rintro e w5 ⟨xa, xn, xc, xka, xkn, xkc, rfl, h1, h2, hb⟩
      exact hKK _ _ ⟨fun zz => cond (Nat.beq zz 18) (.agg #[.slice xa xn xc, .slice xka xkn xkc]) (cond (Nat.beq zz 17) ((.agg #[.string p, .string q])) (cond (Nat.beq zz 16) ((.agg #[.slice a n c, .slice ka kn kc])) (cond (Nat.beq zz 11) (.bool true) (f zz)))), rfl, below_to hB hb, Lib.hid (upd_rowP (r := 18) (v := .agg #[.slice xa xn xc, .slice xka xkn xkc]) rfl (cond_factP (j := 17) (v := (.agg #[.string p, .string q])) (cond_factP (j := 16) (v := (.agg #[.slice a n c, .slice ka kn kc])) (cond_factP (j := 11) (v := .bool true) HF.out rfl) rfl) rfl)), Lib.hid (fun h => (HX15.out h).below hb), Lib.hid (fun _ => ⟨_, _, _, _, _, _, rfl, h1, h2⟩)⟩
    · intro D aa wx HI hD hdep KK hKK
      obtain ⟨f, rfl, hB, HF, HX15, HX18⟩ := HI
      simp [Region.binds] at hdep
      have E11 : f 11 = .bool true := HF.out 11 rfl (by simp [hdep])
      obtain ⟨xa, xn, xc, xka, xkn, xkc, E15, hx1, hx2⟩ := HX15.out (by simp [hdep])
      obtain ⟨ya, yn, yc, yka, ykn, ykc, E18, hy1, hy2⟩ := HX18.out (by simp [hdep])
      simp only [E11, E15, E18, Act.put, List.toList_toArray, List.take_succ_cons, List.take_zero, List.drop_succ_cons, List.drop_zero, List.cons_append, List.nil_append, List.setIfInBounds_toArray, List.set_cons_zero, List.set_cons_succ]
      go_simp
      refine (same_ex hx1 hx2 hy1 hy2 hPL.1 hPL.2).mono ?_
      rintro e w5 ⟨rfl, hb⟩
      exact hKK _ _ ⟨fun zz => cond (Nat.beq zz 19) (.bool true) (cond (Nat.beq zz 18) (.agg #[.slice ya yn yc, .slice yka ykn ykc]) (cond (Nat.beq zz 15) (.agg #[.slice xa xn xc, .slice xka xkn xkc]) (cond (Nat.beq zz 11) (.bool true) (f zz)))), rfl, below_to hB hb, Lib.hid (upd_factP (i := 19) (v := .bool true) (cond_rowP (r := 18) (v := .agg #[.slice ya yn yc, .slice yka ykn ykc]) rfl (cond_rowP (r := 15) (v := .agg #[.slice xa xn xc, .slice xka xkn xkc]) rfl (cond_factP (j := 11) (v := .bool true) HF.out rfl))) rfl), Lib.hid (fun _ => ⟨_, _, _, _, _, _, rfl, hx1.below hb, hx2.below hb⟩), Lib.hid (fun _ => ⟨_, _, _, _, _, _, rfl, hy1.below hb, hy2.below hb⟩)⟩
    · intro D aa wx HI hD hdep KK hKK
      obtain ⟨f, rfl, hB, HF, HX15, HX18⟩ := HI
      simp [Region.binds] at hdep
      have E11 : f 11 = .bool true := HF.out 11 rfl (by simp [hdep])
      have E19 : f 19 = .bool true := HF.out 19 rfl (by simp [hdep])
      simp only [E11, E19, Act.put, List.toList_toArray, List.take_succ_cons, List.take_zero, List.drop_succ_cons, List.drop_zero, List.cons_append, List.nil_append, List.setIfInBounds_toArray, List.set_cons_zero, List.set_cons_succ]
      go_simp
      exact hKK _ _ ⟨fun zz => cond (Nat.beq zz 20) (.bool true) (cond (Nat.beq zz 19) (.bool true) (cond (Nat.beq zz 11) (.bool true) (f zz))), rfl, hB, Lib.hid (upd_factP (i := 20) (v := .bool true) (cond_factP (j := 19) (v := .bool true) (cond_factP (j := 11) (v := .bool true) HF.out rfl) rfl) rfl), Lib.hid (fun h => (HX15.out h)), Lib.hid (fun h => (HX18.out h))⟩
    · intro D aa wx HI hD hdep KK hKK
      obtain ⟨f, rfl, hB, HF, HX15, HX18⟩ := HI
      simp [Region.binds] at hdep
      have E20 : f 20 = .bool true := HF.out 20 rfl (by simp [hdep])
      simp only [E20, Act.put, List.toList_toArray, List.take_succ_cons, List.take_zero, List.drop_succ_cons, List.drop_zero, List.cons_append, List.nil_append, List.setIfInBounds_toArray, List.set_cons_zero, List.set_cons_succ]
      go_simp
      exact hKK _ _ ⟨fun zz => cond (Nat.beq zz 21) (.bool true) (cond (Nat.beq zz 20) (.bool true) (f zz)), rfl, hB, Lib.hid (upd_factP (i := 21) (v := .bool true) (cond_factP (j := 20) (v := .bool true) HF.out rfl) rfl), Lib.hid (fun h => (HX15.out h)), Lib.hid (fun h => (HX18.out h))⟩
    · intro D aa wx HI hD hdep KK hKK
      obtain ⟨f, rfl, hB, HF, HX15, HX18⟩ := HI
      simp [Region.binds] at hdep
      have E21 : f 21 = .bool true := HF.out 21 rfl (by simp [hdep])
      have c0 := (A13.nd.below hB).c0
      have c1 := (A13.nd.below hB).c1
      simp only [E21, Act.put, List.toList_toArray, List.take_succ_cons, List.take_zero, List.drop_succ_cons, List.drop_zero, List.cons_append, List.nil_append, List.setIfInBounds_toArray, List.set_cons_zero, List.set_cons_succ]
      go_simp
      exact hKK _ _ ⟨fun zz => cond (Nat.beq zz 22) ((.agg #[.slice ca cn cc, .slice cka ckn ckc])) (cond (Nat.beq zz 21) (.bool true) (f zz)), rfl, hB, Lib.hid (upd_factP (i := 22) (v := (.agg #[.slice ca cn cc, .slice cka ckn ckc])) (cond_factP (j := 21) (v := .bool true) HF.out rfl) rfl), Lib.hid (fun h => (HX15.out h)), Lib.hid (fun h => (HX18.out h))⟩
    · intro D aa wx HI hD hdep KK hKK
      obtain ⟨f, rfl, hB, HF, HX15, HX18⟩ := HI
      simp [Region.binds] at hdep
      have E21 : f 21 = .bool true := HF.out 21 rfl (by simp [hdep])
      have c0 := (A16.nd.below hB).c0
      have c1 := (A16.nd.below hB).c1
      simp only [E21, Act.put, List.toList_toArray, List.take_succ_cons, List.take_zero, List.drop_succ_cons, List.drop_zero, List.cons_append, List.nil_append, List.setIfInBounds_toArray, List.set_cons_zero, List.set_cons_succ]
      go_simp
      exact hKK _ _ ⟨fun zz => cond (Nat.beq zz 23) ((.agg #[.slice ea en ec, .slice eka ekn ekc])) (cond (Nat.beq zz 21) (.bool true) (f zz)), rfl, hB, Lib.hid (upd_factP (i := 23) (v := (.agg #[.slice ea en ec, .slice eka ekn ekc])) (cond_factP (j := 21) (v := .bool true) HF.out rfl) rfl), Lib.hid (fun h => (HX15.out h)), Lib.hid (fun h => (HX18.out h))⟩
    · intro D aa wx HI hD hdep KK hKK
      obtain ⟨f, rfl, hB, HF, HX15, HX18⟩ := HI
      simp [Region.binds] at hdep
      have E21 : f 21 = .bool true := HF.out 21 rfl (by simp [hdep])
      have E22 : f 22 = (.agg #[.slice ca cn cc, .slice cka ckn ckc]) := HF.out 22 rfl (by simp [hdep])
      have E23 : f 23 = (.agg #[.slice ea en ec, .slice eka ekn ekc]) := HF.out 23 rfl (by simp [hdep])
      simp only [E21, E22, E23, Act.put, List.toList_toArray, List.take_succ_cons, List.take_zero, List.drop_succ_cons, List.drop_zero, List.cons_append, List.nil_append, List.setIfInBounds_toArray, List.set_cons_zero, List.set_cons_succ]
      go_simp
      refine (same_ex (A13.its.below hB) (A13.kds.below hB) (A16.its.below hB) (A16.kds.below hB) (by omega) (by omega)).mono ?_
      rintro e w5 ⟨rfl, hb⟩
      exact hKK _ _ ⟨fun zz => cond (Nat.beq zz 24) (.bool true) (cond (Nat.beq zz 23) ((.agg #[.slice ea en ec, .slice eka ekn ekc])) (cond (Nat.beq zz 22) ((.agg #[.slice ca cn cc, .slice cka ckn ckc])) (cond (Nat.beq zz 21) (.bool true) (f zz)))), rfl, below_to hB hb, Lib.hid (upd_factP (i := 24) (v := .bool true) (cond_factP (j := 23) (v := (.agg #[.slice ea en ec, .slice eka ekn ekc])) (cond_factP (j := 22) (v := (.agg #[.slice ca cn cc, .slice cka ckn ckc])) (cond_factP (j := 21) (v := .bool true) HF.out rfl) rfl) rfl) rfl), Lib.hid (fun h => (HX15.out h).below hb), Lib.hid (fun h => (HX18.out h).below hb)⟩
    · intro D aa wx HI hD hdep KK hKK
      obtain ⟨f, rfl, hB, HF, HX15, HX18⟩ := HI
      simp [Region.binds] at hdep
      have E21 : f 21 = .bool true := HF.out 21 rfl (by simp [hdep])
      have E24 : f 24 = .bool true := HF.out 24 rfl (by simp [hdep])
      simp only [E21, E24, Act.put, List.toList_toArray, List.take_succ_cons, List.take_zero, List.drop_succ_cons, List.drop_zero, List.cons_append, List.nil_append, List.setIfInBounds_toArray, List.set_cons_zero, List.set_cons_succ]
      go_simp
      exact hKK _ _ ⟨fun zz => cond (Nat.beq zz 25) (.bool true) (cond (Nat.beq zz 24) (.bool true) (cond (Nat.beq zz 21) (.bool true) (f zz))), rfl, hB, Lib.hid (upd_factP (i := 25) (v := .bool true) (cond_factP (j := 24) (v := .bool true) (cond_factP (j := 21) (v := .bool true) HF.out rfl) rfl) rfl), Lib.hid (fun h => (HX15.out h)), Lib.hid (fun h => (HX18.out h))⟩
    · intro D aa wx HI hD hdep KK hKK
      obtain ⟨f, rfl, hB, HF, HX15, HX18⟩ := HI
      simp [Region.binds] at hdep
      have E25 : f 25 = .bool true := HF.out 25 rfl (by simp [hdep])
      simp only [E25, Act.put, List.toList_toArray, List.take_succ_cons, List.take_zero, List.drop_succ_cons, List.drop_zero, List.cons_append, List.nil_append, List.setIfInBounds_toArray, List.set_cons_zero, List.set_cons_succ]
      go_simp
      exact hKK _ _ ⟨fun zz => cond (Nat.beq zz 26) (.bool true) (cond (Nat.beq zz 25) (.bool true) (f zz)), rfl, hB, Lib.hid (upd_factP (i := 26) (v := .bool true) (cond_factP (j := 25) (v := .bool true) HF.out rfl) rfl), Lib.hid (fun h => (HX15.out h)), Lib.hid (fun h => (HX18.out h))⟩
    · intro D aa wx HI hD hdep KK hKK
      obtain ⟨f, rfl, hB, HF, HX15, HX18⟩ := HI
      simp [Region.binds] at hdep
      have E26 : f 26 = .bool true := HF.out 26 rfl (by simp [hdep])
      simp only [E26, Act.put, List.toList_toArray, List.take_succ_cons, List.take_zero, List.drop_succ_cons, List.drop_zero, List.cons_append, List.nil_append, List.setIfInBounds_toArray, List.set_cons_zero, List.set_cons_succ]
      go_simp
      exact hKK _ _ ⟨fun zz => cond (Nat.beq zz 27) (.string kk) (cond (Nat.beq zz 26) (.bool true) (f zz)), rfl, hB, Lib.hid (upd_factP (i := 27) (v := .string kk) (cond_factP (j := 26) (v := .bool true) HF.out rfl) rfl), Lib.hid (fun h => (HX15.out h)), Lib.hid (fun h => (HX18.out h))⟩
    · intro D aa wx HI hD hdep KK hKK
      obtain ⟨f, rfl, hB, HF, HX15, HX18⟩ := HI
      simp [Region.binds] at hdep
      have E26 : f 26 = .bool true := HF.out 26 rfl (by simp [hdep])
      simp only [E26, Act.put, List.toList_toArray, List.take_succ_cons, List.take_zero, List.drop_succ_cons, List.drop_zero, List.cons_append, List.nil_append, List.setIfInBounds_toArray, List.set_cons_zero, List.set_cons_succ]
      go_simp
      exact hKK _ _ ⟨fun zz => cond (Nat.beq zz 28) (.string kk) (cond (Nat.beq zz 26) (.bool true) (f zz)), rfl, hB, Lib.hid (upd_factP (i := 28) (v := .string kk) (cond_factP (j := 26) (v := .bool true) HF.out rfl) rfl), Lib.hid (fun h => (HX15.out h)), Lib.hid (fun h => (HX18.out h))⟩
    · intro D aa wx HI hD hdep KK hKK
      obtain ⟨f, rfl, hB, HF, HX15, HX18⟩ := HI
      simp [Region.binds] at hdep
      have E26 : f 26 = .bool true := HF.out 26 rfl (by simp [hdep])
      have E27 : f 27 = .string kk := HF.out 27 rfl (by simp [hdep])
      have E28 : f 28 = .string kk := HF.out 28 rfl (by simp [hdep])
      simp only [E26, E27, E28, Act.put, List.toList_toArray, List.take_succ_cons, List.take_zero, List.drop_succ_cons, List.drop_zero, List.cons_append, List.nil_append, List.setIfInBounds_toArray, List.set_cons_zero, List.set_cons_succ]
      go_simp
      exact hKK _ _ ⟨fun zz => cond (Nat.beq zz 29) (.bool true) (cond (Nat.beq zz 28) (.string kk) (cond (Nat.beq zz 27) (.string kk) (cond (Nat.beq zz 26) (.bool true) (f zz)))), rfl, hB, Lib.hid (upd_factP (i := 29) (v := .bool true) (cond_factP (j := 28) (v := .string kk) (cond_factP (j := 27) (v := .string kk) (cond_factP (j := 26) (v := .bool true) HF.out rfl) rfl) rfl) rfl), Lib.hid (fun h => (HX15.out h)), Lib.hid (fun h => (HX18.out h))⟩
    · intro D aa wx HI hD hdep KK hKK
      obtain ⟨f, rfl, hB, HF, HX15, HX18⟩ := HI
      simp [Region.binds] at hdep
      have E26 : f 26 = .bool true := HF.out 26 rfl (by simp [hdep])
      have E29 : f 29 = .bool true := HF.out 29 rfl (by simp [hdep])
      simp only [E26, E29, Act.put, List.toList_toArray, List.take_succ_cons, List.take_zero, List.drop_succ_cons, List.drop_zero, List.cons_append, List.nil_append, List.setIfInBounds_toArray, List.set_cons_zero, List.set_cons_succ]
      go_simp
      exact hKK _ _ ⟨fun zz => cond (Nat.beq zz 30) (.bool true) (cond (Nat.beq zz 29) (.bool true) (cond (Nat.beq zz 26) (.bool true) (f zz))), rfl, hB, Lib.hid (upd_factP (i := 30) (v := .bool true) (cond_factP (j := 29) (v := .bool true) (cond_factP (j := 26) (v := .bool true) HF.out rfl) rfl) rfl), Lib.hid (fun h => (HX15.out h)), Lib.hid (fun h => (HX18.out h))⟩
    · intro D aa wx HI hD hdep KK hKK
      obtain ⟨f, rfl, hB, HF, HX15, HX18⟩ := HI
      simp [Region.binds] at hdep
      have E30 : f 30 = .bool true := HF.out 30 rfl (by simp [hdep])
      simp only [E30, Act.put, List.toList_toArray, List.take_succ_cons, List.take_zero, List.drop_succ_cons, List.drop_zero, List.cons_append, List.nil_append, List.setIfInBounds_toArray, List.set_cons_zero, List.set_cons_succ]
      go_simp
      exact hKK _ _ ⟨fun zz => cond (Nat.beq zz 31) (.bool true) (cond (Nat.beq zz 30) (.bool true) (f zz)), rfl, hB, Lib.hid (upd_factP (i := 31) (v := .bool true) (cond_factP (j := 30) (v := .bool true) HF.out rfl) rfl), Lib.hid (fun h => (HX15.out h)), Lib.hid (fun h => (HX18.out h))⟩
    · intro D aa wx HI hD hdep KK hKK
      obtain ⟨f, rfl, hB, HF, HX15, HX18⟩ := HI
      simp [Region.binds] at hdep
      have E31 : f 31 = .bool true := HF.out 31 rfl (by simp [hdep])
      have c0 := (A15.nd.below hB).c0
      have c1 := (A15.nd.below hB).c1
      simp only [E31, Act.put, List.toList_toArray, List.take_succ_cons, List.take_zero, List.drop_succ_cons, List.drop_zero, List.cons_append, List.nil_append, List.setIfInBounds_toArray, List.set_cons_zero, List.set_cons_succ]
      go_simp
      exact hKK _ _ ⟨fun zz => cond (Nat.beq zz 32) ((.agg #[.slice da dn dc, .slice dka dkn dkc])) (cond (Nat.beq zz 31) (.bool true) (f zz)), rfl, hB, Lib.hid (upd_factP (i := 32) (v := (.agg #[.slice da dn dc, .slice dka dkn dkc])) (cond_factP (j := 31) (v := .bool true) HF.out rfl) rfl), Lib.hid (fun h => (HX15.out h)), Lib.hid (fun h => (HX18.out h))⟩
    · intro D aa wx HI hD hdep KK hKK
      obtain ⟨f, rfl, hB, HF, HX15, HX18⟩ := HI
      simp [Region.binds] at hdep
      have E31 : f 31 = .bool true := HF.out 31 rfl (by simp [hdep])
      have c0 := (A18.nd.below hB).c0
      have c1 := (A18.nd.below hB).c1
      simp only [E31, Act.put, List.toList_toArray, List.take_succ_cons, List.take_zero, List.drop_succ_cons, List.drop_zero, List.cons_append, List.nil_append, List.setIfInBounds_toArray, List.set_cons_zero, List.set_cons_succ]
      go_simp
      exact hKK _ _ ⟨fun zz => cond (Nat.beq zz 33) ((.agg #[.slice fa fn fc, .slice fka fkn fkc])) (cond (Nat.beq zz 31) (.bool true) (f zz)), rfl, hB, Lib.hid (upd_factP (i := 33) (v := (.agg #[.slice fa fn fc, .slice fka fkn fkc])) (cond_factP (j := 31) (v := .bool true) HF.out rfl) rfl), Lib.hid (fun h => (HX15.out h)), Lib.hid (fun h => (HX18.out h))⟩
    · intro D aa wx HI hD hdep KK hKK
      obtain ⟨f, rfl, hB, HF, HX15, HX18⟩ := HI
      simp [Region.binds] at hdep
      have E31 : f 31 = .bool true := HF.out 31 rfl (by simp [hdep])
      have E32 : f 32 = (.agg #[.slice da dn dc, .slice dka dkn dkc]) := HF.out 32 rfl (by simp [hdep])
      have E33 : f 33 = (.agg #[.slice fa fn fc, .slice fka fkn fkc]) := HF.out 33 rfl (by simp [hdep])
      simp only [E31, E32, E33, Act.put, List.toList_toArray, List.take_succ_cons, List.take_zero, List.drop_succ_cons, List.drop_zero, List.cons_append, List.nil_append, List.setIfInBounds_toArray, List.set_cons_zero, List.set_cons_succ]
      go_simp
      refine (same_ex (A15.its.below hB) (A15.kds.below hB) (A18.its.below hB) (A18.kds.below hB) (by omega) (by omega)).mono ?_
      rintro e w5 ⟨rfl, hb⟩
      exact hKK _ _ ⟨fun zz => cond (Nat.beq zz 34) (.bool true) (cond (Nat.beq zz 33) ((.agg #[.slice fa fn fc, .slice fka fkn fkc])) (cond (Nat.beq zz 32) ((.agg #[.slice da dn dc, .slice dka dkn dkc])) (cond (Nat.beq zz 31) (.bool true) (f zz)))), rfl, below_to hB hb, Lib.hid (upd_factP (i := 34) (v := .bool true) (cond_factP (j := 33) (v := (.agg #[.slice fa fn fc, .slice fka fkn fkc])) (cond_factP (j := 32) (v := (.agg #[.slice da dn dc, .slice dka dkn dkc])) (cond_factP (j := 31) (v := .bool true) HF.out rfl) rfl) rfl) rfl), Lib.hid (fun h => (HX15.out h).below hb), Lib.hid (fun h => (HX18.out h).below hb)⟩
    · intro D aa wx HI hD hdep KK hKK
      obtain ⟨f, rfl, hB, HF, HX15, HX18⟩ := HI
      simp [Region.binds] at hdep
      have E31 : f 31 = .bool true := HF.out 31 rfl (by simp [hdep])
      have E34 : f 34 = .bool true := HF.out 34 rfl (by simp [hdep])
      simp only [E31, E34, Act.put, List.toList_toArray, List.take_succ_cons, List.take_zero, List.drop_succ_cons, List.drop_zero, List.cons_append, List.nil_append, List.setIfInBounds_toArray, List.set_cons_zero, List.set_cons_succ]
      go_simp
      exact hKK _ _ ⟨fun zz => cond (Nat.beq zz 35) (.bool true) (cond (Nat.beq zz 34) (.bool true) (cond (Nat.beq zz 31) (.bool true) (f zz))), rfl, hB, Lib.hid (upd_factP (i := 35) (v := .bool true) (cond_factP (j := 34) (v := .bool true) (cond_factP (j := 31) (v := .bool true) HF.out rfl) rfl) rfl), Lib.hid (fun h => (HX15.out h)), Lib.hid (fun h => (HX18.out h))⟩
    · intro D aa wx HI hD hdep KK hKK
      obtain ⟨f, rfl, hB, HF, HX15, HX18⟩ := HI
      simp [Region.binds] at hdep
      have E35 : f 35 = .bool true := HF.out 35 rfl (by simp [hdep])
      simp only [E35, Act.put, List.toList_toArray, List.take_succ_cons, List.take_zero, List.drop_succ_cons, List.drop_zero, List.cons_append, List.nil_append, List.setIfInBounds_toArray, List.set_cons_zero, List.set_cons_succ]
      go_simp
      exact hKK _ _ ⟨fun zz => cond (Nat.beq zz 36) (.bool true) (cond (Nat.beq zz 35) (.bool true) (f zz)), rfl, hB, Lib.hid (upd_factP (i := 36) (v := .bool true) (cond_factP (j := 35) (v := .bool true) HF.out rfl) rfl), Lib.hid (fun h => (HX15.out h)), Lib.hid (fun h => (HX18.out h))⟩
    · intro D aa wx HI hD hdep KK hKK
      obtain ⟨f, rfl, hB, HF, HX15, HX18⟩ := HI
      simp [Region.binds] at hdep
      have E36 : f 36 = .bool true := HF.out 36 rfl (by simp [hdep])
      have c0 := (A19.nd.below hB).c0
      have c1 := (A19.nd.below hB).c1
      simp only [E36, Act.put, List.toList_toArray, List.take_succ_cons, List.take_zero, List.drop_succ_cons, List.drop_zero, List.cons_append, List.nil_append, List.setIfInBounds_toArray, List.set_cons_zero, List.set_cons_succ]
      go_simp
      exact hKK _ _ ⟨fun zz => cond (Nat.beq zz 37) ((.agg #[.slice ja jn jc, .slice jka jkn jkc])) (cond (Nat.beq zz 36) (.bool true) (f zz)), rfl, hB, Lib.hid (upd_factP (i := 37) (v := (.agg #[.slice ja jn jc, .slice jka jkn jkc])) (cond_factP (j := 36) (v := .bool true) HF.out rfl) rfl), Lib.hid (fun h => (HX15.out h)), Lib.hid (fun h => (HX18.out h))⟩
    · intro D aa wx HI hD hdep KK hKK
      obtain ⟨f, rfl, hB, HF, HX15, HX18⟩ := HI
      simp [Region.binds] at hdep
      have E36 : f 36 = .bool true := HF.out 36 rfl (by simp [hdep])
      have c0 := (A21.nd.below hB).c0
      have c1 := (A21.nd.below hB).c1
      simp only [E36, Act.put, List.toList_toArray, List.take_succ_cons, List.take_zero, List.drop_succ_cons, List.drop_zero, List.cons_append, List.nil_append, List.setIfInBounds_toArray, List.set_cons_zero, List.set_cons_succ]
      go_simp
      exact hKK _ _ ⟨fun zz => cond (Nat.beq zz 38) ((.agg #[.slice la ln lc, .slice lka lkn lkc])) (cond (Nat.beq zz 36) (.bool true) (f zz)), rfl, hB, Lib.hid (upd_factP (i := 38) (v := (.agg #[.slice la ln lc, .slice lka lkn lkc])) (cond_factP (j := 36) (v := .bool true) HF.out rfl) rfl), Lib.hid (fun h => (HX15.out h)), Lib.hid (fun h => (HX18.out h))⟩
    · intro D aa wx HI hD hdep KK hKK
      obtain ⟨f, rfl, hB, HF, HX15, HX18⟩ := HI
      simp [Region.binds] at hdep
      have E36 : f 36 = .bool true := HF.out 36 rfl (by simp [hdep])
      have E37 : f 37 = (.agg #[.slice ja jn jc, .slice jka jkn jkc]) := HF.out 37 rfl (by simp [hdep])
      have E38 : f 38 = (.agg #[.slice la ln lc, .slice lka lkn lkc]) := HF.out 38 rfl (by simp [hdep])
      simp only [E36, E37, E38, Act.put, List.toList_toArray, List.take_succ_cons, List.take_zero, List.drop_succ_cons, List.drop_zero, List.cons_append, List.nil_append, List.setIfInBounds_toArray, List.set_cons_zero, List.set_cons_succ]
      go_simp
      refine (same_ex (A19.its.below hB) (A19.kds.below hB) (A21.its.below hB) (A21.kds.below hB) hLM.1 hLM.2).mono ?_
      rintro e w5 ⟨rfl, hb⟩
      exact hKK _ _ ⟨fun zz => cond (Nat.beq zz 39) (.bool true) (cond (Nat.beq zz 38) ((.agg #[.slice la ln lc, .slice lka lkn lkc])) (cond (Nat.beq zz 37) ((.agg #[.slice ja jn jc, .slice jka jkn jkc])) (cond (Nat.beq zz 36) (.bool true) (f zz)))), rfl, below_to hB hb, Lib.hid (upd_factP (i := 39) (v := .bool true) (cond_factP (j := 38) (v := (.agg #[.slice la ln lc, .slice lka lkn lkc])) (cond_factP (j := 37) (v := (.agg #[.slice ja jn jc, .slice jka jkn jkc])) (cond_factP (j := 36) (v := .bool true) HF.out rfl) rfl) rfl) rfl), Lib.hid (fun h => (HX15.out h).below hb), Lib.hid (fun h => (HX18.out h).below hb)⟩
    · intro D aa wx HI hD hdep KK hKK
      obtain ⟨f, rfl, hB, HF, HX15, HX18⟩ := HI
      simp [Region.binds] at hdep
      have E36 : f 36 = .bool true := HF.out 36 rfl (by simp [hdep])
      have E39 : f 39 = .bool true := HF.out 39 rfl (by simp [hdep])
      simp only [E36, E39, Act.put, List.toList_toArray, List.take_succ_cons, List.take_zero, List.drop_succ_cons, List.drop_zero, List.cons_append, List.nil_append, List.setIfInBounds_toArray, List.set_cons_zero, List.set_cons_succ]
      go_simp
      exact hKK _ _ ⟨fun zz => cond (Nat.beq zz 40) (.bool true) (cond (Nat.beq zz 39) (.bool true) (cond (Nat.beq zz 36) (.bool true) (f zz))), rfl, hB, Lib.hid (upd_factP (i := 40) (v := .bool true) (cond_factP (j := 39) (v := .bool true) (cond_factP (j := 36) (v := .bool true) HF.out rfl) rfl) rfl), Lib.hid (fun h => (HX15.out h)), Lib.hid (fun h => (HX18.out h))⟩
    · intro D aa wx HI hD hdep KK hKK
      obtain ⟨f, rfl, hB, HF, HX15, HX18⟩ := HI
      simp [Region.binds] at hdep
      have E40 : f 40 = .bool true := HF.out 40 rfl (by simp [hdep])
      simp only [E40, Act.put, List.toList_toArray, List.take_succ_cons, List.take_zero, List.drop_succ_cons, List.drop_zero, List.cons_append, List.nil_append, List.setIfInBounds_toArray, List.set_cons_zero, List.set_cons_succ]
      go_simp
      exact hKK _ _ ⟨fun zz => cond (Nat.beq zz 41) (.bool true) (cond (Nat.beq zz 40) (.bool true) (f zz)), rfl, hB, Lib.hid (upd_factP (i := 41) (v := .bool true) (cond_factP (j := 40) (v := .bool true) HF.out rfl) rfl), Lib.hid (fun h => (HX15.out h)), Lib.hid (fun h => (HX18.out h))⟩
    · intro D aa wx HI hD hdep KK hKK
      obtain ⟨f, rfl, hB, HF, HX15, HX18⟩ := HI
      simp [Region.binds] at hdep
      have E41 : f 41 = .bool true := HF.out 41 rfl (by simp [hdep])
      simp only [E41, Act.put, List.toList_toArray, List.take_succ_cons, List.take_zero, List.drop_succ_cons, List.drop_zero, List.cons_append, List.nil_append, List.setIfInBounds_toArray, List.set_cons_zero, List.set_cons_succ]
      go_simp
      exact hKK _ _ ⟨fun zz => cond (Nat.beq zz 42) (.bool t) (cond (Nat.beq zz 41) (.bool true) (f zz)), rfl, hB, Lib.hid (upd_factP (i := 42) (v := .bool t) (cond_factP (j := 41) (v := .bool true) HF.out rfl) rfl), Lib.hid (fun h => (HX15.out h)), Lib.hid (fun h => (HX18.out h))⟩
    · intro D aa wx HI hD hdep KK hKK
      obtain ⟨f, rfl, hB, HF, HX15, HX18⟩ := HI
      simp [Region.binds] at hdep
      have E41 : f 41 = .bool true := HF.out 41 rfl (by simp [hdep])
      simp only [E41, Act.put, List.toList_toArray, List.take_succ_cons, List.take_zero, List.drop_succ_cons, List.drop_zero, List.cons_append, List.nil_append, List.setIfInBounds_toArray, List.set_cons_zero, List.set_cons_succ]
      go_simp
      exact hKK _ _ ⟨fun zz => cond (Nat.beq zz 43) (.bool t) (cond (Nat.beq zz 41) (.bool true) (f zz)), rfl, hB, Lib.hid (upd_factP (i := 43) (v := .bool t) (cond_factP (j := 41) (v := .bool true) HF.out rfl) rfl), Lib.hid (fun h => (HX15.out h)), Lib.hid (fun h => (HX18.out h))⟩
    · intro D aa wx HI hD hdep KK hKK
      obtain ⟨f, rfl, hB, HF, HX15, HX18⟩ := HI
      simp [Region.binds] at hdep
      have E41 : f 41 = .bool true := HF.out 41 rfl (by simp [hdep])
      have E42 : f 42 = .bool t := HF.out 42 rfl (by simp [hdep])
      have E43 : f 43 = .bool t := HF.out 43 rfl (by simp [hdep])
      simp only [E41, E42, E43, Act.put, List.toList_toArray, List.take_succ_cons, List.take_zero, List.drop_succ_cons, List.drop_zero, List.cons_append, List.nil_append, List.setIfInBounds_toArray, List.set_cons_zero, List.set_cons_succ]
      go_simp
      exact hKK _ _ ⟨fun zz => cond (Nat.beq zz 44) (.bool true) (cond (Nat.beq zz 43) (.bool t) (cond (Nat.beq zz 42) (.bool t) (cond (Nat.beq zz 41) (.bool true) (f zz)))), rfl, hB, Lib.hid (upd_factP (i := 44) (v := .bool true) (cond_factP (j := 43) (v := .bool t) (cond_factP (j := 42) (v := .bool t) (cond_factP (j := 41) (v := .bool true) HF.out rfl) rfl) rfl) rfl), Lib.hid (fun h => (HX15.out h)), Lib.hid (fun h => (HX18.out h))⟩
    · intro D aa wx HI hD hdep KK hKK
      obtain ⟨f, rfl, hB, HF, HX15, HX18⟩ := HI
      simp [Region.binds] at hdep
      have E41 : f 41 = .bool true := HF.out 41 rfl (by simp [hdep])
      have E44 : f 44 = .bool true := HF.out 44 rfl (by simp [hdep])
      simp only [E41, E44, Act.put, List.toList_toArray, List.take_succ_cons, List.take_zero, List.drop_succ_cons, List.drop_zero, List.cons_append, List.nil_append, List.setIfInBounds_toArray, List.set_cons_zero, List.set_cons_succ]
      go_simp
      exact hKK _ _ ⟨fun zz => cond (Nat.beq zz 45) (.bool true) (cond (Nat.beq zz 44) (.bool true) (cond (Nat.beq zz 41) (.bool true) (f zz))), rfl, hB, Lib.hid (upd_factP (i := 45) (v := .bool true) (cond_factP (j := 44) (v := .bool true) (cond_factP (j := 41) (v := .bool true) HF.out rfl) rfl) rfl), Lib.hid (fun h => (HX15.out h)), Lib.hid (fun h => (HX18.out h))⟩
    · intro D aa wx HI hD hdep KK hKK
      obtain ⟨f, rfl, hB, HF, HX15, HX18⟩ := HI
      simp [Region.binds] at hdep
      have E45 : f 45 = .bool true := HF.out 45 rfl (by simp [hdep])
      simp only [E45, Act.put, List.toList_toArray, List.take_succ_cons, List.take_zero, List.drop_succ_cons, List.drop_zero, List.cons_append, List.nil_append, List.setIfInBounds_toArray, List.set_cons_zero, List.set_cons_succ]
      go_simp
      exact hKK _ _ ⟨fun zz => cond (Nat.beq zz 46) (.bool true) (cond (Nat.beq zz 45) (.bool true) (f zz)), rfl, hB, Lib.hid (upd_factP (i := 46) (v := .bool true) (cond_factP (j := 45) (v := .bool true) HF.out rfl) rfl), Lib.hid (fun h => (HX15.out h)), Lib.hid (fun h => (HX18.out h))⟩
  intro D aa w16 HI hD
  obtain ⟨f, rfl, hb, HF, HX15, HX18⟩ := HI
  have e469 : f 46 = .bool true := HF.out 46 rfl (hD 46 (by simp))
  simp only [e469, Act.put, List.toList_toArray, List.take_succ_cons, List.take_zero, List.drop_succ_cons, List.drop_zero, List.cons_append, List.nil_append]
  clear HF hD HX15 HX18
  replace BB := below_to BB hb
  clear hb
  go_wp2_with fail
  go_ret
  exact ⟨rfl, BB⟩
end
end Go.Proofs.Ytnjpijihjifkfaa
