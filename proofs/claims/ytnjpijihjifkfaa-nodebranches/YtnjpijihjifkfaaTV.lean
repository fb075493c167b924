/- NodeBranches: the walk of the whole statement, at every node, key and page. -/
import Derived.Test.YtnjpijihjifkfaaTU
import Derived.Test.YtnjpijihjifkfaaTS
namespace Go.Proofs.Ytnjpijihjifkfaa
open Go.RowKit
set_option linter.unusedVariables false
set_option linter.unusedSimpArgs false
theorem noDI {D : Nat → Bool} {S : Nat} (h : D S = false) {p : Prop} : D S = true → p := fun e => by rw [h] at e; cases e
theorem dSI {D : Nat → Bool} {S i : Nat} (H : D S = true → ∀ j, j < S → D j = true) (hi : i < S) (h : D i = false) : D S = false := by
  cases e : D S with
  | false => rfl
  | true => have := H e i hi; rw [h] at this; cases this
theorem step_append_run {P : Program} {w : World} {ops : Array Oper} {o : Oper} {a : Act} {K : Act → World → Prop} {Q : Exit → Act → World → Prop} {E : Prop} (hgd : o.guard = none) (s x : Operand) (t : TypeId)
    (ho : o.op = .call { callee := .builtin .append, args := #[s, x], argTypes := #[t, t] }) (v xv : Value) (hs : a.eval s = v) (hx : a.eval x = xv) (R : Value → World → Prop)
    (hrun : ∃ v' w', (Builtin.append_ #[t, t] o.type #[v, xv]).run P w = .ok v' w' ∧ R v' w') (h : ∀ v' w', R v' w' → K (a.put o.dst v') w') :
    if Region.wanted o (yielded ops a.tmps) = true then Oper.wp P o a w K Q else E := by
  have hw : Region.wanted o (yielded ops a.tmps) = true := by simp [Region.wanted, hgd]
  rw [if_pos hw]
  obtain ⟨v', w', hr, hR⟩ := hrun
  unfold Oper.wp execOp
  simp only [ho, resolve, invoke, builtin, Sem.run_bind, Sem.run_pure, Result.andThen_ok, List.map_toArray, List.map_cons, List.map_nil, hs, hx, hr]
  exact h v' w' hR
/-- A slice of one item, of one number, that a call builds. -/
def ItemB (w : World) (key : ByteArray) (x : Value) : Prop := ∃ B, x = .slice (some ⟨B, 0, none⟩) 1 1 ∧ Its w (some ⟨B, 0, none⟩) 1 [(key, ByteArray.empty)]
def KidB (w : World) (z : Int) (x : Value) : Prop := ∃ B, x = .slice (some ⟨B, 0, none⟩) 1 1 ∧ Kds w (some ⟨B, 0, none⟩) 1 [z]
theorem ItemB.below {w w1 : World} {key : ByteArray} {x : Value} (h : ItemB w key x) (hb : Below w.heap.size w w1) : ItemB w1 key x := by obtain ⟨B, e, h1⟩ := h; exact ⟨B, e, h1.below hb⟩
theorem KidB.below {w w1 : World} {z : Int} {x : Value} (h : KidB w z x) (hb : Below w.heap.size w w1) : KidB w1 z x := by obtain ⟨B, e, h1⟩ := h; exact ⟨B, e, h1.below hb⟩
theorem itemB_new (w : World) (key : ByteArray) (T : TypeId) : ItemB (w.alloc (.cells #[.string key, .string ByteArray.empty] T)) key (.slice (some ⟨w.heap.size, 0, none⟩) 1 1) :=
  ⟨_, rfl, rfl, .inr ⟨_, 0, rfl, by simp, fun j hj => by
    obtain rfl : j = 0 := by omega
    exact ⟨by simp [go_sem, kq], by simp [go_sem, vq]; try rfl⟩⟩⟩
theorem kidB_new (w : World) (z : Int) (T : TypeId) : KidB (w.alloc (.cells #[.int .i64 z] T)) z (.slice (some ⟨w.heap.size, 0, none⟩) 1 1) :=
  ⟨_, rfl, rfl, .inr ⟨_, 0, rfl, by simp, fun j hj => by
    obtain rfl : j = 0 := by omega
    simp [go_sem]⟩⟩
theorem below_none {w w1 : World} (h : w.grownBy w1 none) : Below w.heap.size w w1 := (Below.refl w.heap.size w).grown h (Nat.le_refl _) (fun j hj => by cases hj)
theorem Its.own {w w1 : World} {a : Option Addr} {n b : Nat} {I : List It} (h : Its w a n I) (hb : Below w.heap.size w w1) : Its w1 a n I := h.below hb
def Inv11 (W1 : World) (g : Nat) (HH : Nat) (a : Option Addr) (n : Nat) (c : Nat) (i : Nat) (key : ByteArray) (ca : Option Addr) (rn : Nat) (rc : Nat) (NP1 : Nat) (AA : List It) (PP : List It) (a0 : Act) (D : Nat → Bool) (act : Act) (w : World) : Prop :=
  ∃ x67 x68 x69 x70 x71 x72 x73 x74 x75 x76 x77 x78 x79 x80 x81 x82 x83, act = ⟨(a0.tmps.toList.take 67 ++ x67 :: x68 :: x69 :: x70 :: x71 :: x72 :: x73 :: x74 :: x75 :: x76 :: x77 :: x78 :: x79 :: x80 :: x81 :: x82 :: x83 :: a0.tmps.toList.drop 84).toArray, []⟩ ∧ (D 17 = true → ∀ j, j < 17 → D j = true) ∧ (D 17 = false → Below W1.heap.size W1 w ∧ Hid ((D 0 = true → x67 = .pointer (some ⟨g, 0, none⟩)) ∧ (D 1 = true → x68 = .slice none 0 0) ∧ (D 2 = true → x69 = .pointer (some ⟨HH, 0, none⟩)) ∧ (D 3 = true → x70 = .slice a n c) ∧ (D 4 = true → x71 = .int .i64 (i : Int)) ∧ (D 5 = true → x72 = .slice a i c) ∧ (D 6 = true → D 10 = false → w.ownsRow W1.heap.size 44 2 x73 (i) (flatI AA)) ∧ (D 7 = true → x74 = .string key) ∧ (D 8 = true → x75 = .agg #[.string key, .string ByteArray.empty]) ∧ (D 9 = true → D 10 = false → ItemB w key x76) ∧ (D 10 = true → (D 6 = true ∧ (D 15 = false → w.ownsRow W1.heap.size 44 2 x77 (i + 1) (flatI AA ++ flatI [(key, ByteArray.empty)])))) ∧ (D 11 = true → x78 = .pointer (some ⟨HH, 0, none⟩)) ∧ (D 12 = true → x79 = .slice a n c) ∧ (D 13 = true → x80 = .int .i64 (i : Int)) ∧ (D 14 = true → x81 = .slice ca rn rc) ∧ (D 15 = true → (D 10 = true ∧ w.ownsRow W1.heap.size 44 2 x82 (NP1) (flatI PP))) ∧ (D 16 = true → x83 = .pointer (some ⟨g, 0, none⟩)))) ∧ (D 17 = true → ∃ wx v, w = wx.setCell ⟨g, 0, none⟩ v ∧ Below W1.heap.size W1 wx ∧ wx.ownsRow W1.heap.size 44 2 v (NP1) (flatI PP))
def Inv12k (W1 : World) (g : Nat) (HH : Nat) (ka : Option Addr) (kn : Nat) (kc : Nat) (i : Nat) (y : Nat) (z : Int) (cb : Option Addr) (sn : Nat) (sc : Nat) (NP1 : Nat) (AA : List Int) (PP : List Int) (a0 : Act) (D : Nat → Bool) (act : Act) (w : World) : Prop :=
  ∃ x84 x85 x86 x87 x88 x89 x90 x91 x92 x93 x94 x95 x96 x97 x98 x99 x100 x101, act = ⟨(a0.tmps.toList.take 84 ++ x84 :: x85 :: x86 :: x87 :: x88 :: x89 :: x90 :: x91 :: x92 :: x93 :: x94 :: x95 :: x96 :: x97 :: x98 :: x99 :: x100 :: x101 :: a0.tmps.toList.drop 102).toArray, []⟩ ∧ (D 18 = true → ∀ j, j < 18 → D j = true) ∧ (D 18 = false → Below W1.heap.size W1 w ∧ Hid ((D 0 = true → x84 = .pointer (some ⟨g, 1, none⟩)) ∧ (D 1 = true → x85 = .slice none 0 0) ∧ (D 2 = true → x86 = .pointer (some ⟨HH, 1, none⟩)) ∧ (D 3 = true → x87 = .slice ka kn kc) ∧ (D 4 = true → x88 = .int .i64 (i : Int)) ∧ (D 5 = true → x89 = .int .i64 (y : Int)) ∧ (D 6 = true → x90 = .slice ka y kc) ∧ (D 7 = true → D 10 = false → w.ownsRow W1.heap.size 3 1 x91 (y) (kidV AA)) ∧ (D 8 = true → x92 = .int .i64 z) ∧ (D 9 = true → D 10 = false → KidB w z x93) ∧ (D 10 = true → (D 7 = true ∧ (D 16 = false → w.ownsRow W1.heap.size 3 1 x94 (y + 1) (kidV AA ++ kidV [z])))) ∧ (D 11 = true → x95 = .pointer (some ⟨HH, 1, none⟩)) ∧ (D 12 = true → x96 = .slice ka kn kc) ∧ (D 13 = true → x97 = .int .i64 (i : Int)) ∧ (D 14 = true → x98 = .int .i64 (y : Int)) ∧ (D 15 = true → x99 = .slice cb sn sc) ∧ (D 16 = true → (D 10 = true ∧ w.ownsRow W1.heap.size 3 1 x100 (NP1) (kidV PP))) ∧ (D 17 = true → x101 = .pointer (some ⟨g, 1, none⟩)))) ∧ (D 18 = true → ∃ wx v, w = wx.setCell ⟨g, 1, none⟩ v ∧ Below W1.heap.size W1 wx ∧ wx.ownsRow W1.heap.size 3 1 v (NP1) (kidV PP))
def Inv18 (W1 : World) (g1 : Nat) (g2 : Nat) (rb : Option Addr) (ym : Nat) (rb2 : Nat) (sb : Option Addr) (vn : Nat) (sb2 : Nat) (kp : Nat) (KA : List Int) (KQ : List Int) (a0 : Act) (D : Nat → Bool) (act : Act) (w : World) : Prop :=
  ∃ x156 x157 x158 x159 x160 x161 x162 x163 x164, act = ⟨(a0.tmps.toList.take 156 ++ x156 :: x157 :: x158 :: x159 :: x160 :: x161 :: x162 :: x163 :: x164 :: a0.tmps.toList.drop 165).toArray, []⟩ ∧ Below W1.heap.size W1 w ∧ Hid ((D 0 = true → D 3 = false → w.ownsRow W1.heap.size 3 1 x156 0 []) ∧ (D 1 = true → x157 = .pointer (some ⟨g1, 1, none⟩)) ∧ (D 2 = true → x158 = .slice rb ym rb2) ∧ (D 3 = true → (D 0 = true ∧ (D 6 = false → w.ownsRow W1.heap.size 3 1 x159 ym (kidV KA)))) ∧ (D 4 = true → x160 = .pointer (some ⟨g2, 1, none⟩)) ∧ (D 5 = true → x161 = .slice sb vn sb2) ∧ (D 6 = true → (D 3 = true ∧ w.ownsRow W1.heap.size 3 1 x162 kp (kidV KQ))) ∧ (D 7 = true → x163 = .int .i64 (kp : Int)) ∧ (D 8 = true → x164 = .int .i64 0))
section
variable {w : World} {a : Option Addr} {n c : Nat} {ka : Option Addr} {kn kc : Nat} {I : List It} {K : List Int}
set_option maxRecDepth 100000 in
set_option maxHeartbeats 20000000 in
theorem nodeBranches_walk (hI : Its w a n I) (hK : Kds w ka kn K) (hnc : n ≤ c) (hkc : kn ≤ kc) (hn : n ≤ 9223372036854775807) (hkn : kn ≤ 9223372036854775807) (hl : ∀ k, k < n → (kq I k).size ≤ 9223372036854775807 ∧ (vq I k).size ≤ 9223372036854775807)
    (key : ByteArray) (hkey : key.size ≤ 9223372036854775807) (z : Int) (hz : -9223372036854775808 ≤ z ∧ z ≤ 9223372036854775807) :
    Calls Try.prog 6 #[.agg #[.slice a n c, .slice ka kn kc], .string key, .int .i64 z] w fun e w' => e = .returned (.bool true) ∧ Below w.heap.size w w' := by
  have A2 := NodeAt.new (c := c) (kc := kc) hI hK 25
  have BB := new_below w (.cells #[.slice a n c, .slice ka kn kc] 25)
  obtain ⟨sm, hsm⟩ : ∃ b, smallF I K = b := ⟨_, rfl⟩
  have K1 := Lib.hid (fun (w : World) (a c ka kc) (h1 : Its w a n I) (h2 : Kds w ka kn K) => by
    have := small_any (c := c) (kc := kc) h1 h2 hn hkn hl
    rw [hsm] at this; exact this)
  have K2 := Lib.hid (fun w => ours_any a n c ka kn kc w)
  have K0 := Lib.hid (fun w => lives_any w)
  have hn0 := hI.1
  have hk0 := hK.1
  clear hI hK hl
  go_enter Try.func6, Try.ntmps6
  go_wp2_with fail
  generalize w.alloc (.cells #[.slice a n c, .slice ka kn kc] 25) = w1 at A2 BB ⊢
  refine (K0.out _).mono ?_
  rintro e w2 ⟨rfl, hb⟩
  replace A2 := A2.below hb
  replace BB := below_to BB hb
  clear hb K0
  have c0 := A2.nd.c0
  have c1 := A2.nd.c1
  go_wp2_with fail
  refine (K1.out _ _ _ _ _ A2.its A2.kds).mono ?_
  rintro e w3 ⟨rfl, hb⟩
  replace A2 := A2.below hb
  replace BB := below_to BB hb
  clear hb c0 c1 K1
  cases sm with
  | false =>
    go_wp2_with fail
    go_ret
    exact ⟨rfl, BB⟩
  | true =>
  obtain ⟨hS, hI2, hK2⟩ := small_partsB hsm
  rw [hn0] at hI2
  rw [hk0] at hK2
  have c0 := A2.nd.c0
  have c1 := A2.nd.c1
  by_cases hkz : kn = 0
  case pos =>
    subst hkz
    go_wp2_with fail
    go_ret
    exact ⟨rfl, BB⟩
  have hkzI : decide ((kn : Int) = 0) = false := decide_eq_false (by omega)
  go_wp2_with fail
  refine (K2.out _).mono ?_
  rintro e w4 ⟨rfl, hb⟩
  replace A2 := A2.below hb
  replace BB := below_to BB hb
  clear hb c0 c1
  by_cases hR : RightP I K
  case neg =>
    have K3 := Lib.hid (fun (w : World) (a c ka kc) (h1 : Its w a n I) (h2 : Kds w ka kn K) => check_any (c := c) (kc := kc) h1 h2 (by omega) (by omega) hS 18 (chk_notB hR))
    go_wp2_with fail
    refine (K3.out _ _ _ _ _ A2.its A2.kds).mono ?_
    rintro e w5 ⟨rfl, hb⟩
    replace BB := below_to BB hb
    clear hb
    go_wp2_with fail
    go_ret
    exact ⟨rfl, BB⟩
  have K3 := Lib.hid (fun (w : World) (a c ka kc) (h1 : Its w a n I) (h2 : Kds w ka kn K) => check_any (c := c) (kc := kc) h1 h2 (by omega) (by omega) hS 0 (chk_yesB hR))
  obtain ⟨g1, g2, g3, g4, g5⟩ := branch_parts hR (by rw [hk0]; omega)
  have hkb : (kn == 0) = false := by rw [beq_eq_false_iff_ne]; exact hkz
  obtain ⟨i, is, hf⟩ : ∃ i is, findN false I key = (i, is) := ⟨_, _, rfl⟩
  have KF := Lib.hid (fun (w : World) (h1 : Its w a n I) => find_any (c := c) (ka := ka) (kn := kn) (kc := kc) key h1 (by omega) g3 false hkb i is hf)
  have hin : i ≤ n := by
    have := (posN_pos I key g3).1
    have h2 := congrArg Prod.fst hf
    unfold findN at h2; simp at h2; omega
  go_wp2_with fail
  refine (K3.out _ _ _ _ _ A2.its A2.kds).mono ?_
  rintro e w5 ⟨rfl, hb⟩
  replace A2 := A2.below hb
  replace BB := below_to BB hb
  clear hb K3
  have c0 := A2.nd.c0
  have c1 := A2.nd.c1
  go_wp2_with fail
  refine (K2.out _).mono ?_
  rintro e w6 ⟨rfl, hb⟩
  replace A2 := A2.below hb
  replace BB := below_to BB hb
  clear hb c0 c1 K2
  go_wp2_with fail
  refine (KF.out _ A2.its).mono ?_
  rintro e w7 ⟨rfl, hb⟩
  replace A2 := A2.below hb
  replace BB := below_to BB hb
  clear hb KF
  cases is with
  | true =>
    go_wp2_with fail
    go_ret
    exact ⟨rfl, BB⟩
  | false =>
  by_cases hk1 : key.size = 0
  case pos =>
    have hke : key = ByteArray.empty := by
      apply ByteArray.ext
      exact Array.eq_empty_of_size_eq_zero hk1
    subst hke
    go_wp2_with fail
    go_ret
    exact ⟨rfl, BB⟩
  have hke2 : (key.toList == ([] : List UInt8)) = false := by
    rw [ByteArray.toList_eq, beq_eq_false_iff_ne]; intro e
    apply hk1; show key.data.size = 0
    rw [← Array.length_toList, e]; rfl
  by_cases hk2 : key.size ≤ 64
  case neg =>
    have hd : decide ((64 : Int) < (key.size : Int)) = true := decide_eq_true (by omega)
    go_wp2_with fail
    go_ret
    exact ⟨rfl, BB⟩
  have hd1 : decide ((64 : Int) < (key.size : Int)) = false := decide_eq_false (by omega)
  by_cases hz1 : z < 2
  case pos =>
    have hd : decide (z < 2) = true := decide_eq_true hz1
    go_wp2_with fail
    go_ret
    exact ⟨rfl, BB⟩
  have hd2 : decide (z < 2) = false := decide_eq_false hz1
  by_cases hz2 : 3840 ≤ z
  case pos =>
    have hd : decide (3840 ≤ z) = true := decide_eq_true hz2
    go_wp2_with fail
    go_ret
    exact ⟨rfl, BB⟩
  have hd3 : decide (3840 ≤ z) = false := decide_eq_false hz2
  have hd4 : decide ((i : Int) < 0) = false := decide_eq_false (by omega)
  have hd5 : decide ((n : Int) < (i : Int)) = false := decide_eq_false (by omega)
  have hd5n : decide (n < i) = false := decide_eq_false (by omega)
  have c0 := A2.nd.c0
  have c1 := A2.nd.c1
  go_upto_region 11 with (fail)
  have hi2 : i ≤ 200 := by omega
  obtain ⟨rn, hrn⟩ : ∃ r, n - i = r := ⟨_, rfl⟩
  obtain ⟨rc, hrc⟩ : ∃ r, c - i = r := ⟨_, rfl⟩
  obtain ⟨ca, hca⟩ : ∃ r, cutA 2 a c i = r := ⟨_, rfl⟩
  obtain ⟨np, hnp⟩ : ∃ r, n + 1 = r := ⟨_, rfl⟩
  obtain ⟨kp, hkp⟩ : ∃ r, kn + 1 = r := ⟨_, rfl⟩
  obtain ⟨y, hy⟩ : ∃ r, i + 1 = r := ⟨_, rfl⟩
  obtain ⟨P, hP⟩ : ∃ P, I.take i ++ [(key, ByteArray.empty)] ++ I.drop i = P := ⟨_, rfl⟩
  obtain ⟨KQ, hKQ⟩ : ∃ P, K.take y ++ [z] ++ K.drop y = P := ⟨_, rfl⟩
  have hcut := Lib.hid (fun (w : World) (h : Its w a n I) => by
    have h2 := h.cut hin hnc
    rw [hca, hrn] at h2; exact h2)
  have q1 := fun w => run_lo22 a n c i hin w
  rw [hca, hrn, hrc] at q1
  have hic : i ≤ c := by omega
  have hsum : i + 1 + rn = np := by omega
  have hflat : flatI (I.take i) ++ flatI [(key, ByteArray.empty)] ++ flatI (I.drop i) = flatI P := by rw [← flatI_app, ← flatI_app, hP]
  have A27 := Lib.hid A2
  have BB7 := Lib.hid BB
  have hg7 : w.heap.size < w7.heap.size := A2.nd.lt
  have B9 := Nb.fresh w7 (.slice none 0 0) (.slice none 0 0) 31
  have H7 := new_below w7 (.cells #[.slice none 0 0, .slice none 0 0] 31)
  replace A2 := A2.below H7
  have hgs : w7.heap.size < (w7.alloc (.cells #[.slice none 0 0, .slice none 0 0] 31)).heap.size := B9.lt
  clear c0 c1 BB
  generalize w7.alloc (.cells #[.slice none 0 0, .slice none 0 0] 31) = w8 at A2 H7 B9 hgs ⊢
  obtain ⟨g, hg⟩ : ∃ g, w7.heap.size = g := ⟨_, rfl⟩
  rw [hg] at B9 hgs hg7 ⊢
  refine wp_region_inv0 (Inv11 w8 g w.heap.size a n c i key ca rn rc np (I.take i) P) (by kernel_rfl) (by decide) ?_ ?_ ?_
  · exact ⟨undef, undef, undef, undef, undef, undef, undef, undef, undef, undef, undef, undef, undef, undef, undef, undef, undef, rfl, (by intro h; cases h), fun _ => ⟨(Below.refl _ _).drew, Lib.hid ⟨(by intro h; cases h), (by intro h; cases h), (by intro h; cases h), (by intro h; cases h), (by intro h; cases h), (by intro h; cases h), (by intro h; cases h), (by intro h; cases h), (by intro h; cases h), (by intro h; cases h), (by intro h; cases h), (by intro h; cases h), (by intro h; cases h), (by intro h; cases h), (by intro h; cases h), (by intro h; cases h), (by intro h; cases h)⟩⟩, (by intro h; cases h)⟩
  · refine AllI.cons ?_ (AllI.cons ?_ (AllI.cons ?_ (AllI.cons ?_ (AllI.cons ?_ (AllI.cons ?_ (AllI.cons ?_ (AllI.cons ?_ (AllI.cons ?_ (AllI.cons ?_ (AllI.cons ?_ (AllI.cons ?_ (AllI.cons ?_ (AllI.cons ?_ (AllI.cons ?_ (AllI.cons ?_ (AllI.cons ?_ (AllI.cons ?_ AllI.nil)))))))))))))))))
    · rintro D aa wx ⟨x67, x68, x69, x70, x71, x72, x73, x74, x75, x76, x77, x78, x79, x80, x81, x82, x83, rfl, hall, hpre, hfin⟩ hD hdep KK hKK
      have hd := dSI (S := 17) (i := 0) hall (by omega) hD
      obtain ⟨hB, HF⟩ := hpre hd
      simp only [Act.put, List.toList_toArray, List.take_succ_cons, List.take_zero, List.drop_succ_cons, List.drop_zero, List.cons_append, List.nil_append, List.setIfInBounds_toArray, List.set_cons_zero, List.set_cons_succ]
      go_simp
      exact hKK _ _ ⟨_, _, _, _, _, _, _, _, _, _, _, _, _, _, _, _, _, rfl, noDI (D := D) (S := 17) hd, fun _ => ⟨hB, Lib.hid (by obtain ⟨f0, f1, f2, f3, f4, f5, f6, f7, f8, f9, f10, f11, f12, f13, f14, f15, f16⟩ := HF.out; exact ⟨fun _ => rfl, f1, f2, f3, f4, f5, f6, f7, f8, f9, f10, f11, f12, f13, f14, f15, f16⟩)⟩, noDI (D := D) (S := 17) hd⟩
    · rintro D aa wx ⟨x67, x68, x69, x70, x71, x72, x73, x74, x75, x76, x77, x78, x79, x80, x81, x82, x83, rfl, hall, hpre, hfin⟩ hD hdep KK hKK
      have hd := dSI (S := 17) (i := 1) hall (by omega) hD
      obtain ⟨hB, HF⟩ := hpre hd
      simp [Region.binds] at hdep
      have h0 : D 0 = true := by simp [hdep]
      have HE := Lib.hid (show x67 = .pointer (some ⟨g, 0, none⟩) by obtain ⟨f0, f1, f2, f3, f4, f5, f6, f7, f8, f9, f10, f11, f12, f13, f14, f15, f16⟩ := HF.out; exact f0 h0)
      obtain rfl := HE.out
      clear HE
      have c0 := (B9.below hB).c0
      simp only [Act.put, List.toList_toArray, List.take_succ_cons, List.take_zero, List.drop_succ_cons, List.drop_zero, List.cons_append, List.nil_append, List.setIfInBounds_toArray, List.set_cons_zero, List.set_cons_succ]
      go_simp
      exact hKK _ _ ⟨_, _, _, _, _, _, _, _, _, _, _, _, _, _, _, _, _, rfl, noDI (D := D) (S := 17) hd, fun _ => ⟨hB, Lib.hid (by obtain ⟨f0, f1, f2, f3, f4, f5, f6, f7, f8, f9, f10, f11, f12, f13, f14, f15, f16⟩ := HF.out; exact ⟨fun _ => rfl, fun _ => rfl, f2, f3, f4, f5, f6, f7, f8, f9, f10, f11, f12, f13, f14, f15, f16⟩)⟩, noDI (D := D) (S := 17) hd⟩
    · rintro D aa wx ⟨x67, x68, x69, x70, x71, x72, x73, x74, x75, x76, x77, x78, x79, x80, x81, x82, x83, rfl, hall, hpre, hfin⟩ hD hdep KK hKK
      have hd := dSI (S := 17) (i := 2) hall (by omega) hD
      obtain ⟨hB, HF⟩ := hpre hd
      simp only [Act.put, List.toList_toArray, List.take_succ_cons, List.take_zero, List.drop_succ_cons, List.drop_zero, List.cons_append, List.nil_append, List.setIfInBounds_toArray, List.set_cons_zero, List.set_cons_succ]
      go_simp
      exact hKK _ _ ⟨_, _, _, _, _, _, _, _, _, _, _, _, _, _, _, _, _, rfl, noDI (D := D) (S := 17) hd, fun _ => ⟨hB, Lib.hid (by obtain ⟨f0, f1, f2, f3, f4, f5, f6, f7, f8, f9, f10, f11, f12, f13, f14, f15, f16⟩ := HF.out; exact ⟨f0, f1, fun _ => rfl, f3, f4, f5, f6, f7, f8, f9, f10, f11, f12, f13, f14, f15, f16⟩)⟩, noDI (D := D) (S := 17) hd⟩
    · rintro D aa wx ⟨x67, x68, x69, x70, x71, x72, x73, x74, x75, x76, x77, x78, x79, x80, x81, x82, x83, rfl, hall, hpre, hfin⟩ hD hdep KK hKK
      have hd := dSI (S := 17) (i := 3) hall (by omega) hD
      obtain ⟨hB, HF⟩ := hpre hd
      simp [Region.binds] at hdep
      have h2 : D 2 = true := by simp [hdep]
      have HE := Lib.hid (show x69 = .pointer (some ⟨w.heap.size, 0, none⟩) by obtain ⟨f0, f1, f2, f3, f4, f5, f6, f7, f8, f9, f10, f11, f12, f13, f14, f15, f16⟩ := HF.out; exact f2 h2)
      obtain rfl := HE.out
      clear HE
      have c0 := (A2.nd.below hB).c0
      simp only [Act.put, List.toList_toArray, List.take_succ_cons, List.take_zero, List.drop_succ_cons, List.drop_zero, List.cons_append, List.nil_append, List.setIfInBounds_toArray, List.set_cons_zero, List.set_cons_succ]
      go_simp
      exact hKK _ _ ⟨_, _, _, _, _, _, _, _, _, _, _, _, _, _, _, _, _, rfl, noDI (D := D) (S := 17) hd, fun _ => ⟨hB, Lib.hid (by obtain ⟨f0, f1, f2, f3, f4, f5, f6, f7, f8, f9, f10, f11, f12, f13, f14, f15, f16⟩ := HF.out; exact ⟨f0, f1, fun _ => rfl, fun _ => rfl, f4, f5, f6, f7, f8, f9, f10, f11, f12, f13, f14, f15, f16⟩)⟩, noDI (D := D) (S := 17) hd⟩
    · rintro D aa wx ⟨x67, x68, x69, x70, x71, x72, x73, x74, x75, x76, x77, x78, x79, x80, x81, x82, x83, rfl, hall, hpre, hfin⟩ hD hdep KK hKK
      have hd := dSI (S := 17) (i := 4) hall (by omega) hD
      obtain ⟨hB, HF⟩ := hpre hd
      simp only [Act.put, List.toList_toArray, List.take_succ_cons, List.take_zero, List.drop_succ_cons, List.drop_zero, List.cons_append, List.nil_append, List.setIfInBounds_toArray, List.set_cons_zero, List.set_cons_succ]
      go_simp
      exact hKK _ _ ⟨_, _, _, _, _, _, _, _, _, _, _, _, _, _, _, _, _, rfl, noDI (D := D) (S := 17) hd, fun _ => ⟨hB, Lib.hid (by obtain ⟨f0, f1, f2, f3, f4, f5, f6, f7, f8, f9, f10, f11, f12, f13, f14, f15, f16⟩ := HF.out; exact ⟨f0, f1, f2, f3, fun _ => rfl, f5, f6, f7, f8, f9, f10, f11, f12, f13, f14, f15, f16⟩)⟩, noDI (D := D) (S := 17) hd⟩
    · rintro D aa wx ⟨x67, x68, x69, x70, x71, x72, x73, x74, x75, x76, x77, x78, x79, x80, x81, x82, x83, rfl, hall, hpre, hfin⟩ hD hdep KK hKK
      have hd := dSI (S := 17) (i := 5) hall (by omega) hD
      obtain ⟨hB, HF⟩ := hpre hd
      simp [Region.binds] at hdep
      have h3 : D 3 = true := by simp [hdep]
      have h4 : D 4 = true := by simp [hdep]
      have HE := Lib.hid (show x70 = .slice a n c ∧ x71 = .int .i64 (i : Int) by obtain ⟨f0, f1, f2, f3, f4, f5, f6, f7, f8, f9, f10, f11, f12, f13, f14, f15, f16⟩ := HF.out; exact ⟨f3 h3, f4 h4⟩)
      obtain ⟨rfl, rfl⟩ := HE.out
      clear HE
      simp only [Act.put, List.toList_toArray, List.take_succ_cons, List.take_zero, List.drop_succ_cons, List.drop_zero, List.cons_append, List.nil_append, List.setIfInBounds_toArray, List.set_cons_zero, List.set_cons_succ]
      go_simp
      exact hKK _ _ ⟨_, _, _, _, _, _, _, _, _, _, _, _, _, _, _, _, _, rfl, noDI (D := D) (S := 17) hd, fun _ => ⟨hB, Lib.hid (by obtain ⟨f0, f1, f2, f3, f4, f5, f6, f7, f8, f9, f10, f11, f12, f13, f14, f15, f16⟩ := HF.out; exact ⟨f0, f1, f2, fun _ => rfl, fun _ => rfl, fun _ => rfl, f6, f7, f8, f9, f10, f11, f12, f13, f14, f15, f16⟩)⟩, noDI (D := D) (S := 17) hd⟩
    · rintro D aa wx ⟨x67, x68, x69, x70, x71, x72, x73, x74, x75, x76, x77, x78, x79, x80, x81, x82, x83, rfl, hall, hpre, hfin⟩ hD hdep KK hKK
      have hd := dSI (S := 17) (i := 6) hall (by omega) hD
      obtain ⟨hB, HF⟩ := hpre hd
      simp [Region.binds] at hdep
      have h1 : D 1 = true := by simp [hdep]
      have h5 : D 5 = true := by simp [hdep]
      have HE := Lib.hid (show x68 = .slice none 0 0 ∧ x72 = .slice a i c by obtain ⟨f0, f1, f2, f3, f4, f5, f6, f7, f8, f9, f10, f11, f12, f13, f14, f15, f16⟩ := HF.out; exact ⟨f1 h1, f5 h5⟩)
      obtain ⟨rfl, rfl⟩ := HE.out
      clear HE
      refine step_append_run (by rfl) (.tmp 68) (.tmp 72) 22 (by rfl) (.slice none 0 0) (.slice a i c) (by rfl) (by rfl) (fun v' w' => w'.ownsRow w8.heap.size 44 2 v' (i) (flatI (I.take i)) ∧ wx.grownBy w' (Value.ownBlock (.slice none 0 0))) ?_ ?_
      · obtain ⟨v', w', hr, q1, q2⟩ := appI_any wx w8.heap.size (.slice none 0 0) 0 [] a i c (I.take i) (World.ownsRow_nil wx w8.heap.size 44 2) ((A2.its.below hB).take hin) hB.size (by omega)
        exact ⟨v', w', hr, by simpa using q1, q2⟩
      rintro v' w' ⟨hown, hgr⟩
      have hb := below_none hgr
      simp only [Act.put, List.toList_toArray, List.take_succ_cons, List.take_zero, List.drop_succ_cons, List.drop_zero, List.cons_append, List.nil_append, List.setIfInBounds_toArray, List.set_cons_zero, List.set_cons_succ]
      exact hKK _ _ ⟨_, _, _, _, _, _, _, _, _, _, _, _, _, _, _, _, _, rfl, noDI (D := D) (S := 17) hd, fun _ => ⟨below_to hB hb, Lib.hid (by obtain ⟨f0, f1, f2, f3, f4, f5, f6, f7, f8, f9, f10, f11, f12, f13, f14, f15, f16⟩ := HF.out; exact ⟨f0, fun _ => rfl, f2, f3, f4, fun _ => rfl, fun _ _ => hown, f7, f8, fun h h2 => (f9 h h2).below hb, fun h => noDI (D := D) hD (f10 h).1, f11, f12, f13, f14, fun h => noDI (D := D) hD (f10 (f15 h).1).1, f16⟩)⟩, noDI (D := D) (S := 17) hd⟩
    · rintro D aa wx ⟨x67, x68, x69, x70, x71, x72, x73, x74, x75, x76, x77, x78, x79, x80, x81, x82, x83, rfl, hall, hpre, hfin⟩ hD hdep KK hKK
      have hd := dSI (S := 17) (i := 7) hall (by omega) hD
      obtain ⟨hB, HF⟩ := hpre hd
      simp only [Act.put, List.toList_toArray, List.take_succ_cons, List.take_zero, List.drop_succ_cons, List.drop_zero, List.cons_append, List.nil_append, List.setIfInBounds_toArray, List.set_cons_zero, List.set_cons_succ]
      go_simp
      exact hKK _ _ ⟨_, _, _, _, _, _, _, _, _, _, _, _, _, _, _, _, _, rfl, noDI (D := D) (S := 17) hd, fun _ => ⟨hB, Lib.hid (by obtain ⟨f0, f1, f2, f3, f4, f5, f6, f7, f8, f9, f10, f11, f12, f13, f14, f15, f16⟩ := HF.out; exact ⟨f0, f1, f2, f3, f4, f5, f6, fun _ => rfl, f8, f9, f10, f11, f12, f13, f14, f15, f16⟩)⟩, noDI (D := D) (S := 17) hd⟩
    · rintro D aa wx ⟨x67, x68, x69, x70, x71, x72, x73, x74, x75, x76, x77, x78, x79, x80, x81, x82, x83, rfl, hall, hpre, hfin⟩ hD hdep KK hKK
      have hd := dSI (S := 17) (i := 8) hall (by omega) hD
      obtain ⟨hB, HF⟩ := hpre hd
      simp [Region.binds] at hdep
      have h7 : D 7 = true := by simp [hdep]
      have HE := Lib.hid (show x74 = .string key by obtain ⟨f0, f1, f2, f3, f4, f5, f6, f7, f8, f9, f10, f11, f12, f13, f14, f15, f16⟩ := HF.out; exact f7 h7)
      obtain rfl := HE.out
      clear HE
      simp only [Act.put, List.toList_toArray, List.take_succ_cons, List.take_zero, List.drop_succ_cons, List.drop_zero, List.cons_append, List.nil_append, List.setIfInBounds_toArray, List.set_cons_zero, List.set_cons_succ]
      go_simp
      exact hKK _ _ ⟨_, _, _, _, _, _, _, _, _, _, _, _, _, _, _, _, _, rfl, noDI (D := D) (S := 17) hd, fun _ => ⟨hB, Lib.hid (by obtain ⟨f0, f1, f2, f3, f4, f5, f6, f7, f8, f9, f10, f11, f12, f13, f14, f15, f16⟩ := HF.out; exact ⟨f0, f1, f2, f3, f4, f5, f6, fun _ => rfl, fun _ => rfl, f9, f10, f11, f12, f13, f14, f15, f16⟩)⟩, noDI (D := D) (S := 17) hd⟩
    · rintro D aa wx ⟨x67, x68, x69, x70, x71, x72, x73, x74, x75, x76, x77, x78, x79, x80, x81, x82, x83, rfl, hall, hpre, hfin⟩ hD hdep KK hKK
      have hd := dSI (S := 17) (i := 9) hall (by omega) hD
      obtain ⟨hB, HF⟩ := hpre hd
      simp [Region.binds] at hdep
      have h8 : D 8 = true := by simp [hdep]
      have HE := Lib.hid (show x75 = .agg #[.string key, .string ByteArray.empty] by obtain ⟨f0, f1, f2, f3, f4, f5, f6, f7, f8, f9, f10, f11, f12, f13, f14, f15, f16⟩ := HF.out; exact f8 h8)
      obtain rfl := HE.out
      clear HE
      simp only [Act.put, List.toList_toArray, List.take_succ_cons, List.take_zero, List.drop_succ_cons, List.drop_zero, List.cons_append, List.nil_append, List.setIfInBounds_toArray, List.set_cons_zero, List.set_cons_succ]
      go_simp
      have hb := new_below wx (.cells #[.string key, .string ByteArray.empty] 44)
      exact hKK _ _ ⟨_, _, _, _, _, _, _, _, _, _, _, _, _, _, _, _, _, rfl, noDI (D := D) (S := 17) hd, fun _ => ⟨below_to hB hb, Lib.hid (by obtain ⟨f0, f1, f2, f3, f4, f5, f6, f7, f8, f9, f10, f11, f12, f13, f14, f15, f16⟩ := HF.out; exact ⟨f0, f1, f2, f3, f4, f5, fun h h2 => own_below (f6 h h2) hb, f7, fun _ => rfl, fun _ _ => itemB_new _ _ _, fun h => ⟨(f10 h).1, fun h2 => own_below ((f10 h).2 h2) hb⟩, f11, f12, f13, f14, fun h => ⟨(f15 h).1, own_below (f15 h).2 hb⟩, f16⟩)⟩, noDI (D := D) (S := 17) hd⟩
    · rintro D aa wx ⟨x67, x68, x69, x70, x71, x72, x73, x74, x75, x76, x77, x78, x79, x80, x81, x82, x83, rfl, hall, hpre, hfin⟩ hD hdep KK hKK
      have hd := dSI (S := 17) (i := 10) hall (by omega) hD
      obtain ⟨hB, HF⟩ := hpre hd
      simp [Region.binds] at hdep
      have h6 : D 6 = true := by simp [hdep]
      have h9 : D 9 = true := by simp [hdep]
      have hp1 := Lib.hid (show wx.ownsRow w8.heap.size 44 2 x73 (i) (flatI (I.take i)) by obtain ⟨f0, f1, f2, f3, f4, f5, f6, f7, f8, f9, f10, f11, f12, f13, f14, f15, f16⟩ := HF.out; exact f6 h6 hD)
      have hp2 := Lib.hid (show ItemB wx key x76 by obtain ⟨f0, f1, f2, f3, f4, f5, f6, f7, f8, f9, f10, f11, f12, f13, f14, f15, f16⟩ := HF.out; exact f9 h9 hD)
      obtain ⟨B, rfl, hIB⟩ := hp2.out
      clear hp2
      refine step_append_run (by rfl) (.tmp 73) (.tmp 76) 22 (by rfl) (x73) (.slice (some ⟨B, 0, none⟩) 1 1) (by rfl) (by rfl) (fun v' w' => w'.ownsRow w8.heap.size 44 2 v' (i + 1) (flatI (I.take i) ++ flatI [(key, ByteArray.empty)]) ∧ wx.grownBy w' (Value.ownBlock (x73))) ?_ ?_
      · obtain ⟨v', w', hr, q1, q2⟩ := appI_any wx w8.heap.size x73 (i) (flatI (I.take i)) (some ⟨B, 0, none⟩) 1 1 [(key, ByteArray.empty)] hp1.out hIB hB.size (by omega)
        exact ⟨v', w', hr, q1, q2⟩
      rintro v' w' ⟨hown, hgr⟩
      have hb := hB.grown hgr hB.size (fun j hj => (hp1.out.lt j hj).1)
      simp only [Act.put, List.toList_toArray, List.take_succ_cons, List.take_zero, List.drop_succ_cons, List.drop_zero, List.cons_append, List.nil_append, List.setIfInBounds_toArray, List.set_cons_zero, List.set_cons_succ]
      exact hKK _ _ ⟨_, _, _, _, _, _, _, _, _, _, _, _, _, _, _, _, _, rfl, noDI (D := D) (S := 17) hd, fun _ => ⟨hb, Lib.hid (by obtain ⟨f0, f1, f2, f3, f4, f5, f6, f7, f8, f9, f10, f11, f12, f13, f14, f15, f16⟩ := HF.out; exact ⟨f0, f1, f2, f3, f4, f5, fun _ h2 => by simp [upd] at h2, f7, f8, fun _ h2 => by simp [upd] at h2, fun _ => ⟨h6, fun _ => hown⟩, f11, f12, f13, f14, fun h => noDI (D := D) hD (f15 h).1, f16⟩)⟩, noDI (D := D) (S := 17) hd⟩
    · rintro D aa wx ⟨x67, x68, x69, x70, x71, x72, x73, x74, x75, x76, x77, x78, x79, x80, x81, x82, x83, rfl, hall, hpre, hfin⟩ hD hdep KK hKK
      have hd := dSI (S := 17) (i := 11) hall (by omega) hD
      obtain ⟨hB, HF⟩ := hpre hd
      simp only [Act.put, List.toList_toArray, List.take_succ_cons, List.take_zero, List.drop_succ_cons, List.drop_zero, List.cons_append, List.nil_append, List.setIfInBounds_toArray, List.set_cons_zero, List.set_cons_succ]
      go_simp
      exact hKK _ _ ⟨_, _, _, _, _, _, _, _, _, _, _, _, _, _, _, _, _, rfl, noDI (D := D) (S := 17) hd, fun _ => ⟨hB, Lib.hid (by obtain ⟨f0, f1, f2, f3, f4, f5, f6, f7, f8, f9, f10, f11, f12, f13, f14, f15, f16⟩ := HF.out; exact ⟨f0, f1, f2, f3, f4, f5, f6, f7, f8, f9, f10, fun _ => rfl, f12, f13, f14, f15, f16⟩)⟩, noDI (D := D) (S := 17) hd⟩
    · rintro D aa wx ⟨x67, x68, x69, x70, x71, x72, x73, x74, x75, x76, x77, x78, x79, x80, x81, x82, x83, rfl, hall, hpre, hfin⟩ hD hdep KK hKK
      have hd := dSI (S := 17) (i := 12) hall (by omega) hD
      obtain ⟨hB, HF⟩ := hpre hd
      simp [Region.binds] at hdep
      have h11 : D 11 = true := by simp [hdep]
      have HE := Lib.hid (show x78 = .pointer (some ⟨w.heap.size, 0, none⟩) by obtain ⟨f0, f1, f2, f3, f4, f5, f6, f7, f8, f9, f10, f11, f12, f13, f14, f15, f16⟩ := HF.out; exact f11 h11)
      obtain rfl := HE.out
      clear HE
      have c0 := (A2.nd.below hB).c0
      simp only [Act.put, List.toList_toArray, List.take_succ_cons, List.take_zero, List.drop_succ_cons, List.drop_zero, List.cons_append, List.nil_append, List.setIfInBounds_toArray, List.set_cons_zero, List.set_cons_succ]
      go_simp
      exact hKK _ _ ⟨_, _, _, _, _, _, _, _, _, _, _, _, _, _, _, _, _, rfl, noDI (D := D) (S := 17) hd, fun _ => ⟨hB, Lib.hid (by obtain ⟨f0, f1, f2, f3, f4, f5, f6, f7, f8, f9, f10, f11, f12, f13, f14, f15, f16⟩ := HF.out; exact ⟨f0, f1, f2, f3, f4, f5, f6, f7, f8, f9, f10, fun _ => rfl, fun _ => rfl, f13, f14, f15, f16⟩)⟩, noDI (D := D) (S := 17) hd⟩
    · rintro D aa wx ⟨x67, x68, x69, x70, x71, x72, x73, x74, x75, x76, x77, x78, x79, x80, x81, x82, x83, rfl, hall, hpre, hfin⟩ hD hdep KK hKK
      have hd := dSI (S := 17) (i := 13) hall (by omega) hD
      obtain ⟨hB, HF⟩ := hpre hd
      simp only [Act.put, List.toList_toArray, List.take_succ_cons, List.take_zero, List.drop_succ_cons, List.drop_zero, List.cons_append, List.nil_append, List.setIfInBounds_toArray, List.set_cons_zero, List.set_cons_succ]
      go_simp
      exact hKK _ _ ⟨_, _, _, _, _, _, _, _, _, _, _, _, _, _, _, _, _, rfl, noDI (D := D) (S := 17) hd, fun _ => ⟨hB, Lib.hid (by obtain ⟨f0, f1, f2, f3, f4, f5, f6, f7, f8, f9, f10, f11, f12, f13, f14, f15, f16⟩ := HF.out; exact ⟨f0, f1, f2, f3, f4, f5, f6, f7, f8, f9, f10, f11, f12, fun _ => rfl, f14, f15, f16⟩)⟩, noDI (D := D) (S := 17) hd⟩
    · rintro D aa wx ⟨x67, x68, x69, x70, x71, x72, x73, x74, x75, x76, x77, x78, x79, x80, x81, x82, x83, rfl, hall, hpre, hfin⟩ hD hdep KK hKK
      have hd := dSI (S := 17) (i := 14) hall (by omega) hD
      obtain ⟨hB, HF⟩ := hpre hd
      simp [Region.binds] at hdep
      have h12 : D 12 = true := by simp [hdep]
      have h13 : D 13 = true := by simp [hdep]
      have HE := Lib.hid (show x79 = .slice a n c ∧ x80 = .int .i64 (i : Int) by obtain ⟨f0, f1, f2, f3, f4, f5, f6, f7, f8, f9, f10, f11, f12, f13, f14, f15, f16⟩ := HF.out; exact ⟨f12 h12, f13 h13⟩)
      obtain ⟨rfl, rfl⟩ := HE.out
      clear HE
      simp only [Act.put, List.toList_toArray, List.take_succ_cons, List.take_zero, List.drop_succ_cons, List.drop_zero, List.cons_append, List.nil_append, List.setIfInBounds_toArray, List.set_cons_zero, List.set_cons_succ]
      go_simp
      exact hKK _ _ ⟨_, _, _, _, _, _, _, _, _, _, _, _, _, _, _, _, _, rfl, noDI (D := D) (S := 17) hd, fun _ => ⟨hB, Lib.hid (by obtain ⟨f0, f1, f2, f3, f4, f5, f6, f7, f8, f9, f10, f11, f12, f13, f14, f15, f16⟩ := HF.out; exact ⟨f0, f1, f2, f3, f4, f5, f6, f7, f8, f9, f10, f11, fun _ => rfl, fun _ => rfl, fun _ => rfl, f15, f16⟩)⟩, noDI (D := D) (S := 17) hd⟩
    · rintro D aa wx ⟨x67, x68, x69, x70, x71, x72, x73, x74, x75, x76, x77, x78, x79, x80, x81, x82, x83, rfl, hall, hpre, hfin⟩ hD hdep KK hKK
      have hd := dSI (S := 17) (i := 15) hall (by omega) hD
      obtain ⟨hB, HF⟩ := hpre hd
      simp [Region.binds] at hdep
      have h10 : D 10 = true := by simp [hdep]
      have h14 : D 14 = true := by simp [hdep]
      have HE := Lib.hid (show x81 = .slice ca rn rc by obtain ⟨f0, f1, f2, f3, f4, f5, f6, f7, f8, f9, f10, f11, f12, f13, f14, f15, f16⟩ := HF.out; exact f14 h14)
      obtain rfl := HE.out
      clear HE
      have hp1 := Lib.hid (show wx.ownsRow w8.heap.size 44 2 x77 (i + 1) (flatI (I.take i) ++ flatI [(key, ByteArray.empty)]) by obtain ⟨f0, f1, f2, f3, f4, f5, f6, f7, f8, f9, f10, f11, f12, f13, f14, f15, f16⟩ := HF.out; exact (f10 h10).2 hD)
      refine step_append_run (by rfl) (.tmp 77) (.tmp 81) 22 (by rfl) (x77) (.slice ca rn rc) (by rfl) (by rfl) (fun v' w' => w'.ownsRow w8.heap.size 44 2 v' (np) (flatI P) ∧ wx.grownBy w' (Value.ownBlock (x77))) ?_ ?_
      · obtain ⟨v', w', hr, q1, q2⟩ := appI_any wx w8.heap.size x77 (i + 1) (flatI (I.take i) ++ flatI [(key, ByteArray.empty)]) ca rn rc _ hp1.out (hcut _ (A2.its.below hB)) hB.size (by omega)
        exact ⟨v', w', hr, by rw [hsum, hflat] at q1; exact q1, q2⟩
      rintro v' w' ⟨hown, hgr⟩
      have hb := hB.grown hgr hB.size (fun j hj => (hp1.out.lt j hj).1)
      simp only [Act.put, List.toList_toArray, List.take_succ_cons, List.take_zero, List.drop_succ_cons, List.drop_zero, List.cons_append, List.nil_append, List.setIfInBounds_toArray, List.set_cons_zero, List.set_cons_succ]
      exact hKK _ _ ⟨_, _, _, _, _, _, _, _, _, _, _, _, _, _, _, _, _, rfl, noDI (D := D) (S := 17) hd, fun _ => ⟨hb, Lib.hid (by obtain ⟨f0, f1, f2, f3, f4, f5, f6, f7, f8, f9, f10, f11, f12, f13, f14, f15, f16⟩ := HF.out; exact ⟨f0, f1, f2, f3, f4, f5, fun _ h2 => noDI (D := D) (show D 10 = false from h2) h10, f7, f8, fun _ h2 => noDI (D := D) (show D 10 = false from h2) h10, fun h => ⟨(f10 h).1, fun h2 => by simp [upd] at h2⟩, f11, f12, f13, fun _ => rfl, fun _ => ⟨h10, hown⟩, f16⟩)⟩, noDI (D := D) (S := 17) hd⟩
    · rintro D aa wx ⟨x67, x68, x69, x70, x71, x72, x73, x74, x75, x76, x77, x78, x79, x80, x81, x82, x83, rfl, hall, hpre, hfin⟩ hD hdep KK hKK
      have hd := dSI (S := 17) (i := 16) hall (by omega) hD
      obtain ⟨hB, HF⟩ := hpre hd
      simp only [Act.put, List.toList_toArray, List.take_succ_cons, List.take_zero, List.drop_succ_cons, List.drop_zero, List.cons_append, List.nil_append, List.setIfInBounds_toArray, List.set_cons_zero, List.set_cons_succ]
      go_simp
      exact hKK _ _ ⟨_, _, _, _, _, _, _, _, _, _, _, _, _, _, _, _, _, rfl, noDI (D := D) (S := 17) hd, fun _ => ⟨hB, Lib.hid (by obtain ⟨f0, f1, f2, f3, f4, f5, f6, f7, f8, f9, f10, f11, f12, f13, f14, f15, f16⟩ := HF.out; exact ⟨f0, f1, f2, f3, f4, f5, f6, f7, f8, f9, f10, f11, f12, f13, f14, f15, fun _ => rfl⟩)⟩, noDI (D := D) (S := 17) hd⟩
    · rintro D aa wx ⟨x67, x68, x69, x70, x71, x72, x73, x74, x75, x76, x77, x78, x79, x80, x81, x82, x83, rfl, hall, hpre, hfin⟩ hD hdep KK hKK
      obtain ⟨hB, HF⟩ := hpre hD
      obtain ⟨f0, f1, f2, f3, f4, f5, f6, f7, f8, f9, f10, f11, f12, f13, f14, f15, f16⟩ := HF.out
      have hq := List.all_eq_true.1 hdep
      have hal : ∀ j, j < 17 → D j = true := by
        intro j hj
        have : j = 0 ∨ j = 1 ∨ j = 2 ∨ j = 3 ∨ j = 4 ∨ j = 5 ∨ j = 6 ∨ j = 7 ∨ j = 8 ∨ j = 9 ∨ j = 10 ∨ j = 11 ∨ j = 12 ∨ j = 13 ∨ j = 14 ∨ j = 15 ∨ j = 16 := by omega
        rcases this with rfl | rfl | rfl | rfl | rfl | rfl | rfl | rfl | rfl | rfl | rfl | rfl | rfl | rfl | rfl | rfl | rfl
        · simpa [Region.binds] using hq ⟨0, Ground.phase⟩ (by simp)
        · simpa [Region.binds] using hq ⟨1, Ground.phase⟩ (by simp)
        · simpa [Region.binds] using hq ⟨2, Ground.phase⟩ (by simp)
        · simpa [Region.binds] using hq ⟨3, Ground.phase⟩ (by simp)
        · simpa [Region.binds] using hq ⟨4, Ground.phase⟩ (by simp)
        · simpa [Region.binds] using hq ⟨5, Ground.phase⟩ (by simp)
        · simpa [Region.binds] using hq ⟨6, Ground.phase⟩ (by simp)
        · simpa [Region.binds] using hq ⟨7, Ground.phase⟩ (by simp)
        · simpa [Region.binds] using hq ⟨8, Ground.phase⟩ (by simp)
        · simpa [Region.binds] using hq ⟨9, Ground.phase⟩ (by simp)
        · simpa [Region.binds] using hq ⟨10, Ground.phase⟩ (by simp)
        · simpa [Region.binds] using hq ⟨11, Ground.phase⟩ (by simp)
        · simpa [Region.binds] using hq ⟨12, Ground.phase⟩ (by simp)
        · simpa [Region.binds] using hq ⟨13, Ground.phase⟩ (by simp)
        · simpa [Region.binds] using hq ⟨14, Ground.phase⟩ (by simp)
        · simpa [Region.binds] using hq ⟨15, Ground.phase⟩ (by simp)
        · simpa [Region.binds] using hq ⟨16, Ground.data⟩ (by simp)
      have e0 := f16 (hal 16 (by omega))
      have hp0 := (f15 (hal 15 (by omega))).2
      obtain ⟨ad, cp, hv, -, -⟩ := its_of_own hp0
      rw [hv] at hp0
      have hp1 := Lib.hid hp0
      subst hv
      subst e0
      clear hp0
      have y0 := (B9.below hB).c0
      have z0 := (B9.below hB).f0
      have hB2 := Lib.hid hB
      have hal := Lib.hid hal
      clear f0 f1 f2 f3 f4 f5 f6 f7 f8 f9 f10 f11 f12 f13 f14 f15 f16 hpre hfin hdep hq HF
      simp only [Act.put, List.toList_toArray, List.take_succ_cons, List.take_zero, List.drop_succ_cons, List.drop_zero, List.cons_append, List.nil_append, List.setIfInBounds_toArray, List.set_cons_zero, List.set_cons_succ]
      go_simp
      refine hKK _ _ ⟨_, _, _, _, _, _, _, _, _, _, _, _, _, _, _, _, _, rfl, fun _ j hj => ?_, (by intro h; cases h), fun _ => ⟨_, _, rfl, hB2.out, hp1.out⟩⟩
      show (if j = 17 then true else D j) = true
      rw [if_neg (by omega)]; exact hal.out j hj
  rintro D aa w9 ⟨x67, x68, x69, x70, x71, x72, x73, x74, x75, x76, x77, x78, x79, x80, x81, x82, x83, rfl, hall, hpre, hfin⟩ hD
  obtain ⟨wx, v, rfl, hbx, hown⟩ := hfin (hD 17 (by simp))
  obtain ⟨pa, pc, rfl, hpc, hIP⟩ := its_of_own hown
  have hfp := own_fresh hown (Nat.le_refl _)
  simp only [Act.put, List.toList_toArray, List.take_succ_cons, List.take_zero, List.drop_succ_cons, List.drop_zero, List.cons_append, List.nil_append]
  clear hall hpre hfin hD hown q1 hcut hflat hsum
  replace H7 := (below_to H7 hbx).setCell (p := ⟨g, 0, none⟩) (by show w7.heap.size ≤ g; omega) (.slice pa np pc)
  replace B9 := (B9.below hbx).set0 (.slice pa np pc)
  replace hIP := hIP.set (o := 0) (x := .slice pa np pc) hfp hgs
  have hgs2 : g < (wx.setCell ⟨g, 0, none⟩ (.slice pa np pc)).heap.size := B9.lt
  have hbs : w8.heap.size ≤ (wx.setCell ⟨g, 0, none⟩ (.slice pa np pc)).heap.size := by have := hbx.size; simpa using this
  clear hbx A2
  generalize wx.setCell ⟨g, 0, none⟩ (.slice pa np pc) = wk at H7 B9 hIP hgs2 hbs ⊢
  have A2 := A27.out.below H7
  obtain ⟨sn, hsn⟩ : ∃ r, kn - y = r := ⟨_, rfl⟩
  obtain ⟨sc, hsc⟩ : ∃ r, kc - y = r := ⟨_, rfl⟩
  obtain ⟨cb, hcb⟩ : ∃ r, cutA 1 ka kc y = r := ⟨_, rfl⟩
  have hyn : y ≤ kn := by omega
  have hcut := Lib.hid (fun (w : World) (h : Kds w ka kn K) => by
    have h2 := h.cut hyn hkc
    rw [hcb, hsn] at h2; exact h2)
  have q1 := fun w => run_lo23 ka kn kc y hyn w
  rw [hcb, hsn, hsc] at q1
  have q2 : IntKind.i64.wrap ((i : Int) + 1) = (y : Int) := by rw [show (i : Int) + 1 = (y : Int) by omega]; exact IntWalk.i64_in _ (by omega)
  have hyc : y ≤ kc := by omega
  have hsum : y + 1 + sn = kp := by omega
  have hflat : kidV (K.take y) ++ kidV [z] ++ kidV (K.drop y) = kidV KQ := by rw [← hKQ]; simp [kidV]
  clear hsn hsc hcb hca hrn hrc hic
  go_upto_region 12 with (fail)
  refine wp_region_inv0 (Inv12k wk g w.heap.size ka kn kc i y z cb sn sc kp (K.take y) KQ) (by kernel_rfl) (by decide) ?_ ?_ ?_
  · exact ⟨undef, undef, undef, undef, undef, undef, undef, undef, undef, undef, undef, undef, undef, undef, undef, undef, undef, undef, rfl, (by intro h; cases h), fun _ => ⟨(Below.refl _ _).drew, Lib.hid ⟨(by intro h; cases h), (by intro h; cases h), (by intro h; cases h), (by intro h; cases h), (by intro h; cases h), (by intro h; cases h), (by intro h; cases h), (by intro h; cases h), (by intro h; cases h), (by intro h; cases h), (by intro h; cases h), (by intro h; cases h), (by intro h; cases h), (by intro h; cases h), (by intro h; cases h), (by intro h; cases h), (by intro h; cases h), (by intro h; cases h)⟩⟩, (by intro h; cases h)⟩
  · refine AllI.cons ?_ (AllI.cons ?_ (AllI.cons ?_ (AllI.cons ?_ (AllI.cons ?_ (AllI.cons ?_ (AllI.cons ?_ (AllI.cons ?_ (AllI.cons ?_ (AllI.cons ?_ (AllI.cons ?_ (AllI.cons ?_ (AllI.cons ?_ (AllI.cons ?_ (AllI.cons ?_ (AllI.cons ?_ (AllI.cons ?_ (AllI.cons ?_ (AllI.cons ?_ AllI.nil))))))))))))))))))
    · rintro D aa wx ⟨x84, x85, x86, x87, x88, x89, x90, x91, x92, x93, x94, x95, x96, x97, x98, x99, x100, x101, rfl, hall, hpre, hfin⟩ hD hdep KK hKK
      have hd := dSI (S := 18) (i := 0) hall (by omega) hD
      obtain ⟨hB, HF⟩ := hpre hd
      simp only [Act.put, List.toList_toArray, List.take_succ_cons, List.take_zero, List.drop_succ_cons, List.drop_zero, List.cons_append, List.nil_append, List.setIfInBounds_toArray, List.set_cons_zero, List.set_cons_succ]
      go_simp
      exact hKK _ _ ⟨_, _, _, _, _, _, _, _, _, _, _, _, _, _, _, _, _, _, rfl, noDI (D := D) (S := 18) hd, fun _ => ⟨hB, Lib.hid (by obtain ⟨f0, f1, f2, f3, f4, f5, f6, f7, f8, f9, f10, f11, f12, f13, f14, f15, f16, f17⟩ := HF.out; exact ⟨fun _ => rfl, f1, f2, f3, f4, f5, f6, f7, f8, f9, f10, f11, f12, f13, f14, f15, f16, f17⟩)⟩, noDI (D := D) (S := 18) hd⟩
    · rintro D aa wx ⟨x84, x85, x86, x87, x88, x89, x90, x91, x92, x93, x94, x95, x96, x97, x98, x99, x100, x101, rfl, hall, hpre, hfin⟩ hD hdep KK hKK
      have hd := dSI (S := 18) (i := 1) hall (by omega) hD
      obtain ⟨hB, HF⟩ := hpre hd
      simp [Region.binds] at hdep
      have h0 : D 0 = true := by simp [hdep]
      have HE := Lib.hid (show x84 = .pointer (some ⟨g, 1, none⟩) by obtain ⟨f0, f1, f2, f3, f4, f5, f6, f7, f8, f9, f10, f11, f12, f13, f14, f15, f16, f17⟩ := HF.out; exact f0 h0)
      obtain rfl := HE.out
      clear HE
      have c0 := (B9.below hB).c1
      simp only [Act.put, List.toList_toArray, List.take_succ_cons, List.take_zero, List.drop_succ_cons, List.drop_zero, List.cons_append, List.nil_append, List.setIfInBounds_toArray, List.set_cons_zero, List.set_cons_succ]
      go_simp
      exact hKK _ _ ⟨_, _, _, _, _, _, _, _, _, _, _, _, _, _, _, _, _, _, rfl, noDI (D := D) (S := 18) hd, fun _ => ⟨hB, Lib.hid (by obtain ⟨f0, f1, f2, f3, f4, f5, f6, f7, f8, f9, f10, f11, f12, f13, f14, f15, f16, f17⟩ := HF.out; exact ⟨fun _ => rfl, fun _ => rfl, f2, f3, f4, f5, f6, f7, f8, f9, f10, f11, f12, f13, f14, f15, f16, f17⟩)⟩, noDI (D := D) (S := 18) hd⟩
    · rintro D aa wx ⟨x84, x85, x86, x87, x88, x89, x90, x91, x92, x93, x94, x95, x96, x97, x98, x99, x100, x101, rfl, hall, hpre, hfin⟩ hD hdep KK hKK
      have hd := dSI (S := 18) (i := 2) hall (by omega) hD
      obtain ⟨hB, HF⟩ := hpre hd
      simp only [Act.put, List.toList_toArray, List.take_succ_cons, List.take_zero, List.drop_succ_cons, List.drop_zero, List.cons_append, List.nil_append, List.setIfInBounds_toArray, List.set_cons_zero, List.set_cons_succ]
      go_simp
      exact hKK _ _ ⟨_, _, _, _, _, _, _, _, _, _, _, _, _, _, _, _, _, _, rfl, noDI (D := D) (S := 18) hd, fun _ => ⟨hB, Lib.hid (by obtain ⟨f0, f1, f2, f3, f4, f5, f6, f7, f8, f9, f10, f11, f12, f13, f14, f15, f16, f17⟩ := HF.out; exact ⟨f0, f1, fun _ => rfl, f3, f4, f5, f6, f7, f8, f9, f10, f11, f12, f13, f14, f15, f16, f17⟩)⟩, noDI (D := D) (S := 18) hd⟩
    · rintro D aa wx ⟨x84, x85, x86, x87, x88, x89, x90, x91, x92, x93, x94, x95, x96, x97, x98, x99, x100, x101, rfl, hall, hpre, hfin⟩ hD hdep KK hKK
      have hd := dSI (S := 18) (i := 3) hall (by omega) hD
      obtain ⟨hB, HF⟩ := hpre hd
      simp [Region.binds] at hdep
      have h2 : D 2 = true := by simp [hdep]
      have HE := Lib.hid (show x86 = .pointer (some ⟨w.heap.size, 1, none⟩) by obtain ⟨f0, f1, f2, f3, f4, f5, f6, f7, f8, f9, f10, f11, f12, f13, f14, f15, f16, f17⟩ := HF.out; exact f2 h2)
      obtain rfl := HE.out
      clear HE
      have c0 := (A2.nd.below hB).c1
      simp only [Act.put, List.toList_toArray, List.take_succ_cons, List.take_zero, List.drop_succ_cons, List.drop_zero, List.cons_append, List.nil_append, List.setIfInBounds_toArray, List.set_cons_zero, List.set_cons_succ]
      go_simp
      exact hKK _ _ ⟨_, _, _, _, _, _, _, _, _, _, _, _, _, _, _, _, _, _, rfl, noDI (D := D) (S := 18) hd, fun _ => ⟨hB, Lib.hid (by obtain ⟨f0, f1, f2, f3, f4, f5, f6, f7, f8, f9, f10, f11, f12, f13, f14, f15, f16, f17⟩ := HF.out; exact ⟨f0, f1, fun _ => rfl, fun _ => rfl, f4, f5, f6, f7, f8, f9, f10, f11, f12, f13, f14, f15, f16, f17⟩)⟩, noDI (D := D) (S := 18) hd⟩
    · rintro D aa wx ⟨x84, x85, x86, x87, x88, x89, x90, x91, x92, x93, x94, x95, x96, x97, x98, x99, x100, x101, rfl, hall, hpre, hfin⟩ hD hdep KK hKK
      have hd := dSI (S := 18) (i := 4) hall (by omega) hD
      obtain ⟨hB, HF⟩ := hpre hd
      simp only [Act.put, List.toList_toArray, List.take_succ_cons, List.take_zero, List.drop_succ_cons, List.drop_zero, List.cons_append, List.nil_append, List.setIfInBounds_toArray, List.set_cons_zero, List.set_cons_succ]
      go_simp
      exact hKK _ _ ⟨_, _, _, _, _, _, _, _, _, _, _, _, _, _, _, _, _, _, rfl, noDI (D := D) (S := 18) hd, fun _ => ⟨hB, Lib.hid (by obtain ⟨f0, f1, f2, f3, f4, f5, f6, f7, f8, f9, f10, f11, f12, f13, f14, f15, f16, f17⟩ := HF.out; exact ⟨f0, f1, f2, f3, fun _ => rfl, f5, f6, f7, f8, f9, f10, f11, f12, f13, f14, f15, f16, f17⟩)⟩, noDI (D := D) (S := 18) hd⟩
    · rintro D aa wx ⟨x84, x85, x86, x87, x88, x89, x90, x91, x92, x93, x94, x95, x96, x97, x98, x99, x100, x101, rfl, hall, hpre, hfin⟩ hD hdep KK hKK
      have hd := dSI (S := 18) (i := 5) hall (by omega) hD
      obtain ⟨hB, HF⟩ := hpre hd
      simp [Region.binds] at hdep
      have h4 : D 4 = true := by simp [hdep]
      have HE := Lib.hid (show x88 = .int .i64 (i : Int) by obtain ⟨f0, f1, f2, f3, f4, f5, f6, f7, f8, f9, f10, f11, f12, f13, f14, f15, f16, f17⟩ := HF.out; exact f4 h4)
      obtain rfl := HE.out
      clear HE
      simp only [Act.put, List.toList_toArray, List.take_succ_cons, List.take_zero, List.drop_succ_cons, List.drop_zero, List.cons_append, List.nil_append, List.setIfInBounds_toArray, List.set_cons_zero, List.set_cons_succ]
      go_simp
      exact hKK _ _ ⟨_, _, _, _, _, _, _, _, _, _, _, _, _, _, _, _, _, _, rfl, noDI (D := D) (S := 18) hd, fun _ => ⟨hB, Lib.hid (by obtain ⟨f0, f1, f2, f3, f4, f5, f6, f7, f8, f9, f10, f11, f12, f13, f14, f15, f16, f17⟩ := HF.out; exact ⟨f0, f1, f2, f3, fun _ => rfl, fun _ => rfl, f6, f7, f8, f9, f10, f11, f12, f13, f14, f15, f16, f17⟩)⟩, noDI (D := D) (S := 18) hd⟩
    · rintro D aa wx ⟨x84, x85, x86, x87, x88, x89, x90, x91, x92, x93, x94, x95, x96, x97, x98, x99, x100, x101, rfl, hall, hpre, hfin⟩ hD hdep KK hKK
      have hd := dSI (S := 18) (i := 6) hall (by omega) hD
      obtain ⟨hB, HF⟩ := hpre hd
      simp [Region.binds] at hdep
      have h3 : D 3 = true := by simp [hdep]
      have h5 : D 5 = true := by simp [hdep]
      have HE := Lib.hid (show x87 = .slice ka kn kc ∧ x89 = .int .i64 (y : Int) by obtain ⟨f0, f1, f2, f3, f4, f5, f6, f7, f8, f9, f10, f11, f12, f13, f14, f15, f16, f17⟩ := HF.out; exact ⟨f3 h3, f5 h5⟩)
      obtain ⟨rfl, rfl⟩ := HE.out
      clear HE
      simp only [Act.put, List.toList_toArray, List.take_succ_cons, List.take_zero, List.drop_succ_cons, List.drop_zero, List.cons_append, List.nil_append, List.setIfInBounds_toArray, List.set_cons_zero, List.set_cons_succ]
      go_simp
      exact hKK _ _ ⟨_, _, _, _, _, _, _, _, _, _, _, _, _, _, _, _, _, _, rfl, noDI (D := D) (S := 18) hd, fun _ => ⟨hB, Lib.hid (by obtain ⟨f0, f1, f2, f3, f4, f5, f6, f7, f8, f9, f10, f11, f12, f13, f14, f15, f16, f17⟩ := HF.out; exact ⟨f0, f1, f2, fun _ => rfl, f4, fun _ => rfl, fun _ => rfl, f7, f8, f9, f10, f11, f12, f13, f14, f15, f16, f17⟩)⟩, noDI (D := D) (S := 18) hd⟩
    · rintro D aa wx ⟨x84, x85, x86, x87, x88, x89, x90, x91, x92, x93, x94, x95, x96, x97, x98, x99, x100, x101, rfl, hall, hpre, hfin⟩ hD hdep KK hKK
      have hd := dSI (S := 18) (i := 7) hall (by omega) hD
      obtain ⟨hB, HF⟩ := hpre hd
      simp [Region.binds] at hdep
      have h1 : D 1 = true := by simp [hdep]
      have h6 : D 6 = true := by simp [hdep]
      have HE := Lib.hid (show x85 = .slice none 0 0 ∧ x90 = .slice ka y kc by obtain ⟨f0, f1, f2, f3, f4, f5, f6, f7, f8, f9, f10, f11, f12, f13, f14, f15, f16, f17⟩ := HF.out; exact ⟨f1 h1, f6 h6⟩)
      obtain ⟨rfl, rfl⟩ := HE.out
      clear HE
      refine step_append_run (by rfl) (.tmp 85) (.tmp 90) 23 (by rfl) (.slice none 0 0) (.slice ka y kc) (by rfl) (by rfl) (fun v' w' => w'.ownsRow wk.heap.size 3 1 v' (y) (kidV (K.take y)) ∧ wx.grownBy w' (Value.ownBlock (.slice none 0 0))) ?_ ?_
      · obtain ⟨v', w', hr, q1, q2⟩ := appK_any wx wk.heap.size (.slice none 0 0) 0 [] ka y kc (K.take y) (World.ownsRow_nil wx wk.heap.size 3 1) ((A2.kds.below hB).take hyn) hB.size (by omega)
        exact ⟨v', w', hr, by simpa using q1, q2⟩
      rintro v' w' ⟨hown, hgr⟩
      have hb := below_none hgr
      simp only [Act.put, List.toList_toArray, List.take_succ_cons, List.take_zero, List.drop_succ_cons, List.drop_zero, List.cons_append, List.nil_append, List.setIfInBounds_toArray, List.set_cons_zero, List.set_cons_succ]
      exact hKK _ _ ⟨_, _, _, _, _, _, _, _, _, _, _, _, _, _, _, _, _, _, rfl, noDI (D := D) (S := 18) hd, fun _ => ⟨below_to hB hb, Lib.hid (by obtain ⟨f0, f1, f2, f3, f4, f5, f6, f7, f8, f9, f10, f11, f12, f13, f14, f15, f16, f17⟩ := HF.out; exact ⟨f0, fun _ => rfl, f2, f3, f4, f5, fun _ => rfl, fun _ _ => hown, f8, fun h h2 => (f9 h h2).below hb, fun h => noDI (D := D) hD (f10 h).1, f11, f12, f13, f14, f15, fun h => noDI (D := D) hD (f10 (f16 h).1).1, f17⟩)⟩, noDI (D := D) (S := 18) hd⟩
    · rintro D aa wx ⟨x84, x85, x86, x87, x88, x89, x90, x91, x92, x93, x94, x95, x96, x97, x98, x99, x100, x101, rfl, hall, hpre, hfin⟩ hD hdep KK hKK
      have hd := dSI (S := 18) (i := 8) hall (by omega) hD
      obtain ⟨hB, HF⟩ := hpre hd
      simp only [Act.put, List.toList_toArray, List.take_succ_cons, List.take_zero, List.drop_succ_cons, List.drop_zero, List.cons_append, List.nil_append, List.setIfInBounds_toArray, List.set_cons_zero, List.set_cons_succ]
      go_simp
      exact hKK _ _ ⟨_, _, _, _, _, _, _, _, _, _, _, _, _, _, _, _, _, _, rfl, noDI (D := D) (S := 18) hd, fun _ => ⟨hB, Lib.hid (by obtain ⟨f0, f1, f2, f3, f4, f5, f6, f7, f8, f9, f10, f11, f12, f13, f14, f15, f16, f17⟩ := HF.out; exact ⟨f0, f1, f2, f3, f4, f5, f6, f7, fun _ => rfl, f9, f10, f11, f12, f13, f14, f15, f16, f17⟩)⟩, noDI (D := D) (S := 18) hd⟩
    · rintro D aa wx ⟨x84, x85, x86, x87, x88, x89, x90, x91, x92, x93, x94, x95, x96, x97, x98, x99, x100, x101, rfl, hall, hpre, hfin⟩ hD hdep KK hKK
      have hd := dSI (S := 18) (i := 9) hall (by omega) hD
      obtain ⟨hB, HF⟩ := hpre hd
      simp [Region.binds] at hdep
      have h8 : D 8 = true := by simp [hdep]
      have HE := Lib.hid (show x92 = .int .i64 z by obtain ⟨f0, f1, f2, f3, f4, f5, f6, f7, f8, f9, f10, f11, f12, f13, f14, f15, f16, f17⟩ := HF.out; exact f8 h8)
      obtain rfl := HE.out
      clear HE
      simp only [Act.put, List.toList_toArray, List.take_succ_cons, List.take_zero, List.drop_succ_cons, List.drop_zero, List.cons_append, List.nil_append, List.setIfInBounds_toArray, List.set_cons_zero, List.set_cons_succ]
      go_simp
      have hb := new_below wx (.cells #[.int .i64 z] 3)
      exact hKK _ _ ⟨_, _, _, _, _, _, _, _, _, _, _, _, _, _, _, _, _, _, rfl, noDI (D := D) (S := 18) hd, fun _ => ⟨below_to hB hb, Lib.hid (by obtain ⟨f0, f1, f2, f3, f4, f5, f6, f7, f8, f9, f10, f11, f12, f13, f14, f15, f16, f17⟩ := HF.out; exact ⟨f0, f1, f2, f3, f4, f5, f6, fun h h2 => own_below (f7 h h2) hb, fun _ => rfl, fun _ _ => kidB_new _ _ _, fun h => ⟨(f10 h).1, fun h2 => own_below ((f10 h).2 h2) hb⟩, f11, f12, f13, f14, f15, fun h => ⟨(f16 h).1, own_below (f16 h).2 hb⟩, f17⟩)⟩, noDI (D := D) (S := 18) hd⟩
    · rintro D aa wx ⟨x84, x85, x86, x87, x88, x89, x90, x91, x92, x93, x94, x95, x96, x97, x98, x99, x100, x101, rfl, hall, hpre, hfin⟩ hD hdep KK hKK
      have hd := dSI (S := 18) (i := 10) hall (by omega) hD
      obtain ⟨hB, HF⟩ := hpre hd
      simp [Region.binds] at hdep
      have h7 : D 7 = true := by simp [hdep]
      have h9 : D 9 = true := by simp [hdep]
      have hp1 := Lib.hid (show wx.ownsRow wk.heap.size 3 1 x91 (y) (kidV (K.take y)) by obtain ⟨f0, f1, f2, f3, f4, f5, f6, f7, f8, f9, f10, f11, f12, f13, f14, f15, f16, f17⟩ := HF.out; exact f7 h7 hD)
      have hp2 := Lib.hid (show KidB wx z x93 by obtain ⟨f0, f1, f2, f3, f4, f5, f6, f7, f8, f9, f10, f11, f12, f13, f14, f15, f16, f17⟩ := HF.out; exact f9 h9 hD)
      obtain ⟨B, rfl, hIB⟩ := hp2.out
      clear hp2
      refine step_append_run (by rfl) (.tmp 91) (.tmp 93) 23 (by rfl) (x91) (.slice (some ⟨B, 0, none⟩) 1 1) (by rfl) (by rfl) (fun v' w' => w'.ownsRow wk.heap.size 3 1 v' (y + 1) (kidV (K.take y) ++ kidV [z]) ∧ wx.grownBy w' (Value.ownBlock (x91))) ?_ ?_
      · obtain ⟨v', w', hr, q1, q2⟩ := appK_any wx wk.heap.size x91 (y) (kidV (K.take y)) (some ⟨B, 0, none⟩) 1 1 [z] hp1.out hIB hB.size (by omega)
        exact ⟨v', w', hr, q1, q2⟩
      rintro v' w' ⟨hown, hgr⟩
      have hb := hB.grown hgr hB.size (fun j hj => (hp1.out.lt j hj).1)
      simp only [Act.put, List.toList_toArray, List.take_succ_cons, List.take_zero, List.drop_succ_cons, List.drop_zero, List.cons_append, List.nil_append, List.setIfInBounds_toArray, List.set_cons_zero, List.set_cons_succ]
      exact hKK _ _ ⟨_, _, _, _, _, _, _, _, _, _, _, _, _, _, _, _, _, _, rfl, noDI (D := D) (S := 18) hd, fun _ => ⟨hb, Lib.hid (by obtain ⟨f0, f1, f2, f3, f4, f5, f6, f7, f8, f9, f10, f11, f12, f13, f14, f15, f16, f17⟩ := HF.out; exact ⟨f0, f1, f2, f3, f4, f5, f6, fun _ h2 => by simp [upd] at h2, f8, fun _ h2 => by simp [upd] at h2, fun _ => ⟨h7, fun _ => hown⟩, f11, f12, f13, f14, f15, fun h => noDI (D := D) hD (f16 h).1, f17⟩)⟩, noDI (D := D) (S := 18) hd⟩
    · rintro D aa wx ⟨x84, x85, x86, x87, x88, x89, x90, x91, x92, x93, x94, x95, x96, x97, x98, x99, x100, x101, rfl, hall, hpre, hfin⟩ hD hdep KK hKK
      have hd := dSI (S := 18) (i := 11) hall (by omega) hD
      obtain ⟨hB, HF⟩ := hpre hd
      simp only [Act.put, List.toList_toArray, List.take_succ_cons, List.take_zero, List.drop_succ_cons, List.drop_zero, List.cons_append, List.nil_append, List.setIfInBounds_toArray, List.set_cons_zero, List.set_cons_succ]
      go_simp
      exact hKK _ _ ⟨_, _, _, _, _, _, _, _, _, _, _, _, _, _, _, _, _, _, rfl, noDI (D := D) (S := 18) hd, fun _ => ⟨hB, Lib.hid (by obtain ⟨f0, f1, f2, f3, f4, f5, f6, f7, f8, f9, f10, f11, f12, f13, f14, f15, f16, f17⟩ := HF.out; exact ⟨f0, f1, f2, f3, f4, f5, f6, f7, f8, f9, f10, fun _ => rfl, f12, f13, f14, f15, f16, f17⟩)⟩, noDI (D := D) (S := 18) hd⟩
    · rintro D aa wx ⟨x84, x85, x86, x87, x88, x89, x90, x91, x92, x93, x94, x95, x96, x97, x98, x99, x100, x101, rfl, hall, hpre, hfin⟩ hD hdep KK hKK
      have hd := dSI (S := 18) (i := 12) hall (by omega) hD
      obtain ⟨hB, HF⟩ := hpre hd
      simp [Region.binds] at hdep
      have h11 : D 11 = true := by simp [hdep]
      have HE := Lib.hid (show x95 = .pointer (some ⟨w.heap.size, 1, none⟩) by obtain ⟨f0, f1, f2, f3, f4, f5, f6, f7, f8, f9, f10, f11, f12, f13, f14, f15, f16, f17⟩ := HF.out; exact f11 h11)
      obtain rfl := HE.out
      clear HE
      have c0 := (A2.nd.below hB).c1
      simp only [Act.put, List.toList_toArray, List.take_succ_cons, List.take_zero, List.drop_succ_cons, List.drop_zero, List.cons_append, List.nil_append, List.setIfInBounds_toArray, List.set_cons_zero, List.set_cons_succ]
      go_simp
      exact hKK _ _ ⟨_, _, _, _, _, _, _, _, _, _, _, _, _, _, _, _, _, _, rfl, noDI (D := D) (S := 18) hd, fun _ => ⟨hB, Lib.hid (by obtain ⟨f0, f1, f2, f3, f4, f5, f6, f7, f8, f9, f10, f11, f12, f13, f14, f15, f16, f17⟩ := HF.out; exact ⟨f0, f1, f2, f3, f4, f5, f6, f7, f8, f9, f10, fun _ => rfl, fun _ => rfl, f13, f14, f15, f16, f17⟩)⟩, noDI (D := D) (S := 18) hd⟩
    · rintro D aa wx ⟨x84, x85, x86, x87, x88, x89, x90, x91, x92, x93, x94, x95, x96, x97, x98, x99, x100, x101, rfl, hall, hpre, hfin⟩ hD hdep KK hKK
      have hd := dSI (S := 18) (i := 13) hall (by omega) hD
      obtain ⟨hB, HF⟩ := hpre hd
      simp only [Act.put, List.toList_toArray, List.take_succ_cons, List.take_zero, List.drop_succ_cons, List.drop_zero, List.cons_append, List.nil_append, List.setIfInBounds_toArray, List.set_cons_zero, List.set_cons_succ]
      go_simp
      exact hKK _ _ ⟨_, _, _, _, _, _, _, _, _, _, _, _, _, _, _, _, _, _, rfl, noDI (D := D) (S := 18) hd, fun _ => ⟨hB, Lib.hid (by obtain ⟨f0, f1, f2, f3, f4, f5, f6, f7, f8, f9, f10, f11, f12, f13, f14, f15, f16, f17⟩ := HF.out; exact ⟨f0, f1, f2, f3, f4, f5, f6, f7, f8, f9, f10, f11, f12, fun _ => rfl, f14, f15, f16, f17⟩)⟩, noDI (D := D) (S := 18) hd⟩
    · rintro D aa wx ⟨x84, x85, x86, x87, x88, x89, x90, x91, x92, x93, x94, x95, x96, x97, x98, x99, x100, x101, rfl, hall, hpre, hfin⟩ hD hdep KK hKK
      have hd := dSI (S := 18) (i := 14) hall (by omega) hD
      obtain ⟨hB, HF⟩ := hpre hd
      simp [Region.binds] at hdep
      have h13 : D 13 = true := by simp [hdep]
      have HE := Lib.hid (show x97 = .int .i64 (i : Int) by obtain ⟨f0, f1, f2, f3, f4, f5, f6, f7, f8, f9, f10, f11, f12, f13, f14, f15, f16, f17⟩ := HF.out; exact f13 h13)
      obtain rfl := HE.out
      clear HE
      simp only [Act.put, List.toList_toArray, List.take_succ_cons, List.take_zero, List.drop_succ_cons, List.drop_zero, List.cons_append, List.nil_append, List.setIfInBounds_toArray, List.set_cons_zero, List.set_cons_succ]
      go_simp
      exact hKK _ _ ⟨_, _, _, _, _, _, _, _, _, _, _, _, _, _, _, _, _, _, rfl, noDI (D := D) (S := 18) hd, fun _ => ⟨hB, Lib.hid (by obtain ⟨f0, f1, f2, f3, f4, f5, f6, f7, f8, f9, f10, f11, f12, f13, f14, f15, f16, f17⟩ := HF.out; exact ⟨f0, f1, f2, f3, f4, f5, f6, f7, f8, f9, f10, f11, f12, fun _ => rfl, fun _ => rfl, f15, f16, f17⟩)⟩, noDI (D := D) (S := 18) hd⟩
    · rintro D aa wx ⟨x84, x85, x86, x87, x88, x89, x90, x91, x92, x93, x94, x95, x96, x97, x98, x99, x100, x101, rfl, hall, hpre, hfin⟩ hD hdep KK hKK
      have hd := dSI (S := 18) (i := 15) hall (by omega) hD
      obtain ⟨hB, HF⟩ := hpre hd
      simp [Region.binds] at hdep
      have h12 : D 12 = true := by simp [hdep]
      have h14 : D 14 = true := by simp [hdep]
      have HE := Lib.hid (show x96 = .slice ka kn kc ∧ x98 = .int .i64 (y : Int) by obtain ⟨f0, f1, f2, f3, f4, f5, f6, f7, f8, f9, f10, f11, f12, f13, f14, f15, f16, f17⟩ := HF.out; exact ⟨f12 h12, f14 h14⟩)
      obtain ⟨rfl, rfl⟩ := HE.out
      clear HE
      simp only [Act.put, List.toList_toArray, List.take_succ_cons, List.take_zero, List.drop_succ_cons, List.drop_zero, List.cons_append, List.nil_append, List.setIfInBounds_toArray, List.set_cons_zero, List.set_cons_succ]
      go_simp
      exact hKK _ _ ⟨_, _, _, _, _, _, _, _, _, _, _, _, _, _, _, _, _, _, rfl, noDI (D := D) (S := 18) hd, fun _ => ⟨hB, Lib.hid (by obtain ⟨f0, f1, f2, f3, f4, f5, f6, f7, f8, f9, f10, f11, f12, f13, f14, f15, f16, f17⟩ := HF.out; exact ⟨f0, f1, f2, f3, f4, f5, f6, f7, f8, f9, f10, f11, fun _ => rfl, f13, fun _ => rfl, fun _ => rfl, f16, f17⟩)⟩, noDI (D := D) (S := 18) hd⟩
    · rintro D aa wx ⟨x84, x85, x86, x87, x88, x89, x90, x91, x92, x93, x94, x95, x96, x97, x98, x99, x100, x101, rfl, hall, hpre, hfin⟩ hD hdep KK hKK
      have hd := dSI (S := 18) (i := 16) hall (by omega) hD
      obtain ⟨hB, HF⟩ := hpre hd
      simp [Region.binds] at hdep
      have h10 : D 10 = true := by simp [hdep]
      have h15 : D 15 = true := by simp [hdep]
      have HE := Lib.hid (show x99 = .slice cb sn sc by obtain ⟨f0, f1, f2, f3, f4, f5, f6, f7, f8, f9, f10, f11, f12, f13, f14, f15, f16, f17⟩ := HF.out; exact f15 h15)
      obtain rfl := HE.out
      clear HE
      have hp1 := Lib.hid (show wx.ownsRow wk.heap.size 3 1 x94 (y + 1) (kidV (K.take y) ++ kidV [z]) by obtain ⟨f0, f1, f2, f3, f4, f5, f6, f7, f8, f9, f10, f11, f12, f13, f14, f15, f16, f17⟩ := HF.out; exact (f10 h10).2 hD)
      refine step_append_run (by rfl) (.tmp 94) (.tmp 99) 23 (by rfl) (x94) (.slice cb sn sc) (by rfl) (by rfl) (fun v' w' => w'.ownsRow wk.heap.size 3 1 v' (kp) (kidV KQ) ∧ wx.grownBy w' (Value.ownBlock (x94))) ?_ ?_
      · obtain ⟨v', w', hr, q1, q2⟩ := appK_any wx wk.heap.size x94 (y + 1) (kidV (K.take y) ++ kidV [z]) cb sn sc _ hp1.out (hcut _ (A2.kds.below hB)) hB.size (by omega)
        exact ⟨v', w', hr, by rw [hsum, hflat] at q1; exact q1, q2⟩
      rintro v' w' ⟨hown, hgr⟩
      have hb := hB.grown hgr hB.size (fun j hj => (hp1.out.lt j hj).1)
      simp only [Act.put, List.toList_toArray, List.take_succ_cons, List.take_zero, List.drop_succ_cons, List.drop_zero, List.cons_append, List.nil_append, List.setIfInBounds_toArray, List.set_cons_zero, List.set_cons_succ]
      exact hKK _ _ ⟨_, _, _, _, _, _, _, _, _, _, _, _, _, _, _, _, _, _, rfl, noDI (D := D) (S := 18) hd, fun _ => ⟨hb, Lib.hid (by obtain ⟨f0, f1, f2, f3, f4, f5, f6, f7, f8, f9, f10, f11, f12, f13, f14, f15, f16, f17⟩ := HF.out; exact ⟨f0, f1, f2, f3, f4, f5, f6, fun _ h2 => noDI (D := D) (show D 10 = false from h2) h10, f8, fun _ h2 => noDI (D := D) (show D 10 = false from h2) h10, fun h => ⟨(f10 h).1, fun h2 => by simp [upd] at h2⟩, f11, f12, f13, f14, fun _ => rfl, fun _ => ⟨h10, hown⟩, f17⟩)⟩, noDI (D := D) (S := 18) hd⟩
    · rintro D aa wx ⟨x84, x85, x86, x87, x88, x89, x90, x91, x92, x93, x94, x95, x96, x97, x98, x99, x100, x101, rfl, hall, hpre, hfin⟩ hD hdep KK hKK
      have hd := dSI (S := 18) (i := 17) hall (by omega) hD
      obtain ⟨hB, HF⟩ := hpre hd
      simp only [Act.put, List.toList_toArray, List.take_succ_cons, List.take_zero, List.drop_succ_cons, List.drop_zero, List.cons_append, List.nil_append, List.setIfInBounds_toArray, List.set_cons_zero, List.set_cons_succ]
      go_simp
      exact hKK _ _ ⟨_, _, _, _, _, _, _, _, _, _, _, _, _, _, _, _, _, _, rfl, noDI (D := D) (S := 18) hd, fun _ => ⟨hB, Lib.hid (by obtain ⟨f0, f1, f2, f3, f4, f5, f6, f7, f8, f9, f10, f11, f12, f13, f14, f15, f16, f17⟩ := HF.out; exact ⟨f0, f1, f2, f3, f4, f5, f6, f7, f8, f9, f10, f11, f12, f13, f14, f15, f16, fun _ => rfl⟩)⟩, noDI (D := D) (S := 18) hd⟩
    · rintro D aa wx ⟨x84, x85, x86, x87, x88, x89, x90, x91, x92, x93, x94, x95, x96, x97, x98, x99, x100, x101, rfl, hall, hpre, hfin⟩ hD hdep KK hKK
      obtain ⟨hB, HF⟩ := hpre hD
      obtain ⟨f0, f1, f2, f3, f4, f5, f6, f7, f8, f9, f10, f11, f12, f13, f14, f15, f16, f17⟩ := HF.out
      have hq := List.all_eq_true.1 hdep
      have hal : ∀ j, j < 18 → D j = true := by
        intro j hj
        have : j = 0 ∨ j = 1 ∨ j = 2 ∨ j = 3 ∨ j = 4 ∨ j = 5 ∨ j = 6 ∨ j = 7 ∨ j = 8 ∨ j = 9 ∨ j = 10 ∨ j = 11 ∨ j = 12 ∨ j = 13 ∨ j = 14 ∨ j = 15 ∨ j = 16 ∨ j = 17 := by omega
        rcases this with rfl | rfl | rfl | rfl | rfl | rfl | rfl | rfl | rfl | rfl | rfl | rfl | rfl | rfl | rfl | rfl | rfl | rfl
        · simpa [Region.binds] using hq ⟨0, Ground.phase⟩ (by simp)
        · simpa [Region.binds] using hq ⟨1, Ground.phase⟩ (by simp)
        · simpa [Region.binds] using hq ⟨2, Ground.phase⟩ (by simp)
        · simpa [Region.binds] using hq ⟨3, Ground.phase⟩ (by simp)
        · simpa [Region.binds] using hq ⟨4, Ground.phase⟩ (by simp)
        · simpa [Region.binds] using hq ⟨5, Ground.phase⟩ (by simp)
        · simpa [Region.binds] using hq ⟨6, Ground.phase⟩ (by simp)
        · simpa [Region.binds] using hq ⟨7, Ground.phase⟩ (by simp)
        · simpa [Region.binds] using hq ⟨8, Ground.phase⟩ (by simp)
        · simpa [Region.binds] using hq ⟨9, Ground.phase⟩ (by simp)
        · simpa [Region.binds] using hq ⟨10, Ground.phase⟩ (by simp)
        · simpa [Region.binds] using hq ⟨11, Ground.phase⟩ (by simp)
        · simpa [Region.binds] using hq ⟨12, Ground.phase⟩ (by simp)
        · simpa [Region.binds] using hq ⟨13, Ground.phase⟩ (by simp)
        · simpa [Region.binds] using hq ⟨14, Ground.phase⟩ (by simp)
        · simpa [Region.binds] using hq ⟨15, Ground.phase⟩ (by simp)
        · simpa [Region.binds] using hq ⟨16, Ground.phase⟩ (by simp)
        · simpa [Region.binds] using hq ⟨17, Ground.data⟩ (by simp)
      have e0 := f17 (hal 17 (by omega))
      have hp0 := (f16 (hal 16 (by omega))).2
      obtain ⟨ad, cp, hv, -, -⟩ := kds_of_own hp0
      rw [hv] at hp0
      have hp1 := Lib.hid hp0
      subst hv
      subst e0
      clear hp0
      have y0 := (B9.below hB).c1
      have z0 := (B9.below hB).f1
      have hB2 := Lib.hid hB
      have hal := Lib.hid hal
      clear f0 f1 f2 f3 f4 f5 f6 f7 f8 f9 f10 f11 f12 f13 f14 f15 f16 f17 hpre hfin hdep hq HF
      simp only [Act.put, List.toList_toArray, List.take_succ_cons, List.take_zero, List.drop_succ_cons, List.drop_zero, List.cons_append, List.nil_append, List.setIfInBounds_toArray, List.set_cons_zero, List.set_cons_succ]
      go_simp
      refine hKK _ _ ⟨_, _, _, _, _, _, _, _, _, _, _, _, _, _, _, _, _, _, rfl, fun _ j hj => ?_, (by intro h; cases h), fun _ => ⟨_, _, rfl, hB2.out, hp1.out⟩⟩
      show (if j = 18 then true else D j) = true
      rw [if_neg (by omega)]; exact hal.out j hj
  rintro D aa w9 ⟨x84, x85, x86, x87, x88, x89, x90, x91, x92, x93, x94, x95, x96, x97, x98, x99, x100, x101, rfl, hall, hpre, hfin⟩ hD
  obtain ⟨wx, v, rfl, hbx, hown⟩ := hfin (hD 18 (by simp))
  obtain ⟨qa, qc, rfl, hqc, hKP⟩ := kds_of_own hown
  have hfq := own_fresh hown (Nat.le_refl _)
  simp only [Act.put, List.toList_toArray, List.take_succ_cons, List.take_zero, List.drop_succ_cons, List.drop_zero, List.cons_append, List.nil_append]
  clear hall hpre hfin hD hown q1 hcut hflat hsum q2 A2
  replace H7 := (below_to H7 hbx).setCell (p := ⟨g, 1, none⟩) (by show w7.heap.size ≤ g; omega) (.slice qa kp qc)
  replace B9 := (B9.below hbx).set1 (.slice qa kp qc)
  replace hIP := (hIP.below hbx).set (o := 1) (x := .slice qa kp qc) hfp hgs
  replace hKP := hKP.set (o := 1) (x := .slice qa kp qc) hfq hgs2
  have BB := below_to BB7.out H7
  clear hbx H7 BB7 A27
  generalize wx.setCell ⟨g, 1, none⟩ (.slice qa kp qc) = wz at BB B9 hIP hKP ⊢
  have A9 : NodeAt wz g pa np pc qa kp qc P KQ := ⟨⟨B9.lt, B9.c0, B9.c1⟩, hIP, hKP⟩
  clear B9 hIP hKP hfp hfq hgs hgs2 hbs
  obtain ⟨m1, m2, m3, m4, m5, m6, m7, m8, hSP, mr, mc⟩ := branch_math (KK := KQ) hR (by omega) (by omega) (by omega) (show okKid z = true from decide_eq_true ⟨by omega, by omega⟩) hf hP (by rw [hy]; exact hKQ)
  rw [hn0, hnp] at m6
  rw [hk0, hkp] at m7
  obtain ⟨u, hu⟩ : ∃ u, sizeN false P = u := ⟨_, rfl⟩
  rw [hu] at mr mc
  have hkb2 : (kp == 0) = false := by rw [beq_eq_false_iff_ne]; omega
  have KZ := Lib.hid (fun (w : World) (h1 : Its w pa np P) => size_any (c := pc) (ka := qa) (kn := kp) (kc := qc) (b := false) h1 (by omega) hSP hkb2 u hu)
  have c0 := A9.nd.c0
  have c1 := A9.nd.c1
  go_wp2_with fail
  refine (KZ.out _ A9.its).mono ?_
  rintro e wa ⟨rfl, hb⟩
  replace A9 := A9.below hb
  replace BB := below_to BB hb
  clear hb c0 c1
  have c0 := A9.nd.c0
  have c1 := A9.nd.c1
  by_cases h480 : u ≤ 480
  case pos =>
    have hRP := mr h480
    have KC := Lib.hid (fun (w : World) (h1 : Its w pa np P) (h2 : Kds w qa kp KQ) => check_any (c := pc) (kc := qc) h1 h2 (by omega) (by omega) hSP 0 (chk_yesB hRP))
    have hd : decide ((u : Int) ≤ 480) = true := decide_eq_true (by omega)
    go_wp2_with fail
    refine (KC.out _ A9.its A9.kds).mono ?_
    rintro e wb ⟨rfl, hb⟩
    replace BB := below_to BB hb
    clear hb c0 c1
    go_wp2_with fail
    go_ret
    exact ⟨rfl, BB⟩
  have hd : decide ((u : Int) ≤ 480) = false := decide_eq_false (by omega)
  have h2p := mc (by omega)
  rw [m6] at h2p
  obtain ⟨x, hx⟩ : ∃ x, halfN false P = x := ⟨_, rfl⟩
  have hh := halfN_at false P
  rw [hx] at hh
  obtain ⟨hRa, hRb⟩ := branch_cut (by omega) m3 m4 m8 m5 (by omega) hh
  have hxn : x < np := by have := hh.1; omega
  have KU := Lib.hid (fun (w : World) (h1 : Its w pa np P) (h2 : Kds w qa kp KQ) => cutBranch_any h1 h2 (by omega) (by omega) h2p hpc hqc hSP x hx)
  unfold CutRet at KU
  obtain ⟨pk, hpk⟩ : ∃ r, kq P x = r := ⟨_, rfl⟩
  rw [hpk] at KU
  clear hh mr mc m3 m4 m5 m8
  go_wp2_with fail
  refine (KU.out _ A9.its A9.kds).mono ?_
  rintro e wb ⟨ra, xn, ra2, rb, yn, rb2, sa, un, sa2, sb, vn, sb2, rfl, -, -, hI1, hK1, hI2, hK2, hb⟩
  obtain rfl : x = xn := by rw [← hI1.1, List.length_take, m6]; omega
  obtain ⟨ym, hym⟩ : ∃ r, x + 1 = r := ⟨_, rfl⟩
  rw [hym] at hK1 hI2 hK2 hRa hRb
  obtain rfl : ym = yn := by rw [← hK1.1, List.length_take, m7]; omega
  replace A9 := A9.below hb
  replace BB := below_to BB hb
  clear hb c0 c1 KU
  go_upto_region 16 with (fail)
  have hun : un + ym = np := by have := hI2.1; rw [List.length_drop, m6] at this; omega
  have hvn : ym + vn = kp := by have := hK2.1; rw [List.length_drop, m7] at this; omega
  have hb := below_to (new_below wb (.cells #[.slice ra x ra2, .slice rb ym rb2] 31)) (new_below _ (.cells #[.slice sa un sa2, .slice sb vn sb2] 31))
  have A13 := (NodeAt.new (c := ra2) (kc := rb2) hI1 hK1 31).below (new_below _ (.cells #[.slice sa un sa2, .slice sb vn sb2] 31))
  have A15 := NodeAt.new (w := wb.alloc (.cells #[.slice ra x ra2, .slice rb ym rb2] 31)) (c := sa2) (kc := sb2) (hI2.below (new_below _ _)) (hK2.below (new_below _ _)) 31
  have hs : (wb.alloc (.cells #[.slice ra x ra2, .slice rb ym rb2] 31)).heap.size = wb.heap.size + 1 := by simp
  rw [hs] at A15
  replace A9 := A9.below hb
  replace BB := below_to BB hb
  clear hb hs hI1 hK1 hI2 hK2
  generalize (wb.alloc (.cells #[.slice ra x ra2, .slice rb ym rb2] 31)).alloc (.cells #[.slice sa un sa2, .slice sb vn sb2] 31) = wc at A9 A13 A15 BB ⊢
  generalize wb.heap.size = g1 at A13 A15 ⊢
  have hSa : Short (P.take x) := fun y hy => hSP y (List.mem_of_mem_take hy)
  have hSb : Short (P.drop ym) := fun y hy => hSP y (List.mem_of_mem_drop hy)
  have KA := Lib.hid (fun (w : World) (h1 : Its w ra x (P.take x)) (h2 : Kds w rb ym (KQ.take ym)) => check_any (c := ra2) (kc := rb2) h1 h2 (by omega) (by omega) hSa 0 (chk_yesB hRa))
  have KB := Lib.hid (fun (w : World) (h1 : Its w sa un (P.drop ym)) (h2 : Kds w sb vn (KQ.drop ym)) => check_any (c := sa2) (kc := sb2) h1 h2 (by omega) (by omega) hSb 0 (chk_yesB hRb))
  have c0 := A13.nd.c0
  have c1 := A13.nd.c1
  go_wp2_with fail
  refine (KA.out _ A13.its A13.kds).mono ?_
  rintro e wd ⟨rfl, hb⟩
  replace A9 := A9.below hb
  replace A13 := A13.below hb
  replace A15 := A15.below hb
  replace BB := below_to BB hb
  clear hb c0 c1 KA
  have c0 := A15.nd.c0
  have c1 := A15.nd.c1
  go_wp2_with fail
  refine (KB.out _ A15.its A15.kds).mono ?_
  rintro e we ⟨rfl, hb⟩
  replace A9 := A9.below hb
  replace A13 := A13.below hb
  replace A15 := A15.below hb
  replace BB := below_to BB hb
  clear hb c0 c1 KB
  obtain ⟨bp, op, hpa, hbp, ep, -⟩ := A9.its.at hxn
  subst hpa
  rw [hpk] at ep
  have c0 := A9.nd.c0
  have c1 := A9.nd.c1
  have d0 := A13.nd.c0
  have d1 := A13.nd.c1
  have d2 := A15.nd.c1
  have q1 : IntKind.i64.wrap ((ym : Int) + (vn : Int)) = (kp : Int) := by rw [show (ym : Int) + (vn : Int) = (kp : Int) by omega]; exact IntWalk.i64_in _ (by omega)
  have hd6 : decide ((np : Int) ≤ (x : Int)) = false := decide_eq_false (by omega)
  have hd6n : decide (np ≤ x) = false := decide_eq_false (by omega)
  have hsum : ym + vn = kp := hvn
  have hflat : kidV (KQ.take ym) ++ kidV (KQ.drop ym) = kidV KQ := by unfold kidV; rw [← List.map_append, List.take_append_drop]
  clear hpk hym
  go_upto_region 18 with (fail)
  clear c0 c1 d0 d1 d2 q1 hd6
  refine wp_region_inv0 (Inv18 we g1 (g1 + 1) rb ym rb2 sb vn sb2 kp (KQ.take ym) KQ) (by kernel_rfl) (by decide) ?_ ?_ ?_
  · exact ⟨undef, undef, undef, undef, undef, undef, undef, undef, undef, rfl, (Below.refl _ _).drew, Lib.hid ⟨(by intro h; cases h), (by intro h; cases h), (by intro h; cases h), (by intro h; cases h), (by intro h; cases h), (by intro h; cases h), (by intro h; cases h), (by intro h; cases h), (by intro h; cases h)⟩⟩
  · refine AllI.cons ?_ (AllI.cons ?_ (AllI.cons ?_ (AllI.cons ?_ (AllI.cons ?_ (AllI.cons ?_ (AllI.cons ?_ (AllI.cons ?_ (AllI.cons ?_ AllI.nil))))))))
    · rintro D aa wx ⟨x156, x157, x158, x159, x160, x161, x162, x163, x164, rfl, hB, HF⟩ hD hdep KK hKK
      simp only [Act.put, List.toList_toArray, List.take_succ_cons, List.take_zero, List.drop_succ_cons, List.drop_zero, List.cons_append, List.nil_append, List.setIfInBounds_toArray, List.set_cons_zero, List.set_cons_succ]
      go_simp
      have hb := new_below wx (.cells #[] 3)
      exact hKK _ _ ⟨_, _, _, _, _, _, _, _, _, rfl, below_to hB hb, Lib.hid (by obtain ⟨f0, f1, f2, f3, f4, f5, f6, f7, f8⟩ := HF.out; exact ⟨fun _ _ => own_full wx #[] 0 1 _ 3 hB.size (Nat.zero_le _) rfl, f1, f2, fun h => ⟨rfl, fun h2 => own_below ((f3 h).2 h2) hb⟩, f4, f5, fun h => ⟨(f6 h).1, own_below (f6 h).2 hb⟩, f7, f8⟩)⟩
    · rintro D aa wx ⟨x156, x157, x158, x159, x160, x161, x162, x163, x164, rfl, hB, HF⟩ hD hdep KK hKK
      simp only [Act.put, List.toList_toArray, List.take_succ_cons, List.take_zero, List.drop_succ_cons, List.drop_zero, List.cons_append, List.nil_append, List.setIfInBounds_toArray, List.set_cons_zero, List.set_cons_succ]
      go_simp
      exact hKK _ _ ⟨_, _, _, _, _, _, _, _, _, rfl, hB, Lib.hid (by obtain ⟨f0, f1, f2, f3, f4, f5, f6, f7, f8⟩ := HF.out; exact ⟨f0, fun _ => rfl, f2, f3, f4, f5, f6, f7, f8⟩)⟩
    · rintro D aa wx ⟨x156, x157, x158, x159, x160, x161, x162, x163, x164, rfl, hB, HF⟩ hD hdep KK hKK
      simp [Region.binds] at hdep
      have h1 : D 1 = true := by simp [hdep]
      have HE := Lib.hid (show x157 = .pointer (some ⟨g1, 1, none⟩) by obtain ⟨f0, f1, f2, f3, f4, f5, f6, f7, f8⟩ := HF.out; exact f1 h1)
      obtain rfl := HE.out
      clear HE
      have c0 := (A13.nd.below hB).c1
      simp only [Act.put, List.toList_toArray, List.take_succ_cons, List.take_zero, List.drop_succ_cons, List.drop_zero, List.cons_append, List.nil_append, List.setIfInBounds_toArray, List.set_cons_zero, List.set_cons_succ]
      go_simp
      exact hKK _ _ ⟨_, _, _, _, _, _, _, _, _, rfl, hB, Lib.hid (by obtain ⟨f0, f1, f2, f3, f4, f5, f6, f7, f8⟩ := HF.out; exact ⟨f0, fun _ => rfl, fun _ => rfl, f3, f4, f5, f6, f7, f8⟩)⟩
    · rintro D aa wx ⟨x156, x157, x158, x159, x160, x161, x162, x163, x164, rfl, hB, HF⟩ hD hdep KK hKK
      simp [Region.binds] at hdep
      have h0 : D 0 = true := by simp [hdep]
      have h2 : D 2 = true := by simp [hdep]
      have HE := Lib.hid (show x158 = .slice rb ym rb2 by obtain ⟨f0, f1, f2, f3, f4, f5, f6, f7, f8⟩ := HF.out; exact f2 h2)
      obtain rfl := HE.out
      clear HE
      have hp1 := Lib.hid (show wx.ownsRow we.heap.size 3 1 x156 0 [] by obtain ⟨f0, f1, f2, f3, f4, f5, f6, f7, f8⟩ := HF.out; exact f0 h0 hD)
      refine step_append_run (by rfl) (.tmp 156) (.tmp 158) 23 (by rfl) x156 (.slice rb ym rb2) (by rfl) (by rfl) (fun v' w' => w'.ownsRow we.heap.size 3 1 v' ym (kidV (KQ.take ym)) ∧ wx.grownBy w' (Value.ownBlock x156)) ?_ ?_
      · obtain ⟨v', w', hr, q1, q2⟩ := appK_any wx we.heap.size x156 0 [] rb ym rb2 (KQ.take ym) hp1.out (A13.kds.below hB) hB.size (by omega)
        exact ⟨v', w', hr, by simpa using q1, q2⟩
      rintro v' w' ⟨hown, hgr⟩
      have hb := hB.grown hgr hB.size (fun j hj => (hp1.out.lt j hj).1)
      simp only [Act.put, List.toList_toArray, List.take_succ_cons, List.take_zero, List.drop_succ_cons, List.drop_zero, List.cons_append, List.nil_append, List.setIfInBounds_toArray, List.set_cons_zero, List.set_cons_succ]
      exact hKK _ _ ⟨_, _, _, _, _, _, _, _, _, rfl, hb, Lib.hid (by obtain ⟨f0, f1, f2, f3, f4, f5, f6, f7, f8⟩ := HF.out; exact ⟨fun _ h2 => by simp [upd] at h2, f1, fun _ => rfl, fun _ => ⟨h0, fun _ => hown⟩, f4, f5, fun h => noDI (D := D) hD (f6 h).1, f7, f8⟩)⟩
    · rintro D aa wx ⟨x156, x157, x158, x159, x160, x161, x162, x163, x164, rfl, hB, HF⟩ hD hdep KK hKK
      simp only [Act.put, List.toList_toArray, List.take_succ_cons, List.take_zero, List.drop_succ_cons, List.drop_zero, List.cons_append, List.nil_append, List.setIfInBounds_toArray, List.set_cons_zero, List.set_cons_succ]
      go_simp
      exact hKK _ _ ⟨_, _, _, _, _, _, _, _, _, rfl, hB, Lib.hid (by obtain ⟨f0, f1, f2, f3, f4, f5, f6, f7, f8⟩ := HF.out; exact ⟨f0, f1, f2, f3, fun _ => rfl, f5, f6, f7, f8⟩)⟩
    · rintro D aa wx ⟨x156, x157, x158, x159, x160, x161, x162, x163, x164, rfl, hB, HF⟩ hD hdep KK hKK
      simp [Region.binds] at hdep
      have h4 : D 4 = true := by simp [hdep]
      have HE := Lib.hid (show x160 = .pointer (some ⟨(g1 + 1), 1, none⟩) by obtain ⟨f0, f1, f2, f3, f4, f5, f6, f7, f8⟩ := HF.out; exact f4 h4)
      obtain rfl := HE.out
      clear HE
      have c0 := (A15.nd.below hB).c1
      simp only [Act.put, List.toList_toArray, List.take_succ_cons, List.take_zero, List.drop_succ_cons, List.drop_zero, List.cons_append, List.nil_append, List.setIfInBounds_toArray, List.set_cons_zero, List.set_cons_succ]
      go_simp
      exact hKK _ _ ⟨_, _, _, _, _, _, _, _, _, rfl, hB, Lib.hid (by obtain ⟨f0, f1, f2, f3, f4, f5, f6, f7, f8⟩ := HF.out; exact ⟨f0, f1, f2, f3, fun _ => rfl, fun _ => rfl, f6, f7, f8⟩)⟩
    · rintro D aa wx ⟨x156, x157, x158, x159, x160, x161, x162, x163, x164, rfl, hB, HF⟩ hD hdep KK hKK
      simp [Region.binds] at hdep
      have h3 : D 3 = true := by simp [hdep]
      have h5 : D 5 = true := by simp [hdep]
      have HE := Lib.hid (show x161 = .slice sb vn sb2 by obtain ⟨f0, f1, f2, f3, f4, f5, f6, f7, f8⟩ := HF.out; exact f5 h5)
      obtain rfl := HE.out
      clear HE
      have hp1 := Lib.hid (show wx.ownsRow we.heap.size 3 1 x159 ym (kidV (KQ.take ym)) by obtain ⟨f0, f1, f2, f3, f4, f5, f6, f7, f8⟩ := HF.out; exact (f3 h3).2 hD)
      refine step_append_run (by rfl) (.tmp 159) (.tmp 161) 23 (by rfl) x159 (.slice sb vn sb2) (by rfl) (by rfl) (fun v' w' => w'.ownsRow we.heap.size 3 1 v' kp (kidV KQ) ∧ wx.grownBy w' (Value.ownBlock x159)) ?_ ?_
      · obtain ⟨v', w', hr, q1, q2⟩ := appK_any wx we.heap.size x159 ym (kidV (KQ.take ym)) sb vn sb2 (KQ.drop ym) hp1.out (A15.kds.below hB) hB.size (by omega)
        exact ⟨v', w', hr, by rw [hsum, hflat] at q1; exact q1, q2⟩
      rintro v' w' ⟨hown, hgr⟩
      have hb := hB.grown hgr hB.size (fun j hj => (hp1.out.lt j hj).1)
      simp only [Act.put, List.toList_toArray, List.take_succ_cons, List.take_zero, List.drop_succ_cons, List.drop_zero, List.cons_append, List.nil_append, List.setIfInBounds_toArray, List.set_cons_zero, List.set_cons_succ]
      exact hKK _ _ ⟨_, _, _, _, _, _, _, _, _, rfl, hb, Lib.hid (by obtain ⟨f0, f1, f2, f3, f4, f5, f6, f7, f8⟩ := HF.out; exact ⟨fun _ h2 => noDI (D := D) (show D 3 = false from h2) h3, f1, f2, fun h => ⟨(f3 h).1, fun h2 => by simp [upd] at h2⟩, f4, fun _ => rfl, fun _ => ⟨h3, hown⟩, f7, f8⟩)⟩
    · rintro D aa wx ⟨x156, x157, x158, x159, x160, x161, x162, x163, x164, rfl, hB, HF⟩ hD hdep KK hKK
      simp [Region.binds] at hdep
      have h6 : D 6 = true := by simp [hdep]
      obtain ⟨ad, cp, hv, -, -⟩ := kds_of_own (show wx.ownsRow we.heap.size 3 1 x162 kp (kidV KQ) by obtain ⟨f0, f1, f2, f3, f4, f5, f6, f7, f8⟩ := HF.out; exact (f6 h6).2)
      subst hv
      simp only [Act.put, List.toList_toArray, List.take_succ_cons, List.take_zero, List.drop_succ_cons, List.drop_zero, List.cons_append, List.nil_append, List.setIfInBounds_toArray, List.set_cons_zero, List.set_cons_succ]
      go_simp
      exact hKK _ _ ⟨_, _, _, _, _, _, _, _, _, rfl, hB, Lib.hid (by obtain ⟨f0, f1, f2, f3, f4, f5, f6, f7, f8⟩ := HF.out; exact ⟨f0, f1, f2, f3, f4, f5, f6, fun _ => rfl, f8⟩)⟩
    · rintro D aa wx ⟨x156, x157, x158, x159, x160, x161, x162, x163, x164, rfl, hB, HF⟩ hD hdep KK hKK
      simp only [Act.put, List.toList_toArray, List.take_succ_cons, List.take_zero, List.drop_succ_cons, List.drop_zero, List.cons_append, List.nil_append, List.setIfInBounds_toArray, List.set_cons_zero, List.set_cons_succ]
      go_simp
      exact hKK _ _ ⟨_, _, _, _, _, _, _, _, _, rfl, hB, Lib.hid (by obtain ⟨f0, f1, f2, f3, f4, f5, f6, f7, f8⟩ := HF.out; exact ⟨f0, f1, f2, f3, f4, f5, f6, f7, fun _ => rfl⟩)⟩
  rintro D aa wf ⟨x156, x157, x158, x159, x160, x161, x162, x163, x164, rfl, hb, HF⟩ hD
  obtain ⟨e7, e8, ⟨-, hown⟩⟩ : x163 = .int .i64 (kp : Int) ∧ x164 = .int .i64 0 ∧ (D 3 = true ∧ wf.ownsRow we.heap.size 3 1 x162 kp (kidV KQ)) := by obtain ⟨f0, f1, f2, f3, f4, f5, f6, f7, f8⟩ := HF.out; exact ⟨f7 (hD 7 (by simp)), f8 (hD 8 (by simp)), f6 (hD 6 (by simp))⟩
  subst e7 e8
  obtain ⟨la, lc, rfl, -, hKL⟩ := kds_of_own hown
  simp only [Act.put, List.toList_toArray, List.take_succ_cons, List.take_zero, List.drop_succ_cons, List.drop_zero, List.cons_append, List.nil_append]
  clear HF hD hown
  replace A9 := A9.below hb
  replace BB := below_to BB hb
  clear hb A13 A15 hsum hflat ep
  have HK1 := Lib.hid A9.kds
  have HK2 := Lib.hid hKL
  have c1 := A9.nd.c1
  clear hKL
  go_wp2_with fail
  go_loop [164] (fun i => ∃ (k : Nat), k ≤ kp ∧ i = .int .i64 (k : Int)) (fun i => kp - (intOf i).toNat)
  case atStart => exact ⟨0, by omega, rfl⟩
  case round =>
    obtain ⟨k, hk, rfl⟩ := hrel
    by_cases hlt : k < kp
    · obtain ⟨b1, o1, rfl, hb1, e1⟩ := HK1.out.at hlt
      obtain ⟨b2, o2, rfl, hb2, e2⟩ := HK2.out.at hlt
      obtain ⟨zz, hzz⟩ : ∃ zz, KQ.getD k 0 = zz := ⟨_, rfl⟩
      rw [hzz] at e1 e2
      clear hzz
      go_wp2_with fail
      go_round
      case rel => exact ⟨k + 1, by omega, by go_num⟩
      case measure => simp [intOf]; omega
    · obtain rfl : k = kp := by omega
      go_wp2_with fail
      go_ret
      exact ⟨rfl, BB⟩
end
end Go.Proofs.Ytnjpijihjifkfaa
