/- Contract: the reference's place. -/
import Derived.Test.YtnjpijihjifkfaaU2
import Derived.Test.YtnjpijihjifkfaaTM
namespace Go.Proofs.Ytnjpijihjifkfaa
open Go.RowKit
set_option linter.unusedVariables false
set_option linter.unusedSimpArgs false
theorem noDI {D : Nat → Bool} {S : Nat} (h : D S = false) {p : Prop} : D S = true → p := fun e => by rw [h] at e; cases e
theorem dSI {D : Nat → Bool} {S i : Nat} (H : D S = true → ∀ j, j < S → D j = true) (hi : i < S) (h : D i = false) : D S = false := by
  cases e : D S with
  | false => rfl
  | true => have := H e i hi; rw [h] at this; cases this
def InvPl (W1 : World) (h : Nat) (a : Option Addr) (n : Nat) (c : Nat) (ka : Option Addr) (kn : Nat) (kc : Nat) (k : Nat) (u : Nat) (U : Nat) (d : Bool) (a0 : Act) (D : Nat → Bool) (act : Act) (w : World) : Prop :=
  ∃ x14 x15 x16 x17 x18 x19 x20 x21 x22 x23 x24 x25 x26, act = ⟨(a0.tmps.toList.take 14 ++ x14 :: x15 :: x16 :: x17 :: x18 :: x19 :: x20 :: x21 :: x22 :: x23 :: x24 :: x25 :: x26 :: a0.tmps.toList.drop 27).toArray, []⟩ ∧ Below W1.heap.size W1 w ∧ Hid ((D 0 = true → x14 = .agg #[.slice a n c, .slice ka kn kc]) ∧ (D 1 = true → x15 = .int .i64 (k : Int)) ∧ (D 2 = true → x16 = .int .i64 (u : Int)) ∧ (D 3 = true → x17 = .agg #[.slice a n c, .slice ka kn kc]) ∧ (D 4 = true → x18 = .int .i64 (k : Int)) ∧ (D 5 = true → x19 = .int .i64 (u : Int)) ∧ (D 6 = true → x20 = .int .i64 ((u : Int) + (u : Int))) ∧ (D 7 = true → x21 = .agg #[.slice a n c, .slice ka kn kc]) ∧ (D 8 = true → x22 = .pointer (some ⟨h, 0, none⟩)) ∧ (D 9 = true → x23 = .slice a n c) ∧ (D 10 = true → x24 = .int .i64 (n : Int)) ∧ (D 11 = true → x25 = .int .i64 (U : Int)) ∧ (D 12 = true → x26 = .bool d))
theorem half_one {b : Bool} {I : List It} {x y : Nat} (h : HalfAt b I x) (h2 : HalfAt b I y) : x = y := by
  rcases Nat.lt_trichotomy x y with h1 | h1 | h1
  · have a := h2.2.1 x h1
    have b := h.2.2 (by have := h2.1; omega)
    omega
  · exact h1
  · have a := h.2.1 y h1
    have b := h2.2.2 (by have := h.1; omega)
    omega
section
variable {w : World} {a : Option Addr} {n c : Nat} {ka : Option Addr} {kn kc : Nat} {I : List It} {b : Bool}
set_option maxRecDepth 100000 in
set_option maxHeartbeats 4000000 in
theorem place_any (f m x : Nat) (hI : Its w a n I) (hn : n ≤ 4096) (hS : Short I) (hb : (kn == 0) = b) (hm : m + 1 = n) (hf : f ≤ m) (h0 : ∀ j, j < f → 2 * bytesN b (I.take j) < bytesN b I) (hx : halfN b I = x) :
    Calls Try.prog 48 #[.agg #[.slice a n c, .slice ka kn kc], .int .i64 (f : Int), .int .i64 (m : Int)] w fun e w' => e = .returned (.int .i64 (x : Int)) ∧ Below w.heap.size w w' := by
  have hh := halfN_at b I
  rw [hx] at hh
  have HH := Lib.hid hh
  have HL := Lib.hid hI.1
  have hbd := bytes_small (b := b) hS (by rw [hI.1]; exact hn)
  have hbA := hbd I.length
  rw [List.take_length] at hbA
  obtain ⟨U, hU⟩ : ∃ U, bytesN b I = U := ⟨_, rfl⟩
  rw [hU] at hbA h0
  have HU := Lib.hid hU
  have KA0 := Lib.hid (fun (w1 : World) (B : Below w.heap.size w w1) => weights_any (c := c) (ka := ka) (kn := kn) (kc := kc) n (hI.below B) hn hS hb (Nat.le_refl _) U (by rw [List.take_of_length_le (by rw [hI.1]; exact Nat.le_refl _)]; exact hU))
  have KW0 := Lib.hid (fun (k u : Nat) (hk : k ≤ n) (hu : bytesN b (I.take k) = u) (w1 : World) (B : Below w.heap.size w w1) => weights_any (c := c) (ka := ka) (kn := kn) (kc := kc) k (hI.below B) hn hS hb hk u hu)
  have HBD := Lib.hid hbd
  have H0 := Lib.hid h0
  have HN := Lib.hid (Nd.new w a n c ka kn kc 25)
  have HB0 := Lib.hid (new_below w (.cells #[.slice a n c, .slice ka kn kc] 25))
  clear hh hI hS hb hx hbd hU h0
  go_enter Try.func48, Try.ntmps48
  go_wp2_with fail
  go_loopw [7] (fun i wx => ∃ (k : Nat), f ≤ k ∧ k ≤ m ∧ Hid (∀ j, j < k → 2 * bytesN b (I.take j) < U) ∧ Nd wx w.heap.size a n c ka kn kc ∧ Below w.heap.size w wx ∧ i = .int .i64 (k : Int)) (fun i _ => m - (intOf i).toNat)
  case atStart => exact ⟨f, Nat.le_refl _, hf, Lib.hid H0.out, HN.out, HB0.out, rfl⟩
  case round =>
    obtain ⟨k, hfk, hk, HJ, hN, hB0, rfl⟩ := hrel
    by_cases hlt : k < m
    · obtain ⟨u, hu⟩ : ∃ u, bytesN b (I.take k) = u := ⟨_, rfl⟩
      have hub := HBD.out k
      rw [hu] at hub
      have HUU := Lib.hid hu
      have KW := Lib.hid (fun (w1 : World) (B : Below wr.heap.size wr w1) => KW0.out k u (by omega) hu w1 (below_to hB0 B))
      have KA := Lib.hid (fun (w1 : World) (B : Below wr.heap.size wr w1) => KA0.out w1 (below_to hB0 B))
      have q1 : IntKind.i64.wrap ((u : Int) + (u : Int)) = (u : Int) + (u : Int) := IntWalk.i64_in _ (by omega)
      obtain ⟨d, hd⟩ : ∃ d, decide ((U : Int) ≤ (u : Int) + (u : Int)) = d := ⟨_, rfl⟩
      have HD := Lib.hid hd
      have hltI : (k : Int) < (m : Int) := by omega
      clear hu
      go_upto_region 4 with (fail)
      refine wp_region_inv0 (InvPl wr w.heap.size a n c ka kn kc k u U d) (by kernel_rfl) (by decide) ?_ ?_ ?_
      · exact ⟨_, _, _, _, _, _, _, _, _, _, _, _, _, rfl, (Below.refl _ _).drew, Lib.hid ⟨(by intro h; cases h), (by intro h; cases h), (by intro h; cases h), (by intro h; cases h), (by intro h; cases h), (by intro h; cases h), (by intro h; cases h), (by intro h; cases h), (by intro h; cases h), (by intro h; cases h), (by intro h; cases h), (by intro h; cases h), (by intro h; cases h)⟩⟩
      · refine AllI.cons ?_ (AllI.cons ?_ (AllI.cons ?_ (AllI.cons ?_ (AllI.cons ?_ (AllI.cons ?_ (AllI.cons ?_ (AllI.cons ?_ (AllI.cons ?_ (AllI.cons ?_ (AllI.cons ?_ (AllI.cons ?_ (AllI.cons ?_ AllI.nil))))))))))))
        · rintro D aa wx ⟨x14, x15, x16, x17, x18, x19, x20, x21, x22, x23, x24, x25, x26, rfl, hB, HF⟩ hD hdep KK hKK
          have c0 := (hN.below hB).c0
          have c1 := (hN.below hB).c1
          simp only [Act.put, List.toList_toArray, List.take_succ_cons, List.take_zero, List.drop_succ_cons, List.drop_zero, List.cons_append, List.nil_append, List.setIfInBounds_toArray, List.set_cons_zero, List.set_cons_succ]
          go_simp
          exact hKK _ _ ⟨_, _, _, _, _, _, _, _, _, _, _, _, _, rfl, hB, Lib.hid (by obtain ⟨f0, f1, f2, f3, f4, f5, f6, f7, f8, f9, f10, f11, f12⟩ := HF.out; exact ⟨fun _ => rfl, f1, f2, f3, f4, f5, f6, f7, f8, f9, f10, f11, f12⟩)⟩
        · rintro D aa wx ⟨x14, x15, x16, x17, x18, x19, x20, x21, x22, x23, x24, x25, x26, rfl, hB, HF⟩ hD hdep KK hKK
          simp only [Act.put, List.toList_toArray, List.take_succ_cons, List.take_zero, List.drop_succ_cons, List.drop_zero, List.cons_append, List.nil_append, List.setIfInBounds_toArray, List.set_cons_zero, List.set_cons_succ]
          go_simp
          exact hKK _ _ ⟨_, _, _, _, _, _, _, _, _, _, _, _, _, rfl, hB, Lib.hid (by obtain ⟨f0, f1, f2, f3, f4, f5, f6, f7, f8, f9, f10, f11, f12⟩ := HF.out; exact ⟨f0, fun _ => rfl, f2, f3, f4, f5, f6, f7, f8, f9, f10, f11, f12⟩)⟩
        · rintro D aa wx ⟨x14, x15, x16, x17, x18, x19, x20, x21, x22, x23, x24, x25, x26, rfl, hB, HF⟩ hD hdep KK hKK
          simp [Region.binds] at hdep
          have h0 : D 0 = true := by simp [hdep]
          have h1 : D 1 = true := by simp [hdep]
          have HE := Lib.hid (show x14 = .agg #[.slice a n c, .slice ka kn kc] ∧ x15 = .int .i64 (k : Int) by obtain ⟨f0, f1, f2, f3, f4, f5, f6, f7, f8, f9, f10, f11, f12⟩ := HF.out; exact ⟨f0 h0, f1 h1⟩)
          obtain ⟨rfl, rfl⟩ := HE.out
          clear HE
          simp only [Act.put, List.toList_toArray, List.take_succ_cons, List.take_zero, List.drop_succ_cons, List.drop_zero, List.cons_append, List.nil_append, List.setIfInBounds_toArray, List.set_cons_zero, List.set_cons_succ]
          go_simp
          refine (KW.out _ hB).mono ?_
          rintro e w5 ⟨rfl, hb⟩
          exact hKK _ _ ⟨_, _, _, _, _, _, _, _, _, _, _, _, _, rfl, below_to hB hb, Lib.hid (by obtain ⟨f0, f1, f2, f3, f4, f5, f6, f7, f8, f9, f10, f11, f12⟩ := HF.out; exact ⟨fun _ => rfl, fun _ => rfl, fun _ => rfl, f3, f4, f5, f6, f7, f8, f9, f10, f11, f12⟩)⟩
        · rintro D aa wx ⟨x14, x15, x16, x17, x18, x19, x20, x21, x22, x23, x24, x25, x26, rfl, hB, HF⟩ hD hdep KK hKK
          have c0 := (hN.below hB).c0
          have c1 := (hN.below hB).c1
          simp only [Act.put, List.toList_toArray, List.take_succ_cons, List.take_zero, List.drop_succ_cons, List.drop_zero, List.cons_append, List.nil_append, List.setIfInBounds_toArray, List.set_cons_zero, List.set_cons_succ]
          go_simp
          exact hKK _ _ ⟨_, _, _, _, _, _, _, _, _, _, _, _, _, rfl, hB, Lib.hid (by obtain ⟨f0, f1, f2, f3, f4, f5, f6, f7, f8, f9, f10, f11, f12⟩ := HF.out; exact ⟨f0, f1, f2, fun _ => rfl, f4, f5, f6, f7, f8, f9, f10, f11, f12⟩)⟩
        · rintro D aa wx ⟨x14, x15, x16, x17, x18, x19, x20, x21, x22, x23, x24, x25, x26, rfl, hB, HF⟩ hD hdep KK hKK
          simp only [Act.put, List.toList_toArray, List.take_succ_cons, List.take_zero, List.drop_succ_cons, List.drop_zero, List.cons_append, List.nil_append, List.setIfInBounds_toArray, List.set_cons_zero, List.set_cons_succ]
          go_simp
          exact hKK _ _ ⟨_, _, _, _, _, _, _, _, _, _, _, _, _, rfl, hB, Lib.hid (by obtain ⟨f0, f1, f2, f3, f4, f5, f6, f7, f8, f9, f10, f11, f12⟩ := HF.out; exact ⟨f0, f1, f2, f3, fun _ => rfl, f5, f6, f7, f8, f9, f10, f11, f12⟩)⟩
        · rintro D aa wx ⟨x14, x15, x16, x17, x18, x19, x20, x21, x22, x23, x24, x25, x26, rfl, hB, HF⟩ hD hdep KK hKK
          simp [Region.binds] at hdep
          have h3 : D 3 = true := by simp [hdep]
          have h4 : D 4 = true := by simp [hdep]
          have HE := Lib.hid (show x17 = .agg #[.slice a n c, .slice ka kn kc] ∧ x18 = .int .i64 (k : Int) by obtain ⟨f0, f1, f2, f3, f4, f5, f6, f7, f8, f9, f10, f11, f12⟩ := HF.out; exact ⟨f3 h3, f4 h4⟩)
          obtain ⟨rfl, rfl⟩ := HE.out
          clear HE
          simp only [Act.put, List.toList_toArray, List.take_succ_cons, List.take_zero, List.drop_succ_cons, List.drop_zero, List.cons_append, List.nil_append, List.setIfInBounds_toArray, List.set_cons_zero, List.set_cons_succ]
          go_simp
          refine (KW.out _ hB).mono ?_
          rintro e w5 ⟨rfl, hb⟩
          exact hKK _ _ ⟨_, _, _, _, _, _, _, _, _, _, _, _, _, rfl, below_to hB hb, Lib.hid (by obtain ⟨f0, f1, f2, f3, f4, f5, f6, f7, f8, f9, f10, f11, f12⟩ := HF.out; exact ⟨f0, f1, f2, fun _ => rfl, fun _ => rfl, fun _ => rfl, f6, f7, f8, f9, f10, f11, f12⟩)⟩
        · rintro D aa wx ⟨x14, x15, x16, x17, x18, x19, x20, x21, x22, x23, x24, x25, x26, rfl, hB, HF⟩ hD hdep KK hKK
          simp [Region.binds] at hdep
          have h2 : D 2 = true := by simp [hdep]
          have h5 : D 5 = true := by simp [hdep]
          have HE := Lib.hid (show x16 = .int .i64 (u : Int) ∧ x19 = .int .i64 (u : Int) by obtain ⟨f0, f1, f2, f3, f4, f5, f6, f7, f8, f9, f10, f11, f12⟩ := HF.out; exact ⟨f2 h2, f5 h5⟩)
          obtain ⟨rfl, rfl⟩ := HE.out
          clear HE
          simp only [Act.put, List.toList_toArray, List.take_succ_cons, List.take_zero, List.drop_succ_cons, List.drop_zero, List.cons_append, List.nil_append, List.setIfInBounds_toArray, List.set_cons_zero, List.set_cons_succ]
          go_simp
          exact hKK _ _ ⟨_, _, _, _, _, _, _, _, _, _, _, _, _, rfl, hB, Lib.hid (by obtain ⟨f0, f1, f2, f3, f4, f5, f6, f7, f8, f9, f10, f11, f12⟩ := HF.out; exact ⟨f0, f1, fun _ => rfl, f3, f4, fun _ => rfl, fun _ => rfl, f7, f8, f9, f10, f11, f12⟩)⟩
        · rintro D aa wx ⟨x14, x15, x16, x17, x18, x19, x20, x21, x22, x23, x24, x25, x26, rfl, hB, HF⟩ hD hdep KK hKK
          have c0 := (hN.below hB).c0
          have c1 := (hN.below hB).c1
          simp only [Act.put, List.toList_toArray, List.take_succ_cons, List.take_zero, List.drop_succ_cons, List.drop_zero, List.cons_append, List.nil_append, List.setIfInBounds_toArray, List.set_cons_zero, List.set_cons_succ]
          go_simp
          exact hKK _ _ ⟨_, _, _, _, _, _, _, _, _, _, _, _, _, rfl, hB, Lib.hid (by obtain ⟨f0, f1, f2, f3, f4, f5, f6, f7, f8, f9, f10, f11, f12⟩ := HF.out; exact ⟨f0, f1, f2, f3, f4, f5, f6, fun _ => rfl, f8, f9, f10, f11, f12⟩)⟩
        · rintro D aa wx ⟨x14, x15, x16, x17, x18, x19, x20, x21, x22, x23, x24, x25, x26, rfl, hB, HF⟩ hD hdep KK hKK
          simp only [Act.put, List.toList_toArray, List.take_succ_cons, List.take_zero, List.drop_succ_cons, List.drop_zero, List.cons_append, List.nil_append, List.setIfInBounds_toArray, List.set_cons_zero, List.set_cons_succ]
          go_simp
          exact hKK _ _ ⟨_, _, _, _, _, _, _, _, _, _, _, _, _, rfl, hB, Lib.hid (by obtain ⟨f0, f1, f2, f3, f4, f5, f6, f7, f8, f9, f10, f11, f12⟩ := HF.out; exact ⟨f0, f1, f2, f3, f4, f5, f6, f7, fun _ => rfl, f9, f10, f11, f12⟩)⟩
        · rintro D aa wx ⟨x14, x15, x16, x17, x18, x19, x20, x21, x22, x23, x24, x25, x26, rfl, hB, HF⟩ hD hdep KK hKK
          simp [Region.binds] at hdep
          have h8 : D 8 = true := by simp [hdep]
          have HE := Lib.hid (show x22 = .pointer (some ⟨w.heap.size, 0, none⟩) by obtain ⟨f0, f1, f2, f3, f4, f5, f6, f7, f8, f9, f10, f11, f12⟩ := HF.out; exact f8 h8)
          obtain rfl := HE.out
          clear HE
          have c0 := (hN.below hB).c0
          simp only [Act.put, List.toList_toArray, List.take_succ_cons, List.take_zero, List.drop_succ_cons, List.drop_zero, List.cons_append, List.nil_append, List.setIfInBounds_toArray, List.set_cons_zero, List.set_cons_succ]
          go_simp
          exact hKK _ _ ⟨_, _, _, _, _, _, _, _, _, _, _, _, _, rfl, hB, Lib.hid (by obtain ⟨f0, f1, f2, f3, f4, f5, f6, f7, f8, f9, f10, f11, f12⟩ := HF.out; exact ⟨f0, f1, f2, f3, f4, f5, f6, f7, fun _ => rfl, fun _ => rfl, f10, f11, f12⟩)⟩
        · rintro D aa wx ⟨x14, x15, x16, x17, x18, x19, x20, x21, x22, x23, x24, x25, x26, rfl, hB, HF⟩ hD hdep KK hKK
          simp [Region.binds] at hdep
          have h9 : D 9 = true := by simp [hdep]
          have HE := Lib.hid (show x23 = .slice a n c by obtain ⟨f0, f1, f2, f3, f4, f5, f6, f7, f8, f9, f10, f11, f12⟩ := HF.out; exact f9 h9)
          obtain rfl := HE.out
          clear HE
          simp only [Act.put, List.toList_toArray, List.take_succ_cons, List.take_zero, List.drop_succ_cons, List.drop_zero, List.cons_append, List.nil_append, List.setIfInBounds_toArray, List.set_cons_zero, List.set_cons_succ]
          go_simp
          exact hKK _ _ ⟨_, _, _, _, _, _, _, _, _, _, _, _, _, rfl, hB, Lib.hid (by obtain ⟨f0, f1, f2, f3, f4, f5, f6, f7, f8, f9, f10, f11, f12⟩ := HF.out; exact ⟨f0, f1, f2, f3, f4, f5, f6, f7, f8, fun _ => rfl, fun _ => rfl, f11, f12⟩)⟩
        · rintro D aa wx ⟨x14, x15, x16, x17, x18, x19, x20, x21, x22, x23, x24, x25, x26, rfl, hB, HF⟩ hD hdep KK hKK
          simp [Region.binds] at hdep
          have h7 : D 7 = true := by simp [hdep]
          have h10 : D 10 = true := by simp [hdep]
          have HE := Lib.hid (show x21 = .agg #[.slice a n c, .slice ka kn kc] ∧ x24 = .int .i64 (n : Int) by obtain ⟨f0, f1, f2, f3, f4, f5, f6, f7, f8, f9, f10, f11, f12⟩ := HF.out; exact ⟨f7 h7, f10 h10⟩)
          obtain ⟨rfl, rfl⟩ := HE.out
          clear HE
          simp only [Act.put, List.toList_toArray, List.take_succ_cons, List.take_zero, List.drop_succ_cons, List.drop_zero, List.cons_append, List.nil_append, List.setIfInBounds_toArray, List.set_cons_zero, List.set_cons_succ]
          go_simp
          refine (KA.out _ hB).mono ?_
          rintro e w5 ⟨rfl, hb⟩
          exact hKK _ _ ⟨_, _, _, _, _, _, _, _, _, _, _, _, _, rfl, below_to hB hb, Lib.hid (by obtain ⟨f0, f1, f2, f3, f4, f5, f6, f7, f8, f9, f10, f11, f12⟩ := HF.out; exact ⟨f0, f1, f2, f3, f4, f5, f6, fun _ => rfl, f8, f9, fun _ => rfl, fun _ => rfl, f12⟩)⟩
        · rintro D aa wx ⟨x14, x15, x16, x17, x18, x19, x20, x21, x22, x23, x24, x25, x26, rfl, hB, HF⟩ hD hdep KK hKK
          simp [Region.binds] at hdep
          have h6 : D 6 = true := by simp [hdep]
          have h11 : D 11 = true := by simp [hdep]
          have HE := Lib.hid (show x20 = .int .i64 ((u : Int) + (u : Int)) ∧ x25 = .int .i64 (U : Int) by obtain ⟨f0, f1, f2, f3, f4, f5, f6, f7, f8, f9, f10, f11, f12⟩ := HF.out; exact ⟨f6 h6, f11 h11⟩)
          obtain ⟨rfl, rfl⟩ := HE.out
          clear HE
          simp only [Act.put, List.toList_toArray, List.take_succ_cons, List.take_zero, List.drop_succ_cons, List.drop_zero, List.cons_append, List.nil_append, List.setIfInBounds_toArray, List.set_cons_zero, List.set_cons_succ]
          go_simp
          exact hKK _ _ ⟨_, _, _, _, _, _, _, _, _, _, _, _, _, rfl, hB, Lib.hid (by obtain ⟨f0, f1, f2, f3, f4, f5, f6, f7, f8, f9, f10, f11, f12⟩ := HF.out; exact ⟨f0, f1, f2, f3, f4, f5, fun _ => rfl, f7, f8, f9, f10, fun _ => rfl, fun _ => rfl⟩)⟩
      rintro D aa w6 ⟨x14, x15, x16, x17, x18, x19, x20, x21, x22, x23, x24, x25, x26, rfl, hb, HF⟩ hD
      have e12 : x26 = .bool d := by obtain ⟨f0, f1, f2, f3, f4, f5, f6, f7, f8, f9, f10, f11, f12⟩ := HF.out; exact f12 (hD 12 (by simp))
      subst e12
      simp only [Act.put, List.toList_toArray, List.take_succ_cons, List.take_zero, List.drop_succ_cons, List.drop_zero, List.cons_append, List.nil_append]
      clear HF hD q1 KW KA hd
      replace hN := hN.below hb
      replace hB0 := below_to hB0 hb
      clear hb
      cases d with
      | true =>
        have HE := Lib.hid (show k = x from half_one (b := b) (I := I) ⟨by rw [HL.out]; omega, fun j hj => by rw [HU.out]; exact HJ.out j hj, fun _ => by have := of_decide_eq_true HD.out; rw [HU.out, HUU.out]; omega⟩ HH.out)
        go_wp2_with fail
        go_ret
        exact ⟨ret_int (by rw [HE.out]), hB0⟩
      | false =>
        have HJ2 := Lib.hid (show ∀ j, j < k + 1 → 2 * bytesN b (I.take j) < U from fun j hj => by
          by_cases h : j < k
          · exact HJ.out j h
          · obtain rfl : j = k := by omega
            have := of_decide_eq_false HD.out
            rw [HUU.out]; omega)
        go_wp2_with fail
        go_roundw
        case rel => exact ⟨k + 1, by omega, by omega, HJ2, hN, hB0, by go_num⟩
        case measure => simp [intOf]; omega
    · obtain rfl : k = m := by omega
      have HE := Lib.hid (show k = x from half_one (b := b) (I := I) ⟨by rw [HL.out]; omega, fun j hj => by rw [HU.out]; exact HJ.out j hj, fun h => by rw [HL.out] at h; omega⟩ HH.out)
      go_wp2_with fail
      go_ret
      exact ⟨ret_int (by rw [HE.out]), hB0⟩
end
end Go.Proofs.Ytnjpijihjifkfaa
