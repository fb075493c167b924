/- Contracts: the reference's Noughts; what one round of its Encode appends. -/
import Derived.Test.YtnjpijihjifkfaaO8
import Derived.Test.YtnjpijihjifkfaaRI
import Derived.Test.YtnjpijihjifkfaaU2
import Derived.Deep.Cut
namespace Go.Proofs.Ytnjpijihjifkfaa
open Go.RowKit
set_option maxRecDepth 100000
set_option linter.unusedVariables false
set_option linter.unusedSimpArgs false
set_option maxHeartbeats 8000000
theorem cond_factP {D P : Nat → Bool} {f V : Nat → Value} {j : Nat} {v : Value} (h : ∀ k, P k = false → D k = true → f k = V k) (hv : v = V j) : ∀ k, P k = false → D k = true → cond (Nat.beq k j) v (f k) = V k := by
  intro k hp hk
  by_cases e : k = j
  · subst e; rw [Nat.beq_refl]; exact hv
  · have : Nat.beq k j = false := by
      cases h2 : Nat.beq k j with
      | false => rfl
      | true => exact absurd (Nat.eq_of_beq_eq_true h2) e
    rw [this]; exact h k hp hk
theorem upd_factP {D P : Nat → Bool} {f V : Nat → Value} {i : Nat} {v : Value} (h : ∀ k, P k = false → D k = true → f k = V k) (hv : v = V i) : ∀ k, P k = false → upd D i k = true → cond (Nat.beq k i) v (f k) = V k := by
  intro k hp hk
  by_cases e : k = i
  · subst e; rw [Nat.beq_refl]; exact hv
  · have : Nat.beq k i = false := by
      cases h2 : Nat.beq k i with
      | false => rfl
      | true => exact absurd (Nat.eq_of_beq_eq_true h2) e
    rw [this]
    refine h k hp ?_
    unfold upd at hk
    rwa [if_neg e] at hk
theorem cond_rowP {D P : Nat → Bool} {f V : Nat → Value} {r : Nat} {v : Value} (hr : P r = true) (h : ∀ k, P k = false → D k = true → f k = V k) : ∀ k, P k = false → D k = true → cond (Nat.beq k r) v (f k) = V k := by
  intro k hp hk
  have : Nat.beq k r = false := by
    cases h2 : Nat.beq k r with
    | false => rfl
    | true => rw [Nat.eq_of_beq_eq_true h2, hr] at hp; cases hp
  rw [this]; exact h k hp hk
theorem upd_rowP {D P : Nat → Bool} {f V : Nat → Value} {r : Nat} {v : Value} (hr : P r = true) (h : ∀ k, P k = false → D k = true → f k = V k) : ∀ k, P k = false → upd D r k = true → cond (Nat.beq k r) v (f k) = V k := by
  intro k hp hk
  have e : k ≠ r := fun e => by rw [e, hr] at hp; cases hp
  have : Nat.beq k r = false := by
    cases h2 : Nat.beq k r with
    | false => rfl
    | true => exact absurd (Nat.eq_of_beq_eq_true h2) e
  rw [this]
  refine h k hp ?_
  unfold upd at hk
  rwa [if_neg e] at hk
theorem rnoughts_any (n : Nat) (hn : n ≤ 480) (w : World) : Calls Try.prog 33 #[.int .i64 (n : Int)] w fun e w' => e = .returned (.string (bs (List.replicate n 0))) ∧ Below w.heap.size w w' := by
  have HP : Hid (∀ w, Calls Try.prog 57 #[.string ⟨#[]⟩, .int .i64 (n : Int)] w fun e w' => e = .returned (.string (bs (List.replicate n 0))) ∧ Below w.heap.size w w') := Lib.hid (fun w => by
    by_cases h : n = 0
    · subst h
      exact (rpad_same ⟨#[]⟩ ((0 : Nat) : Int) w (.inr (by decide)) (by decide)).mono fun e w' h => ⟨h.1.trans (by rfl), h.2 ▸ Below.refl _ _⟩
    · have h2 := rpad_more ⟨#[]⟩ (n : Int) w (by omega) (by show ((0 : Nat) : Int) < _; omega)
      have e : (⟨#[]⟩ : ByteArray) ++ bs (List.replicate ((n : Int) - ((⟨#[]⟩ : ByteArray).size : Int)).toNat 0) = bs (List.replicate n 0) := by
        rw [show ((n : Int) - ((⟨#[]⟩ : ByteArray).size : Int)).toNat = n by show ((n : Int) - ((0 : Nat) : Int)).toNat = n; omega]
        refine ByteArray.ext (Array.toList_inj.1 ?_)
        rw [ByteArray.data_append, Array.toList_append]
        simp
      rw [e] at h2
      exact h2)
  generalize bs (List.replicate n 0) = T at HP ⊢
  go_enter Try.func33, Try.ntmps33
  go_wp2_with fail
  refine (HP.out _).mono ?_
  rintro e w1 ⟨rfl, hb⟩
  go_wp2_with fail
  go_ret
  exact ⟨rfl, hb⟩
def InvEL_v (g : Nat) (A : ByteArray) (T : ByteArray) (p : ByteArray) (U : ByteArray) (q : ByteArray) (zi : Nat) : Value := ([.string A, .pointer (some ⟨g, 0, none⟩), .string p, .int .i64 (p.size : Int), .int .u64 (p.size : Int), .string T, .string (A ++ T), .pointer (some ⟨g, 0, none⟩), .string p, .string (A ++ T ++ p), .pointer (some ⟨g, 1, none⟩), .string q, .int .i64 (q.size : Int), .int .u64 (q.size : Int), .string U, .string (A ++ T ++ p ++ U), .pointer (some ⟨g, 1, none⟩), .string q, .string (A ++ T ++ p ++ U ++ q), .string (A ++ T ++ p ++ U ++ q)] : List Value).getD zi undef
def InvEL_p (i : Nat) : Bool := Nat.beq i 19
def InvEL (W1 : World) (g : Nat) (A : ByteArray) (T : ByteArray) (p : ByteArray) (U : ByteArray) (q : ByteArray) (a0 : Act) (D : Nat → Bool) (act : Act) (w : World) : Prop :=
  ∃ zf : Nat → Value, act = ⟨(a0.tmps.toList.take 4 ++ zf 19 :: ((a0.tmps.toList.drop 5).take 29 ++ zf 0 :: zf 1 :: zf 2 :: zf 3 :: zf 4 :: zf 5 :: zf 6 :: zf 7 :: zf 8 :: zf 9 :: zf 10 :: zf 11 :: zf 12 :: zf 13 :: zf 14 :: zf 15 :: zf 16 :: zf 17 :: zf 18 :: a0.tmps.toList.drop 53)).toArray, []⟩ ∧ Below W1.heap.size W1 w ∧ Hid (∀ zi, InvEL_p zi = false → D zi = true → zf zi = InvEL_v g A T p U q zi) ∧ Hid (D 19 = true → (zf 19) = .string (A ++ T ++ p ++ U ++ q) ∧ D 0 = true) ∧ Hid (D 0 = false → zf 19 = .string A)
structure Duo (w : World) (g : Nat) (a b : Value) : Prop where
  c0 : w.cell? ⟨g, 0, none⟩ = some a
  c1 : w.cell? ⟨g, 1, none⟩ = some b
theorem Duo.lt {w : World} {g : Nat} {a b : Value} (h : Duo w g a b) : g < w.heap.size := World.block_lt_of_cell? w _ h.c0
theorem Duo.below {w w1 : World} {g : Nat} {a b : Value} (h : Duo w g a b) (B : Below w.heap.size w w1) : Duo w1 g a b :=
  ⟨(B.cell (p := ⟨g, 0, none⟩) h.lt).trans h.c0, (B.cell (p := ⟨g, 1, none⟩) h.lt).trans h.c1⟩
theorem Duo.new (w : World) (a b : Value) (T : TypeId) : Duo (w.alloc (.cells #[a, b] T)) w.heap.size a b := ⟨by simp [go_sem], by simp [go_sem]⟩
section
variable {w : World} {a : Option Addr} {n c : Nat} {ka : Option Addr} {kn kc : Nat} {I : List It}
theorem bs_snoc (l : List UInt8) (x : ByteArray) : bs l ++ x = bs (l ++ x.data.toList) := by
  refine ByteArray.ext (Array.toList_inj.1 ?_)
  rw [ByteArray.data_append, Array.toList_append, bs_toList, bs_toList]
theorem rencLeaf_any (hI : Its w a n I) (hR : RightP I []) (kc0 : Nat)
    (H18 : Hid (∀ w1, Its w1 a n I → Calls Try.prog 18 #[.agg #[.slice a n c, .slice ka 0 kc]] w1 fun e w' => e = .returned (.bool true) ∧ Below w1.heap.size w1 w')) :
    Calls Try.prog 11 #[.agg #[.slice a n c, .slice ka 0 kc]] w fun e w' => e = .returned (.tuple #[.string (bs (encF I [])), .int .i64 0]) ∧ Below w.heap.size w w' := by
  obtain ⟨hn255, hS0⟩ := right_leaf hR rfl
  have hlen : (encT I []).length ≤ 480 := by rw [encT_len]; exact hR.2.2.2
  have HI := Lib.hid hI
  have HL := Lib.hid hI.1
  rw [hI.1] at hn255
  have HS := Lib.hid (show ∀ k, k < n → (kq I k).size ≤ 64 ∧ (vq I k).size ≤ 64 by
    intro k hk
    have hkl : k < I.length := by rw [hI.1]; exact hk
    have h1 := (List.all_eq_true.1 hS0) I[k] (List.getElem_mem hkl)
    rw [kv_at I k hkl] at h1
    have h2 := of_decide_eq_true h1
    simp at h2; omega)
  have hE : encT I [] = headL I ++ leafTo I n := by unfold encT; rw [if_pos (show leafK [] = true from rfl), hI.1]
  have HF2 : Hid (bs (headL I ++ leafTo I n) ++ bs (List.replicate (480 - (headL I ++ leafTo I n).length) 0) = bs (encF I [])) := Lib.hid (by rw [bs_snoc, bs_toList]; unfold encF; rw [hE])
  have HLn := Lib.hid (show (headL I ++ leafTo I n).length ≤ 480 by rw [← hE]; exact hlen)
  obtain ⟨T0, hT0⟩ : ∃ t, bs (numL 1 n) = t := ⟨_, rfl⟩
  have K0 : Hid (∀ w, Calls Try.prog 32 #[.int .i64 1, .int .u64 (n : Int)] w fun e w' => e = .returned (.string T0) ∧ Below w.heap.size w w') := Lib.hid (fun w => by rw [← hT0]; exact rnum_ok 1 n w (by omega) (by omega) (by omega))
  have hs0 : T0.size ≤ 1 := by rw [← hT0, bs_size, numL_length]; exact Nat.le_refl _
  have HT := Lib.hid (show (⟨#[1]⟩ : ByteArray) ++ T0 = bs (headL I) by
    rw [← hT0, show (⟨#[1]⟩ : ByteArray) = bs (numL 1 1) from by decide, bs_snoc, bs_toList]
    unfold headL; rw [hI.1])
  have jq : ¬ 9223372036854775807 < 1 + T0.size := by omega
  have jz : ¬ (9223372036854775807 : Int) < 1 + (T0.size : Int) := by omega
  have hw0 : IntKind.u64.wrap (n : Int) = (n : Int) := by rw [IntKind.wrap_u64]; omega
  have hN := Nd.new w a n c ka 0 kc 25
  have hBB := new_below w (.cells #[.slice a n c, .slice ka 0 kc] 25)
  have HIb := HI.out.below hBB
  clear hI hR hlen hE hT0 hS0
  go_enter Try.func11, Try.ntmps11
  go_wp2_with fail
  generalize w.alloc (.cells #[.slice a n c, .slice ka 0 kc] 25) = w1 at hN hBB HIb ⊢
  have c0 := hN.c0
  have c1 := hN.c1
  go_wp2_with fail
  refine (H18.out _ HIb).mono ?_
  rintro e w2 ⟨rfl, hb⟩
  replace hN := hN.below hb
  replace hBB := below_to hBB hb
  clear hb c0 c1 HIb H18
  have c0 := hN.c0
  have c1 := hN.c1
  go_wp2_with fail
  refine (K0.out _).mono ?_
  rintro e w3 ⟨rfl, hb⟩
  replace hN := hN.below hb
  replace hBB := below_to hBB hb
  clear hb c0 c1
  go_wp2_with fail
  rw [HT.out]
  go_loopw [4, 5] (fun s i wx => ∃ k, k ≤ n ∧ Below w.heap.size w wx ∧ Nd wx w.heap.size a n c ka 0 kc ∧ s = .string (bs (headL I ++ leafTo I k)) ∧ i = .int .i64 (k : Int)) (fun s i _ => n - (intOf i).toNat)
  case atStart => exact ⟨0, by omega, hBB, hN, by rw [show headL I ++ leafTo I 0 = headL I by simp [leafTo]], rfl⟩
  case round =>
    clear hBB hN
    obtain ⟨k, hk, hBB, hN, rfl, rfl⟩ := hrel
    have c0 := hN.c0
    have c1 := hN.c1
    by_cases hlt : k < n
    · obtain ⟨g, off, rfl, hg, e0, e1⟩ := (HI.out.below hBB).at hlt
      have hkl : k < I.length := by rw [HL.out]; exact hlt
      have hps := HS.out k hlt
      obtain ⟨p, hp⟩ : ∃ p, kq I k = p := ⟨_, rfl⟩
      obtain ⟨q, hq⟩ : ∃ q, vq I k = q := ⟨_, rfl⟩
      rw [hp] at e0 hps
      rw [hq] at e1 hps
      obtain ⟨hps1, hps2⟩ := hps
      obtain ⟨A, hA⟩ : ∃ A, bs (headL I ++ leafTo I k) = A := ⟨_, rfl⟩
      have hAs : A.size ≤ 480 := by
        rw [← hA, bs_size, List.length_append, leafTo_len I k (by omega)]
        have h1 := HLn.out
        rw [List.length_append, leafTo_len I n (by rw [HL.out]; exact Nat.le_refl _)] at h1
        have h2 := bytesN_sub true (List.take_sublist_take_left (l := I) (show k ≤ n by omega))
        omega
      obtain ⟨T, hT⟩ : ∃ T, bs (numL 1 p.size) = T := ⟨_, rfl⟩
      obtain ⟨U, hU⟩ : ∃ U, bs (numL 1 q.size) = U := ⟨_, rfl⟩
      have hTs : T.size ≤ 1 := by rw [← hT, bs_size, numL_length]; exact Nat.le_refl _
      have hUs : U.size ≤ 1 := by rw [← hU, bs_size, numL_length]; exact Nat.le_refl _
      have H1 : Hid (∀ w, Calls Try.prog 32 #[.int .i64 1, .int .u64 (p.size : Int)] w fun e w' => e = .returned (.string T) ∧ Below w.heap.size w w') := Lib.hid (fun w => by rw [← hT]; exact rnum_ok 1 p.size w (by omega) (by omega) (by omega))
      have H2 : Hid (∀ w, Calls Try.prog 32 #[.int .i64 1, .int .u64 (q.size : Int)] w fun e w' => e = .returned (.string U) ∧ Below w.heap.size w w') := Lib.hid (fun w => by rw [← hU]; exact rnum_ok 1 q.size w (by omega) (by omega) (by omega))
      have HN2 := Lib.hid (show A ++ T ++ p ++ U ++ q = bs (headL I ++ leafTo I (k + 1)) by
        rw [← hA, ← hT, ← hU, leafTo_succ, getD_at _ _ _ hkl, kv_at I k hkl, hp, hq]
        rw [bs_snoc, bs_snoc, bs_snoc, bs_snoc, bs_toList, bs_toList]
        unfold itemL
        simp only [List.append_assoc])
      rw [hA]
      clear hp hq hA hT hU
      have jq0 : ¬ 9223372036854775807 < A.size + T.size := by omega
      have jz0 : ¬ (9223372036854775807 : Int) < (A.size : Int) + (T.size : Int) := by omega
      have jq1 : ¬ 9223372036854775807 < A.size + T.size + p.size := by omega
      have jz1 : ¬ (9223372036854775807 : Int) < (A.size : Int) + (T.size : Int) + (p.size : Int) := by omega
      have jq2 : ¬ 9223372036854775807 < A.size + T.size + p.size + U.size := by omega
      have jz2 : ¬ (9223372036854775807 : Int) < (A.size : Int) + (T.size : Int) + (p.size : Int) + (U.size : Int) := by omega
      have jq3 : ¬ 9223372036854775807 < A.size + T.size + p.size + U.size + q.size := by omega
      have jz3 : ¬ (9223372036854775807 : Int) < (A.size : Int) + (T.size : Int) + (p.size : Int) + (U.size : Int) + (q.size : Int) := by omega
      have hwp : IntKind.u64.wrap (p.size : Int) = (p.size : Int) := by rw [IntKind.wrap_u64]; omega
      have hwq : IntKind.u64.wrap (q.size : Int) = (q.size : Int) := by rw [IntKind.wrap_u64]; omega
      have S := Duo.new wr (.string p) (.string q) 44
      have hBz := below_to hBB (new_below wr (.cells #[.string p, .string q] 44))
      replace hN := hN.below (new_below wr (.cells #[.string p, .string q] 44))
      go_upto_region 10 with (fail)
      clear e0 e1 hBB c0 c1
      generalize wr.alloc (.cells #[.string p, .string q] 44) = wz at S hBz hN ⊢
      generalize wr.heap.size = gz at S ⊢
      replace S := Lib.hid S
      refine wp_region_inv0 (InvEL wz gz A T p U q) (by kernel_rfl) (by decide) ?_ ?_ ?_
      · exact ⟨fun zz => cond (Nat.beq zz 19) (.string A) (cond (Nat.beq zz 18) (u52) (cond (Nat.beq zz 17) (u51) (cond (Nat.beq zz 16) (u50) (cond (Nat.beq zz 15) (u49) (cond (Nat.beq zz 14) (u48) (cond (Nat.beq zz 13) (u47) (cond (Nat.beq zz 12) (u46) (cond (Nat.beq zz 11) (u45) (cond (Nat.beq zz 10) (u44) (cond (Nat.beq zz 9) (u43) (cond (Nat.beq zz 8) (u42) (cond (Nat.beq zz 7) (u41) (cond (Nat.beq zz 6) (u40) (cond (Nat.beq zz 5) (u39) (cond (Nat.beq zz 4) (u38) (cond (Nat.beq zz 3) (u37) (cond (Nat.beq zz 2) (u36) (cond (Nat.beq zz 1) (u35) (cond (Nat.beq zz 0) (u34) (undef)))))))))))))))))))), rfl, (Below.refl _ _).drew, Lib.hid (fun i _ h => by cases h), Lib.hid (fun h => by cases h), Lib.hid (fun _ => rfl)⟩
      · refine AllI.cons ?_ (AllI.cons ?_ (AllI.cons ?_ (AllI.cons ?_ (AllI.cons ?_ (AllI.cons ?_ (AllI.cons ?_ (AllI.cons ?_ (AllI.cons ?_ (AllI.cons ?_ (AllI.cons ?_ (AllI.cons ?_ (AllI.cons ?_ (AllI.cons ?_ (AllI.cons ?_ (AllI.cons ?_ (AllI.cons ?_ (AllI.cons ?_ (AllI.cons ?_ (AllI.cons ?_ AllI.nil)))))))))))))))))))
        · intro D aa wx HI hD hdep KK hKK
          obtain ⟨zf, rfl, hB, HF, HX19, HE⟩ := HI
          have E19 : zf 19 = .string A := HE.out hD
          simp only [E19, Act.put, List.toList_toArray, List.take_succ_cons, List.take_zero, List.drop_succ_cons, List.drop_zero, List.cons_append, List.nil_append, List.setIfInBounds_toArray, List.set_cons_zero, List.set_cons_succ]
          go_simp
          exact hKK _ _ ⟨fun zz => cond (Nat.beq zz 0) (.string A) (cond (Nat.beq zz 19) (.string A) (zf zz)), rfl, hB, Lib.hid (upd_factP (i := 0) (v := .string A) (cond_rowP (r := 19) (v := .string A) rfl HF.out) rfl), Lib.hid (fun h => by have h5 := (HX19.out h).2; rw [hD] at h5; cases h5), Lib.hid (fun h => by simp [upd] at h)⟩
        · intro D aa wx HI hD hdep KK hKK
          obtain ⟨zf, rfl, hB, HF, HX19, HE⟩ := HI
          simp only [Act.put, List.toList_toArray, List.take_succ_cons, List.take_zero, List.drop_succ_cons, List.drop_zero, List.cons_append, List.nil_append, List.setIfInBounds_toArray, List.set_cons_zero, List.set_cons_succ]
          go_simp
          exact hKK _ _ ⟨fun zz => cond (Nat.beq zz 1) (.pointer (some ⟨gz, 0, none⟩)) (zf zz), rfl, hB, Lib.hid (upd_factP (i := 1) (v := .pointer (some ⟨gz, 0, none⟩)) HF.out rfl), Lib.hid (fun h => HX19.out h), Lib.hid (fun h => HE.out h)⟩
        · intro D aa wx HI hD hdep KK hKK
          obtain ⟨zf, rfl, hB, HF, HX19, HE⟩ := HI
          simp [Region.binds] at hdep
          have E1 : zf 1 = .pointer (some ⟨gz, 0, none⟩) := HF.out 1 rfl (by simp [hdep])
          obtain ⟨c0, c1⟩ := S.out.below hB
          simp only [E1, Act.put, List.toList_toArray, List.take_succ_cons, List.take_zero, List.drop_succ_cons, List.drop_zero, List.cons_append, List.nil_append, List.setIfInBounds_toArray, List.set_cons_zero, List.set_cons_succ]
          go_simp
          exact hKK _ _ ⟨fun zz => cond (Nat.beq zz 2) (.string p) (cond (Nat.beq zz 1) (.pointer (some ⟨gz, 0, none⟩)) (zf zz)), rfl, hB, Lib.hid (upd_factP (i := 2) (v := .string p) (cond_factP (j := 1) (v := .pointer (some ⟨gz, 0, none⟩)) HF.out rfl) rfl), Lib.hid (fun h => HX19.out h), Lib.hid (fun h => HE.out h)⟩
        · intro D aa wx HI hD hdep KK hKK
          obtain ⟨zf, rfl, hB, HF, HX19, HE⟩ := HI
          simp [Region.binds] at hdep
          have E2 : zf 2 = .string p := HF.out 2 rfl (by simp [hdep])
          simp only [E2, Act.put, List.toList_toArray, List.take_succ_cons, List.take_zero, List.drop_succ_cons, List.drop_zero, List.cons_append, List.nil_append, List.setIfInBounds_toArray, List.set_cons_zero, List.set_cons_succ]
          go_simp
          exact hKK _ _ ⟨fun zz => cond (Nat.beq zz 3) (.int .i64 (p.size : Int)) (cond (Nat.beq zz 2) (.string p) (zf zz)), rfl, hB, Lib.hid (upd_factP (i := 3) (v := .int .i64 (p.size : Int)) (cond_factP (j := 2) (v := .string p) HF.out rfl) rfl), Lib.hid (fun h => HX19.out h), Lib.hid (fun h => HE.out h)⟩
        · intro D aa wx HI hD hdep KK hKK
          obtain ⟨zf, rfl, hB, HF, HX19, HE⟩ := HI
          simp [Region.binds] at hdep
          have E3 : zf 3 = .int .i64 (p.size : Int) := HF.out 3 rfl (by simp [hdep])
          simp only [E3, Act.put, List.toList_toArray, List.take_succ_cons, List.take_zero, List.drop_succ_cons, List.drop_zero, List.cons_append, List.nil_append, List.setIfInBounds_toArray, List.set_cons_zero, List.set_cons_succ]
          go_simp
          exact hKK _ _ ⟨fun zz => cond (Nat.beq zz 4) (.int .u64 (p.size : Int)) (cond (Nat.beq zz 3) (.int .i64 (p.size : Int)) (zf zz)), rfl, hB, Lib.hid (upd_factP (i := 4) (v := .int .u64 (p.size : Int)) (cond_factP (j := 3) (v := .int .i64 (p.size : Int)) HF.out rfl) rfl), Lib.hid (fun h => HX19.out h), Lib.hid (fun h => HE.out h)⟩
        · intro D aa wx HI hD hdep KK hKK
          obtain ⟨zf, rfl, hB, HF, HX19, HE⟩ := HI
          simp [Region.binds] at hdep
          have E4 : zf 4 = .int .u64 (p.size : Int) := HF.out 4 rfl (by simp [hdep])
          simp only [E4, Act.put, List.toList_toArray, List.take_succ_cons, List.take_zero, List.drop_succ_cons, List.drop_zero, List.cons_append, List.nil_append, List.setIfInBounds_toArray, List.set_cons_zero, List.set_cons_succ]
          go_simp
          refine (H1.out _).mono ?_
          rintro e w5 ⟨rfl, hb⟩
          exact hKK _ _ ⟨fun zz => cond (Nat.beq zz 5) (.string T) (cond (Nat.beq zz 4) (.int .u64 (p.size : Int)) (zf zz)), rfl, below_to hB hb, Lib.hid (upd_factP (i := 5) (v := .string T) (cond_factP (j := 4) (v := .int .u64 (p.size : Int)) HF.out rfl) rfl), Lib.hid (fun h => HX19.out h), Lib.hid (fun h => HE.out h)⟩
        · intro D aa wx HI hD hdep KK hKK
          obtain ⟨zf, rfl, hB, HF, HX19, HE⟩ := HI
          simp [Region.binds] at hdep
          have E0 : zf 0 = .string A := HF.out 0 rfl (by simp [hdep])
          have E5 : zf 5 = .string T := HF.out 5 rfl (by simp [hdep])
          simp only [E0, E5, Act.put, List.toList_toArray, List.take_succ_cons, List.take_zero, List.drop_succ_cons, List.drop_zero, List.cons_append, List.nil_append, List.setIfInBounds_toArray, List.set_cons_zero, List.set_cons_succ]
          go_simp
          exact hKK _ _ ⟨fun zz => cond (Nat.beq zz 6) (.string (A ++ T)) (cond (Nat.beq zz 5) (.string T) (cond (Nat.beq zz 0) (.string A) (zf zz))), rfl, hB, Lib.hid (upd_factP (i := 6) (v := .string (A ++ T)) (cond_factP (j := 5) (v := .string T) (cond_factP (j := 0) (v := .string A) HF.out rfl) rfl) rfl), Lib.hid (fun h => HX19.out h), Lib.hid (fun h => HE.out h)⟩
        · intro D aa wx HI hD hdep KK hKK
          obtain ⟨zf, rfl, hB, HF, HX19, HE⟩ := HI
          simp only [Act.put, List.toList_toArray, List.take_succ_cons, List.take_zero, List.drop_succ_cons, List.drop_zero, List.cons_append, List.nil_append, List.setIfInBounds_toArray, List.set_cons_zero, List.set_cons_succ]
          go_simp
          exact hKK _ _ ⟨fun zz => cond (Nat.beq zz 7) (.pointer (some ⟨gz, 0, none⟩)) (zf zz), rfl, hB, Lib.hid (upd_factP (i := 7) (v := .pointer (some ⟨gz, 0, none⟩)) HF.out rfl), Lib.hid (fun h => HX19.out h), Lib.hid (fun h => HE.out h)⟩
        · intro D aa wx HI hD hdep KK hKK
          obtain ⟨zf, rfl, hB, HF, HX19, HE⟩ := HI
          simp [Region.binds] at hdep
          have E7 : zf 7 = .pointer (some ⟨gz, 0, none⟩) := HF.out 7 rfl (by simp [hdep])
          obtain ⟨c0, c1⟩ := S.out.below hB
          simp only [E7, Act.put, List.toList_toArray, List.take_succ_cons, List.take_zero, List.drop_succ_cons, List.drop_zero, List.cons_append, List.nil_append, List.setIfInBounds_toArray, List.set_cons_zero, List.set_cons_succ]
          go_simp
          exact hKK _ _ ⟨fun zz => cond (Nat.beq zz 8) (.string p) (cond (Nat.beq zz 7) (.pointer (some ⟨gz, 0, none⟩)) (zf zz)), rfl, hB, Lib.hid (upd_factP (i := 8) (v := .string p) (cond_factP (j := 7) (v := .pointer (some ⟨gz, 0, none⟩)) HF.out rfl) rfl), Lib.hid (fun h => HX19.out h), Lib.hid (fun h => HE.out h)⟩
        · intro D aa wx HI hD hdep KK hKK
          obtain ⟨zf, rfl, hB, HF, HX19, HE⟩ := HI
          simp [Region.binds] at hdep
          have E6 : zf 6 = .string (A ++ T) := HF.out 6 rfl (by simp [hdep])
          have E8 : zf 8 = .string p := HF.out 8 rfl (by simp [hdep])
          simp only [E6, E8, Act.put, List.toList_toArray, List.take_succ_cons, List.take_zero, List.drop_succ_cons, List.drop_zero, List.cons_append, List.nil_append, List.setIfInBounds_toArray, List.set_cons_zero, List.set_cons_succ]
          go_simp
          exact hKK _ _ ⟨fun zz => cond (Nat.beq zz 9) (.string (A ++ T ++ p)) (cond (Nat.beq zz 8) (.string p) (cond (Nat.beq zz 6) (.string (A ++ T)) (zf zz))), rfl, hB, Lib.hid (upd_factP (i := 9) (v := .string (A ++ T ++ p)) (cond_factP (j := 8) (v := .string p) (cond_factP (j := 6) (v := .string (A ++ T)) HF.out rfl) rfl) rfl), Lib.hid (fun h => HX19.out h), Lib.hid (fun h => HE.out h)⟩
        · intro D aa wx HI hD hdep KK hKK
          obtain ⟨zf, rfl, hB, HF, HX19, HE⟩ := HI
          simp only [Act.put, List.toList_toArray, List.take_succ_cons, List.take_zero, List.drop_succ_cons, List.drop_zero, List.cons_append, List.nil_append, List.setIfInBounds_toArray, List.set_cons_zero, List.set_cons_succ]
          go_simp
          exact hKK _ _ ⟨fun zz => cond (Nat.beq zz 10) (.pointer (some ⟨gz, 1, none⟩)) (zf zz), rfl, hB, Lib.hid (upd_factP (i := 10) (v := .pointer (some ⟨gz, 1, none⟩)) HF.out rfl), Lib.hid (fun h => HX19.out h), Lib.hid (fun h => HE.out h)⟩
        · intro D aa wx HI hD hdep KK hKK
          obtain ⟨zf, rfl, hB, HF, HX19, HE⟩ := HI
          simp [Region.binds] at hdep
          have E10 : zf 10 = .pointer (some ⟨gz, 1, none⟩) := HF.out 10 rfl (by simp [hdep])
          obtain ⟨c0, c1⟩ := S.out.below hB
          simp only [E10, Act.put, List.toList_toArray, List.take_succ_cons, List.take_zero, List.drop_succ_cons, List.drop_zero, List.cons_append, List.nil_append, List.setIfInBounds_toArray, List.set_cons_zero, List.set_cons_succ]
          go_simp
          exact hKK _ _ ⟨fun zz => cond (Nat.beq zz 11) (.string q) (cond (Nat.beq zz 10) (.pointer (some ⟨gz, 1, none⟩)) (zf zz)), rfl, hB, Lib.hid (upd_factP (i := 11) (v := .string q) (cond_factP (j := 10) (v := .pointer (some ⟨gz, 1, none⟩)) HF.out rfl) rfl), Lib.hid (fun h => HX19.out h), Lib.hid (fun h => HE.out h)⟩
        · intro D aa wx HI hD hdep KK hKK
          obtain ⟨zf, rfl, hB, HF, HX19, HE⟩ := HI
          simp [Region.binds] at hdep
          have E11 : zf 11 = .string q := HF.out 11 rfl (by simp [hdep])
          simp only [E11, Act.put, List.toList_toArray, List.take_succ_cons, List.take_zero, List.drop_succ_cons, List.drop_zero, List.cons_append, List.nil_append, List.setIfInBounds_toArray, List.set_cons_zero, List.set_cons_succ]
          go_simp
          exact hKK _ _ ⟨fun zz => cond (Nat.beq zz 12) (.int .i64 (q.size : Int)) (cond (Nat.beq zz 11) (.string q) (zf zz)), rfl, hB, Lib.hid (upd_factP (i := 12) (v := .int .i64 (q.size : Int)) (cond_factP (j := 11) (v := .string q) HF.out rfl) rfl), Lib.hid (fun h => HX19.out h), Lib.hid (fun h => HE.out h)⟩
        · intro D aa wx HI hD hdep KK hKK
          obtain ⟨zf, rfl, hB, HF, HX19, HE⟩ := HI
          simp [Region.binds] at hdep
          have E12 : zf 12 = .int .i64 (q.size : Int) := HF.out 12 rfl (by simp [hdep])
          simp only [E12, Act.put, List.toList_toArray, List.take_succ_cons, List.take_zero, List.drop_succ_cons, List.drop_zero, List.cons_append, List.nil_append, List.setIfInBounds_toArray, List.set_cons_zero, List.set_cons_succ]
          go_simp
          exact hKK _ _ ⟨fun zz => cond (Nat.beq zz 13) (.int .u64 (q.size : Int)) (cond (Nat.beq zz 12) (.int .i64 (q.size : Int)) (zf zz)), rfl, hB, Lib.hid (upd_factP (i := 13) (v := .int .u64 (q.size : Int)) (cond_factP (j := 12) (v := .int .i64 (q.size : Int)) HF.out rfl) rfl), Lib.hid (fun h => HX19.out h), Lib.hid (fun h => HE.out h)⟩
        · intro D aa wx HI hD hdep KK hKK
          obtain ⟨zf, rfl, hB, HF, HX19, HE⟩ := HI
          simp [Region.binds] at hdep
          have E13 : zf 13 = .int .u64 (q.size : Int) := HF.out 13 rfl (by simp [hdep])
          simp only [E13, Act.put, List.toList_toArray, List.take_succ_cons, List.take_zero, List.drop_succ_cons, List.drop_zero, List.cons_append, List.nil_append, List.setIfInBounds_toArray, List.set_cons_zero, List.set_cons_succ]
          go_simp
          refine (H2.out _).mono ?_
          rintro e w5 ⟨rfl, hb⟩
          exact hKK _ _ ⟨fun zz => cond (Nat.beq zz 14) (.string U) (cond (Nat.beq zz 13) (.int .u64 (q.size : Int)) (zf zz)), rfl, below_to hB hb, Lib.hid (upd_factP (i := 14) (v := .string U) (cond_factP (j := 13) (v := .int .u64 (q.size : Int)) HF.out rfl) rfl), Lib.hid (fun h => HX19.out h), Lib.hid (fun h => HE.out h)⟩
        · intro D aa wx HI hD hdep KK hKK
          obtain ⟨zf, rfl, hB, HF, HX19, HE⟩ := HI
          simp [Region.binds] at hdep
          have E9 : zf 9 = .string (A ++ T ++ p) := HF.out 9 rfl (by simp [hdep])
          have E14 : zf 14 = .string U := HF.out 14 rfl (by simp [hdep])
          simp only [E9, E14, Act.put, List.toList_toArray, List.take_succ_cons, List.take_zero, List.drop_succ_cons, List.drop_zero, List.cons_append, List.nil_append, List.setIfInBounds_toArray, List.set_cons_zero, List.set_cons_succ]
          go_simp
          exact hKK _ _ ⟨fun zz => cond (Nat.beq zz 15) (.string (A ++ T ++ p ++ U)) (cond (Nat.beq zz 14) (.string U) (cond (Nat.beq zz 9) (.string (A ++ T ++ p)) (zf zz))), rfl, hB, Lib.hid (upd_factP (i := 15) (v := .string (A ++ T ++ p ++ U)) (cond_factP (j := 14) (v := .string U) (cond_factP (j := 9) (v := .string (A ++ T ++ p)) HF.out rfl) rfl) rfl), Lib.hid (fun h => HX19.out h), Lib.hid (fun h => HE.out h)⟩
        · intro D aa wx HI hD hdep KK hKK
          obtain ⟨zf, rfl, hB, HF, HX19, HE⟩ := HI
          simp only [Act.put, List.toList_toArray, List.take_succ_cons, List.take_zero, List.drop_succ_cons, List.drop_zero, List.cons_append, List.nil_append, List.setIfInBounds_toArray, List.set_cons_zero, List.set_cons_succ]
          go_simp
          exact hKK _ _ ⟨fun zz => cond (Nat.beq zz 16) (.pointer (some ⟨gz, 1, none⟩)) (zf zz), rfl, hB, Lib.hid (upd_factP (i := 16) (v := .pointer (some ⟨gz, 1, none⟩)) HF.out rfl), Lib.hid (fun h => HX19.out h), Lib.hid (fun h => HE.out h)⟩
        · intro D aa wx HI hD hdep KK hKK
          obtain ⟨zf, rfl, hB, HF, HX19, HE⟩ := HI
          simp [Region.binds] at hdep
          have E16 : zf 16 = .pointer (some ⟨gz, 1, none⟩) := HF.out 16 rfl (by simp [hdep])
          obtain ⟨c0, c1⟩ := S.out.below hB
          simp only [E16, Act.put, List.toList_toArray, List.take_succ_cons, List.take_zero, List.drop_succ_cons, List.drop_zero, List.cons_append, List.nil_append, List.setIfInBounds_toArray, List.set_cons_zero, List.set_cons_succ]
          go_simp
          exact hKK _ _ ⟨fun zz => cond (Nat.beq zz 17) (.string q) (cond (Nat.beq zz 16) (.pointer (some ⟨gz, 1, none⟩)) (zf zz)), rfl, hB, Lib.hid (upd_factP (i := 17) (v := .string q) (cond_factP (j := 16) (v := .pointer (some ⟨gz, 1, none⟩)) HF.out rfl) rfl), Lib.hid (fun h => HX19.out h), Lib.hid (fun h => HE.out h)⟩
        · intro D aa wx HI hD hdep KK hKK
          obtain ⟨zf, rfl, hB, HF, HX19, HE⟩ := HI
          simp [Region.binds] at hdep
          have E15 : zf 15 = .string (A ++ T ++ p ++ U) := HF.out 15 rfl (by simp [hdep])
          have E17 : zf 17 = .string q := HF.out 17 rfl (by simp [hdep])
          simp only [E15, E17, Act.put, List.toList_toArray, List.take_succ_cons, List.take_zero, List.drop_succ_cons, List.drop_zero, List.cons_append, List.nil_append, List.setIfInBounds_toArray, List.set_cons_zero, List.set_cons_succ]
          go_simp
          exact hKK _ _ ⟨fun zz => cond (Nat.beq zz 18) (.string (A ++ T ++ p ++ U ++ q)) (cond (Nat.beq zz 17) (.string q) (cond (Nat.beq zz 15) (.string (A ++ T ++ p ++ U)) (zf zz))), rfl, hB, Lib.hid (upd_factP (i := 18) (v := .string (A ++ T ++ p ++ U ++ q)) (cond_factP (j := 17) (v := .string q) (cond_factP (j := 15) (v := .string (A ++ T ++ p ++ U)) HF.out rfl) rfl) rfl), Lib.hid (fun h => HX19.out h), Lib.hid (fun h => HE.out h)⟩
        · intro D aa wx HI hD hdep KK hKK
          obtain ⟨zf, rfl, hB, HF, HX19, HE⟩ := HI
          simp [Region.binds] at hdep
          have E18 : zf 18 = .string (A ++ T ++ p ++ U ++ q) := HF.out 18 rfl (by simp [hdep])
          simp only [E18, Act.put, List.toList_toArray, List.take_succ_cons, List.take_zero, List.drop_succ_cons, List.drop_zero, List.cons_append, List.nil_append, List.setIfInBounds_toArray, List.set_cons_zero, List.set_cons_succ]
          go_simp
          exact hKK _ _ ⟨fun zz => cond (Nat.beq zz 19) (.string (A ++ T ++ p ++ U ++ q)) (cond (Nat.beq zz 18) (.string (A ++ T ++ p ++ U ++ q)) (zf zz)), rfl, hB, Lib.hid (upd_rowP (r := 19) (v := .string (A ++ T ++ p ++ U ++ q)) rfl (cond_factP (j := 18) (v := .string (A ++ T ++ p ++ U ++ q)) HF.out rfl)), Lib.hid (fun _ => ⟨rfl, by simp [upd, hdep]⟩), Lib.hid (fun h => absurd h (by simp [upd, hdep]))⟩
      intro D aa w7 HI hD
      obtain ⟨zf, rfl, hB, HF, HX19, HE⟩ := HI
      have e199 : zf 19 = .string (A ++ T ++ p ++ U ++ q) := (HX19.out (hD 19 (by simp))).1
      simp only [e199, Act.put, List.toList_toArray, List.take_succ_cons, List.take_zero, List.drop_succ_cons, List.drop_zero, List.cons_append, List.nil_append]
      clear HF hD HX19 HE
      replace hN := hN.below hB
      replace hBz := below_to hBz hB
      clear hB S H1 H2
      rw [HN2.out]
      have c0 := hN.c0
      go_wp2_with fail
      go_roundw
      case rel => exact ⟨k + 1, by omega, hBz, hN, rfl, by go_num⟩
      case measure => simp [intOf]; omega
    · obtain rfl : k = n := by omega
      have hq1 : (headL I ++ leafTo I k).length ≤ 480 := HLn.out
      have KN : Hid (∀ w, Calls Try.prog 33 #[.int .i64 (480 - ((headL I ++ leafTo I k).length : Int))] w fun e w' => e = .returned (.string (bs (List.replicate (480 - (headL I ++ leafTo I k).length) 0))) ∧ Below w.heap.size w w') := Lib.hid (fun w => by
        have := rnoughts_any (480 - (headL I ++ leafTo I k).length) (by omega) w
        rw [show (((480 - (headL I ++ leafTo I k).length : Nat)) : Int) = 480 - ((headL I ++ leafTo I k).length : Int) by omega] at this
        exact this)
      obtain ⟨A, hA⟩ : ∃ A, bs (headL I ++ leafTo I k) = A := ⟨_, rfl⟩
      have hAs : (headL I ++ leafTo I k).length = A.size := by rw [← hA, bs_size]
      obtain ⟨N, hN0⟩ : ∃ N, bs (List.replicate (480 - (headL I ++ leafTo I k).length) 0) = N := ⟨_, rfl⟩
      have HF3 := HF2
      rw [hA, hN0] at HF3
      rw [hN0, hAs] at KN
      rw [hA]
      rw [hAs] at hq1
      have hNs : N.size ≤ 480 := by rw [← hN0, bs_size, List.length_replicate]; omega
      have jq1 : ¬ 9223372036854775807 < A.size + N.size := by omega
      have jz1 : ¬ (9223372036854775807 : Int) < (A.size : Int) + (N.size : Int) := by omega
      clear hA hAs hN0
      go_wp2_with fail
      refine (KN.out _).mono ?_
      rintro e w9 ⟨rfl, hb⟩
      go_wp2_with fail
      go_ret2
      exact ⟨congrArg (fun s => Ending.returned (.tuple #[.string s, .int .i64 0])) HF3.out, below_to hBB hb⟩
end
end Go.Proofs.Ytnjpijihjifkfaa
