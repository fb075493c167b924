/- What the program and the reference answer alike. -/
import Derived.Test.YtplngodilalbhaaAA
namespace Go.Proofs.Ytplngodilalbhaa
open Go.RowKit
set_option maxHeartbeats 400000 in
theorem rofHome_yes (b : ByteArray) (a : Nat) (p : ByteArray) (w : World) (hb : b ≠ z512) (HO : ∀ w, Calls Try.prog 15 #[.string b] w fun x w' => x = secErr 4 0 0 a 0 p 0 ∧ Below w.heap.size w w') :
    Calls Try.prog 21 #[.string b, .int .i64 (a : Int)] w fun x w' => x = strErr p 0 ∧ Below w.heap.size w w' := by
  obtain ⟨q, hq⟩ : ∃ q, z512 = q := ⟨_, rfl⟩
  have n1 := Lib.hid (fun w => rzeros_lit 512 512 q rfl hq w (by omega) (by omega))
  rw [hq] at hb
  have hd := str_nbeq hb
  have n2 := Lib.hid HO
  clear hb hq HO
  go_enter Try.func21, Try.ntmps21
  go_wp2_with fail
  refine (n1.out _).mono ?_
  rintro x w1 ⟨rfl, B⟩
  go_wp2_with fail
  refine (n2.out _).mono ?_
  rintro x w2 ⟨rfl, hb⟩
  replace B := below_to B hb
  clear hb
  unfold secErr
  go_wp2_with fail
  go_ret2
  exact ⟨rfl, below_to B ((Below.refl _ _).alloc (Nat.le_refl _) _)⟩
set_option maxHeartbeats 400000 in
theorem rofHome_none (pg : Int) (b : ByteArray) (w : World) (hb : b ≠ z512) (HO : ∀ w, Calls Try.prog 15 #[.string b] w fun x w' => x = secErr 0 0 0 0 0 ByteArray.empty 19 ∧ Below w.heap.size w w') :
    Calls Try.prog 21 #[.string b, .int .i64 pg] w fun x w' => x = strErr ByteArray.empty 19 ∧ Below w.heap.size w w' := by
  obtain ⟨q, hq⟩ : ∃ q, z512 = q := ⟨_, rfl⟩
  have n1 := Lib.hid (fun w => rzeros_lit 512 512 q rfl hq w (by omega) (by omega))
  rw [hq] at hb
  have hd := str_nbeq hb
  have n2 := Lib.hid HO
  clear hb hq HO
  go_enter Try.func21, Try.ntmps21
  go_wp2_with fail
  refine (n1.out _).mono ?_
  rintro x w1 ⟨rfl, B⟩
  go_wp2_with fail
  refine (n2.out _).mono ?_
  rintro x w2 ⟨rfl, hb⟩
  replace B := below_to B hb
  clear hb
  unfold secErr
  go_wp2_with fail
  go_ret2
  exact ⟨rfl, below_to B ((Below.refl _ _).alloc (Nat.le_refl _) _)⟩
/-- Both Opens answer so. -/
structure OpenPair (b : ByteArray) (k : Int) (e n : Nat) (a m : Int) (p : ByteArray) (y : Int) : Prop where
  h1 : ∀ w, Calls Try.prog 14 #[.string b] w fun x w' => x = secErr k e n a m p y ∧ Below w.heap.size w w'
  h2 : ∀ w, Calls Try.prog 15 #[.string b] w fun x w' => x = secErr k e n a m p y ∧ Below w.heap.size w w'
theorem open_pair (b : ByteArray) (hb : b.size ≤ maxLen) : ∃ k e n a m p y, OpenPair b k e n a m p y := by
  by_cases h : ∃ k e n a m p, Opens b k e n a m p
  · obtain ⟨k, e, n, a, m, p, h⟩ := h
    exact ⟨k, e, n, a, m, p, 0, fun w => open_is h w, fun w => ropen_is h w⟩
  · have h' : ∀ k e n a m p, ¬ Opens b k e n a m p := fun k e n a m p hh => h ⟨k, e, n, a, m, p, hh⟩
    exact ⟨0, 0, 0, 0, 0, _, 19, fun w => open_none hb h' w, fun w => ropen_none h' w⟩
/-- Both Seals answer so. -/
structure SealPair (k : Int) (e n : Nat) (a m : Int) (p : ByteArray) (x : ByteArray) (y : Int) : Prop where
  h1 : ∀ w, Calls Try.prog 11 #[.agg #[.int .i64 k, .int .u64 (e : Int), .int .u64 (n : Int), .int .i64 a, .int .i64 m, .string p]] w fun x' w' => x' = strErr x y ∧ Below w.heap.size w w'
  h2 : ∀ w, Calls Try.prog 13 #[.agg #[.int .i64 k, .int .u64 (e : Int), .int .u64 (n : Int), .int .i64 a, .int .i64 m, .string p]] w fun x' w' => x' = strErr x y ∧ Below w.heap.size w w'
theorem okS_nat {k a m : Int} {n : Nat} (h : okS k a m n) : ∃ K A M : Nat, k = K ∧ a = A ∧ m = M := by
  obtain ⟨h1, h2, h3, h4, h5, h6, h7⟩ := h
  exact ⟨k.toNat, a.toNat, m.toNat, by omega, by omega, by omega⟩
theorem seal_pair (k : Int) (e n : Nat) (a m : Int) (p : ByteArray) (he : e < 18446744073709551616) (hn : n < 18446744073709551616) : ∃ x y, SealPair k e n a m p x y := by
  by_cases h : okS k a m p.size
  · obtain ⟨K, A, M, rfl, rfl, rfl⟩ := okS_nat h
    exact ⟨sealB K e n A M p, 0, fun w => seal_ok K e n A M p w h he hn, fun w => rseal_ok K e n A M p w h he hn⟩
  · exact ⟨ByteArray.empty, 18, fun w => seal_no k e n a m p w h, fun w => rseal_no k e n a m p w h⟩
/-- Both OfHomes answer so. -/
structure OfPair (b : ByteArray) (pg : Int) (x : ByteArray) (y : Int) : Prop where
  h1 : ∀ w, Calls Try.prog 20 #[.string b, .int .i64 pg] w fun x' w' => x' = strErr x y ∧ Below w.heap.size w w'
  h2 : ∀ w, Calls Try.prog 21 #[.string b, .int .i64 pg] w fun x' w' => x' = strErr x y ∧ Below w.heap.size w w'
theorem nb (x y : Nat) (h : x ≠ y) : ((x : Int) == (y : Int)) = false := by rw [beq_eq_false_iff_ne]; omega
theorem of_blank (pg : Int) : OfPair z512 pg z480 0 := ⟨fun w => ofHome_blank pg _ _ w rfl rfl, fun w => rofHome_blank pg _ _ w rfl rfl⟩
theorem of_yes {b : ByteArray} {a : Nat} {p : ByteArray} (hb : b ≠ z512) (h : Opens b 4 0 0 a 0 p) : OfPair b a p 0 :=
  ⟨fun w => ofHome_yes _ b 4 0 0 a 0 p w hb ⟨rfl, rfl, rfl, rfl, rfl⟩ (fun w => open_is h w), fun w => rofHome_yes b a p w hb (fun w => ropen_is h w)⟩
theorem of_no {b : ByteArray} {pg : Int} {k e n a m : Nat} {p : ByteArray} (hb : b ≠ z512) (h : Opens b k e n a m p) (hn : ¬ isHome k e n a m pg) : OfPair b pg ByteArray.empty 19 := by
  have H1 := fun w => open_is h w
  have H2 := fun w => ropen_is h w
  constructor
  · intro w
    by_cases h1 : k = 4
    · subst h1
      by_cases h2 : e = 0
      · subst h2
        by_cases h3 : n = 0
        · subst h3
          by_cases h4 : (a : Int) = pg
          · subst h4
            exact ofHome_m b m a p w hb (nb m 0 (fun h5 => hn ⟨rfl, rfl, rfl, rfl, h5⟩)) H1
          · exact ofHome_a b pg a m p w hb (by rw [beq_eq_false_iff_ne]; exact h4) H1
        · exact ofHome_n b pg n a m p w hb (nb n 0 h3) H1
      · exact ofHome_e b pg e n a m p w hb (nb e 0 h2) H1
    · exact ofHome_k b pg k e n a m p w hb (nb k 4 h1) H1
  · intro w
    by_cases h1 : k = 4
    · subst h1
      by_cases h4 : (a : Int) = pg
      · subst h4
        by_cases h5 : m = 0
        · subst h5
          by_cases h2 : e = 0
          · subst h2
            exact rofHome_n b n a p w hb (nb n 0 (fun h3 => hn ⟨rfl, rfl, h3, rfl, rfl⟩)) H2
          · exact rofHome_e b e n a p w hb (nb e 0 h2) H2
        · exact rofHome_m b e n m a p w hb (nb m 0 h5) H2
      · exact rofHome_a b pg e n a m p w hb (by rw [beq_eq_false_iff_ne]; exact h4) H2
    · exact rofHome_k b pg k e n a m p w hb (nb k 4 h1) H2
theorem of_pair (b : ByteArray) (pg : Int) (hs : b.size ≤ maxLen) : ∃ x y, OfPair b pg x y := by
  by_cases hb : b = z512
  · subst hb; exact ⟨_, _, of_blank pg⟩
  · by_cases h : ∃ k e n a m p, Opens b k e n a m p
    · obtain ⟨k, e, n, a, m, p, h⟩ := h
      by_cases hh : isHome k e n a m pg
      · obtain ⟨rfl, rfl, rfl, rfl, rfl⟩ := hh
        exact ⟨_, _, of_yes hb h⟩
      · exact ⟨_, _, of_no hb h hh⟩
    · have h' : ∀ k e n a m p, ¬ Opens b k e n a m p := fun k e n a m p hh => h ⟨k, e, n, a, m, p, hh⟩
      exact ⟨_, _, fun w => ofHome_none pg b w hb (fun w => open_none hs h' w), fun w => rofHome_none pg b w hb (fun w => ropen_none h' w)⟩
/-- Both Homes answer so. -/
structure HomePair (a : Int) (p : ByteArray) (x : ByteArray) (y : Int) : Prop where
  h1 : ∀ w, Calls Try.prog 18 #[.int .i64 a, .string p] w fun x' w' => x' = strErr x y ∧ Below w.heap.size w w'
  h2 : ∀ w, Calls Try.prog 19 #[.int .i64 a, .string p] w fun x' w' => x' = strErr x y ∧ Below w.heap.size w w'
theorem seal_not_blank (k e n a m : Nat) (p : ByteArray) (h1 : 1 ≤ k) (h2 : k ≤ 4) : sealB k e n a m p ≠ z512 := by
  intro h
  have hl := congrArg (fun b : ByteArray => b.data.toList) h
  simp only [seal_list, bs_toList] at hl
  rw [show numL 1 k = [UInt8.ofNat (k % 256)] by simp [numL], Nat.mod_eq_of_lt (by omega)] at hl
  have hr : List.replicate 512 (0 : UInt8) = 0 :: List.replicate 511 0 := List.replicate_succ
  rw [hr] at hl
  have h0 : UInt8.ofNat k = 0 := (List.cons.inj hl).1
  have := congrArg UInt8.toNat h0
  simp at this
  omega
/-- Home is refused, or OfHome has the text back. -/
theorem home_pair (a : Int) (p : ByteArray) : ∃ x y, HomePair a p x y ∧ (y = 0 ∧ OfPair x a p 0 ∨ y = 18 ∧ x = ByteArray.empty) := by
  by_cases h : okS 4 a 0 p.size
  · obtain ⟨K, A, M, _, rfl, _⟩ := okS_nat h
    have h3 := h.2.2.1
    have h4 := h.2.2.2.1
    by_cases hz : allZ p.data.toList = true
    · have hp := allZ_zero h.2.2.2.2.2.2 hz
      refine ⟨z512, 0, ⟨fun w => home_blank A p _ w h hz rfl, fun w => rhome_blank A p _ w h3 h4 hp.symm rfl⟩, .inl ⟨rfl, ?_⟩⟩
      rw [hp]; exact of_blank A
    · have hz' : allZ p.data.toList = false := by simpa using hz
      have HO : Opens (sealB 4 0 0 A 0 p) 4 0 0 A 0 p := ⟨h, by omega, by omega, rfl⟩
      exact ⟨sealB 4 0 0 A 0 p, 0, ⟨fun w => home_seal A p _ w h hz' (fun w => seal_ok 4 0 0 A 0 p w h (by omega) (by omega)), fun w => rhome_seal A p _ 0 w h3 h4 (allZ_not hz') (fun w => rseal_ok 4 0 0 A 0 p w h (by omega) (by omega))⟩, .inl ⟨rfl, of_yes (seal_not_blank _ _ _ _ _ _ (by omega) (by omega)) HO⟩⟩
  · refine ⟨ByteArray.empty, 18, ⟨fun w => home_no a p w h, fun w => ?_⟩, .inr ⟨rfl, rfl⟩⟩
    by_cases ha : 0 ≤ a ∧ a ≤ 65535
    · refine rhome_seal a p _ 18 w ha.1 ha.2 ?_ (fun w => rseal_no 4 0 0 a 0 p w h)
      rintro rfl
      exact h ⟨by omega, by omega, ha.1, ha.2, by omega, by omega, by rw [bs_size]; exact List.length_replicate⟩
    · exact rhome_out a p w ha
end Go.Proofs.Ytplngodilalbhaa
