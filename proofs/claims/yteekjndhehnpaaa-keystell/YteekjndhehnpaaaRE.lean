/- Contracts: how the reference's keys begin. -/
import Derived.Test.YteekjndhehnpaaaRD
namespace Go.Proofs.Yteekjndhehnpaaa
open Go.RowKit
set_option maxRecDepth 100000
set_option linter.unusedVariables false
set_option linter.unusedSimpArgs false
set_option maxHeartbeats 4000000
def begS (k : K) (many : Nat) : ByteArray := bs (if okK k then (encL k).take many else [])
theorem rbegins_any (k : K) (many : Nat) (hb : k.buc.size ≤ 1000) (hn : k.nam.size ≤ 1000) (hu : k.num < 18446744073709551616) (hle : okK k = true → many ≤ (encL k).length) (w : World) : Calls Try.prog 61 #[kV k, .int .i64 (many : Int)] w fun e w' => e = .returned (.string (begS k many)) ∧ Below w.heap.size w w' := by
  have HM := Lib.hid (rmake_any k hb hn hu)
  cases hok : okK k with
  | false =>
    have HR : Hid (begS k many = ⟨#[]⟩) := Lib.hid (by unfold begS; rw [hok]; rfl)
    rw [hok] at HM
    unfold makeS at HM
    simp only [argE, hok] at HM
    rw [HR.out]
    clear hok hb hn hu hle HR
    obtain ⟨kind, t, b, n, u, p⟩ := k
    unfold kV at HM ⊢
    simp only at HM ⊢
    unfold strErr at HM
    go_enter Try.func61, Try.ntmps61
    go_wp2_with fail
    refine (HM.out _).mono ?_
    rintro e w2 ⟨rfl, hb⟩
    go_wp2_with fail
    go_ret
    exact ⟨rfl, below_alloc_to hb⟩
  | true =>
    have hle2 := hle hok
    have hsz : (bs (encL k)).size = (encL k).length := bs_size _
    have h64 := enc_size hok
    have HR : Hid (begS k many = (bs (encL k)).extract 0 many) := Lib.hid (by unfold begS; rw [hok, if_pos rfl, ext_front, bs_toList])
    rw [hok] at HM
    rw [makeS_ok hok] at HM
    simp only [argE] at HM
    rw [HR.out]
    obtain ⟨A, hA⟩ : ∃ A, bs (encL k) = A := ⟨_, rfl⟩
    rw [hA] at HM hsz ⊢
    have hm : many ≤ A.size := by omega
    have hA64 : A.size ≤ 64 := by omega
    clear hok hb hn hu hle HR hA hsz h64 hle2
    obtain ⟨kind, t, b, n, u, p⟩ := k
    unfold kV at HM ⊢
    simp only at HM ⊢
    unfold strErr at HM
    go_enter Try.func61, Try.ntmps61
    go_wp2_with fail
    refine (HM.out _).mono ?_
    rintro e w2 ⟨rfl, hb⟩
    go_wp2_with fail
    go_ret
    exact ⟨rfl, below_alloc_to hb⟩
def aB : ByteArray := ⟨#[97]⟩
theorem okA : bucketB aB = true ∧ nameB aB = true := by decide +kernel
theorem rbuckets_any (t : Int) (w : World) : Calls Try.prog 19 #[.int .i64 t] w fun e w' => e = .returned (.string (bucketsS t)) ∧ Below w.heap.size w w' := by
  have hok : okK ⟨2, t, aB, ⟨#[]⟩, 0, 0⟩ = tenB t := by unfold okK; simp [okA.1, empty_eq]
  have HB : Hid (∀ w, Calls Try.prog 61 #[.agg #[.int .i64 2, .int .i64 t, .string ⟨#[97]⟩, .string ⟨#[]⟩, .int .u64 0, .int .i64 0], .int .i64 2] w fun e w' => e = .returned (.string (begS ⟨2, t, aB, ⟨#[]⟩, 0, 0⟩ 2)) ∧ Below w.heap.size w w') :=
    Lib.hid (fun w => rbegins_any ⟨2, t, aB, ⟨#[]⟩, 0, 0⟩ 2 (by show aB.size ≤ 1000; decide) (by show (⟨#[]⟩ : ByteArray).size ≤ 1000; decide) (by show (0 : Nat) < 18446744073709551616; decide) (fun _ => by simp [encL, begL]) w)
  have e : begS ⟨2, t, aB, ⟨#[]⟩, 0, 0⟩ 2 = bucketsS t := by unfold begS bucketsS; rw [hok]; simp [encL, begL]
  rw [e] at HB
  clear hok e
  go_enter Try.func19, Try.ntmps19
  go_wp2_with fail
  refine (HB.out _).mono ?_
  rintro e w2 ⟨rfl, hb⟩
  go_wp2_with fail
  go_ret
  exact ⟨rfl, hb⟩
theorem rall_any (k t : Int) (b : ByteArray) (hb : b.size ≤ 1000) (w : World) : Calls Try.prog 21 #[.int .i64 k, .int .i64 t, .string b] w fun e w' => e = .returned (.string (allS k t b)) ∧ Below w.heap.size w w' := by
  by_cases k3 : k = 3
  · subst k3
    have hok : okK ⟨3, t, b, aB, 0, 0⟩ = (tenB t && bucketB b) := by unfold okK; simp [okA.2]
    have HB : Hid (∀ w, Calls Try.prog 61 #[.agg #[.int .i64 3, .int .i64 t, .string b, .string ⟨#[97]⟩, .int .u64 0, .int .i64 0], .int .i64 (3 + (b.size : Int))] w fun e w' => e = .returned (.string (begS ⟨3, t, b, aB, 0, 0⟩ (3 + b.size))) ∧ Below w.heap.size w w') :=
      Lib.hid (fun w => rbegins_any ⟨3, t, b, aB, 0, 0⟩ (3 + b.size) hb (by show aB.size ≤ 1000; decide) (by show (0 : Nat) < 18446744073709551616; decide) (fun _ => by simp [encL, chainL, allL, begL]; omega) w)
    have e : begS ⟨3, t, b, aB, 0, 0⟩ (3 + b.size) = allS 3 t b := by
      unfold begS allS
      rw [hok]
      cases (tenB t && bucketB b) with
      | false => rfl
      | true =>
        rw [if_pos rfl, if_pos (show (inB 3 && true) = true from rfl)]
        have e1 : encL ⟨3, t, b, aB, 0, 0⟩ = allL 3 t b ++ (aB.data.toList ++ [0] ++ numL 8 18446744073709551615) := by simp [encL, chainL]
        have e2 : (allL 3 t b).length = 3 + b.size := by simp [allL, begL]; omega
        rw [e1, ← e2, List.take_append_of_le_length (Nat.le_refl _), List.take_length]
    rw [e] at HB
    clear hok e
    go_enter Try.func21, Try.ntmps21
    go_wp2_with fail
    refine (HB.out _).mono ?_
    rintro e w2 ⟨rfl, hb⟩
    go_wp2_with fail
    go_ret
    exact ⟨rfl, hb⟩
  by_cases k4 : k = 4
  · subst k4
    have hok : okK ⟨4, t, b, ⟨#[]⟩, 0, 0⟩ = (tenB t && bucketB b) := by unfold okK; simp [empty_eq]
    have HB : Hid (∀ w, Calls Try.prog 61 #[.agg #[.int .i64 4, .int .i64 t, .string b, .string ⟨#[]⟩, .int .u64 0, .int .i64 0], .int .i64 (3 + (b.size : Int))] w fun e w' => e = .returned (.string (begS ⟨4, t, b, ⟨#[]⟩, 0, 0⟩ (3 + b.size))) ∧ Below w.heap.size w w') :=
      Lib.hid (fun w => rbegins_any ⟨4, t, b, ⟨#[]⟩, 0, 0⟩ (3 + b.size) hb (by show (⟨#[]⟩ : ByteArray).size ≤ 1000; decide) (by show (0 : Nat) < 18446744073709551616; decide) (fun _ => by simp [encL, allL, begL]; omega) w)
    have e : begS ⟨4, t, b, ⟨#[]⟩, 0, 0⟩ (3 + b.size) = allS 4 t b := by
      unfold begS allS
      rw [hok]
      cases (tenB t && bucketB b) with
      | false => rfl
      | true =>
        rw [if_pos rfl, if_pos (show (inB 4 && true) = true from rfl)]
        have e1 : encL ⟨4, t, b, ⟨#[]⟩, 0, 0⟩ = allL 4 t b ++ numL 8 0 := by simp [encL]
        have e2 : (allL 4 t b).length = 3 + b.size := by simp [allL, begL]; omega
        rw [e1, ← e2, List.take_append_of_le_length (Nat.le_refl _), List.take_length]
    rw [e] at HB
    clear hok e k3
    go_enter Try.func21, Try.ntmps21
    go_wp2_with fail
    refine (HB.out _).mono ?_
    rintro e w2 ⟨rfl, hb⟩
    go_wp2_with fail
    go_ret
    exact ⟨rfl, hb⟩
  by_cases k5 : k = 5
  · subst k5
    have hok : okK ⟨5, t, b, ⟨#[]⟩, 0, 1⟩ = (tenB t && bucketB b) := by unfold okK; simp [empty_eq]
    have HB : Hid (∀ w, Calls Try.prog 61 #[.agg #[.int .i64 5, .int .i64 t, .string b, .string ⟨#[]⟩, .int .u64 0, .int .i64 1], .int .i64 (3 + (b.size : Int))] w fun e w' => e = .returned (.string (begS ⟨5, t, b, ⟨#[]⟩, 0, 1⟩ (3 + b.size))) ∧ Below w.heap.size w w') :=
      Lib.hid (fun w => rbegins_any ⟨5, t, b, ⟨#[]⟩, 0, 1⟩ (3 + b.size) hb (by show (⟨#[]⟩ : ByteArray).size ≤ 1000; decide) (by show (0 : Nat) < 18446744073709551616; decide) (fun _ => by simp [encL, piecesL, allL, begL]; omega) w)
    have e : begS ⟨5, t, b, ⟨#[]⟩, 0, 1⟩ (3 + b.size) = allS 5 t b := by
      unfold begS allS
      rw [hok]
      cases (tenB t && bucketB b) with
      | false => rfl
      | true =>
        rw [if_pos rfl, if_pos (show (inB 5 && true) = true from rfl)]
        have e1 : encL ⟨5, t, b, ⟨#[]⟩, 0, 1⟩ = allL 5 t b ++ (numL 8 0 ++ numL 1 1) := by simp [encL, piecesL]
        have e2 : (allL 5 t b).length = 3 + b.size := by simp [allL, begL]; omega
        rw [e1, ← e2, List.take_append_of_le_length (Nat.le_refl _), List.take_length]
    rw [e] at HB
    clear hok e k3 k4
    go_enter Try.func21, Try.ntmps21
    go_wp2_with fail
    refine (HB.out _).mono ?_
    rintro e w2 ⟨rfl, hb⟩
    go_wp2_with fail
    go_ret
    exact ⟨rfl, hb⟩
  · have HR : Hid (allS k t b = ⟨#[]⟩) := Lib.hid (allS_no (.inl (by unfold inB; exact decide_eq_false (by omega))))
    have h3 : (k == 3) = false := by rw [beq_eq_false_iff_ne]; omega
    have h4 : (k == 4) = false := by rw [beq_eq_false_iff_ne]; omega
    have h5 : (k == 5) = false := by rw [beq_eq_false_iff_ne]; omega
    rw [HR.out]
    clear k3 k4 k5
    go_enter Try.func21, Try.ntmps21
    go_wp2_with fail
    go_ret
    exact ⟨rfl, Below.refl _ _⟩
theorem rchain_any (t : Int) (b n : ByteArray) (hb : b.size ≤ 1000) (hn : n.size ≤ 1000) (w : World) : Calls Try.prog 23 #[.int .i64 t, .string b, .string n] w fun e w' => e = .returned (.string (chainS t b n)) ∧ Below w.heap.size w w' := by
  have hok : okK ⟨3, t, b, n, 0, 0⟩ = (tenB t && (bucketB b && nameB n)) := by unfold okK; simp
  have HB : Hid (∀ w, Calls Try.prog 61 #[.agg #[.int .i64 3, .int .i64 t, .string b, .string n, .int .u64 0, .int .i64 0], .int .i64 (4 + (b.size : Int) + (n.size : Int))] w fun e w' => e = .returned (.string (begS ⟨3, t, b, n, 0, 0⟩ (4 + b.size + n.size))) ∧ Below w.heap.size w w') :=
    Lib.hid (fun w => rbegins_any ⟨3, t, b, n, 0, 0⟩ (4 + b.size + n.size) hb hn (by show (0 : Nat) < 18446744073709551616; decide) (fun _ => by simp [encL, chainL, allL, begL]; omega) w)
  have e : begS ⟨3, t, b, n, 0, 0⟩ (4 + b.size + n.size) = chainS t b n := by
    unfold begS chainS
    rw [hok]
    cases (tenB t && (bucketB b && nameB n)) with
    | false => rfl
    | true =>
      rw [if_pos rfl, if_pos rfl]
      have e1 : encL ⟨3, t, b, n, 0, 0⟩ = chainL t b n ++ numL 8 18446744073709551615 := by simp [encL]
      have e2 : (chainL t b n).length = 4 + b.size + n.size := by simp [chainL, allL, begL]; omega
      rw [e1, ← e2, List.take_append_of_le_length (Nat.le_refl _), List.take_length]
  rw [e] at HB
  clear hok e
  go_enter Try.func23, Try.ntmps23
  go_wp2_with fail
  refine (HB.out _).mono ?_
  rintro e w2 ⟨rfl, hb⟩
  go_wp2_with fail
  go_ret
  exact ⟨rfl, hb⟩
theorem rpieces_any (t : Int) (b : ByteArray) (u : Nat) (hb : b.size ≤ 1000) (hu : u < 18446744073709551616) (w : World) : Calls Try.prog 25 #[.int .i64 t, .string b, .int .u64 (u : Int)] w fun e w' => e = .returned (.string (piecesS t b u)) ∧ Below w.heap.size w w' := by
  have hok : okK ⟨5, t, b, ⟨#[]⟩, u, 1⟩ = (tenB t && bucketB b) := by unfold okK; simp [empty_eq]
  have HB : Hid (∀ w, Calls Try.prog 61 #[.agg #[.int .i64 5, .int .i64 t, .string b, .string ⟨#[]⟩, .int .u64 (u : Int), .int .i64 1], .int .i64 (11 + (b.size : Int))] w fun e w' => e = .returned (.string (begS ⟨5, t, b, ⟨#[]⟩, u, 1⟩ (11 + b.size))) ∧ Below w.heap.size w w') :=
    Lib.hid (fun w => rbegins_any ⟨5, t, b, ⟨#[]⟩, u, 1⟩ (11 + b.size) hb (by show (⟨#[]⟩ : ByteArray).size ≤ 1000; decide) hu (fun _ => by simp [encL, piecesL, allL, begL, numL_length]; omega) w)
  have e : begS ⟨5, t, b, ⟨#[]⟩, u, 1⟩ (11 + b.size) = piecesS t b u := by
    unfold begS piecesS
    rw [hok]
    cases (tenB t && bucketB b) with
    | false => rfl
    | true =>
      rw [if_pos rfl, if_pos rfl]
      have e1 : encL ⟨5, t, b, ⟨#[]⟩, u, 1⟩ = piecesL t b u ++ numL 1 1 := by simp [encL]
      have e2 : (piecesL t b u).length = 11 + b.size := by simp [piecesL, allL, begL, numL_length]; omega
      rw [e1, ← e2, List.take_append_of_le_length (Nat.le_refl _), List.take_length]
  rw [e] at HB
  clear hok e
  go_enter Try.func25, Try.ntmps25
  go_wp2_with fail
  refine (HB.out _).mono ?_
  rintro e w2 ⟨rfl, hb⟩
  go_wp2_with fail
  go_ret
  exact ⟨rfl, hb⟩
end Go.Proofs.Yteekjndhehnpaaa
