/- Contracts: which nodes may be. -/
import Derived.Test.YtnjpijihjifkfaaT2
namespace Go.Proofs.Ytnjpijihjifkfaa
open Go.RowKit
set_option linter.unusedVariables false
theorem quiet_same {P : Program} {f : FuncId} {args : Array Value} {w : World} {n : Nat} {v : Value}
    (h : Calls P f args (w.drewN n) fun e w' => e = .returned v ∧ w.drewN n = w') : Calls P f args (w.drewN n) fun e w'' => e = .returned v ∧ ∃ m, w'' = w.drewN m :=
  h.mono fun _ _ ⟨he, hm⟩ => ⟨he, n, hm.symm⟩
theorem below_drewN (w : World) (n : Nat) : Below w.heap.size w (w.drewN n) := ⟨rfl, rfl, rfl, Nat.le_refl _, fun _ _ => rfl⟩
theorem hasNumber_any (a : Option Addr) (n c : Nat) (ka : Option Addr) (kn kc : Nat) (b : Bool) (h : (if kn = 0 then decide (0 < n) else decide (n + 1 = kn)) = b) (w : World) (hk : kn ≤ 9223372036854775807) :
    Calls Try.prog 37 #[.agg #[.slice a n c, .slice ka kn kc]] w fun e w' => e = .returned (.bool b) ∧ Below w.heap.size w w' := by
  have HH := Lib.hid h
  have N0 := Nd.new w a n c ka kn kc 31
  have B0 := new_below w (.cells #[.slice a n c, .slice ka kn kc] 31)
  have HN := Lib.hid N0
  have HB0 := Lib.hid B0
  clear N0 B0 h
  by_cases h0 : kn = 0
  · subst h0
    have h := HH.out
    rw [if_pos rfl] at h
    have H2 := Lib.hid h
    clear h
    go_enter Try.func37, Try.ntmps37
    go_wp2_with fail
    refine (isLeaf_yes _ _ _ _ _ _).mono ?_
    rintro e w1 ⟨rfl, hb⟩
    have hN := HN.out.below hb
    have hB := below_to HB0.out hb
    have c0 := hN.c0
    clear hb
    go_wp2_with fail
    go_ret
    exact ⟨ret_bool (by rw [← H2.out]; first | done | (simp; done)), hB⟩
  · have h := HH.out
    rw [if_neg h0] at h
    have H2 := Lib.hid h
    clear h
    go_enter Try.func37, Try.ntmps37
    go_wp2_with fail
    refine (isLeaf_no _ _ _ _ _ _ (by omega) _).mono ?_
    rintro e w1 ⟨rfl, hb⟩
    have hN := HN.out.below hb
    have hB := below_to HB0.out hb
    have c0 := hN.c0
    have c1 := hN.c1
    clear hb
    go_wp2_with fail
    go_ret
    exact ⟨ret_bool (by rw [← H2.out]; first | done | (rw [Bool.eq_iff_iff]; done) | (rw [Bool.eq_iff_iff]; simp; done) | (rw [Bool.eq_iff_iff]; simp; omega)), hB⟩
theorem okKid_at (z : Int) : okKid z = (decide (2 ≤ z) && decide (z < 3840)) := by unfold okKid; rw [Bool.eq_iff_iff]; simp
theorem all_take_succ {α : Type} (p : α → Bool) (l : List α) (k : Nat) (d : α) (h : k < l.length) (h1 : (l.take k).all p = true) (h2 : p (l.getD k d) = true) : (l.take (k + 1)).all p = true := by
  rw [List.take_succ_eq_append_getElem h, List.all_append, h1]
  rw [getD_at _ _ _ h] at h2
  simp [h2]
theorem all_bad {α : Type} (p : α → Bool) (l : List α) (k : Nat) (d : α) (h : k < l.length) (h2 : p (l.getD k d) = false) : l.all p = false := by
  rw [Bool.eq_false_iff]
  intro h3
  rw [List.all_eq_true] at h3
  rw [getD_at _ _ _ h] at h2
  rw [h3 _ (List.getElem_mem h)] at h2
  cases h2
section
variable {w : World} {a : Option Addr} {n c : Nat} {ka : Option Addr} {kn kc : Nat} {I : List It} {K : List Int} {b : Bool}
set_option maxHeartbeats 1000000 in
theorem hasKids_any (hK : Kds w ka kn K) (hn : kn ≤ 9223372036854775806) : Calls Try.prog 39 #[.agg #[.slice a n c, .slice ka kn kc]] w fun e w' => e = .returned (.bool (K.all okKid)) ∧ Below w.heap.size w w' := by
  have HI := Lib.hid hK
  have HL := Lib.hid hK.1
  have HKB := Lib.hid (hK.below (new_below w (.cells #[.slice a n c, .slice ka kn kc] 31)))
  have HB0 := Lib.hid (new_below w (.cells #[.slice a n c, .slice ka kn kc] 31))
  clear hK
  go_enter Try.func39, Try.ntmps39
  go_wp2_with fail
  go_loop [8] (fun i => ∃ (k : Nat), k ≤ kn ∧ Hid ((K.take k).all okKid = true) ∧ i = .int .i64 (k : Int)) (fun i => kn - (intOf i).toNat)
  case atStart => exact ⟨0, by omega, Lib.hid rfl, rfl⟩
  case round =>
    obtain ⟨k, hk, HA, rfl⟩ := hrel
    by_cases hlt : k < kn
    · obtain ⟨g, off, rfl, hg, e0⟩ := HKB.out.at hlt
      have hkl : k < K.length := by rw [HL.out]; exact hlt
      obtain ⟨z, hz⟩ : ∃ z, K.getD k 0 = z := ⟨_, rfl⟩
      have HZ := Lib.hid hz
      rw [hz] at e0
      clear hz
      by_cases h1 : 2 ≤ z
      · by_cases h2 : z < 3840
        · have HA2 := Lib.hid (all_take_succ okKid K k 0 hkl HA.out (by rw [HZ.out, okKid_at]; simp [h1, h2]))
          go_wp2_with fail
          go_round
          case rel => exact ⟨k + 1, by omega, HA2, by go_num⟩
          case measure => simp [intOf]; omega
        · have HA2 := Lib.hid (all_bad okKid K k 0 hkl (by rw [HZ.out, okKid_at]; simp [h1, h2]))
          go_wp2_with fail
          go_ret
          exact ⟨ret_bool HA2.out.symm, HB0.out⟩
      · have HA2 := Lib.hid (all_bad okKid K k 0 hkl (by rw [HZ.out, okKid_at]; simp [h1]))
        go_wp2_with fail
        go_ret
        exact ⟨ret_bool HA2.out.symm, HB0.out⟩
    · obtain rfl : k = kn := by omega
      have HE := Lib.hid (show K.all okKid = true by have := HA.out; rwa [List.take_of_length_le (by rw [HL.out]; exact Nat.le_refl _)] at this)
      go_wp2_with fail
      go_ret
      exact ⟨ret_bool HE.out.symm, HB0.out⟩
theorem okIt_key {b : Bool} {p q : ByteArray} (h : decide (1 ≤ p.size ∧ p.size ≤ 64) = false) : okIt b (p, q) = false := by
  have h := of_decide_eq_false h
  unfold okIt; rw [decide_eq_false_iff_not]; rintro ⟨h1, h2, _⟩; exact h ⟨h1, h2⟩
theorem okIt_val {b : Bool} {p q : ByteArray} {m : Nat} (hm : (if b then 64 else 0) = m) (h : m < q.size) : okIt b (p, q) = false := by
  unfold okIt; rw [decide_eq_false_iff_not]; rintro ⟨h1, h2, h3⟩; simp only [hm] at h3; omega
theorem okIt_yes {b : Bool} {p q : ByteArray} {m : Nat} (hm : (if b then 64 else 0) = m) (h : decide (1 ≤ p.size ∧ p.size ≤ 64) = true) (h2 : ¬ m < q.size) : okIt b (p, q) = true := by
  have h := of_decide_eq_true h
  unfold okIt; rw [decide_eq_true_iff]; simp only [hm]; exact ⟨h.1, h.2, by omega⟩
/-- All items are valid, and rise. -/
def itemsB (b : Bool) (I : List It) : Bool := I.all (okIt b) && decide (RiseTo I I.length)
theorem itemsB_bad {b : Bool} {I : List It} {k : Nat} (h : k < I.length) (h2 : okIt b (kq I k, vq I k) = false) : itemsB b I = false := by
  unfold itemsB; rw [all_bad (okIt b) I k it0 h (by rw [getD_at _ _ _ h, kv_at I k h]; exact h2)]; rfl
theorem itemsB_low {b : Bool} {I : List It} {m : Nat} (h : m + 1 < I.length) (h2 : ltB (kq I m) (kq I (m + 1)) = false) : itemsB b I = false := by
  unfold itemsB
  rw [decide_eq_false (fun hr => by have := hr m (by omega); rw [h2] at this; cases this), Bool.and_false]
set_option maxRecDepth 100000 in
set_option maxHeartbeats 2000000 in
theorem hasItems_free (hI : Its w a n I) (hn : n ≤ 4096) (h : (kn == 0) = b) : Calls Try.prog 38 #[.agg #[.slice a n c, .slice ka kn kc]] w fun e w' => e = .returned (.bool (itemsB b I)) ∧ Below w.heap.size w w' := by
  have HI := Lib.hid hI
  have HL := Lib.hid hI.1
  have HF := Lib.hid (fun w => isLeaf_any a n c ka kn kc b h w)
  have HN := Lib.hid (Nd.new w a n c ka kn kc 31)
  have HB0 := Lib.hid (new_below w (.cells #[.slice a n c, .slice ka kn kc] 31))
  obtain ⟨m, hm⟩ : ∃ m : Nat, (if b then 64 else 0) = m := ⟨_, rfl⟩
  have HM := Lib.hid hm
  have hm64 : m ≤ 64 := by rw [← hm]; split <;> omega
  clear hI h hm
  go_enter Try.func38, Try.ntmps38
  go_wp2_with fail
  refine (HF.out _).mono ?_
  rintro e w1 ⟨rfl, hb⟩
  have hN1 := HN.out.below hb
  have hB1 := below_to HB0.out hb
  have c0 := hN1.c0
  clear hb
  cases b with
  | true =>
    obtain rfl : 64 = m := by have := HM.out; simpa using this
    go_wp2_with fail
    clear c0
    have HN1 := Lib.hid hN1
    have HB1 := Lib.hid hB1
    clear hN1 hB1
    go_loopw [12] (fun i wx => ∃ (k : Nat), k ≤ n ∧ Hid ((I.take k).all (okIt true) = true) ∧ Hid (RiseTo I k) ∧ Nd wx w.heap.size a n c ka kn kc ∧ Below w.heap.size w wx ∧ i = .int .i64 (k : Int)) (fun i _ => n - (intOf i).toNat)
    case atStart => exact ⟨0, by omega, Lib.hid rfl, Lib.hid (RiseTo.zero I), HN1.out, HB1.out, rfl⟩
    case round =>
      obtain ⟨k, hk, HA, HR, hN, hB, rfl⟩ := hrel
      by_cases hlt : k < n
      · have hIt := HI.out.below hB
        obtain ⟨g, off, rfl, hg, e0, e1⟩ := hIt.at hlt
        have hkl : k < I.length := by rw [HL.out]; exact hlt
        obtain ⟨p, hp⟩ : ∃ p, kq I k = p := ⟨_, rfl⟩
        obtain ⟨q, hq⟩ : ∃ q, vq I k = q := ⟨_, rfl⟩
        have HP := Lib.hid hp
        have HQ := Lib.hid hq
        have c0 := hN.c0
        have hlt0 := hN.lt
        rw [hp] at e0
        rw [hq] at e1
        obtain ⟨t, ht⟩ : ∃ t, decide (1 ≤ p.size ∧ p.size ≤ 64) = t := ⟨_, rfl⟩
        have HT := Lib.hid ht
        clear hp hq ht
        cases t with
        | false =>
          have HE := Lib.hid (itemsB_bad (b := true) hkl (by rw [HP.out, HQ.out]; exact okIt_key HT.out))
          clear hIt
          go_wp2_with fail
          go_quiet ((go_at_call 64; exact quiet_same (isKey_any _ _ _ HT.out)))
          go_wp2
          go_ret
          exact ⟨ret_bool HE.out.symm, below_to (below_to hB (new_below _ _)) (below_drewN _ _)⟩
        | true =>
          by_cases hv : 64 < q.size
          · have hv1 : decide (64 < q.size) = true := decide_eq_true hv
            have hv2 : decide ((64 : Int) < (q.size : Int)) = true := decide_eq_true (by omega)
            have HE := Lib.hid (itemsB_bad (b := true) hkl (by rw [HP.out, HQ.out]; exact okIt_val HM.out hv))
            clear hIt
            go_wp2_with fail
            go_quiet ((go_at_call 64; exact quiet_same (isKey_any _ _ _ HT.out)))
            go_wp2
            go_ret
            exact ⟨ret_bool HE.out.symm, below_to (below_to hB (new_below _ _)) (below_drewN _ _)⟩
          · have hv1 : decide (64 < q.size) = false := decide_eq_false hv
            have hv2 : decide ((64 : Int) < (q.size : Int)) = false := decide_eq_false (by omega)
            have HA2 := Lib.hid (all_take_succ (okIt true) I k it0 hkl HA.out (by rw [getD_at _ _ _ hkl, kv_at I k hkl, HP.out, HQ.out]; exact okIt_yes HM.out HT.out hv))
            have hN3 := Lib.hid ((hN.below (new_below _ (.cells #[.string p, .string q] 44))).below (below_drewN _ 0))
            by_cases h0 : k = 0
            · have h01 : decide (0 < k) = false := decide_eq_false (by omega)
              have h02 : decide ((0 : Int) < (k : Int)) = false := decide_eq_false (by omega)
              have H0 := Lib.hid h0
              clear hIt h0
              go_wp2_with fail
              go_quiet ((go_at_call 64; exact quiet_same (isKey_any _ _ _ HT.out)))
              go_wp2
              go_roundw
              case rel => exact ⟨k + 1, by omega, HA2, Lib.hid (by rw [H0.out]; exact RiseTo.one I), (hN.below (new_below _ _)).below (below_drewN _ _), below_to (below_to hB (new_below _ _)) (below_drewN _ _), by go_num⟩
              case measure => simp [intOf]; omega
            · obtain ⟨m, hm⟩ : ∃ m, k = m + 1 := ⟨k - 1, by omega⟩
              have h01 : decide (0 < k) = true := decide_eq_true (by omega)
              have h02 : decide ((0 : Int) < (k : Int)) = true := decide_eq_true (by omega)
              have hmw : IntKind.i64.wrap (m : Int) = (m : Int) := by rw [IntWalk.i64_in _ (by omega)]
              have hml : m < n := by omega
              obtain ⟨g2, off2, hgg, _, d0, d1⟩ := hIt.at hml
              simp only [Option.some.injEq, Addr.mk.injEq, and_true] at hgg
              obtain ⟨rfl, rfl⟩ := hgg
              obtain ⟨r, hr⟩ : ∃ r, kq I m = r := ⟨_, rfl⟩
              have HRR := Lib.hid hr
              rw [hr] at d0
              obtain ⟨z, hz⟩ : ∃ z, ltB r p = z := ⟨_, rfl⟩
              have hz2 : Op.bytesLess r.toList p.toList = z := by rw [ByteArray.toList_eq, ByteArray.toList_eq]; exact hz
              have HZ := Lib.hid hz
              have HMK := Lib.hid hm
              clear hr hz d1 hIt hm
              cases z with
              | false =>
                have HE := Lib.hid (itemsB_low (b := true) (I := I) (m := m) (by rw [← HMK.out]; exact hkl) (by rw [← HMK.out, HRR.out, HP.out]; exact HZ.out))
                go_wp2_with fail
                have hmi : (k : Int) = (m : Int) + 1 := by have := HMK.out; omega
                go_quiet ((go_at_call 64; exact quiet_same (isKey_any _ _ _ HT.out)))
                go_wp2
                go_ret
                exact ⟨ret_bool HE.out.symm, below_to (below_to hB (new_below _ _)) (below_drewN _ _)⟩
              | true =>
                have HR2 := Lib.hid (HR.out.step (fun _ => by rw [show k - 1 = m by have := HMK.out; omega, HRR.out, HP.out]; exact HZ.out))
                go_wp2_with fail
                have hmi : (k : Int) = (m : Int) + 1 := by have := HMK.out; omega
                go_quiet ((go_at_call 64; exact quiet_same (isKey_any _ _ _ HT.out)))
                go_wp2
                go_roundw
                case rel => exact ⟨k + 1, by omega, HA2, HR2, (hN.below (new_below _ _)).below (below_drewN _ _), below_to (below_to hB (new_below _ _)) (below_drewN _ _), by go_num⟩
                case measure => simp [intOf]; omega
      · obtain rfl : k = n := by omega
        have HE := Lib.hid (show itemsB true I = true by
          have := HA.out
          rw [List.take_of_length_le (by rw [HL.out]; exact Nat.le_refl _)] at this
          unfold itemsB
          rw [this, decide_eq_true (by rw [HL.out]; exact HR.out)]; rfl)
        go_wp2_with fail
        go_ret
        exact ⟨ret_bool HE.out.symm, hB⟩
  | false =>
    obtain rfl : 0 = m := by have := HM.out; simpa using this
    go_wp2_with fail
    clear c0
    have HN1 := Lib.hid hN1
    have HB1 := Lib.hid hB1
    clear hN1 hB1
    go_loopw [12] (fun i wx => ∃ (k : Nat), k ≤ n ∧ Hid ((I.take k).all (okIt false) = true) ∧ Hid (RiseTo I k) ∧ Nd wx w.heap.size a n c ka kn kc ∧ Below w.heap.size w wx ∧ i = .int .i64 (k : Int)) (fun i _ => n - (intOf i).toNat)
    case atStart => exact ⟨0, by omega, Lib.hid rfl, Lib.hid (RiseTo.zero I), HN1.out, HB1.out, rfl⟩
    case round =>
      obtain ⟨k, hk, HA, HR, hN, hB, rfl⟩ := hrel
      by_cases hlt : k < n
      · have hIt := HI.out.below hB
        obtain ⟨g, off, rfl, hg, e0, e1⟩ := hIt.at hlt
        have hkl : k < I.length := by rw [HL.out]; exact hlt
        obtain ⟨p, hp⟩ : ∃ p, kq I k = p := ⟨_, rfl⟩
        obtain ⟨q, hq⟩ : ∃ q, vq I k = q := ⟨_, rfl⟩
        have HP := Lib.hid hp
        have HQ := Lib.hid hq
        have c0 := hN.c0
        have hlt0 := hN.lt
        rw [hp] at e0
        rw [hq] at e1
        obtain ⟨t, ht⟩ : ∃ t, decide (1 ≤ p.size ∧ p.size ≤ 64) = t := ⟨_, rfl⟩
        have HT := Lib.hid ht
        clear hp hq ht
        cases t with
        | false =>
          have HE := Lib.hid (itemsB_bad (b := false) hkl (by rw [HP.out, HQ.out]; exact okIt_key HT.out))
          clear hIt
          go_wp2_with fail
          go_quiet ((go_at_call 64; exact quiet_same (isKey_any _ _ _ HT.out)))
          go_wp2
          go_ret
          exact ⟨ret_bool HE.out.symm, below_to (below_to hB (new_below _ _)) (below_drewN _ _)⟩
        | true =>
          by_cases hv : 0 < q.size
          · have hv1 : decide (0 < q.size) = true := decide_eq_true hv
            have hv2 : decide ((0 : Int) < (q.size : Int)) = true := decide_eq_true (by omega)
            have HE := Lib.hid (itemsB_bad (b := false) hkl (by rw [HP.out, HQ.out]; exact okIt_val HM.out hv))
            clear hIt
            go_wp2_with fail
            go_quiet ((go_at_call 64; exact quiet_same (isKey_any _ _ _ HT.out)))
            go_wp2
            go_ret
            exact ⟨ret_bool HE.out.symm, below_to (below_to hB (new_below _ _)) (below_drewN _ _)⟩
          · have hv1 : decide (0 < q.size) = false := decide_eq_false hv
            have hv2 : decide ((0 : Int) < (q.size : Int)) = false := decide_eq_false (by omega)
            have HA2 := Lib.hid (all_take_succ (okIt false) I k it0 hkl HA.out (by rw [getD_at _ _ _ hkl, kv_at I k hkl, HP.out, HQ.out]; exact okIt_yes HM.out HT.out hv))
            have hN3 := Lib.hid ((hN.below (new_below _ (.cells #[.string p, .string q] 44))).below (below_drewN _ 0))
            by_cases h0 : k = 0
            · have h01 : decide (0 < k) = false := decide_eq_false (by omega)
              have h02 : decide ((0 : Int) < (k : Int)) = false := decide_eq_false (by omega)
              have H0 := Lib.hid h0
              clear hIt h0
              go_wp2_with fail
              go_quiet ((go_at_call 64; exact quiet_same (isKey_any _ _ _ HT.out)))
              go_wp2
              go_roundw
              case rel => exact ⟨k + 1, by omega, HA2, Lib.hid (by rw [H0.out]; exact RiseTo.one I), (hN.below (new_below _ _)).below (below_drewN _ _), below_to (below_to hB (new_below _ _)) (below_drewN _ _), by go_num⟩
              case measure => simp [intOf]; omega
            · obtain ⟨m, hm⟩ : ∃ m, k = m + 1 := ⟨k - 1, by omega⟩
              have h01 : decide (0 < k) = true := decide_eq_true (by omega)
              have h02 : decide ((0 : Int) < (k : Int)) = true := decide_eq_true (by omega)
              have hmw : IntKind.i64.wrap (m : Int) = (m : Int) := by rw [IntWalk.i64_in _ (by omega)]
              have hml : m < n := by omega
              obtain ⟨g2, off2, hgg, _, d0, d1⟩ := hIt.at hml
              simp only [Option.some.injEq, Addr.mk.injEq, and_true] at hgg
              obtain ⟨rfl, rfl⟩ := hgg
              obtain ⟨r, hr⟩ : ∃ r, kq I m = r := ⟨_, rfl⟩
              have HRR := Lib.hid hr
              rw [hr] at d0
              obtain ⟨z, hz⟩ : ∃ z, ltB r p = z := ⟨_, rfl⟩
              have hz2 : Op.bytesLess r.toList p.toList = z := by rw [ByteArray.toList_eq, ByteArray.toList_eq]; exact hz
              have HZ := Lib.hid hz
              have HMK := Lib.hid hm
              clear hr hz d1 hIt hm
              cases z with
              | false =>
                have HE := Lib.hid (itemsB_low (b := false) (I := I) (m := m) (by rw [← HMK.out]; exact hkl) (by rw [← HMK.out, HRR.out, HP.out]; exact HZ.out))
                go_wp2_with fail
                have hmi : (k : Int) = (m : Int) + 1 := by have := HMK.out; omega
                go_quiet ((go_at_call 64; exact quiet_same (isKey_any _ _ _ HT.out)))
                go_wp2
                go_ret
                exact ⟨ret_bool HE.out.symm, below_to (below_to hB (new_below _ _)) (below_drewN _ _)⟩
              | true =>
                have HR2 := Lib.hid (HR.out.step (fun _ => by rw [show k - 1 = m by have := HMK.out; omega, HRR.out, HP.out]; exact HZ.out))
                go_wp2_with fail
                have hmi : (k : Int) = (m : Int) + 1 := by have := HMK.out; omega
                go_quiet ((go_at_call 64; exact quiet_same (isKey_any _ _ _ HT.out)))
                go_wp2
                go_roundw
                case rel => exact ⟨k + 1, by omega, HA2, HR2, (hN.below (new_below _ _)).below (below_drewN _ _), below_to (below_to hB (new_below _ _)) (below_drewN _ _), by go_num⟩
                case measure => simp [intOf]; omega
      · obtain rfl : k = n := by omega
        have HE := Lib.hid (show itemsB false I = true by
          have := HA.out
          rw [List.take_of_length_le (by rw [HL.out]; exact Nat.le_refl _)] at this
          unfold itemsB
          rw [this, decide_eq_true (by rw [HL.out]; exact HR.out)]; rfl)
        go_wp2_with fail
        go_ret
        exact ⟨ret_bool HE.out.symm, hB⟩
theorem hasItems_any (hI : Its w a n I) (hn : n ≤ 4096) (hS : Short I) (h : (kn == 0) = b) : Calls Try.prog 38 #[.agg #[.slice a n c, .slice ka kn kc]] w fun e w' => e = .returned (.bool (itemsB b I)) ∧ Below w.heap.size w w' := hasItems_free hI hn h
end
theorem short_items {b : Bool} {I : List It} (h : itemsB b I = true) : Short I := by
  unfold itemsB at h
  rw [Bool.and_eq_true, List.all_eq_true] at h
  intro x hx
  have h1 := of_decide_eq_true (show decide (1 ≤ x.1.size ∧ x.1.size ≤ 64 ∧ x.2.size ≤ if b then 64 else 0) = true from h.1 x hx)
  refine ⟨by omega, ?_⟩
  have := h1.2.2
  split at this <;> omega
end Go.Proofs.Ytnjpijihjifkfaa
