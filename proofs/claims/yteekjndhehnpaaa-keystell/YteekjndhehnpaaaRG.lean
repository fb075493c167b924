/- Contracts: the reference's Open, at any text. -/
import Derived.Test.YteekjndhehnpaaaRF0
import Derived.Test.YteekjndhehnpaaaRF1
import Derived.Test.YteekjndhehnpaaaRF2
import Derived.Test.YteekjndhehnpaaaRF3
import Derived.Test.YteekjndhehnpaaaRF4
import Derived.Test.YteekjndhehnpaaaRF5
namespace Go.Proofs.Yteekjndhehnpaaa
open Go.RowKit
set_option maxRecDepth 100000
set_option linter.unusedVariables false
set_option linter.unusedSimpArgs false
set_option maxHeartbeats 4000000
theorem good_to {a b : Bool} {l : List UInt8} (h : goodL a l = true) : goodL b l = true ∧ parseK b l = parseK a l := by
  have hg := h
  unfold goodL at hg
  rw [Bool.and_eq_true, decide_eq_true_eq] at hg
  have e := parse_enc b (parseK a l) hg.1 (parse_lt _ _)
  rw [hg.2] at e
  refine ⟨?_, e⟩
  unfold goodL
  rw [e, hg.1, hg.2]
  simp
theorem good_same (l : List UInt8) : goodL false l = goodL true l := by
  cases h : goodL true l with
  | true => exact (good_to h).1
  | false =>
    cases h2 : goodL false l with
    | false => rfl
    | true => have := (good_to (b := true) h2).1; rw [h] at this; cases this
theorem good_two {l : List UInt8} (h : goodL true l = true) : 2 ≤ l.length := by
  unfold goodL at h
  rw [Bool.and_eq_true, decide_eq_true_eq] at h
  obtain ⟨R, e, -⟩ := enc_head h.1
  rw [h.2] at e
  rw [e]
  simp
theorem ropen_short (s : ByteArray) (h : s.size < 2) (w : World) : Calls Try.prog 15 #[.string s] w fun x w' => x = keyErr k0 19 ∧ Below w.heap.size w w' := by
  go_enter Try.func15, Try.ntmps15
  go_wp2_with fail
  have SX := Six.new w (.int .i64 0) (.int .i64 0) (.string ⟨#[]⟩) (.string ⟨#[]⟩) (.int .u64 0) (.int .i64 0) 24
  refine bodyPost_ret (v := .tuple #[.agg #[.int .i64 0, .int .i64 0, .string ⟨#[]⟩, .string ⟨#[]⟩, .int .u64 0, .int .i64 0], .int .i64 19]) ?_ rfl ⟨rfl, ?_⟩
  · have hl := load29 SX 24 (.inr rfl)
    rw [results_cell_tmp Try.results15]
    show ((asAddr (.pointer (some ⟨w.heap.size, 0, none⟩))).run Try.prog _).andThen _ = _
    simp [asAddr, hl]
  · exact below_box _ _
theorem kd_inv (c : UInt8) : (kd c = 1 → (c.toNat : Int) = 84) ∧ (kd c = 2 → (c.toNat : Int) = 66) ∧ (kd c = 3 → (c.toNat : Int) = 86) ∧ (kd c = 4 → (c.toNat : Int) = 85) ∧ (kd c = 5 → (c.toNat : Int) = 80) ∧ (kd c = 0 → ¬ (c.toNat : Int) = 84 ∧ ¬ (c.toNat : Int) = 66 ∧ ¬ (c.toNat : Int) = 86 ∧ ¬ (c.toNat : Int) = 85 ∧ ¬ (c.toNat : Int) = 80) := by
  unfold kd
  have hz : ∀ n : Nat, n < 256 → ¬ c = UInt8.ofNat n → ¬ (c.toNat : Int) = n := fun n hn h e => h (UInt8.toNat_inj.1 (by simp; omega))
  by_cases h1 : c = 84
  · subst h1; simp
  by_cases h2 : c = 66
  · subst h2; simp
  by_cases h3 : c = 86
  · subst h3; simp
  by_cases h4 : c = 85
  · subst h4; simp
  by_cases h5 : c = 80
  · subst h5; simp
  simp only [if_neg h1, if_neg h2, if_neg h3, if_neg h4, if_neg h5]
  refine ⟨by omega, by omega, by omega, by omega, by omega, fun _ => ⟨hz 84 (by omega) h1, hz 66 (by omega) h2, hz 86 (by omega) h3, hz 85 (by omega) h4, hz 80 (by omega) h5⟩⟩
theorem getD_idx (s : ByteArray) (i : Nat) (h : i < s.size) : s.data.toList.getD i 0 = s[i] := by
  rw [List.getD_eq_getElem?_getD, List.getElem?_eq_getElem (by simpa using h)]
  simp [ByteArray.getElem_eq_getElem_data]
theorem rn_eq (s : ByteArray) (hs : s.size ≤ maxLen) (e n : Int) {t : ByteArray} {y : Int} {u : Nat} (h : numS s e n = (t, y, u)) : ∀ w, Calls Try.prog 55 #[.agg #[.string s, .int .i64 e], .int .i64 n] w (RReads w t y (.int .u64 (u : Int))) := by
  intro w
  have := rn_any n s e w hs
  rw [h] at this
  exact this
theorem ropen_any (s : ByteArray) (hs : s.size ≤ 1000) (w : World) : Calls Try.prog 15 #[.string s] w fun x w' => x = keyErr (openK s.data.toList) (openE s.data.toList) ∧ Below w.heap.size w w' := by
  have hlen : s.data.toList.length = s.size := (blen s).symm
  have hmx : s.size ≤ maxLen := Nat.le_trans hs (by decide)
  by_cases h2 : 2 ≤ s.size
  · have hR : s.extract 2 s.size = bs (s.data.toList.drop 2) := ext_back s 2
    have hRs : (s.extract 2 s.size).size ≤ maxLen := by rw [ext_size]; omega
    have HCU := Lib.hid (fun w => rcut_any (s.extract 2 s.size) w hRs)
    have hZs : (cutZ (s.extract 2 s.size)).size ≤ maxLen := Nat.le_trans (cutZ_le _) hRs
    have i1 := getD_idx s 1 (by omega)
    have i0 := getD_idx s 0 (by omega)
    have HM := fun w => rmake_any (parseK false s.data.toList) (Nat.le_trans (parse_buc _ _) (by omega)) (Nat.le_trans (parse_nam _ _) (by omega)) (parse_lt _ _) w
    have hg : (goodL false s.data.toList = true ∧ argE (okK (parseK false s.data.toList)) = 0 ∧ ((makeS (parseK false s.data.toList)).toList == s.toList) = true) ∨ (goodL false s.data.toList = false ∧ argE (okK (parseK false s.data.toList)) = 18) ∨ (goodL false s.data.toList = false ∧ argE (okK (parseK false s.data.toList)) = 0 ∧ ((makeS (parseK false s.data.toList)).toList == s.toList) = false) := by
      cases hgd : goodL false s.data.toList with
      | true =>
        unfold goodL at hgd
        rw [Bool.and_eq_true, decide_eq_true_eq] at hgd
        refine .inl ⟨rfl, by rw [hgd.1]; rfl, ?_⟩
        rw [makeS_ok hgd.1, hgd.2, bs_of]
        simp
      | false =>
        cases hok : okK (parseK false s.data.toList) with
        | false => exact .inr (.inl ⟨rfl, rfl⟩)
        | true =>
          unfold goodL at hgd
          rw [hok, Bool.true_and, decide_eq_false_iff_not] at hgd
          refine .inr (.inr ⟨rfl, rfl, str_nbeq fun h => hgd ?_⟩)
          rw [makeS_ok hok] at h
          have := congrArg (fun x => x.data.toList) h
          simpa [bs_toList] using this
    obtain ⟨gd, hgd⟩ : ∃ g, goodL false s.data.toList = g := ⟨_, rfl⟩
    rw [hgd] at hg
    have hgh := Lib.hid hg
    have kv := kd_inv (s.data.toList.getD 0 0)
    rw [i0] at kv
    obtain ⟨q1, q2, q3, q4, q5, q0⟩ := kv
    have hc256 : s[1].toNat < 256 := UInt8.toNat_lt _
    rcases kd_cases (s.data.toList.getD 0 0) with hk | hk | hk | hk | hk | hk
    · have HAN : (Value.agg #[.int .i64 0, .int .i64 (s[1].toNat : Int), .string (cutA (s.extract 2 s.size)), .string ⟨#[]⟩, .int .u64 0, .int .i64 0]) = kV (parseK false s.data.toList) := by
        unfold parseK kV restL
        simp only [hk, i1]
        simp [cutA, cutZ, bs_toList, hR]; try rfl
      rw [← HAN] at HM
      have := ropen0 s hs h2 s[1].toNat rfl hc256 s[0].toNat rfl (by rw [i0] at hk; exact q0 hk) (cutA (s.extract 2 s.size)) (cutZ (s.extract 2 s.size)) HCU _ _ (Lib.hid HM) _ hgh w
      cases gd with
      | true =>
        have h2 := (good_to (b := true) hgd)
        unfold openK openE
        rw [if_pos h2.1, if_pos h2.1, h2.2]
        refine this.mono fun x w' h => ⟨h.1.trans ?_, h.2⟩
        unfold keyErr
        rw [← HAN]
      | false =>
        rw [good_same] at hgd
        unfold openK openE
        rw [hgd]
        exact this
    · have HAN : (Value.agg #[.int .i64 1, .int .i64 (s[1].toNat : Int), .string (cutA (s.extract 2 s.size)), .string ⟨#[]⟩, .int .u64 0, .int .i64 0]) = kV (parseK false s.data.toList) := by
        unfold parseK kV restL
        simp only [hk, i1]
        simp [cutA, cutZ, bs_toList, hR]; try rfl
      rw [← HAN] at HM
      have := ropen1 s hs h2 s[1].toNat rfl hc256 (by rw [i0] at hk; exact q1 hk) (cutA (s.extract 2 s.size)) (cutZ (s.extract 2 s.size)) HCU _ _ (Lib.hid HM) _ hgh w
      cases gd with
      | true =>
        have h2 := (good_to (b := true) hgd)
        unfold openK openE
        rw [if_pos h2.1, if_pos h2.1, h2.2]
        refine this.mono fun x w' h => ⟨h.1.trans ?_, h.2⟩
        unfold keyErr
        rw [← HAN]
      | false =>
        rw [good_same] at hgd
        unfold openK openE
        rw [hgd]
        exact this
    · have HAN : (Value.agg #[.int .i64 2, .int .i64 (s[1].toNat : Int), .string (cutA (s.extract 2 s.size)), .string ⟨#[]⟩, .int .u64 0, .int .i64 0]) = kV (parseK false s.data.toList) := by
        unfold parseK kV restL
        simp only [hk, i1]
        simp [cutA, cutZ, bs_toList, hR]; try rfl
      rw [← HAN] at HM
      have := ropen2 s hs h2 s[1].toNat rfl hc256 (by rw [i0] at hk; exact q2 hk) (cutA (s.extract 2 s.size)) (cutZ (s.extract 2 s.size)) HCU _ _ (Lib.hid HM) _ hgh w
      cases gd with
      | true =>
        have h2 := (good_to (b := true) hgd)
        unfold openK openE
        rw [if_pos h2.1, if_pos h2.1, h2.2]
        refine this.mono fun x w' h => ⟨h.1.trans ?_, h.2⟩
        unfold keyErr
        rw [← HAN]
      | false =>
        rw [good_same] at hgd
        unfold openK openE
        rw [hgd]
        exact this
    · have HAN : (Value.agg #[.int .i64 3, .int .i64 (s[1].toNat : Int), .string (cutA (s.extract 2 s.size)), .string (cutA (cutZ (s.extract 2 s.size))), .int .u64 (fallN false (cutZ (cutZ (s.extract 2 s.size))).data.toList : Int), .int .i64 0]) = kV (parseK false s.data.toList) := by
        unfold parseK kV restL
        simp only [hk, i1]
        simp [cutA, cutZ, bs_toList, hR]; try rfl
      rw [← HAN] at HM
      have hZ2 : (cutZ (cutZ (s.extract 2 s.size))).size ≤ maxLen := Nat.le_trans (cutZ_le _) hZs
      obtain ⟨t1, y1, t2, y2, r1, r2, r3, r4⟩ := read9 (cutZ (cutZ (s.extract 2 s.size)))
      have hfr : fallN false (cutZ (cutZ (s.extract 2 s.size))).data.toList = 18446744073709551615 - riseN false (cutZ (cutZ (s.extract 2 s.size))).data.toList := by unfold fallN riseN; simp
      have hlt := riseN_lt false (cutZ (cutZ (s.extract 2 s.size))).data.toList
      have := ropen3 s hs h2 s[1].toNat rfl hc256 (by rw [i0] at hk; exact q3 hk) (cutA (s.extract 2 s.size)) (cutZ (s.extract 2 s.size)) (cutA (cutZ (s.extract 2 s.size))) (cutZ (cutZ (s.extract 2 s.size))) hZ2 (riseN false (cutZ (cutZ (s.extract 2 s.size))).data.toList) (fallN false (cutZ (cutZ (s.extract 2 s.size))).data.toList) (by rw [IntKind.wrap_u64, hfr]; omega) t1 y1 (Lib.hid (fun w => rcut_any _ w hZs)) (Lib.hid (rn_eq _ hZ2 0 8 r1)) HCU _ _ (Lib.hid HM) _ hgh w
      cases gd with
      | true =>
        have h2 := (good_to (b := true) hgd)
        unfold openK openE
        rw [if_pos h2.1, if_pos h2.1, h2.2]
        refine this.mono fun x w' h => ⟨h.1.trans ?_, h.2⟩
        unfold keyErr
        rw [← HAN]
      | false =>
        rw [good_same] at hgd
        unfold openK openE
        rw [hgd]
        exact this
    · have HAN : (Value.agg #[.int .i64 4, .int .i64 (s[1].toNat : Int), .string (cutA (s.extract 2 s.size)), .string ⟨#[]⟩, .int .u64 (riseN false (cutZ (s.extract 2 s.size)).data.toList : Int), .int .i64 0]) = kV (parseK false s.data.toList) := by
        unfold parseK kV restL
        simp only [hk, i1]
        simp [cutA, cutZ, bs_toList, hR]; try rfl
      rw [← HAN] at HM
      obtain ⟨t1, y1, t2, y2, r1, r2, r3, r4⟩ := read9 (cutZ (s.extract 2 s.size))
      have := ropen4 s hs h2 s[1].toNat rfl hc256 (by rw [i0] at hk; exact q4 hk) (cutA (s.extract 2 s.size)) (cutZ (s.extract 2 s.size)) (riseN false (cutZ (s.extract 2 s.size)).data.toList) t1 y1 (Lib.hid (rn_eq _ hZs 0 8 r1)) HCU _ _ (Lib.hid HM) _ hgh w
      cases gd with
      | true =>
        have h2 := (good_to (b := true) hgd)
        unfold openK openE
        rw [if_pos h2.1, if_pos h2.1, h2.2]
        refine this.mono fun x w' h => ⟨h.1.trans ?_, h.2⟩
        unfold keyErr
        rw [← HAN]
      | false =>
        rw [good_same] at hgd
        unfold openK openE
        rw [hgd]
        exact this
    · have HAN : (Value.agg #[.int .i64 5, .int .i64 (s[1].toNat : Int), .string (cutA (s.extract 2 s.size)), .string ⟨#[]⟩, .int .u64 (riseN false (cutZ (s.extract 2 s.size)).data.toList : Int), .int .i64 (partN (cutZ (s.extract 2 s.size)).data.toList : Int)]) = kV (parseK false s.data.toList) := by
        unfold parseK kV restL
        simp only [hk, i1]
        simp [cutA, cutZ, bs_toList, hR]; try rfl
      rw [← HAN] at HM
      obtain ⟨t1, y1, t2, y2, r1, r2, r3, r4⟩ := read9 (cutZ (s.extract 2 s.size))
      have := ropen5 s hs h2 s[1].toNat rfl hc256 (by rw [i0] at hk; exact q5 hk) (cutA (s.extract 2 s.size)) (cutZ (s.extract 2 s.size)) (riseN false (cutZ (s.extract 2 s.size)).data.toList) (partN (cutZ (s.extract 2 s.size)).data.toList) (by unfold partN; exact UInt8.toNat_lt _) t1 y1 t2 y2 (Lib.hid (rn_eq _ hZs 0 8 r1)) (Lib.hid (rn_eq _ (Nat.le_trans r4 hZs) y1 1 r2)) HCU _ _ (Lib.hid HM) _ hgh w
      cases gd with
      | true =>
        have h2 := (good_to (b := true) hgd)
        unfold openK openE
        rw [if_pos h2.1, if_pos h2.1, h2.2]
        refine this.mono fun x w' h => ⟨h.1.trans ?_, h.2⟩
        unfold keyErr
        rw [← HAN]
      | false =>
        rw [good_same] at hgd
        unfold openK openE
        rw [hgd]
        exact this
  · have hb : goodL true s.data.toList = false := by
      cases h : goodL true s.data.toList with
      | false => rfl
      | true => have := good_two h; omega
    unfold openK openE
    rw [hb]
    exact ropen_short s (by omega) w
end Go.Proofs.Yteekjndhehnpaaa
