/- Contract: the reference's Find. -/
import Derived.Test.YtnjpijihjifkfaaU2
namespace Go.Proofs.Ytnjpijihjifkfaa
open Go.RowKit
set_option linter.unusedVariables false
/-- What comes ahead of a key, in the reference's words. -/
def lowR (b : Bool) (key : ByteArray) (x : It) : Bool := ltB x.1 key || (!b && decide (x.1 = key))
def atR (b : Bool) (I : List It) (key : ByteArray) : Nat := I.countP (lowR b key)
theorem lowR_false (key : ByteArray) (x : It) : lowR false key x = !ltB key x.1 := by
  unfold lowR
  rcases ltB_tri x.1 key with h | h | h
  · rw [h, ltB_asymm h]; rfl
  · rw [h, ltB_irr]; simp
  · rw [h, ltB_asymm h]
    have : x.1 ≠ key := fun e => by rw [e, ltB_irr] at h; cases h
    simp [this]
theorem lowR_true (key : ByteArray) (x : It) : lowR true key x = ltB x.1 key := by unfold lowR; simp
theorem atR_eq {I : List It} {key : ByteArray} {b : Bool} (h : RiseTo I I.length) : (atR b I key, hasN I key) = findN b I key := by
  cases b with
  | false =>
    unfold findN atR posN
    have : lowR false key = fun x => !ltB key x.1 := by funext x; exact lowR_false key x
    rw [this]; simp
  | true =>
    have h1 := put_low (x := (key, ByteArray.empty)) h
    have h2 := (find_rest (key := key) h).2
    have h3 : atR true I key = (I.filter (fun y => ltB y.1 key)).length := by
      unfold atR
      rw [List.countP_eq_length_filter]
      congr 1
      apply List.filter_congr
      intro x _; exact lowR_true key x
    have h4 : (I.filter (fun y => ltB y.1 key)).length = (findN true I key).1 := by
      have := congrArg List.length h1
      rw [List.length_take] at this
      simp only at this
      omega
    rw [h3, h4]
    rfl
theorem atR_succ {b : Bool} {I : List It} {key : ByteArray} {k : Nat} (h : k < I.length) : atR b (I.take (k + 1)) key = atR b (I.take k) key + (if lowR b key (kq I k, vq I k) then 1 else 0) := by
  unfold atR
  rw [List.take_succ_eq_append_getElem h, List.countP_append, kv_at I k h, List.countP_singleton]
theorem hasN_succ {I : List It} {key : ByteArray} {k : Nat} (h : k < I.length) : hasN (I.take (k + 1)) key = (hasN (I.take k) key || decide (kq I k = key)) := by
  unfold hasN
  rw [List.take_succ_eq_append_getElem h, List.any_append, kv_at I k h]; simp
theorem atR_le (b : Bool) (I : List It) (key : ByteArray) (k : Nat) : atR b (I.take k) key ≤ k := by
  unfold atR
  have := List.countP_le_length (p := lowR b key) (l := I.take k)
  rw [List.length_take] at this; omega
section
variable {w : World} {a : Option Addr} {n c : Nat} {ka : Option Addr} {kn kc : Nat} {I : List It} {b : Bool}
set_option maxRecDepth 100000 in
set_option maxHeartbeats 4000000 in
theorem rfind_any (key : ByteArray) (hI : Its w a n I) (hn : n ≤ 4096) (hR : RiseTo I I.length) (hb : (kn == 0) = b) (x : Nat) (y : Bool) (hx : findN b I key = (x, y)) :
    Calls Try.prog 21 #[.agg #[.slice a n c, .slice ka kn kc], .string key] w fun e w' => e = .returned (.tuple #[.int .i64 (x : Int), .bool y]) ∧ Below w.heap.size w w' := by
  have hfin := atR_eq (b := b) (key := key) hR
  rw [hx] at hfin
  have HF1 := Lib.hid (congrArg Prod.fst hfin)
  have HF2 := Lib.hid (congrArg Prod.snd hfin)
  have HI := Lib.hid hI
  have HL := Lib.hid hI.1
  have HB := Lib.hid hb
  have N0 := Nd.new w a n c ka kn kc 25
  have B0 := new_below w (.cells #[.slice a n c, .slice ka kn kc] 25)
  clear hI hx hfin hb
  go_enter Try.func21, Try.ntmps21
  have HN := Lib.hid N0
  have HB0 := Lib.hid B0
  clear N0 B0
  go_wp2_with fail
  go_loopw [6, 7, 8] (fun s t i wx => ∃ (k u : Nat) (v : Bool), k ≤ n ∧ u ≤ k ∧ Hid (atR b (I.take k) key = u) ∧ Hid (hasN (I.take k) key = v) ∧ Nd wx w.heap.size a n c ka kn kc ∧ Below w.heap.size w wx ∧ s = .int .i64 (u : Int) ∧ t = .bool v ∧ i = .int .i64 (k : Int)) (fun _ _ i _ => n - (intOf i).toNat)
  case atStart => exact ⟨0, 0, false, by omega, by omega, Lib.hid (by simp [atR]), Lib.hid (by simp [hasN]), HN.out, HB0.out, rfl, rfl, rfl⟩
  case round =>
    obtain ⟨k, u, v, hk, huk, HA, HS, hN, hB, rfl, rfl, rfl⟩ := hrel
    have c0 := hN.c0
    have c1 := hN.c1
    by_cases hlt : k < n
    · obtain ⟨g, off, rfl, hg, e0, e1⟩ := (HI.out.below hB).at hlt
      have hkl : k < I.length := by rw [HL.out]; exact hlt
      have h1 := atR_succ (b := b) (key := key) hkl
      have h2 := hasN_succ (key := key) hkl
      rw [HA.out] at h1
      rw [HS.out] at h2
      obtain ⟨p, hp⟩ : ∃ p, kq I k = p := ⟨_, rfl⟩
      obtain ⟨q, hq⟩ : ∃ q, vq I k = q := ⟨_, rfl⟩
      rw [hp] at e0 h1 h2
      rw [hq] at h1
      clear hp hq e1
      rcases ltB_tri p key with ht | ht | ht
      · have z1 : Op.bytesLess p.toList key.toList = true := by rw [ByteArray.toList_eq, ByteArray.toList_eq]; exact ht
        have hne : p ≠ key := fun e => by rw [e, ltB_irr] at ht; cases ht
        have z2 : (p.toList == key.toList) = false := by
          rw [ByteArray.toList_eq, ByteArray.toList_eq, beq_eq_false_iff_ne]; exact fun e => hne (ba_ext e)
        have H1 := Lib.hid (show atR b (I.take (k + 1)) key = u + 1 by rw [h1]; unfold lowR; rw [show ltB (p, q).1 key = true from ht]; simp)
        have H2 := Lib.hid (show hasN (I.take (k + 1)) key = v by rw [h2, decide_eq_false hne]; simp)
        clear h1 h2 ht hne
        go_wp2_with fail
        go_roundw
        case rel => exact ⟨k + 1, u + 1, v, by omega, by omega, H1, H2, hN, hB, by go_num, rfl, by go_num⟩
        case measure => simp [intOf]; omega
      · subst ht
        have z1 : Op.bytesLess p.toList p.toList = false := by rw [ByteArray.toList_eq]; exact ltB_irr p
        have H2 := Lib.hid (show hasN (I.take (k + 1)) p = true by rw [h2]; simp)
        cases b with
        | true =>
          have hz := kn_true HB.out
          have H1 := Lib.hid (show atR true (I.take (k + 1)) p = u by rw [h1]; unfold lowR; rw [show ltB (p, q).1 p = false from ltB_irr p]; simp)
          clear h1 h2
          go_wp2_with fail
          go_roundw
          case rel => exact ⟨k + 1, u, true, by omega, by omega, H1, H2, hN, hB, by go_num, rfl, by go_num⟩
          case measure => simp [intOf]; omega
        | false =>
          have hz := kn_false HB.out
          have H1 := Lib.hid (show atR false (I.take (k + 1)) p = u + 1 by rw [h1]; unfold lowR; simp)
          clear h1 h2
          go_wp2_with fail
          go_roundw
          case rel => exact ⟨k + 1, u + 1, true, by omega, by omega, H1, H2, hN, hB, by go_num, rfl, by go_num⟩
          case measure => simp [intOf]; omega
      · have ht2 := ltB_asymm ht
        have z1 : Op.bytesLess p.toList key.toList = false := by rw [ByteArray.toList_eq, ByteArray.toList_eq]; exact ht2
        have hne : p ≠ key := fun e => by rw [e, ltB_irr] at ht; cases ht
        have z2 : (p.toList == key.toList) = false := by
          rw [ByteArray.toList_eq, ByteArray.toList_eq, beq_eq_false_iff_ne]; exact fun e => hne (ba_ext e)
        have H1 := Lib.hid (show atR b (I.take (k + 1)) key = u by rw [h1]; unfold lowR; rw [show ltB (p, q).1 key = false from ht2, decide_eq_false (show ¬ (p, q).1 = key from hne)]; simp)
        have H2 := Lib.hid (show hasN (I.take (k + 1)) key = v by rw [h2, decide_eq_false hne]; simp)
        clear h1 h2 ht ht2 hne
        cases b with
        | true =>
          have hz := kn_true HB.out
          go_wp2_with fail
          go_roundw
          case rel => exact ⟨k + 1, u, v, by omega, by omega, H1, H2, hN, hB, by go_num, rfl, by go_num⟩
          case measure => simp [intOf]; omega
        | false =>
          have hz := kn_false HB.out
          go_wp2_with fail
          go_roundw
          case rel => exact ⟨k + 1, u, v, by omega, by omega, H1, H2, hN, hB, by go_num, rfl, by go_num⟩
          case measure => simp [intOf]; omega
    · obtain rfl : k = n := by omega
      have hI2 : I.take k = I := List.take_of_length_le (by rw [HL.out]; exact Nat.le_refl _)
      have HX := Lib.hid (show u = x by rw [← HF1.out, ← HA.out, hI2])
      have HY := Lib.hid (show v = y by rw [← HF2.out, ← HS.out, hI2])
      clear hI2
      go_wp2_with fail
      go_ret2
      have hx2 := HX.out
      have hy2 := HY.out
      subst hx2 hy2
      exact ⟨rfl, hB⟩
end
end Go.Proofs.Ytnjpijihjifkfaa
