/- Contracts: the reference's Rises, Right. -/
import Derived.Test.YtnjpijihjifkfaaU1
namespace Go.Proofs.Ytnjpijihjifkfaa
open Go.RowKit
set_option linter.unusedVariables false
section
variable {w : World} {a : Option Addr} {n c : Nat} {ka : Option Addr} {kn kc : Nat} {I : List It} {K : List Int} {b : Bool}
theorem rise_not {I : List It} {m : Nat} (h : m + 1 < I.length) (h2 : ltB (kq I m) (kq I (m + 1)) = false) : decide (RiseTo I I.length) = false :=
  decide_eq_false (fun hr => by have := hr m (by omega); rw [h2] at this; cases this)
set_option maxRecDepth 100000 in
set_option maxHeartbeats 1000000 in
theorem rises_any (hI : Its w a n I) (hn : n ≤ 4096) : Calls Try.prog 19 #[.slice a n c] w fun e w' => e = .returned (.bool (decide (RiseTo I I.length))) ∧ Below w.heap.size w w' := by
  have HI := Lib.hid hI
  have HL := Lib.hid hI.1
  clear hI
  go_enter Try.func19, Try.ntmps19
  go_wp2_with fail
  go_loopw [3] (fun i wx => ∃ (k : Nat), 1 ≤ k ∧ k ≤ n + 1 ∧ Hid (k ≤ n → RiseTo I k) ∧ Hid (k = n + 1 → n = 0) ∧ Below w.heap.size w wx ∧ i = .int .i64 (k : Int)) (fun i _ => n + 1 - (intOf i).toNat)
  case atStart => exact ⟨1, by omega, by omega, Lib.hid (fun _ => RiseTo.one I), Lib.hid (by omega), Below.refl _ _, rfl⟩
  case round =>
    obtain ⟨k, hk1, hk, HR, HN, hB, rfl⟩ := hrel
    by_cases hlt : k < n
    · obtain ⟨m, rfl⟩ : ∃ m, k = m + 1 := ⟨k - 1, by omega⟩
      have hIt := HI.out.below hB
      obtain ⟨g, off, rfl, hg, e0, e1⟩ := hIt.at hlt
      have hkl : m + 1 < I.length := by rw [HL.out]; exact hlt
      obtain ⟨p, hp⟩ : ∃ p, kq I (m + 1) = p := ⟨_, rfl⟩
      have HP := Lib.hid hp
      rw [hp] at e0
      have hmw : IntKind.i64.wrap (m : Int) = (m : Int) := by rw [IntWalk.i64_in _ (by omega)]
      have hml : m < n := by omega
      have hmlI : (m : Int) < (n : Int) := by omega
      have hltI : (m : Int) + 1 < (n : Int) := by omega
      obtain ⟨g2, off2, hgg, _, d0, d1⟩ := hIt.at hml
      simp only [Option.some.injEq, Addr.mk.injEq, and_true] at hgg
      obtain ⟨rfl, rfl⟩ := hgg
      obtain ⟨r, hr⟩ : ∃ r, kq I m = r := ⟨_, rfl⟩
      have HRR := Lib.hid hr
      rw [hr] at d0
      obtain ⟨z, hz⟩ : ∃ z, ltB r p = z := ⟨_, rfl⟩
      have hz2 : Op.bytesLess r.toList p.toList = z := by rw [ByteArray.toList_eq, ByteArray.toList_eq]; exact hz
      have HZ := Lib.hid hz
      clear hr hz d1 e1 hIt hp
      cases z with
      | false =>
        have HE := Lib.hid (rise_not (I := I) (m := m) hkl (by rw [HRR.out, HP.out]; exact HZ.out))
        go_wp2_with fail
        go_quiet (fail)
        go_wp2
        go_ret
        exact ⟨ret_bool HE.out.symm, below_to hB (below_drewN _ _)⟩
      | true =>
        have HR2 := Lib.hid (fun (_ : m + 1 + 1 ≤ n) => (HR.out (by omega)).step (fun _ => by rw [show m + 1 - 1 = m by omega, HRR.out, HP.out]; exact HZ.out))
        go_wp2_with fail
        go_quiet (fail)
        go_wp2
        go_roundw
        case rel => exact ⟨m + 1 + 1, by omega, by omega, HR2, Lib.hid (by omega), below_to hB (below_drewN _ _), by go_num⟩
        case measure => simp [intOf]; omega
    · have HE := Lib.hid (show decide (RiseTo I I.length) = true by
        rw [HL.out]
        refine decide_eq_true ?_
        by_cases h : k ≤ n
        · have e : k = n := by omega
          rw [← e]; exact HR.out h
        · have := HN.out (by omega)
          rw [this]; exact RiseTo.zero I)
      go_wp2_with fail
      go_ret
      exact ⟨ret_bool HE.out.symm, hB⟩
theorem right_split {I : List It} {K : List Int} {b : Bool} (h : leafK K = b) : decide (RightP I K) = ((if K.length = 0 then decide (0 < I.length) else decide (I.length + 1 = K.length)) && (I.all (okIt b) && decide (RiseTo I I.length)) && K.all okKid && decide (sizeN b I ≤ 480)) := by
  rw [Bool.eq_iff_iff, decide_eq_true_iff, right_parts b h]
  unfold itemsB
  simp only [Bool.and_eq_true, decide_eq_true_eq]
  constructor
  · rintro ⟨h1, h2, h3, h4⟩; exact ⟨⟨⟨h1, h2⟩, h3⟩, h4⟩
  · rintro ⟨⟨⟨h1, h2⟩, h3⟩, h4⟩; exact ⟨h1, h2, h3, h4⟩
theorem okKid_not {z : Int} (h : z < 2 ∨ 3839 < z) : okKid z = false := decide_eq_false (by omega)
theorem okKid_yes {z : Int} (h : ¬ z < 2) (h2 : ¬ 3839 < z) : okKid z = true := decide_eq_true (by omega)
theorem kids_bad {K : List Int} {k : Nat} (h : k < K.length) (h2 : okKid (K.getD k 0) = false) : K.all okKid = false := all_bad okKid K k 0 h h2
set_option maxRecDepth 100000 in
set_option maxHeartbeats 4000000 in
theorem rright_any (hI : Its w a n I) (hK : Kds w ka kn K) (hn : n ≤ 4096) (hkn : kn ≤ 4096) (hS : Short I) (t : Bool) (ht : decide (RightP I K) = t) :
    Calls Try.prog 18 #[.agg #[.slice a n c, .slice ka kn kc]] w fun e w' => e = .returned (.bool t) ∧ Below w.heap.size w w' := by
  obtain ⟨b, hb⟩ : ∃ b, (kn == 0) = b := ⟨_, rfl⟩
  have hlK : leafK K = b := by unfold leafK; rw [hK.1]; exact hb
  have hsp := right_split (I := I) hlK
  rw [ht, hI.1, hK.1] at hsp
  obtain ⟨u, hu⟩ : ∃ u, sizeN b I = u := ⟨_, rfl⟩
  rw [hu] at hsp
  have K1 := Lib.hid (fun (w1 : World) (B : Below w.heap.size w w1) => rises_any (c := c) (hI.below B) hn)
  have K2 := Lib.hid (fun (w1 : World) (B : Below w.heap.size w w1) => rsize_any (c := c) (ka := ka) (kn := kn) (kc := kc) (hI.below B) hn hS hb u hu)
  rw [hI.1] at K1
  obtain ⟨rs, hrs⟩ : ∃ r, decide (RiseTo I n) = r := ⟨_, rfl⟩
  rw [hrs] at K1 hsp
  have HSP := Lib.hid hsp
  have HI := Lib.hid hI
  have HK := Lib.hid hK
  have HL := Lib.hid hI.1
  have HKL := Lib.hid hK.1
  have HB := Lib.hid hb
  have N0 := Nd.new w a n c ka kn kc 25
  have B0 := new_below w (.cells #[.slice a n c, .slice ka kn kc] 25)
  clear hsp hI hK hu hrs hb ht hlK
  go_enter Try.func18, Try.ntmps18
  go_wp2_with fail
  generalize w.alloc (.cells #[.slice a n c, .slice ka kn kc] 25) = w1 at N0 B0 ⊢
  refine (K1.out _ B0).mono ?_
  rintro e w2 ⟨rfl, hb⟩
  replace N0 := N0.below hb
  replace B0 := below_to B0 hb
  clear hb
  cases rs with
  | false =>
    have HE := Lib.hid (show false = t by rw [HSP.out]; simp)
    go_wp2_with fail
    go_ret
    exact ⟨ret_bool HE.out, B0⟩
  | true =>
  have c0 := N0.c0
  have c1 := N0.c1
  go_wp2_with fail
  refine (K2.out _ B0).mono ?_
  rintro e w3 ⟨rfl, hb⟩
  replace N0 := N0.below hb
  replace B0 := below_to B0 hb
  clear hb c0 c1
  by_cases h480 : 480 < u
  · have HE := Lib.hid (show false = t by rw [HSP.out]; simp; intros; omega)
    go_wp2_with fail
    go_ret
    exact ⟨ret_bool HE.out, B0⟩
  have HSP2 := Lib.hid (show t = ((if kn = 0 then decide (0 < n) else decide (n + 1 = kn)) && I.all (okIt b) && K.all okKid) by rw [HSP.out, decide_eq_true (show u ≤ 480 by omega)]; simp)
  have HN := Lib.hid N0
  have HB0 := Lib.hid B0
  clear N0 B0 HSP
  go_wp2_with fail
  go_loopw [3] (fun i wx => ∃ (k : Nat), k ≤ n ∧ Hid ((I.take k).all (okIt b) = true) ∧ Nd wx w.heap.size a n c ka kn kc ∧ Below w.heap.size w wx ∧ i = .int .i64 (k : Int)) (fun i _ => n - (intOf i).toNat)
  case atStart => exact ⟨0, by omega, Lib.hid rfl, HN.out, HB0.out, rfl⟩
  case round =>
    obtain ⟨k, hk, HA, hN, hB, rfl⟩ := hrel
    have c0 := hN.c0
    have c1 := hN.c1
    have hlt0 := hN.lt
    by_cases hlt : k < n
    · obtain ⟨g, off, rfl, hg, e0, e1⟩ := (HI.out.below hB).at hlt
      have hkl : k < I.length := by rw [HL.out]; exact hlt
      have hbad := Lib.hid (fun (h : okIt b (kq I k, vq I k) = false) => show I.all (okIt b) = false from all_bad (okIt b) I k it0 hkl (by rw [getD_at _ _ _ hkl, kv_at I k hkl]; exact h))
      have hgood := Lib.hid (fun (h : okIt b (kq I k, vq I k) = true) => all_take_succ (okIt b) I k it0 hkl HA.out (by rw [getD_at _ _ _ hkl, kv_at I k hkl]; exact h))
      obtain ⟨p, hp⟩ : ∃ p, kq I k = p := ⟨_, rfl⟩
      obtain ⟨q, hq⟩ : ∃ q, vq I k = q := ⟨_, rfl⟩
      rw [hp] at e0 hbad hgood
      rw [hq] at e1 hbad hgood
      clear hp hq
      obtain ⟨o, ho⟩ : ∃ o, okIt b (p, q) = o := ⟨_, rfl⟩
      have ho2 := ho
      unfold okIt at ho2
      have HO := Lib.hid ho
      cases o with
      | true =>
        have ho3 := of_decide_eq_true ho2
        have HG := Lib.hid (hgood.out ho)
        clear ho2 ho hbad hgood
        have g1 := ho3.1
        have g2 := ho3.2.1
        have h22 : q.size ≤ (if b = true then 64 else 0) := ho3.2.2
        have g3 : q.size ≤ 64 := by split at h22 <;> omega
        replace g1 : 1 ≤ p.size := g1
        replace g2 : p.size ≤ 64 := g2
        cases b with
        | true =>
          have hz := kn_true HB.out
          clear ho3 h22
          have d1 : decide ((p.size : Int) < 1) = false := decide_eq_false (by omega)
          have d2 : decide ((64 : Int) < (p.size : Int)) = false := decide_eq_false (by omega)
          have d3 : decide ((64 : Int) < (q.size : Int)) = false := decide_eq_false (by omega)
          go_wp2_with fail
          go_roundw
          case rel => exact ⟨k + 1, by omega, HG, hN.below (new_below _ _), below_to hB (new_below _ _), by go_num⟩
          case measure => simp [intOf]; omega
        | false =>
          have hz := kn_false HB.out
          have g4 : q.size = 0 := by rw [if_neg (by decide)] at h22; omega
          clear ho3 h22
          have d4 : decide ((0 : Int) < (q.size : Int)) = false := decide_eq_false (by omega)
          have d5 : decide ((0 : Int) < (kn : Int)) = true := decide_eq_true (by omega)
          have d1 : decide ((p.size : Int) < 1) = false := decide_eq_false (by omega)
          have d2 : decide ((64 : Int) < (p.size : Int)) = false := decide_eq_false (by omega)
          have d3 : decide ((64 : Int) < (q.size : Int)) = false := decide_eq_false (by omega)
          go_wp2_with fail
          go_roundw
          case rel => exact ⟨k + 1, by omega, HG, hN.below (new_below _ _), below_to hB (new_below _ _), by go_num⟩
          case measure => simp [intOf]; omega
      | false =>
        have ho3 := of_decide_eq_false ho2
        have HE := Lib.hid (show false = t by rw [HSP2.out, hbad.out ho]; simp)
        clear ho2 ho hbad hgood
        replace ho3 : ¬ (1 ≤ p.size ∧ p.size ≤ 64 ∧ q.size ≤ (if b = true then 64 else 0)) := ho3
        by_cases g1 : p.size < 1
        · clear ho3
          have d1' : decide ((p.size : Int) < 1) = true := decide_eq_true (by omega)
          go_wp2_with fail
          go_ret
          exact ⟨ret_bool HE.out, below_to hB (new_below _ _)⟩
        · have d1 : decide ((p.size : Int) < 1) = false := decide_eq_false (by omega)
          by_cases g2 : 64 < p.size
          · clear ho3
            go_wp2_with fail
            go_ret
            exact ⟨ret_bool HE.out, below_to hB (new_below _ _)⟩
          · have d2 : decide ((64 : Int) < (p.size : Int)) = false := decide_eq_false (by omega)
            by_cases g3 : 64 < q.size
            · clear ho3
              go_wp2_with fail
              go_ret
              exact ⟨ret_bool HE.out, below_to hB (new_below _ _)⟩
            · cases b with
              | true => exfalso; simp at ho3; omega
              | false =>
                have hz := kn_false HB.out
                have g4 : 0 < q.size := by rw [if_neg (by decide)] at ho3; omega
                clear ho3
                have d3 : decide ((64 : Int) < (q.size : Int)) = false := decide_eq_false (by omega)
                have d4 : decide ((0 : Int) < (q.size : Int)) = true := decide_eq_true (by omega)
                have d5 : decide ((0 : Int) < (kn : Int)) = true := decide_eq_true (by omega)
                go_wp2_with fail
                go_ret
                exact ⟨ret_bool HE.out, below_to hB (new_below _ _)⟩
    · obtain rfl : k = n := by omega
      have HSP3 := Lib.hid (show t = ((if kn = 0 then decide (0 < k) else decide (k + 1 = kn)) && K.all okKid) by
        have := HA.out
        rw [List.take_of_length_le (by rw [HL.out]; exact Nat.le_refl _)] at this
        rw [HSP2.out, this]; simp)
      clear HSP2 HA
      have HKK := Lib.hid (HK.out.below hB)
      go_wp2_with fail
      go_loop [5] (fun i => ∃ (k : Nat), k ≤ kn ∧ Hid ((K.take k).all okKid = true) ∧ i = .int .i64 (k : Int)) (fun i => kn - (intOf i).toNat)
      case atStart => exact ⟨0, by omega, Lib.hid rfl, rfl⟩
      case round =>
        obtain ⟨m, hm, HA, rfl⟩ := hrel
        by_cases hlt2 : m < kn
        · obtain ⟨g, off, rfl, hg, e0⟩ := HKK.out.at hlt2
          have hml : m < K.length := by rw [HKL.out]; exact hlt2
          obtain ⟨z, hz⟩ : ∃ z, K.getD m 0 = z := ⟨_, rfl⟩
          rw [hz] at e0
          have HZ := Lib.hid hz
          clear hz
          by_cases g1 : z < 2
          · have HE := Lib.hid (show false = t by rw [HSP3.out, kids_bad hml (by rw [HZ.out]; exact okKid_not (.inl g1))]; simp)
            go_wp2_with fail
            go_ret
            exact ⟨ret_bool HE.out, hB⟩
          · by_cases g2 : 3839 < z
            · have HE := Lib.hid (show false = t by rw [HSP3.out, kids_bad hml (by rw [HZ.out]; exact okKid_not (.inr g2))]; simp)
              go_wp2_with fail
              go_ret
              exact ⟨ret_bool HE.out, hB⟩
            · have HG := Lib.hid (all_take_succ okKid K m 0 hml HA.out (by rw [HZ.out]; exact okKid_yes g1 g2))
              go_wp2_with fail
              go_round
              case rel => exact ⟨m + 1, by omega, HG, by go_num⟩
              case measure => simp [intOf]; omega
        · obtain rfl : m = kn := by omega
          have HSP4 := Lib.hid (show t = (if m = 0 then decide (0 < k) else decide (k + 1 = m)) by
            have := HA.out
            rw [List.take_of_length_le (by rw [HKL.out]; exact Nat.le_refl _)] at this
            rw [HSP3.out, this]; simp)
          by_cases hz : m = 0
          · have HE := Lib.hid (show decide (0 < k) = t by rw [HSP4.out, if_pos hz])
            have HZ := Lib.hid hz
            subst hz
            go_wp2_with fail
            go_ret
            exact ⟨ret_bool (by rw [← HE.out]; first | rfl | done | (rw [Bool.eq_iff_iff]; simp)), hB⟩
          · have HE := Lib.hid (show decide (k + 1 = m) = t by rw [HSP4.out, if_neg hz])
            have hp : 0 < m := by omega
            obtain ⟨m', hm'⟩ : ∃ m', m - 1 = m' := ⟨_, rfl⟩
            have hq : IntKind.i64.wrap ((m : Int) - 1) = (m' : Int) := by rw [show (m : Int) - 1 = (m' : Int) by omega]; exact IntWalk.i64_in _ (by omega)
            by_cases hkm : k = m'
            · have HT := Lib.hid (show true = t by rw [← HE.out]; exact (decide_eq_true (by omega)).symm)
              clear hm'
              go_wp2_with fail
              go_ret
              exact ⟨ret_bool (by first | (rw [← HT.out]; done) | (rw [← HT.out]; simp; omega) | (rw [← HT.out]; simp [hkm])), hB⟩
            · have HT := Lib.hid (show false = t by rw [← HE.out]; exact (decide_eq_false (by omega)).symm)
              clear hm'
              go_wp2_with fail
              go_ret
              exact ⟨ret_bool (by first | (rw [← HT.out]; done) | (rw [← HT.out]; simp; omega) | (rw [← HT.out]; simp [hkm])), hB⟩
end
end Go.Proofs.Ytnjpijihjifkfaa
