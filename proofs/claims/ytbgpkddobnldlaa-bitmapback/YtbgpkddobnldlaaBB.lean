/- Contract: the reference's Spans. -/
import Derived.Test.YtbgpkddobnldlaaBA
namespace Go.Proofs.Ytbgpkddobnldlaa
open Go.RowKit
theorem rspans_no (s : ByteArray) (a b : Int) (w : World) (h : ¬ (s.size = 480 ∧ 0 ≤ a ∧ a ≤ b ∧ b ≤ 3840)) : Calls Try.prog 21 #[.string s, .int .i64 a, .int .i64 b] w fun e w' => SpRet w [] e w' := by
  have H := Lib.hid h
  clear h
  go_enter Try.func21, Try.ntmps21
  go_wp2_with (go_at_call 28; refine (within_no _ _ _ _ H.out).mono ?_; rintro e w' ⟨rfl, rfl⟩)
  go_ret
  exact ⟨_, _, rfl, .inl rfl, (Below.refl _ _).alloc (Nat.le_refl _) _⟩
set_option maxRecDepth 100000 in
set_option maxHeartbeats 1000000 in
theorem rspans_yes (s : ByteArray) (a b : Nat) (w : World) (hs : s.size = 480) (hab : a ≤ b) (hb : b ≤ 3840) :
    Calls Try.prog 21 #[.string s, .int .i64 (a : Int), .int .i64 (b : Int)] w fun e w' => SpRet w (spS s.data.toList b a) e w' := by
  obtain ⟨i0, hi0, hz0, hz1, hz2⟩ := info_parts info40
  have HS := Lib.hid hs
  have HLN := Lib.hid (show s.data.toList.length = 480 by rw [← blen]; exact hs)
  clear hs
  go_enter Try.func21, Try.ntmps21
  go_wp2_with (first | (go_at_call 28; refine (within_yes _ _ _ _ HS.out (by omega) (by omega) (by omega)).mono ?_; rintro e w' ⟨rfl, rfl⟩))
  go_loopw [7, 8] (fun v j wx => ∃ (i n : Nat) (ps : List (Nat × Nat)), a ≤ i ∧ i ≤ b + 1 ∧ n ≤ i ∧ Hid (ps ++ spS s.data.toList b i = spS s.data.toList b a) ∧ RowOf w 40 2 v n (flatP ps) wx ∧ j = .int .i64 (i : Int)) (fun _ j _ => b + 1 - (intOf j).toNat)
  case atStart => exact ⟨a, 0, [], by omega, by omega, by omega, Lib.hid (by simp), RowOf.fresh _ _ _, rfl⟩
  case round =>
    obtain ⟨i, n, ps, hai, hib, hn, HP, HR, rfl⟩ := hrel
    by_cases hib2 : i < b
    · have hub := used_bit s.data.toList HLN.out i (by omega)
      have hU := fun w => rused_any s (i : Int) w
      rw [hub] at hU
      cases hu : bitL s.data.toList i with
      | true =>
        rw [hu] at hU
        have HF := Lib.hid hU
        have HE := Lib.hid (spS_used s.data.toList b i hib2 hu)
        clear hub hu hU
        go_wp2_with fail
        refine (HF.out _).mono ?_
        rintro e w2 ⟨rfl, rfl⟩
        go_wp2_with fail
        go_roundw
        case rel => exact ⟨i + 1, n, ps, by omega, by omega, by omega, Lib.hid (by rw [← HE.out]; exact HP.out), HR, by go_num⟩
        case measure => simp [intOf]; omega
      | false =>
        rw [hu] at hU
        have HF := Lib.hid hU
        have HE := Lib.hid (spS_free s.data.toList b i hib2 hu)
        clear hub hu hU
        go_wp2_with fail
        refine (HF.out _).mono ?_
        rintro e w2 ⟨rfl, rfl⟩
        go_wp2_with fail
        go_loop [9] (fun j => ∃ (x : Nat), i ≤ x ∧ x ≤ b ∧ Hid (endS s.data.toList b x = endS s.data.toList b i) ∧ j = .int .i64 (x : Int)) (fun j => b - (intOf j).toNat)
        case atStart => exact ⟨i, by omega, by omega, Lib.hid rfl, rfl⟩
        case round =>
          obtain ⟨x, hix, hxb, HX, rfl⟩ := hrel
          by_cases hxb2 : x < b
          · have hub := used_bit s.data.toList HLN.out x (by omega)
            have hU := fun w => rused_any s (x : Int) w
            rw [hub] at hU
            cases hu : bitL s.data.toList x with
            | true =>
              rw [hu] at hU
              have HF2 := Lib.hid hU
              have HEN := Lib.hid (endS_stop s.data.toList b x (by rw [hu]; simp))
              clear hub hu hU
              go_wp2_with fail
              refine (HF2.out _).mono ?_
              rintro e w3 ⟨rfl, rfl⟩
              go_wp2_with (at_builtin; refine wpList_append_own _ rfl _ _ 38 rfl w.heap.size 40 i0 (.agg #[.int .i64 0, .int .i64 0]) 2 16 Try.underlying38 hi0 hz0 hz1 hz2 rfl (by decide) _ _ _ rfl (HR.own.alloc _) ⟨wr.heap.size, 0, none⟩ 1 1 (pairC (i, x)) rfl ?d1 ?d2 ?d3 ?d4 ?d5 ?d6 ?_)
              case d1 => rfl
              case d2 => first | exact pair_cells wr (i, x) 40 | exact (fun j u h => h)
              case d3 => exact pair_one _
              case d4 => unfold maxLen; omega
              case d5 => omega
              case d6 => have := HR.below.size; simp; omega
              intro v2 w5 hown2 hgrow2 hnil2
              have HR5 := HR.snoc hown2 hgrow2
              go_wp2_with fail
              go_roundw
              case rel =>
                refine ⟨x + 1, n + 1, ps ++ [(i, x)], by omega, by omega, by omega, Lib.hid ?_, by rw [flatP_snoc]; exact HR5, by go_num⟩
                have h1 := HE.out
                rw [← HX.out, HEN.out] at h1
                rw [← HP.out, h1, List.append_assoc]
                rfl
              case measure => simp [intOf]; omega
            | false =>
              rw [hu] at hU
              have HF2 := Lib.hid hU
              have HEN := Lib.hid (endS_step s.data.toList b x hxb2 hu)
              clear hub hu hU
              go_wp2_with fail
              refine (HF2.out _).mono ?_
              rintro e w3 ⟨rfl, rfl⟩
              go_wp2_with fail
              go_round
              case rel => exact ⟨x + 1, by omega, by omega, Lib.hid (by rw [← HEN.out]; exact HX.out), by go_num⟩
              case measure => simp [intOf]; omega
          · obtain rfl : x = b := by omega
            have HEN := Lib.hid (endS_stop s.data.toList x x (by simp))
            go_wp2_with (at_builtin; refine wpList_append_own _ rfl _ _ 38 rfl w.heap.size 40 i0 (.agg #[.int .i64 0, .int .i64 0]) 2 16 Try.underlying38 hi0 hz0 hz1 hz2 rfl (by decide) _ _ _ rfl (HR.own.alloc _) ⟨wr.heap.size, 0, none⟩ 1 1 (pairC (i, x)) rfl ?d1 ?d2 ?d3 ?d4 ?d5 ?d6 ?_)
            case d1 => rfl
            case d2 => first | exact pair_cells wr (i, x) 40 | exact (fun j u h => h)
            case d3 => exact pair_one _
            case d4 => unfold maxLen; omega
            case d5 => omega
            case d6 => have := HR.below.size; simp; omega
            intro v2 w5 hown2 hgrow2 hnil2
            have HR5 := HR.snoc hown2 hgrow2
            go_wp2_with fail
            go_roundw
            case rel =>
              refine ⟨x + 1, n + 1, ps ++ [(i, x)], by omega, by omega, by omega, Lib.hid ?_, by rw [flatP_snoc]; exact HR5, by go_num⟩
              have h1 := HE.out
              rw [← HX.out, HEN.out] at h1
              rw [← HP.out, h1, List.append_assoc]
              rfl
            case measure => simp [intOf]; omega
    · have hp : ps = spS s.data.toList b a := by rw [← HP.out, spS_end _ _ _ (by omega), List.append_nil]
      obtain ⟨ra, rc, hv, hP⟩ := HR.prs
      subst hv
      have HPP := Lib.hid hp
      have HB := HR.below
      clear hp
      go_wp2_with fail
      go_ret
      exact ⟨ra, rc, by rw [← HPP.out]; rfl, by rw [← HPP.out]; exact hP, HB⟩
end Go.Proofs.Ytbgpkddobnldlaa
