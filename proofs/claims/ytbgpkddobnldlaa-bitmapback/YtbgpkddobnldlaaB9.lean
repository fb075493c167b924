/- Contracts: the reference's Free, Lowest; Take. -/
import Derived.Test.YtbgpkddobnldlaaB8
namespace Go.Proofs.Ytbgpkddobnldlaa
open Go.RowKit
set_option maxRecDepth 100000 in
set_option maxHeartbeats 1000000 in
theorem rfree_any (s : ByteArray) (a b : Nat) (w : World) (hs : s.size = 480) (hab : a ≤ b) (hb : b ≤ 3840) :
    Calls Try.prog 29 #[.string s, .int .i64 (a : Int), .int .i64 (b : Int)] w fun e w' => ∃ v n, e = .returned v ∧ RowOf w 3 1 v n ((freeN s.data.toList a b).map intV) w' := by
  obtain ⟨i0, hi0, hz0, hz1, hz2⟩ := info_parts info3
  have HS := Lib.hid hs
  have HLN := Lib.hid (show s.data.toList.length = 480 by rw [← blen]; exact hs)
  clear hs
  go_enter Try.func29, Try.ntmps29
  go_wp2
  go_loopw [7, 8] (fun v j wx => ∃ (i n : Nat), a ≤ i ∧ i ≤ b ∧ n ≤ 3840 ∧ Hid ((freeN s.data.toList a i).length = n) ∧ RowOf w 3 1 v n ((freeN s.data.toList a i).map intV) wx ∧ j = .int .i64 (i : Int)) (fun _ j _ => b - (intOf j).toNat)
  case atStart => exact ⟨a, 0, by omega, by omega, by omega, Lib.hid (by rw [freeN_nil]; rfl), by rw [freeN_nil]; exact RowOf.fresh _ _ _, rfl⟩
  case round =>
    obtain ⟨i, n, hai, hib, hn, HN, HR, rfl⟩ := hrel
    by_cases hib2 : i < b
    · have hub := used_bit s.data.toList HLN.out i (by omega)
      have hU := fun w => rused_any s (i : Int) w
      rw [hub] at hU
      cases hu : bitL s.data.toList i with
      | true =>
        rw [hu] at hU
        have HF := Lib.hid hU
        have HE := Lib.hid (freeN_used s.data.toList a i hai hu)
        clear hub hu hU
        go_wp2_with fail
        refine (HF.out _).mono ?_
        rintro e w2 ⟨rfl, rfl⟩
        go_wp2_with fail
        go_roundw
        case rel => exact ⟨i + 1, n, by omega, by omega, by omega, Lib.hid (by rw [HE.out, HN.out]), by rw [HE.out]; exact HR, by go_num⟩
        case measure => simp [intOf]; omega
      | false =>
        rw [hu] at hU
        have HF := Lib.hid hU
        have HE := Lib.hid (freeN_free s.data.toList a i hai hu)
        have hn2 : n < 3840 := by
          have h1 := freeN_len s.data.toList a i
          rw [HN.out] at h1
          omega
        clear hub hu hU
        go_wp2_with fail
        refine (HF.out _).mono ?_
        rintro e w2 ⟨rfl, rfl⟩
        go_wp2_with (at_builtin; refine wpList_append_own _ rfl _ _ 29 rfl w.heap.size 3 i0 (.int .i64 0) 1 8 Try.underlying29 hi0 hz0 hz1 hz2 rfl (by decide) _ _ _ rfl (HR.own.alloc _) ⟨wr.heap.size, 0, none⟩ 1 1 [intV i] rfl ?d1 ?d2 ?d3 ?d4 ?d5 ?d6 ?_)
        case d1 => rfl
        case d2 =>
          intro j u hj
          match j, hj with
          | 0, hj => simp at hj; subst hj; simp [Addr.add, go_sem, intV]
        case d3 => intro u hu; simp at hu; subst hu; rfl
        case d4 => unfold maxLen; omega
        case d5 => omega
        case d6 => have := HR.below.size; simp; omega
        intro v2 w3 hown2 hgrow2 hnil2
        have HR3 := HR.snoc hown2 hgrow2
        go_wp2_with fail
        go_roundw
        case rel => exact ⟨i + 1, n + 1, by omega, by omega, by omega, Lib.hid (by rw [HE.out, List.length_append, HN.out]; rfl), by rw [HE.out, List.map_append]; exact HR3, by go_num⟩
        case measure => simp [intOf]; omega
    · obtain rfl : i = b := by omega
      go_wp2
      go_ret
      exact ⟨_, n, rfl, HR⟩
theorem rlow_no (s : ByteArray) (a b k : Int) (w : World) (h : ¬ (s.size = 480 ∧ 0 ≤ k ∧ 0 ≤ a ∧ a ≤ b ∧ b ≤ 3840)) : Calls Try.prog 14 #[.string s, .int .i64 a, .int .i64 b, .int .i64 k] w fun e w' => e = .returned (.tuple #[.slice none 0 0, .int .i64 18]) ∧ w = w' := by
  by_cases hs : s.size = 480 ∧ 0 ≤ a ∧ a ≤ b ∧ b ≤ 3840
  · have hk : k < 0 := by omega
    have HS := Lib.hid hs
    clear h hs
    go_enter Try.func14, Try.ntmps14
    go_wp2_with (first | (go_at_call 28; refine (within_yes _ _ _ _ HS.out.1 HS.out.2.1 HS.out.2.2.1 HS.out.2.2.2).mono ?_; rintro e w' ⟨rfl, rfl⟩))
    go_ret2
    exact ⟨rfl, rfl⟩
  · have HS := Lib.hid hs
    clear h hs
    go_enter Try.func14, Try.ntmps14
    go_wp2_with (first | (go_at_call 28; refine (within_no _ _ _ _ HS.out).mono ?_; rintro e w' ⟨rfl, rfl⟩))
    go_ret2
    exact ⟨rfl, rfl⟩
theorem Ints.take {w : World} {a : Option Addr} {n : Nat} {l : List Nat} (h : Ints w a n (zsOf l)) (k : Nat) (hk : k ≤ n) : Ints w a k (zsOf (l.take k)) := by
  have hl : l.length = n := by have := h.1; rwa [zsOf_length] at this
  refine ⟨by rw [zsOf_length, List.length_take]; omega, ?_⟩
  rcases h.2 with h0 | ⟨b, off, ha, hb, hc⟩
  · exact .inl (by omega)
  · refine .inr ⟨b, off, ha, hb, fun j hj => ?_⟩
    rw [hc j (by omega)]
    congr 2
    unfold zsOf
    rw [List.getD_eq_getElem?_getD, List.getD_eq_getElem?_getD, List.getElem?_map, List.getElem?_map, List.getElem?_take, if_pos hj]
set_option maxRecDepth 100000 in
set_option maxHeartbeats 1000000 in
theorem rlow_yes (s : ByteArray) (a b k : Nat) (w : World) (hs : s.size = 480) (hab : a ≤ b) (hb : b ≤ 3840) (hk : k < 9223372036854775808) :
    Calls Try.prog 14 #[.string s, .int .i64 (a : Int), .int .i64 (b : Int), .int .i64 (k : Int)] w fun e w' => LowRet w (lowF s.data.toList (a : Int) (b : Int) (k : Int)).1 (lowF s.data.toList (a : Int) (b : Int) (k : Int)).2 e w' := by
  have HS := Lib.hid hs
  have HL := Lib.hid (inB_yes s.data.toList a b k (by rw [← blen]; exact hs) hab hb)
  clear hs
  go_enter Try.func14, Try.ntmps14
  go_wp2_with (first | (go_at_call 28; refine (within_yes _ _ _ _ HS.out (by omega) (by omega) (by omega)).mono ?_; rintro e w' ⟨rfl, rfl⟩))
  refine (rfree_any s a b _ HS.out hab hb).mono ?_
  rintro e w1 ⟨v, n, rfl, HR⟩
  obtain ⟨ra, rc, rfl, hrI, hrl, hrc⟩ := HR.ints
  have HRL := Lib.hid hrl
  have HB := HR.below
  have hnb : n ≤ 3840 := by
    have h1 := freeN_len s.data.toList a b
    rw [hrl] at h1
    omega
  have hra : ra = none → n = 0 ∧ rc = 0 := by
    intro h
    subst h
    rcases HR.own.2 with ⟨h, hn⟩ | ⟨g, cap, cur, h, _⟩
    · simp at h; exact ⟨hn, h.2⟩
    · simp at h
  have HRA := Lib.hid hra
  clear hrl hra HR
  by_cases hnk : n < k
  · go_wp2_with fail
    go_ret2
    refine ⟨none, 0, ?_, ?_, HB⟩
    · rw [HL.out, if_pos (by rw [HRL.out]; exact hnk)]; rfl
    · rw [HL.out, if_pos (by rw [HRL.out]; exact hnk)]; exact ⟨rfl, .inl rfl⟩
  · have hkc : k ≤ rc := by omega
    have hkn : k ≤ n := by omega
    have h1 : ((freeN s.data.toList a b).take k).length = k := by rw [List.length_take, HRL.out]; omega
    have H1 := Lib.hid h1
    clear h1
    cases ra with
    | none =>
      obtain ⟨hn0, hc0⟩ := HRA.out rfl
      obtain rfl : k = 0 := by omega
      subst hn0 hc0
      go_wp2_with fail
      go_ret2
      refine ⟨none, 0, ?_, ?_, HB⟩
      · rw [HL.out, if_neg (by rw [HRL.out]; exact hnk), H1.out]; rfl
      · rw [HL.out, if_neg (by rw [HRL.out]; exact hnk), H1.out]; exact hrI.take 0 (by omega)
    | some ad =>
      go_wp2_with fail
      go_ret2
      refine ⟨some ad, rc, ?_, ?_, HB⟩
      · rw [HL.out, if_neg (by rw [HRL.out]; exact hnk), H1.out]; rfl
      · rw [HL.out, if_neg (by rw [HRL.out]; exact hnk), H1.out]; exact hrI.take k hkn
end Go.Proofs.Ytbgpkddobnldlaa
