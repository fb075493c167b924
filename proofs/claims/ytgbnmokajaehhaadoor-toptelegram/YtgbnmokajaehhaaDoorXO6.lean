/- Contracts: a reader's Text. -/
import Derived.Test.YtgbnmokajaehhaaDoorXO5
namespace Go.Proofs.YtgbnmokajaehhaaDoor.Oc
open Go.RowKit
theorem numS_wf {s : ByteArray} {e n : Int} (h : RWf s e) : RWf (numS s e n).1 (numS s e n).2.1 := by
  unfold numS; split
  · exact .inr rfl
  · exact rawS_wf h
theorem numS_le (s : ByteArray) (e n : Int) : (numS s e n).1.size ≤ s.size := by
  unfold numS; split
  · exact Nat.zero_le _
  · exact rawS_le s e n
theorem numS2_lt (s : ByteArray) (e : Int) : (numS s e 2).2.2 < 65536 := by
  rw [numS_good (by omega) (by omega)]
  have h1 := ofL_lt (rawS s e 2).2.2.data.toList
  have h2 := rawS_out s e 2
  have h3 : (rawS s e 2).2.2.data.toList.length ≤ 2 := by rw [← blen]; exact h2
  have h4 := Nat.pow_le_pow_right (n := 256) (by omega) h3
  show ofL _ < _
  omega
theorem numS2_failed (s : ByteArray) (e : Int) (h : (numS s e 2).2.1 ≠ 0) : (numS s e 2).2.2 = 0 := by
  by_cases he : e = 0
  · subst he
    rw [numS_good (by omega) (by omega)] at h ⊢
    by_cases h2 : (s.size : Int) < 2
    · rw [rawS_short h2]; rfl
    · have : rawS s 0 2 = _ := rawS_ok (s := s) (n := 2) (by omega)
      rw [this] at h; exact absurd rfl h
  · rw [numS_failed he]
/-- What a reader's Text does. -/
def textS (s : ByteArray) (e most : Int) : ByteArray × Int × ByteArray :=
  if (numS s e 2).2.1 ≠ 0 then ((numS s e 2).1, (numS s e 2).2.1, ByteArray.empty)
  else if most < ((numS s e 2).2.2 : Int) then (ByteArray.empty, 11, ByteArray.empty)
  else rawS (numS s e 2).1 0 ((numS s e 2).2.2 : Int)
theorem textS_wf {s : ByteArray} {e n : Int} (h : RWf s e) : RWf (textS s e n).1 (textS s e n).2.1 := by
  unfold textS; split
  · exact numS_wf h
  · split
    · exact .inr rfl
    · exact rawS_wf (.inl rfl)
theorem textS_le (s : ByteArray) (e n : Int) : (textS s e n).1.size ≤ s.size := by
  unfold textS; split
  · exact numS_le s e 2
  · split
    · exact Nat.zero_le _
    · exact Nat.le_trans (rawS_le _ _ _) (numS_le s e 2)
/-- The call of Num(2) in Text, its answer under names. -/
theorem rtext_step (b n : Nat) (t : ByteArray) (y most : Int) (s : ByteArray) (e : Int) (w : World) (hr : Rd w b s e) (hn : n < 65536)
    (HN : ∀ w', Rd w' b s e → Calls Tryd.prog 36 #[.pointer (some ⟨b, 0, none⟩), .int .i64 2] w' (Reads b w' t y (.int .u64 (n : Int))))
    (HR : ∀ w', Rd w' b t y → Calls Tryd.prog 35 #[.pointer (some ⟨b, 0, none⟩), .int .i64 (n : Int)] w' (Reads b w' (rawS t y n).1 (rawS t y n).2.1 (.string (rawS t y n).2.2)))
    (h : (n : Int) ≤ most) : Calls Tryd.prog 33 #[.pointer (some ⟨b, 0, none⟩), .int .i64 most] w (Reads b w (rawS t y n).1 (rawS t y n).2.1 (.string (rawS t y n).2.2)) := by
  have HN := Lib.hid HN
  obtain ⟨t2, y2, o2, hq⟩ : ∃ t2 y2 o2, rawS t y n = (t2, y2, o2) := ⟨_, _, _, rfl⟩
  rw [hq] at HR ⊢
  have HR := Lib.hid HR
  have HQ := Lib.hid hq
  rename Hid (∀ (w' : World), Rd w' b s e → _) => HN
  clear hq
  show Calls _ _ _ _ (Reads b w t2 y2 (.string o2))
  go_enter Tryd.func33, Tryd.ntmps33
  go_wp2_with (first | (go_at_call 58; refine (failing_any _ _).mono ?_; rintro e w1 ⟨rfl, hx, hb, hsz⟩) | (go_at_call 36; refine (HN.out _ (hr.below hb)).mono ?_; rintro e w2 ⟨rfl, hr2, ho2⟩) | (go_at_call 35; refine (HR.out _ hr2).mono ?_; rintro e w3 ⟨rfl, hr3, ho3⟩))
  go_ret
  exact ⟨rfl, hr3, ((Only.of_below hb).trans ho2).trans ho3⟩
theorem rtext_long (b n : Nat) (t : ByteArray) (most : Int) (s : ByteArray) (e : Int) (w : World) (hr : Rd w b s e) (hn : n < 65536)
    (HN : ∀ w', Rd w' b s e → Calls Tryd.prog 36 #[.pointer (some ⟨b, 0, none⟩), .int .i64 2] w' (Reads b w' t 0 (.int .u64 (n : Int))))
    (h : most < (n : Int)) : Calls Tryd.prog 33 #[.pointer (some ⟨b, 0, none⟩), .int .i64 most] w (Reads b w ByteArray.empty 11 (.string ByteArray.empty)) := by
  have HN := Lib.hid HN
  rename Hid (∀ (w' : World), Rd w' b s e → _) => HN
  go_enter Tryd.func33, Tryd.ntmps33
  go_wp2_with (first | (go_at_call 58; refine (failing_any _ _).mono ?_; rintro e w1 ⟨rfl, hx, hb, hsz⟩) | (go_at_call 36; refine (HN.out _ (hr.below hb)).mono ?_; rintro e w2 ⟨rfl, hr2, ho2⟩) | (go_at_call 79; refine (fail_yes _ _ b t _ ((ho2.cell hsz (by have := hr.lt; omega)).trans hx) hr2).mono ?_; rintro e w3 ⟨rfl, hr3, ho3⟩))
  go_ret
  exact ⟨rfl, hr3, ((Only.of_below hb).trans ho2).trans ho3⟩
theorem rtext_low (b : Nat) (t : ByteArray) (y most : Int) (s : ByteArray) (e : Int) (w : World) (hr : Rd w b s e) (hy : (y == 0) = false)
    (HN : ∀ w', Rd w' b s e → Calls Tryd.prog 36 #[.pointer (some ⟨b, 0, none⟩), .int .i64 2] w' (Reads b w' t y (.int .u64 0)))
    (h : most < 0) : Calls Tryd.prog 33 #[.pointer (some ⟨b, 0, none⟩), .int .i64 most] w (Reads b w t y (.string ByteArray.empty)) := by
  have HN := Lib.hid HN
  rename Hid (∀ (w' : World), Rd w' b s e → _) => HN
  go_enter Tryd.func33, Tryd.ntmps33
  go_wp2_with (first | (go_at_call 58; refine (failing_any _ _).mono ?_; rintro e w1 ⟨rfl, hx, hb, hsz⟩) | (go_at_call 36; refine (HN.out _ (hr.below hb)).mono ?_; rintro e w2 ⟨rfl, hr2, ho2⟩) | (go_at_call 79; refine (fail_no _ _ b t y _ ((ho2.cell hsz (by have := hr.lt; omega)).trans hx) hr2 hy).mono ?_; rintro e w3 ⟨rfl, rfl⟩))
  go_ret
  exact ⟨rfl, hr2, (Only.of_below hb).trans ho2⟩
theorem rtext_any (b : Nat) (most : Int) (s : ByteArray) (e : Int) (w : World) (hr : Rd w b s e) (hw : RWf s e) (hs : s.size ≤ maxLen) :
    Calls Tryd.prog 33 #[.pointer (some ⟨b, 0, none⟩), .int .i64 most] w (Reads b w (textS s e most).1 (textS s e most).2.1 (.string (textS s e most).2.2)) := by
  have HN := fun w' hr' => rnumS_any b 2 s e w' hr' hw hs
  have hlt := numS2_lt s e
  have hf := numS2_failed s e
  have hwf := numS_wf (n := 2) hw
  have hle := Nat.le_trans (numS_le s e 2) hs
  unfold textS
  obtain ⟨t, y, n, hq⟩ : ∃ t y n, numS s e 2 = (t, y, n) := ⟨_, _, _, rfl⟩
  rw [hq] at HN hlt hf hwf hle ⊢
  simp only at HN hlt hf hwf hle ⊢
  have HR := fun w' hr' => raw_any b n t y w' hr' hwf hle
  by_cases hy : y = 0
  · subst hy
    rw [if_neg (by simp)]
    by_cases hm : most < (n : Int)
    · rw [if_pos hm]; exact rtext_long b n t most s e w hr hlt HN hm
    · rw [if_neg hm]; exact rtext_step b n t 0 most s e w hr hlt HN HR (by omega)
  · obtain rfl : n = 0 := hf hy
    rw [if_pos hy]
    by_cases hm : most < 0
    · exact rtext_low b t y most s e w hr (by simp [hy]) HN hm
    · have := rtext_step b 0 t y most s e w hr hlt HN HR (by omega)
      rw [show rawS t y ((0 : Nat) : Int) = _ from rawS_failed hy] at this
      exact this
theorem rtext_nil (most : Int) (w : World) : Calls Tryd.prog 33 #[.pointer none, .int .i64 most] w fun x w' => x = .returned (.string ByteArray.empty) ∧ Below w.heap.size w w' := by
  by_cases h : most < 0
  · go_enter Tryd.func33, Tryd.ntmps33
    go_wp2_with (first | (go_at_call 58; refine (failing_any _ _).mono ?_; rintro e w1 ⟨rfl, hx, hb, hsz⟩) | (go_at_call 36; refine (rnum_nil _ _).mono ?_; rintro e w2 ⟨rfl, hb2⟩) | (go_at_call 79; refine (fail_nil _ _ _ ((hb2.cell (p := ⟨w.heap.size, 0, none⟩) hsz).trans hx)).mono ?_; rintro e w2 ⟨rfl, rfl⟩))
    go_ret
    exact ⟨rfl, below_to hb hb2⟩
  · go_enter Tryd.func33, Tryd.ntmps33
    go_wp2_with (first | (go_at_call 58; refine (failing_any _ _).mono ?_; rintro e w1 ⟨rfl, hx, hb, hsz⟩) | (go_at_call 36; refine (rnum_nil _ _).mono ?_; rintro e w2 ⟨rfl, hb2⟩) | (go_at_call 35; refine (raw_nil _ _).mono ?_; rintro e w2 ⟨rfl, rfl⟩))
    go_ret
    exact ⟨rfl, below_to hb hb2⟩
end Go.Proofs.YtgbnmokajaehhaaDoor.Oc
