/- Contract: unescaped. -/
import Derived.Test.YtgbnmokajaehhaaDoorN7
namespace Go.Proofs.YtgbnmokajaehhaaDoor
open Go.RowKit Go.Sort
set_option linter.unusedVariables false
set_option maxRecDepth 20000 in
set_option maxHeartbeats 1000000 in
theorem unescaped_any (s : ByteArray) (h0 : 0 < s.size) (hs : s.size ≤ 1048576) (w : World) : Calls Tryd.prog 41 #[.string s] w fun e w' => e = .returned (.string (bs (unescL s.data.toList))) ∧ Below w.heap.size w w' := by
  obtain ⟨i0, hi, hz0, hz1, hz2⟩ := info_parts info5
  have hpos : 0 < (unescL s.data.toList).length := by
    rw [drop1 s h0]
    generalize s.data.toList.drop 1 = r
    match r with
    | [] => simp [unescL]
    | [d] => simp [unescL]
    | a :: b :: r => rw [unescL]; split <;> simp
  have HP := Lib.hid hpos
  clear hpos
  go_enter Tryd.func41, Tryd.ntmps41
  go_wp2
  go_loopw [0, 3] (fun t v wx => ∃ (q : ByteArray) (l : List UInt8), q.size ≤ s.size ∧ Hid (l ++ unescL q.data.toList = unescL s.data.toList) ∧ l.length + q.size ≤ s.size ∧ ByRow w l v wx ∧ t = .string q) (fun t _ _ => match t with | .string q => q.size | _ => 0)
  case atStart => exact ⟨s, [], by omega, Lib.hid rfl, by simp, ByRow.start w, rfl⟩
  case round =>
    obtain ⟨q, l, hq, HL, hlq, hS, rfl⟩ := hrel
    have hown := hS.own
    have hbl2 := hS.below
    by_cases hlt : 0 < q.size
    · by_cases he : q[0].toNat = 37 ∧ 2 < q.size
      · obtain ⟨he1, he2⟩ := he
        have he1' : (q[0].toNat : Int) = 37 := by omega
        have hi1 : (1 : Int) < (q.size : Int) := by omega
        have hi2 : (2 : Int) < (q.size : Int) := by omega
        have hh1 := Lib.hid (fun w => (hexValue_any q[1] w).mono fun _ _ h => And.intro h.1 h.2.symm)
        have hh2 := Lib.hid (fun w => (hexValue_any q[2] w).mono fun _ _ h => And.intro h.1 h.2.symm)
        obtain ⟨a, ha, ha', HA⟩ : ∃ a : Nat, hexV q[1] = a ∧ a < 16 ∧ Hid (hexV q[1] = a) := ⟨_, rfl, hexV_lt _, Lib.hid rfl⟩
        obtain ⟨b, hb, hb', HB⟩ : ∃ a : Nat, hexV q[2] = a ∧ a < 16 ∧ Hid (hexV q[2] = a) := ⟨_, rfl, hexV_lt _, Lib.hid rfl⟩
        rw [ha] at hh1
        rw [hb] at hh2
        obtain ⟨c, hc, HC⟩ : ∃ c : UInt8, bits .or .u8 ((a : Int) * 16) (b : Int) = (c.toNat : Int) ∧ Hid (escB q[1] q[2] = c) := ⟨_, or16 ⟨a, ha'⟩ ⟨b, hb'⟩, Lib.hid (by unfold escB; rw [HA.out, HB.out])⟩
        have HU := Lib.hid (show unescL q.data.toList = c :: unescL (q.data.toList.drop 3) by
          rw [drop3 q he2, show q[0] = 37 from UInt8.toNat_inj.1 he1, unescL_esc, HC.out]; rfl)
        have hx3 := Lib.hid (ext_drop q 3 (by omega))
        have hz3 := Lib.hid (ext_drop_size q 3 (by omega))
        clear ha hb he1
        go_wp2_with fail
        go_quiet (first | (go_at_call 67; refine Calls.quiet_of_same (hh1.out _)) | (go_at_call 67; refine Calls.quiet_of_same (hh2.out _)))
        have hS0 : ByRow w l u3 (wr.drewN nq) := ⟨hS.own, below_drewN hS.below nq⟩
        clear hown hbl2 hS
        generalize wr.drewN nq = w2 at hS0 ⊢
        have hown := hS0.own
        have hbl2 := hS0.below
        go_wp2_with (first
          | (at_builtin; refine wpList_append_own _ rfl _ _ 42 rfl w.heap.size 5 i0 (.int .u8 0) 1 1 Tryd.underlying42 hi hz0 hz1 hz2 rfl (by decide) _ _ _ rfl (hown.alloc _) ⟨w2.heap.size, 0, none⟩ 1 1 [u8V c] rfl rfl ?c1 ?c2 ?c3 ?c4 ?c5 ?_))
        case c1 =>
          intro j u hj
          match j, hj with
          | 0, hj => simp at hj; subst hj; simp [Addr.add, u8V]
        case c2 => intro u hu; simp at hu; subst hu; rfl
        case c3 => unfold maxLen; omega
        case c4 => omega
        case c5 => have := hbl2.size; simp; omega
        intro v' w4 hown' hgrow _
        have hS' := hS0.snoc (m := [c]) hown' hgrow
        clear hown' hgrow hown hbl2 hS0
        go_wp2
        go_roundw
        case rel => exact ⟨_, _, by rw [hz3.out]; omega, Lib.hid (by rw [hx3.out, ← HL.out, HU.out]; simp), by rw [hz3.out]; simp; omega, hS', rfl⟩
        case measure => show ByteArray.size _ < ByteArray.size _; rw [hz3.out]; omega
      · have HU := Lib.hid (show unescL q.data.toList = q[0] :: unescL (q.data.toList.drop 1) by
          rw [drop1 q hlt, unescL_plain]
          · rfl
          · by_cases h37 : q[0].toNat = 37
            · right; rw [List.length_drop, ← blen]; omega
            · left; intro h; rw [h] at h37; exact h37 rfl)
        have hx1 := Lib.hid (ext_drop q 1 (by omega))
        have hz1' := Lib.hid (ext_drop_size q 1 (by omega))
        have he' : ¬ ((q[0].toNat : Int) = 37) ∨ ((q[0].toNat : Int) = 37 ∧ q.size ≤ 2) := by omega
        clear he
        obtain ⟨c, hc, HC⟩ : ∃ c : UInt8, q[0] = c ∧ Hid (q[0] = c) := ⟨_, rfl, Lib.hid rfl⟩
        rw [HC.out] at he' HU
        rcases he' with he' | ⟨he', he2⟩
        · go_wp2_with (first
            | (at_builtin; refine wpList_append_own _ rfl _ _ 42 rfl w.heap.size 5 i0 (.int .u8 0) 1 1 Tryd.underlying42 hi hz0 hz1 hz2 rfl (by decide) _ _ _ rfl (hown.alloc _) ⟨wr.heap.size, 0, none⟩ 1 1 [u8V c] rfl rfl ?c1 ?c2 ?c3 ?c4 ?c5 ?_))
          case c1 =>
            intro j u hj
            match j, hj with
            | 0, hj => simp at hj; subst hj; simp [Addr.add, u8V]
          case c2 => intro u hu; simp at hu; subst hu; rfl
          case c3 => unfold maxLen; omega
          case c4 => omega
          case c5 => have := hbl2.size; simp; omega
          intro v' w4 hown' hgrow _
          have hS' := hS.snoc (m := [c]) hown' hgrow
          clear hown' hgrow hown hbl2 hS
          go_wp2
          go_roundw
          case rel => exact ⟨_, _, by rw [hz1'.out]; omega, Lib.hid (by rw [hx1.out, ← HL.out, HU.out]; simp), by rw [hz1'.out]; simp; omega, hS', rfl⟩
          case measure => show ByteArray.size _ < ByteArray.size _; rw [hz1'.out]; omega
        · obtain rfl : c = 37 := UInt8.toNat_inj.1 (by show c.toNat = 37; omega)
          go_wp2_with (first
            | (at_builtin; refine wpList_append_own _ rfl _ _ 42 rfl w.heap.size 5 i0 (.int .u8 0) 1 1 Tryd.underlying42 hi hz0 hz1 hz2 rfl (by decide) _ _ _ rfl (hown.alloc _) ⟨wr.heap.size, 0, none⟩ 1 1 [u8V 37] rfl rfl ?c1 ?c2 ?c3 ?c4 ?c5 ?_))
          case c1 =>
            intro j u hj
            match j, hj with
            | 0, hj => simp at hj; subst hj; simp [Addr.add, u8V]
          case c2 => intro u hu; simp at hu; subst hu; rfl
          case c3 => unfold maxLen; omega
          case c4 => omega
          case c5 => have := hbl2.size; simp; omega
          intro v' w4 hown' hgrow _
          have hS' := hS.snoc (m := [37]) hown' hgrow
          clear hown' hgrow hown hbl2 hS
          go_wp2
          go_roundw
          case rel => exact ⟨_, _, by rw [hz1'.out]; omega, Lib.hid (by rw [hx1.out, ← HL.out, HU.out]; simp), by rw [hz1'.out]; simp; omega, hS', rfl⟩
          case measure => show ByteArray.size _ < ByteArray.size _; rw [hz1'.out]; omega
    · have hq0 : q.data.toList = [] := List.eq_nil_of_length_eq_zero (by rw [← blen]; omega)
      have hl2 : l = unescL s.data.toList := by rw [← HL.out, hq0]; simp [unescL]
      subst hl2
      have hcv := hS.str HP.out
      clear hown HL
      go_wp2
      go_ret
      exact ⟨rfl, hbl2⟩
end Go.Proofs.YtgbnmokajaehhaaDoor
