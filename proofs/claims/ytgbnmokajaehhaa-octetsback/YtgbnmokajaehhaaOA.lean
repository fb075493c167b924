/- Contract: the reference's Cut. -/
import Derived.Test.YtgbnmokajaehhaaO9
namespace Go.Proofs.Ytgbnmokajaehhaa
open Go.RowKit
theorem StrRow.fresh (w : World) : StrRow w [] (.slice (some ⟨w.heap.size, 0, none⟩) 0 0) (w.alloc (.cells #[] 9)) :=
  ⟨World.ownsRow_made w #[] 0 (Nat.le_refl _) (by decide) (by simp), (Below.refl _ _).alloc (Nat.le_refl _) _⟩
set_option maxHeartbeats 1000000 in
theorem rcut_any (s : ByteArray) (m : Nat) (w : World) (hs : s.size ≤ 1048576) (hm : 1 ≤ m) (hm2 : m ≤ 9223372036854775807) :
    Calls Try.prog 25 #[.string s, .int .i64 (m : Int)] w fun e w' => ∃ v, e = .returned v ∧ StrRow w (cutB m s) v w' := by
  obtain ⟨i0, hi, hz0, hz1, hz2⟩ := info_parts info9
  go_enter Try.func25, Try.ntmps25
  go_wp2
  go_loopw [0, 5] (fun t v wx => ∃ (q : ByteArray) (ps : List ByteArray), q.size ≤ s.size ∧ CutAt m s q ps ∧ t = .string q ∧ StrRow w ps v wx) (fun t _ _ => match t with | .string q => q.size | _ => 0)
  case atStart => exact ⟨s, [], by omega, CutAt.start m s, rfl, StrRow.fresh w⟩
  case round =>
    obtain ⟨q, ps, hq, hC, rfl, hS⟩ := hrel
    have hlen := hC.len
    have hown := hS.own
    have hbl2 := hS.below
    by_cases hlt : m < q.size
    · have hC' := hC.next hm m (.inl rfl) (by omega)
      go_wp2_with (first
        | (at_builtin; refine wpList_append_own _ rfl _ _ 33 rfl w.heap.size 9 i0 (.string ByteArray.empty) 1 16 Try.underlying33 hi hz0 hz1 hz2 rfl (by decide) _ _ _ rfl (hown.alloc _) ⟨wr.heap.size, 0, none⟩ 1 1 [.string (q.extract 0 m)] rfl rfl ?c1 ?c2 ?c3 ?c4 ?c5 ?_))
      case c1 =>
        intro j u hj
        match j, hj with
        | 0, hj => simp at hj; subst hj; simp [Addr.add]
      case c2 => intro u hu; simp at hu; subst hu; rfl
      case c3 => unfold maxLen; omega
      case c4 => omega
      case c5 => have := hbl2.size; simp; omega
      intro v' w4 hown' hgrow _
      have hS' := hS.snoc hown' hgrow
      have hsz' : (q.extract m q.size).size = q.size - m := by
        have e := ext_size q m q.size
        rwa [Nat.min_self] at e
      have HSZ := Lib.hid hsz'
      clear hown' hgrow hown hbl2 hS hsz'
      go_wp2
      go_roundw
      case rel => exact ⟨_, _, by rw [HSZ.out]; omega, hC', rfl, hS'⟩
      case measure => show ByteArray.size _ < ByteArray.size _; rw [HSZ.out]; omega
    · by_cases h0 : 0 < q.size
      · have hC' := hC.next hm q.size (.inr ⟨rfl, by omega⟩) h0
        have hfull : q.extract 0 q.size = q := by
          apply ByteArray.ext; apply Array.toList_inj.1; rw [ext_take, blen, List.take_length]
        rw [hfull] at hC'
        have hD := hC'.done (by have e := ext_size q q.size q.size; rw [Nat.min_self] at e; omega)
        have HD := Lib.hid hD
        clear hD hfull
        go_wp2_with (first
          | (at_builtin; refine wpList_append_own _ rfl _ _ 33 rfl w.heap.size 9 i0 (.string ByteArray.empty) 1 16 Try.underlying33 hi hz0 hz1 hz2 rfl (by decide) _ _ _ rfl (hown.alloc _) ⟨wr.heap.size, 0, none⟩ 1 1 [.string q] rfl rfl ?c1 ?c2 ?c3 ?c4 ?c5 ?_))
        case c1 =>
          intro j u hj
          match j, hj with
          | 0, hj => simp at hj; subst hj; simp [Addr.add]
        case c2 => intro u hu; simp at hu; subst hu; rfl
        case c3 => unfold maxLen; omega
        case c4 => omega
        case c5 => have := hbl2.size; simp; omega
        intro v' w4 hown' hgrow _
        have hS' := hS.snoc hown' hgrow
        rw [HD.out] at hS'
        clear hown' hgrow hown hbl2 hS
        go_wp2
        go_ret
        exact ⟨_, rfl, hS'⟩
      · obtain rfl := hC.done (by omega)
        go_wp2
        go_ret
        exact ⟨_, rfl, hS⟩
theorem rcut_no (s : ByteArray) (m : Int) (w : World) (hm : m < 1) :
    Calls Try.prog 25 #[.string s, .int .i64 m] w fun e w' => ∃ v, e = .returned v ∧ StrRow w [] v w' := by
  go_enter Try.func25, Try.ntmps25
  go_wp2
  go_loopw [5] (fun v wx => StrRow w [] v wx) (fun _ _ => 0)
  case atStart => exact StrRow.fresh w
  case round =>
    go_wp2
    go_ret
    exact ⟨_, rfl, hrel⟩
end Go.Proofs.Ytgbnmokajaehhaa
