/- TopHomes: the examples hold. -/
import Derived.Test.YtplngodilalbhaaH1
import Derived.Test.YtplngodilalbhaaW2
namespace Go.Proofs.Ytplngodilalbhaa
open Go.RowKit Go.Shelf
theorem pg_lit (C : Int) (c : UInt8) (hC : C = (c.toNat : Int)) (w : World) : Calls Try.prog 41 #[.int .u8 C] w fun e w' => e = .returned (.string (pgB c)) ∧ Below w.heap.size w w' := by
  subst hC; exact pg_any c w
theorem home_lit (A : Int) (a : Nat) (hA : A = (a : Int)) (p : ByteArray) (ha : a ≤ 65535) (hp : p.size = 480) (w : World) : Calls Try.prog 18 #[.int .i64 A, .string p] w fun x w' => x = .returned (.tuple #[.string (homeB a p), .int .i64 0]) ∧ Below w.heap.size w w' := by
  subst hA; exact home_is a p ha hp w
set_option maxRecDepth 100000 in
set_option maxHeartbeats 2000000 in
theorem begins3_any (w : World) : Calls Try.prog 40 #[] w fun e w' => e = .returned (.bool true) ∧ Below w.heap.size w w' := by
  have hsz := homeB_size 1 (pgB 7) (by omega) (pgB_size 7)
  have HHM := Lib.hid (fun w => home_lit 1 1 rfl (pgB 7) (by omega) (pgB_size 7) w)
  generalize homeB 1 (pgB 7) = hm at hsz HHM
  have HSZ := Lib.hid hsz
  clear hsz
  go_enter Try.func40, Try.ntmps40
  go_wp2_with fail
  refine (new_ok (K := fun k => k < w.heap.size) 3 _ (by omega) (by omega) _ rfl (fun k hk => hk)).mono ?_
  rintro e w2 ⟨d, sb, rfl, hD, B⟩
  go_wp2_with fail
  refine (pg_lit 7 7 rfl _).mono ?_
  rintro e w3 ⟨rfl, B3⟩
  go_wp2_with fail
  refine (HHM.out _).mono ?_
  rintro e w4 ⟨rfl, B4⟩
  have hD4 := (hD.below B3).below B4
  have hB4 := below_to (below_to B B3) B4
  have hlr : (List.replicate 3 z512).length = 3 := List.length_replicate
  have HW := Lib.hid (write_lit hD4 1 1 rfl hm (by rw [hlr]; omega) HSZ.out (by simp) (by omega) (by omega) (by omega) 0 1 false (by simp [opF]))
  clear hlr hD B B3 B4 HHM
  go_wp2_with fail
  refine HW.out.mono ?_
  rintro e w5 ⟨rfl, ⟨pv5, hD5⟩, hK5⟩
  have hF5 : Fits ([] ++ [((1 : Int), hm)]) (List.replicate 3 z512).length := fits_snoc (fun j hj => by simp at hj) (by omega) (by rw [List.length_replicate]; omega)
  have HFL := Lib.hid (flush_any hD5 hF5 (by simp) (by omega) (by omega) (by omega) 0 ((List.replicate 3 z512).set 1 hm) [] 0 false 2 (by simp [flF, opF, appl]))
  clear HW hF5 hD4
  go_wp2_with fail
  refine HFL.out.mono ?_
  rintro e w6 ⟨rfl, ⟨pv6, hD6⟩, hK6⟩
  have hl6 : ((List.replicate 3 z512).set 1 hm).length = 3 := by rw [List.length_set, List.length_replicate]
  have h16 : ∀ h, ((List.replicate 3 z512).set 1 hm)[1]'h = hm := fun h => List.getElem_set_self ..
  generalize (List.replicate 3 z512).set 1 hm = S6 at hD6 hl6 h16 HFL
  have HL6 := Lib.hid hl6
  have H16 := Lib.hid h16
  clear hl6 h16 HFL hD5
  have hKK : Below w.heap.size w w6 := hB4.trans (((hK5.trans hK6).toBelow).mono (Nat.le_refl _))
  go_wp2_with fail
  refine (safe_any hD6 (by rw [HL6.out]; omega)).mono ?_
  rintro e w7 ⟨g7, cap7, rfl, hg1, hg2, hown7, B7⟩
  have hD7 := hD6.below B7
  rw [HL6.out] at hown7 ⊢
  clear hown7 hg1 hg2
  go_wp2_with fail
  refine (safe_any hD7 (by rw [HL6.out]; omega)).mono ?_
  rintro e w8 ⟨g8, cap8, rfl, hg1, hg2, hown8, B8⟩
  have hrow := StrRow.of_own hown8 1 (by rw [HL6.out]; omega)
  rw [H16.out] at hrow
  rw [HL6.out]
  have hB8 := below_to (below_to hKK B7) B8
  clear hown8 hg1 hg2 B7 B8 hD7 hD6
  go_wp2_with fail
  go_ret
  exact ⟨rfl, hB8⟩
end Go.Proofs.Ytplngodilalbhaa
