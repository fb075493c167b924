/- Pages of one byte, and the sectors of pages at their home positions. TopHomes: the examples hold. TopHomes: what each page may be, in memory. -/
import Derived.Test.YtplngodilalbhaaD9
import Derived.Test.YtplngodilalbhaaE1
import Derived.Test.YtplngodilalbhaaAG
import Derived.Test.YtplngodilalbhaaW2
import Derived.ArgAppend
namespace Go.Proofs.Ytplngodilalbhaa
open Go.RowKit Go.Shelf
/-- A page of one byte. -/
def pgB (c : UInt8) : ByteArray := bs (List.replicate 480 c)
theorem pgB_size (c : UInt8) : (pgB c).size = 480 := by
  show (List.replicate 480 c).toArray.size = 480
  rw [List.size_toArray, List.length_replicate]
set_option maxRecDepth 100000 in
set_option maxHeartbeats 400000 in
theorem page_any (c : UInt8) (w : World) : Calls Try.prog 41 #[.int .u8 (c.toNat : Int)] w fun e w' => e = .returned (.string (bs (List.replicate 480 c))) ∧ Below w.heap.size w w' := by
  have km : (Instr.makeSlice 43 (.int .i64 480) (.int .i64 480)).run Try.prog w = .ok (.slice (some ⟨w.heap.size, 0, none⟩) 480 480) (w.alloc (.cells (Array.replicate 480 (.int .u8 0)) 5)) := run_make5 w 480 (by omega)
  have hz := BRow.zeros w 480
  generalize Array.replicate 480 (Value.int .u8 0) = C at km hz
  go_enter Try.func41, Try.ntmps41
  go_wp2
  clear km
  go_loopw [8] (fun i wx => ∃ (k : Nat) (l : List UInt8), k ≤ 480 ∧ Hid (l = List.replicate k c ++ List.replicate (480 - k) 0) ∧ BRow wx w.heap.size l ∧ Below w.heap.size w wx ∧ w.heap.size < wx.heap.size ∧ i = .int .i64 (k : Int)) (fun i _ => 480 - (intOf i).toNat)
  case atStart => exact ⟨0, _, by omega, Lib.hid rfl, hz, (Below.refl _ _).alloc (Nat.le_refl _) _, by simp, rfl⟩
  case round =>
    obtain ⟨k, l, hk, HL, HB, HW, hsz, rfl⟩ := hrel
    have hll : l.length = 480 := by rw [HL.out]; simp; omega
    by_cases hlt : k < 480
    · obtain ⟨d, hcell, hfz⟩ : ∃ d : UInt8, wr.cell? ⟨w.heap.size, k, none⟩ = some (.int .u8 (d.toNat : Int)) ∧ wr.frozen? ⟨w.heap.size, k, none⟩ = false := ⟨_, HB k (by omega)⟩
      have HLL := Lib.hid hll
      clear hll
      go_wp2
      go_roundw
      case rel =>
        refine ⟨k + 1, l.set k c, by omega, Lib.hid ?_, HB.set k _, ?_, ?_, by go_num⟩
        · rw [HL.out, fill_one 480 k c hlt]
        · exact HW.setCell (p := ⟨w.heap.size, k, none⟩) (Nat.le_refl _) _
        · simpa using hsz
      case measure => simp [intOf]; omega
    · obtain rfl : k = 480 := by omega
      have hl : l = List.replicate 480 c := by rw [HL.out]; simp
      subst hl
      have kb := toStr' wr w.heap.size 480 480 _ HB hll
      clear hll HL
      go_wp2
      go_ret
      exact ⟨rfl, HW⟩
theorem pg_any (c : UInt8) (w : World) : Calls Try.prog 41 #[.int .u8 (c.toNat : Int)] w fun e w' => e = .returned (.string (pgB c)) ∧ Below w.heap.size w w' := page_any c w
/-- The sector of a page. -/
def homeB (a : Nat) (p : ByteArray) : ByteArray := if p = z480 then z512 else sealB 4 0 0 a 0 p
theorem okS_home (a : Nat) (p : ByteArray) (ha : a ≤ 65535) (hp : p.size = 480) : okS 4 (a : Int) 0 p.size := ⟨by omega, by omega, by omega, by omega, by omega, by omega, hp⟩
theorem homeB_size (a : Nat) (p : ByteArray) (ha : a ≤ 65535) (hp : p.size = 480) : (homeB a p).size = 512 := by
  unfold homeB
  split
  · rw [bs_size, List.length_replicate]
  · exact opens_size ⟨okS_home a p ha hp, by omega, by omega, rfl⟩
theorem homeB_opens (a : Nat) (p : ByteArray) (ha : a ≤ 65535) (hp : p.size = 480) (hz : p ≠ z480) : homeB a p ≠ z512 ∧ Opens (homeB a p) 4 0 0 a 0 p := by
  unfold homeB
  rw [if_neg hz]
  exact ⟨seal_not_blank _ _ _ _ _ _ (by omega) (by omega), okS_home a p ha hp, by omega, by omega, rfl⟩
theorem allZ_page {p : ByteArray} (hp : p.size = 480) : allZ p.data.toList = true ↔ p = z480 := by
  constructor
  · exact allZ_zero hp
  · intro h
    cases hz : allZ p.data.toList with
    | true => rfl
    | false => exact absurd h (allZ_not hz)
theorem home_is (a : Nat) (p : ByteArray) (ha : a ≤ 65535) (hp : p.size = 480) (w : World) : Calls Try.prog 18 #[.int .i64 (a : Int), .string p] w fun x w' => x = strErr (homeB a p) 0 ∧ Below w.heap.size w w' := by
  by_cases hz : p = z480
  · unfold homeB
    rw [if_pos hz]
    exact home_blank a p _ w (okS_home a p ha hp) ((allZ_page hp).2 hz) rfl
  · have hz' : allZ p.data.toList = false := by
      cases h : allZ p.data.toList with
      | true => exact absurd ((allZ_page hp).1 h) hz
      | false => rfl
    unfold homeB
    rw [if_neg hz]
    exact home_seal a p _ w (okS_home a p ha hp) hz' (fun w => seal_ok 4 0 0 a 0 p w (okS_home a p ha hp) (by omega) (by omega))
theorem ofHome_is (a : Nat) (p : ByteArray) (ha : a ≤ 65535) (hp : p.size = 480) (w : World) : Calls Try.prog 20 #[.string (homeB a p), .int .i64 (a : Int)] w fun x w' => x = strErr p 0 ∧ Below w.heap.size w w' := by
  by_cases hz : p = z480
  · unfold homeB
    rw [if_pos hz, hz]
    exact (of_blank a).h1 w
  · obtain ⟨h1, h2⟩ := homeB_opens a p ha hp hz
    exact (of_yes h1 h2).h1 w
/-- At the next page's position. -/
theorem ofHome_next (a : Nat) (p : ByteArray) (ha : a ≤ 65535) (hp : p.size = 480) : ∃ q y, (y = 0 ∧ p = z480 ∨ (y == 0) = false) ∧ ∀ w, Calls Try.prog 20 #[.string (homeB a p), .int .i64 ((a : Int) + 1)] w fun x w' => x = strErr q y ∧ Below w.heap.size w w' := by
  by_cases hz : p = z480
  · refine ⟨z480, 0, .inl ⟨rfl, hz⟩, ?_⟩
    unfold homeB
    rw [if_pos hz]
    exact (of_blank _).h1
  · obtain ⟨h1, h2⟩ := homeB_opens a p ha hp hz
    refine ⟨ByteArray.empty, 19, .inr rfl, (of_no h1 h2 ?_).h1⟩
    rintro ⟨_, _, _, h, _⟩
    omega
end Go.Proofs.Ytplngodilalbhaa
namespace Go.Proofs.Ytplngodilalbhaa
open Go.RowKit Go.Shelf
theorem pg_lit (C : Int) (c : UInt8) (hC : C = (c.toNat : Int)) (w : World) : Calls Try.prog 41 #[.int .u8 C] w fun e w' => e = .returned (.string (pgB c)) ∧ Below w.heap.size w w' := by
  subst hC; exact pg_any c w
theorem home_lit (A : Int) (a : Nat) (hA : A = (a : Int)) (p : ByteArray) (ha : a ≤ 65535) (hp : p.size = 480) (w : World) : Calls Try.prog 18 #[.int .i64 A, .string p] w fun x w' => x = .returned (.tuple #[.string (homeB a p), .int .i64 0]) ∧ Below w.heap.size w w' := by
  subst hA; exact home_is a p ha hp w
set_option maxRecDepth 100000 in
set_option maxHeartbeats 2000000 in
theorem begins3_any (w : World) : Calls Try.prog 40 #[] w fun e w' => e = .returned (.bool true) ∧ Below w.heap.size w w' := by
  have hsz := homeB_size 1 (pgB 7) (by omega) (pgB_size 7)
  have HHM := Lib.hid (fun w => home_lit 1 1 rfl (pgB 7) (by omega) (pgB_size 7) w)
  generalize homeB 1 (pgB 7) = hm at hsz HHM
  have HSZ := Lib.hid hsz
  clear hsz
  go_enter Try.func40, Try.ntmps40
  go_wp2_with fail
  refine (new_ok (K := fun k => k < w.heap.size) 3 _ (by omega) (by omega) _ rfl (fun k hk => hk)).mono ?_
  rintro e w2 ⟨d, sb, rfl, hD, B⟩
  go_wp2_with fail
  refine (pg_lit 7 7 rfl _).mono ?_
  rintro e w3 ⟨rfl, B3⟩
  go_wp2_with fail
  refine (HHM.out _).mono ?_
  rintro e w4 ⟨rfl, B4⟩
  have hD4 := (hD.below B3).below B4
  have hB4 := below_to (below_to B B3) B4
  have hlr : (List.replicate 3 z512).length = 3 := List.length_replicate
  have HW := Lib.hid (write_lit hD4 1 1 rfl hm (by rw [hlr]; omega) HSZ.out (by simp) (by omega) (by omega) (by omega) 0 1 false (by simp [opF]))
  clear hlr hD B B3 B4 HHM
  go_wp2_with fail
  refine HW.out.mono ?_
  rintro e w5 ⟨rfl, ⟨pv5, hD5⟩, hK5⟩
  have hF5 : Fits ([] ++ [((1 : Int), hm)]) (List.replicate 3 z512).length := fits_snoc (fun j hj => by simp at hj) (by omega) (by rw [List.length_replicate]; omega)
  have HFL := Lib.hid (flush_any hD5 hF5 (by simp) (by omega) (by omega) (by omega) 0 ((List.replicate 3 z512).set 1 hm) [] 0 false 2 (by simp [flF, opF, appl]))
  clear HW hF5 hD4
  go_wp2_with fail
  refine HFL.out.mono ?_
  rintro e w6 ⟨rfl, ⟨pv6, hD6⟩, hK6⟩
  have hl6 : ((List.replicate 3 z512).set 1 hm).length = 3 := by rw [List.length_set, List.length_replicate]
  have h16 : ∀ h, ((List.replicate 3 z512).set 1 hm)[1]'h = hm := fun h => List.getElem_set_self ..
  generalize (List.replicate 3 z512).set 1 hm = S6 at hD6 hl6 h16 HFL
  have HL6 := Lib.hid hl6
  have H16 := Lib.hid h16
  clear hl6 h16 HFL hD5
  have hKK : Below w.heap.size w w6 := hB4.trans (((hK5.trans hK6).toBelow).mono (Nat.le_refl _))
  go_wp2_with fail
  refine (safe_any hD6 (by rw [HL6.out]; omega)).mono ?_
  rintro e w7 ⟨g7, cap7, rfl, hg1, hg2, hown7, B7⟩
  have hD7 := hD6.below B7
  rw [HL6.out] at hown7 ⊢
  clear hown7 hg1 hg2
  go_wp2_with fail
  refine (safe_any hD7 (by rw [HL6.out]; omega)).mono ?_
  rintro e w8 ⟨g8, cap8, rfl, hg1, hg2, hown8, B8⟩
  have hrow := StrRow.of_own hown8 1 (by rw [HL6.out]; omega)
  rw [H16.out] at hrow
  rw [HL6.out]
  have hB8 := below_to (below_to hKK B7) B8
  clear hown8 hg1 hg2 B7 B8 hD7 hD6
  go_wp2_with fail
  go_ret
  exact ⟨rfl, hB8⟩
end Go.Proofs.Ytplngodilalbhaa
namespace Go.Proofs.Ytplngodilalbhaa
open Go.RowKit Go.Shelf
/-- A row of pages of one byte, anywhere in block g, with room behind it. -/
def MRow (w : World) (v : Value) (g : Nat) (l : List UInt8) : Prop :=
  ∃ off cap, v = .slice (some ⟨g, off, none⟩) l.length cap ∧ l.length ≤ cap ∧ (∀ j, j < cap → (w.cell? ⟨g, off + j, none⟩).isSome = true ∧ w.frozen? ⟨g, off + j, none⟩ = false) ∧ ∀ j (hj : j < l.length), w.cell? ⟨g, off + j, none⟩ = some (.string (pgB l[j]))
theorem MRow.block {w w1 : World} {v : Value} {g : Nat} {l : List UInt8} (h : MRow w v g l) (hb : w1.heap[g]? = w.heap[g]?) : MRow w1 v g l := by
  obtain ⟨off, cap, h1, h2, h3, h4⟩ := h
  exact ⟨off, cap, h1, h2, fun j hj => ⟨by rw [World.cell?_of_block (a := ⟨g, off + j, none⟩) hb]; exact (h3 j hj).1, (World.frozen?_of_block (a := ⟨g, off + j, none⟩) hb).trans (h3 j hj).2⟩, fun j hj => (World.cell?_of_block (a := ⟨g, off + j, none⟩) hb).trans (h4 j hj)⟩
/-- The last one alone. -/
theorem MRow.last {w : World} {g off cap n : Nat} {l : List UInt8} (h : MRow w (.slice (some ⟨g, off, none⟩) n cap) g l) (hn : 1 ≤ n) : ∃ hl : n - 1 < l.length, n = l.length ∧ n ≤ cap ∧ MRow w (.slice (some ⟨g, off + (n - 1), none⟩) 1 (cap - (n - 1))) g [l[n - 1]] := by
  obtain ⟨off', cap', h1, h2, h3, h4⟩ := h
  injection h1 with e1 e2 e3
  injection e1 with e1
  injection e1 with _ e4
  subst e2 e3 e4
  refine ⟨by omega, rfl, h2, off + (l.length - 1), cap - (l.length - 1), rfl, by simp; omega, fun j hj => ?_, fun j hj => ?_⟩
  · have := h3 (l.length - 1 + j) (by omega)
    rw [← Nat.add_assoc] at this
    exact this
  · have hj' : j = 0 := by simpa using hj
    subst hj'
    exact h4 (l.length - 1) (by omega)
theorem mrow_append (w : World) (v : Value) (g : Nat) (l : List UInt8) (h : MRow w v g l) (c : UInt8) (sb : Nat) (hs : w.cell? ⟨sb, 0, none⟩ = some (.string (pgB c))) (hl : l.length ≤ 1000) (ty : TypeId) :
    ∃ v' w', (Builtin.append_ #[49, 49] ty #[v, .slice (some ⟨sb, 0, none⟩) 1 1]).run Try.prog w = .ok v' w' ∧ ∃ g', MRow w' v' g' (l ++ [c]) ∧ (g' = g ∨ w.heap.size ≤ g') ∧ g' < w'.heap.size ∧ w.grownBy w' (some g) := by
  obtain ⟨off, cap, rfl, h2, h3, h4⟩ := h
  obtain ⟨i0, hi0, hz0, hz1, hz2⟩ := info_parts info9
  have hnews : ∀ j u, [Value.string (pgB c)][j]? = some u → w.cell? ((⟨sb, 0, none⟩ : Addr).add j) = some u := by
    intro j u hj
    match j, hj with
    | 0, hj => simp at hj; subst hj; rw [add_nil]; exact hs
  have h1c : ∀ u ∈ [Value.string (pgB c)], u.oneCell' = true := by intro u hu; simp at hu; subst hu; rfl
  by_cases hroom : l.length + 1 ≤ cap
  · have hlast := h3 l.length (by omega)
    have hrun := run_append_room_cells (P := Try.prog) w 49 ty 9 i0 Try.underlying49 hi0 g off l.length cap ⟨sb, 0, none⟩ 1 1 [.string (pgB c)] (by rw [hz1]; rfl) hnews h1c hroom
      (by intro j hj; have hj' : j = 0 := by simpa using hj
          subst hj'; rw [hz1]; simpa using hlast.1)
      (by intro j hj; have hj' : j = 0 := by simpa using hj
          subst hj'; rw [hz1]; simpa using hlast.2)
    have hset : w.setCells g (off + l.length * i0.size) [.string (pgB c)] = w.setCell ⟨g, off + l.length, none⟩ (.string (pgB c)) := by rw [hz1]; simp [World.setCells]
    rw [hset] at hrun
    obtain ⟨u, hu⟩ := Option.isSome_iff_exists.1 hlast.1
    have hglt : g < w.heap.size := World.block_lt_of_cell? w _ hu
    refine ⟨_, _, hrun, g, ⟨off, cap, by simp, by simp; omega, fun j hj => ?_, fun j hj => ?_⟩, .inl rfl, by simpa using hglt, ⟨rfl, rfl, rfl, by simp, fun k hk hne => Below.heap_setCell w ⟨g, _, none⟩ _ k (fun e => hne (by rw [e]))⟩⟩
    · refine ⟨?_, by rw [World.frozen?_setCell]; exact (h3 j hj).2⟩
      by_cases hjl : j = l.length
      · subst hjl
        rw [World.cell?_setCell_same' _ _ _ hlast.1, Option.isSome_some]
      · rw [World.cell?_setCell_other _ _ _ _ (fun e => hjl (Nat.add_left_cancel (congrArg Addr.off e)).symm)]; exact (h3 j hj).1
    · by_cases hjl : j < l.length
      · rw [World.cell?_setCell_other _ _ _ _ (fun e => by have e2 : off + l.length = off + j := congrArg Addr.off e; clear e; omega), List.getElem_append_left hjl]
        exact h4 j hjl
      · have hjl' : j = l.length := by simp at hj; omega
        subst hjl'
        rw [World.cell?_setCell_same' _ _ _ hlast.1, List.getElem_append_right (Nat.le_refl _)]
        simp
  · obtain ⟨v', w', hr, hown, hgrow⟩ := run_append_arg_grows (P := Try.prog) w 49 ty 9 i0 (.string ⟨#[]⟩) 1 16 Try.underlying49 hi0 hz0 hz1 hz2 rfl (by decide) ⟨g, off, none⟩ l.length cap (l.map fun x => .string (pgB x)) (by simp)
      (by intro j u hj
          rw [List.getElem?_map] at hj
          obtain ⟨z, hz, rfl⟩ := Option.map_eq_some_iff.1 hj
          obtain ⟨hj', rfl⟩ := List.getElem?_eq_some_iff.1 hz
          rw [add_none]
          exact h4 j hj')
      ⟨sb, 0, none⟩ 1 1 [.string (pgB c)] rfl hnews (by omega) (by unfold maxLen; omega) (by omega)
    rcases hown.2 with ⟨rfl, h0⟩ | ⟨g', cp, cur, rfl, hgb, hgc, hnc, _, hcs, htake⟩
    · omega
    · have hcell : ∀ j, w'.cell? ⟨g', 0 + j, none⟩ = cur[j]? := fun j => by rw [Nat.zero_add, cell_of_row _ _ j _ _ _ hgc]
      refine ⟨_, w', hr, g', ⟨0, cp, by simp, by simp; omega, fun j hj => ?_, fun j hj => ?_⟩, .inr hgb, (Array.getElem?_eq_some_iff.1 hgc).1, ⟨hgrow.os, hgrow.tape, hgrow.output, hgrow.size, fun k hk _ => hgrow.block k hk (by simp)⟩⟩
      · constructor
        · rw [hcell, Array.getElem?_eq_getElem (by omega)]; rfl
        · unfold World.frozen?
          simp only [hgc]
          simp
      · have hcl := hown.cells (g := g') rfl j (.string (pgB (l ++ [c])[j])) (by
          rw [show (l.map fun x => Value.string (pgB x)) ++ [Value.string (pgB c)] = (l ++ [c]).map fun x => Value.string (pgB x) by simp, List.getElem?_map, List.getElem?_eq_getElem hj]; rfl)
        rw [add_nil] at hcl
        rw [Nat.zero_add]
        exact hcl
end Go.Proofs.Ytplngodilalbhaa
