/- Contract: which images may be a transaction. -/
import Derived.Test.YtbhebkjadgajeaaJ1
import Derived.Maps.OwnSet
import Derived.Maps.AppendAt
namespace Go.Proofs.Ytbhebkjadgajeaa
open Go.RowKit Go.Maps
theorem law3 : Keyed Try.prog 3 := int_keyed Try.underlying3
theorem zero80 (w : World) : (zeroValue 80).run Try.prog w = .ok (.agg #[]) w := by kernel_rfl
/-- One image that may be. -/
def okImg (x : Int × ByteArray) : Prop := 0 ≤ x.1 ∧ x.1 < 3840 ∧ x.2.size = 480
/-- A list of images that may be a transaction. -/
def okI (l : List (Int × ByteArray)) : Prop := l ≠ [] ∧ (∀ x ∈ l, okImg x) ∧ (l.map Prod.fst).Nodup
/-- .. its first ones. -/
def preI (l : List (Int × ByteArray)) (k : Nat) : Prop := (∀ x ∈ l.take k, okImg x) ∧ ((l.take k).map Prod.fst).Nodup
theorem preI_zero (l : List (Int × ByteArray)) : preI l 0 := by simp [preI]
theorem preI_full (l : List (Int × ByteArray)) (h : preI l l.length) (hl : l ≠ []) : okI l := by
  unfold preI at h
  rw [List.take_length] at h
  exact ⟨hl, h⟩
theorem preI_succ (l : List (Int × ByteArray)) (k : Nat) (hk : k < l.length) (h : preI l k) (h1 : okImg l[k]) (h2 : l[k].1 ∉ (l.take k).map Prod.fst) : preI l (k + 1) := by
  unfold preI at *
  rw [List.take_add_one, List.getElem?_eq_getElem hk]
  simp only [Option.toList_some, List.map_append, List.map_cons, List.map_nil]
  refine ⟨fun x hx => ?_, ?_⟩
  · rcases List.mem_append.1 hx with hx | hx
    · exact h.1 x hx
    · rw [List.mem_singleton.1 hx]; exact h1
  · rw [List.nodup_append]
    refine ⟨h.2, by simp, ?_⟩
    intro a ha b hb e
    rw [List.mem_singleton.1 hb] at e
    exact h2 (e ▸ ha)
theorem not_okI_img {l : List (Int × ByteArray)} {k : Nat} (hk : k < l.length) (h : ¬ okImg l[k]) : ¬ okI l := fun ho => h (ho.2.1 _ (List.getElem_mem hk))
theorem not_okI_dup {l : List (Int × ByteArray)} {k : Nat} (hk : k < l.length) (h : l[k].1 ∈ (l.take k).map Prod.fst) : ¬ okI l := by
  intro ho
  have hn := ho.2.2
  obtain ⟨j, hj, hjk⟩ := List.getElem_of_mem h
  simp only [List.length_map, List.length_take] at hj
  simp only [List.getElem_map, List.getElem_take] at hjk
  exact List.pairwise_iff_getElem.1 hn j k (by simp; omega) (by simpa using hk) (by omega) (by simpa using hjk)
/-- The pages met so far. -/
def seenD (l : List (Int × ByteArray)) (k : Nat) : DataW Unit := setOf (.agg []) (((l.take k).map Prod.fst).map (Lit.int .i64))
theorem seenD_zero (l : List (Int × ByteArray)) : seenD l 0 = .map [] := by simp [seenD, setOf]
theorem seenD_succ (l : List (Int × ByteArray)) (k : Nat) (hk : k < l.length) : seenD l (k + 1) = (seenD l k).put (.int .i64 l[k].1) (.agg []) := by
  unfold seenD
  rw [List.take_add_one, List.getElem?_eq_getElem hk]
  simp only [Option.toList_some, List.map_append, List.map_cons, List.map_nil]
  rw [setOf_snoc]
theorem any_int (x : Int) : ∀ l : List Int, l.any ((fun y : Lit => y.sameKey (.int .i64 x)) ∘ Lit.int .i64) = l.contains x
  | [] => rfl
  | a :: l => by
    rw [List.any_cons, any_int x l, List.contains_cons]
    congr 1
    simp only [Lit.sameKey]
    by_cases h : x = a
    · subst h; simp
    · simp [Ne.symm h, beq_eq_false_iff_ne.2 h]
theorem has_seenD (l : List (Int × ByteArray)) (k : Nat) (x : Int) : Maps.has (seenD l k) (.int .i64 x) = decide (x ∈ (l.take k).map Prod.fst) := by
  unfold seenD
  rw [has_setOf _ _ _ (by intro y hy; simp only [List.mem_map] at hy; obtain ⟨z, _, rfl⟩ := hy; exact trivial), List.any_map, any_int]
  simp
theorem has_seenD_yes {l : List (Int × ByteArray)} {k : Nat} {x : Int} (h : x ∈ (l.take k).map Prod.fst) : Maps.has (seenD l k) (.int .i64 x) = true := by rw [has_seenD]; exact decide_eq_true h
theorem has_seenD_no {l : List (Int × ByteArray)} {k : Nat} {x : Int} (h : x ∉ (l.take k).map Prod.fst) : Maps.has (seenD l k) (.int .i64 x) = false := by rw [has_seenD]; exact decide_eq_false h
theorem check_none (a : Option Addr) (c : Nat) (w : World) : Calls Try.prog 22 #[.slice a 0 c] w fun e w' => e = .returned (.int .i64 18) ∧ w = w' := by
  go_enter Try.func22, Try.ntmps22
  go_wp2
  go_ret
  exact ⟨rfl, rfl⟩
/-- What Check answers. -/
def okN (l : List (Int × ByteArray)) (y : Int) : Prop := okI l ∧ y = 0 ∨ ¬ okI l ∧ y = 18
set_option maxRecDepth 100000 in
set_option maxHeartbeats 2000000 in
theorem check_row (g c : Nat) (l : List (Int × ByteArray)) (w : World) (hl : 0 < l.length) (hn : l.length ≤ 2000000) (hg : g < w.heap.size) (hc : ∀ j (hj : j < l.length), w.cell? ⟨g, j * 2, none⟩ = some (.int .i64 l[j].1) ∧ w.cell? ⟨g, j * 2 + 1, none⟩ = some (.string l[j].2)) (hwf : ∀ x ∈ l, (Lit.int .i64 x.1).wf = true) :
    Calls Try.prog 22 #[.slice (some ⟨g, 0, none⟩) l.length c] w fun e w' => (∃ y, e = .returned (.int .i64 y) ∧ okN l y) ∧ Below w.heap.size w w' := by
  have hmm := @run_makeMap Try.prog
  have hl0 : ((l.length : Int) == 0) = false := by rw [beq_eq_false_iff_ne]; omega
  go_enter Try.func22, Try.ntmps22
  go_wp2
  go_loopw [14] (fun i wr => ∃ k : Nat, k ≤ l.length ∧ i = .int .i64 k ∧ Hid (wr.ownsMap Try.prog 3 unitElem w.heap.size k (seenD l k)) ∧ Below w.heap.size w wr ∧ Hid (preI l k)) (fun i _ => l.length - (intOf i).toNat)
  case atStart => exact ⟨0, Nat.zero_le _, rfl, Lib.hid (by rw [seenD_zero]; exact World.ownsMap_made _ _ _ _), (Below.refl _ _).alloc (Nat.le_refl _) _, Lib.hid (preI_zero l)⟩
  case round =>
    obtain ⟨k, hk, rfl, hown, hnx, hpre⟩ := hrel
    by_cases hlt : k < l.length
    · obtain ⟨pg, hpg⟩ : ∃ pg, l[k].1 = pg := ⟨_, rfl⟩
      obtain ⟨t, ht⟩ : ∃ t, l[k].2 = t := ⟨_, rfl⟩
      have cp : wr.cell? ⟨g, k * 2, none⟩ = some (.int .i64 pg) := by rw [← hpg]; exact (hnx.cell (p := ⟨g, k * 2, none⟩) hg).trans (hc k hlt).1
      have ct : wr.cell? ⟨g, k * 2 + 1, none⟩ = some (.string t) := by rw [← ht]; exact (hnx.cell (p := ⟨g, k * 2 + 1, none⟩) hg).trans (hc k hlt).2
      have hkey : keyOf Try.prog 3 (.int .i64 pg) = some (.int .i64 pg) := keyOf_int_mk Try.underlying3 (by rw [← hpg]; exact hwf _ (List.getElem_mem hlt))
      have HP := Lib.hid hpg
      have HT := Lib.hid ht
      clear hpg ht
      by_cases hs : pg ∈ (l.take k).map Prod.fst
      · have hh := has_seenD_yes hs
        have HS := Lib.hid hs
        clear hs
        go_wp2_with (first
          | (at_lookup; refine wpList_lookup_own_unit _ rfl _ _ 79 rfl 3 80 law3 Try.underlying79 (zero80 _) w.heap.size k _ rfl (hown.out.alloc _) _ _ rfl hkey ?_)
          | go_in)
        go_ret
        exact ⟨⟨18, rfl, .inr ⟨not_okI_dup hlt (by rw [HP.out]; exact HS.out), rfl⟩⟩, (hnx.alloc hnx.size _).alloc (by have := hnx.size; simp; omega) _⟩
      · have hh := has_seenD_no hs
        have HS := Lib.hid hs
        clear hs
        by_cases hp : 0 ≤ pg ∧ pg < 3840
        · obtain ⟨hp1, hp2⟩ := hp
          by_cases hz : t.size = 480
          · have hz2 : ((t.size : Int) != 480) = false := by rw [hz]; rfl
            have HZ := Lib.hid hz
            clear hz
            go_wp2_with (first
              | (at_lookup; refine wpList_lookup_own_unit _ rfl _ _ 79 rfl 3 80 law3 Try.underlying79 (zero80 _) w.heap.size k _ rfl (hown.out.alloc _) _ _ rfl hkey ?_)
              | (go_at_call 34; refine (isPage_yes pg _ hp1 hp2).mono ?_; rintro e w' ⟨rfl, rfl⟩)
              | (at_mapUpdate; refine wpList_mapUpdate_own _ rfl _ _ _ 79 rfl 3 80 law3 Try.underlying79 (unitElem (H := Unit)) w.heap.size k _ rfl ((hown.out.alloc _).alloc _) (by unfold maxLen; omega) _ _ _ rfl rfl hkey _ [] unitElem_mk ?_; intro w1 hown1 hgrow1)
              | go_in)
            have hB := ((hnx.alloc hnx.size (.cells #[.int .i64 pg, .string t] 57)).alloc (by have := hnx.size; simp; omega) (.cells #[] 80)).grown hgrow1 (by have := hnx.size; simp; omega) (fun j hj => by cases hj; exact Nat.le_refl _)

            go_roundw
            case rel =>
              refine ⟨k + 1, by omega, by go_num, Lib.hid ?_, hB, Lib.hid (preI_succ l k hlt hpre.out ⟨by rw [HP.out]; exact hp1, by rw [HP.out]; exact hp2, by rw [HT.out]; exact HZ.out⟩ (by rw [HP.out]; exact HS.out))⟩
              rw [seenD_succ l k hlt, HP.out]
              exact hown1
            case measure => simp [intOf]; omega
          · have hz2 : ((t.size : Int) != 480) = true := by rw [bne_iff_ne]; omega
            have HZ := Lib.hid hz
            clear hz
            go_wp2_with (first
              | (at_lookup; refine wpList_lookup_own_unit _ rfl _ _ 79 rfl 3 80 law3 Try.underlying79 (zero80 _) w.heap.size k _ rfl (hown.out.alloc _) _ _ rfl hkey ?_)
              | (go_at_call 34; refine (isPage_yes pg _ hp1 hp2).mono ?_; rintro e w' ⟨rfl, rfl⟩)
              | go_in)
            go_ret
            exact ⟨⟨18, rfl, .inr ⟨not_okI_img hlt (fun h => HZ.out (by rw [← HT.out]; exact h.2.2)), rfl⟩⟩, (hnx.alloc hnx.size _).alloc (by have := hnx.size; simp; omega) _⟩
        · have HQ := Lib.hid hp
          have hp' : pg < 0 ∨ 3840 ≤ pg := by omega
          have HP' := Lib.hid hp'
          clear hp hp'
          go_wp2_with (first
            | (at_lookup; refine wpList_lookup_own_unit _ rfl _ _ 79 rfl 3 80 law3 Try.underlying79 (zero80 _) w.heap.size k _ rfl (hown.out.alloc _) _ _ rfl hkey ?_)
            | (go_at_call 34; refine (isPage_no pg _ HP'.out).mono ?_; rintro e w' ⟨rfl, rfl⟩)
            | go_in)
          go_ret
          exact ⟨⟨18, rfl, .inr ⟨not_okI_img hlt (fun h => HQ.out (by rw [← HP.out]; exact ⟨h.1, h.2.1⟩)), rfl⟩⟩, (hnx.alloc hnx.size _).alloc (by have := hnx.size; simp; omega) _⟩
    · obtain rfl : k = l.length := by omega
      go_wp2_with fail
      go_ret
      exact ⟨⟨0, rfl, .inl ⟨preI_full l hpre.out (by intro e; rw [e] at hl; simp at hl), rfl⟩⟩, hnx⟩
end Go.Proofs.Ytbhebkjadgajeaa
