/- Contracts: Right, Same and theirs. Contracts: theirs and Same. What a disk holds while transactions are appended, flushed and lost, in plain words. JournalBegins: rows that stand while the disk works; what Append does, in plain words. JournalBegins, walked. -/
import Derived.Test.YtbhebkjadgajeaaJC
import Derived.Test.YtbhebkjadgajeaaJD
import Derived.Test.YtbhebkjadgajeaaOpen
import Derived.Maps.AppendAt
namespace Go.Proofs.Ytbhebkjadgajeaa
open Go.RowKit
/-- Whether image k is none of the first ones. -/
def freshAt (l : Tx) (k m : Nat) : Prop := ∀ i, i < m → ∀ (h1 : i < l.length) (h2 : k < l.length), l[i].1 ≠ l[k].1
theorem fresh_mem {l : Tx} {k : Nat} (hk : k < l.length) (h : freshAt l k k) : l[k].1 ∉ (l.take k).map Prod.fst := by
  intro hm
  obtain ⟨j, hj, hjk⟩ := List.getElem_of_mem hm
  simp only [List.length_map, List.length_take] at hj
  simp only [List.getElem_map, List.getElem_take] at hjk
  exact h j (by omega) (by omega) hk hjk
theorem mem_of {l : Tx} {k m : Nat} (hk : k < l.length) (hm : m < k) (h : l[m].1 = l[k].1) : l[k].1 ∈ (l.take k).map Prod.fst := by
  rw [← h]
  refine List.mem_map.2 ⟨l[m], ?_, rfl⟩
  rw [List.mem_take_iff_getElem]
  exact ⟨m, by omega, rfl⟩
theorem right_none (a : Option Addr) (c : Nat) (w : World) : Calls Try.prog 13 #[.slice a 0 c] w fun e w' => e = .returned (.bool false) ∧ w = w' := by
  go_enter Try.func13, Try.ntmps13
  go_wp2_with fail
  refine wp_loop_rounds 1 ?_
  rw [rounds_succ]
  go_wp2_with fail
  go_ret
  exact ⟨rfl, rfl⟩
set_option maxRecDepth 100000 in
set_option maxHeartbeats 4000000 in
theorem right_row (g c : Nat) (l : Tx) (w : World) (hl : 0 < l.length) (hn : l.length ≤ 2000000) (hI : IRow w g l) (b : Bool) (hb : decide (okI l) = b) :
    Calls Try.prog 13 #[.slice (some ⟨g, 0, none⟩) l.length c] w fun e w' => e = .returned (.bool b) ∧ Below w.heap.size w w' := by
  have HBV := Lib.hid hb
  clear hb
  go_enter Try.func13, Try.ntmps13
  go_wp2_with fail
  go_loopw [3] (fun i wr => ∃ k : Nat, k ≤ l.length ∧ i = .int .i64 k ∧ Hid (preI l k) ∧ Below w.heap.size w wr) (fun i _ => l.length - (intOf i).toNat)
  case atStart => exact ⟨0, Nat.zero_le _, rfl, Lib.hid (preI_zero l), Below.refl _ _⟩
  case round =>
    obtain ⟨k, hk, rfl, hpre, hB⟩ := hrel
    by_cases hlt : k < l.length
    · obtain ⟨pg, hpg⟩ : ∃ pg, l[k].1 = pg := ⟨_, rfl⟩
      obtain ⟨t, ht⟩ : ∃ t, l[k].2 = t := ⟨_, rfl⟩
      have I1 := hI.below hB
      have cp := (I1.2 k hlt).1
      have ct := (I1.2 k hlt).2
      rw [hpg] at cp
      rw [ht] at ct
      have HP := Lib.hid hpg
      have HT := Lib.hid ht
      have HI1 := Lib.hid I1
      clear hpg ht I1
      by_cases h1 : pg < 0
      · have hno : ¬ okI l := not_okI_img hlt (fun h => by have := h.1; rw [HP.out] at this; omega)
        obtain rfl : b = false := HBV.out.symm.trans (decide_eq_false hno)
        clear hno
        go_wp2_with fail
        go_ret
        exact ⟨rfl, hB⟩
      · by_cases h2 : 3839 < pg
        · have hno : ¬ okI l := not_okI_img hlt (fun h => by have := h.2.1; rw [HP.out] at this; omega)
          obtain rfl : b = false := HBV.out.symm.trans (decide_eq_false hno)
          clear hno
          go_wp2_with fail
          go_ret
          exact ⟨rfl, hB⟩
        · by_cases h3 : t.size = 480
          · have hz2 : ((t.size : Int) != 480) = false := by rw [h3]; rfl
            have H3 := Lib.hid h3
            clear h3
            go_wp2_with fail
            go_loopw [4] (fun i wx => ∃ m : Nat, m ≤ k ∧ i = .int .i64 m ∧ Hid (freshAt l k m) ∧ Below w.heap.size w wx) (fun i _ => k - (intOf i).toNat)
            case atStart => exact ⟨0, Nat.zero_le _, rfl, Lib.hid (fun i hi => by omega), hB⟩
            case round =>
              clear hB HI1 cp ct
              obtain ⟨m, hm, rfl, hfr, hB⟩ := hrel
              have I1 := hI.below hB
              by_cases hmk : m < k
              · have cp := (I1.2 k hlt).1
                rw [HP.out] at cp
                have hml : m < l.length := by omega
                obtain ⟨pm, hpm⟩ : ∃ pm, l[m].1 = pm := ⟨_, rfl⟩
                have cm := (I1.2 m hml).1
                rw [hpm] at cm
                have HM := Lib.hid hpm
                clear hpm I1
                by_cases he : pm = pg
                · have hno : ¬ okI l := not_okI_dup hlt (mem_of hlt hmk (by rw [HM.out, HP.out]; exact he))
                  obtain rfl : b = false := HBV.out.symm.trans (decide_eq_false hno)
                  have heb : (pm == pg) = true := by rw [he]; exact beq_self_eq_true _
                  clear hno he
                  go_wp2_with fail
                  go_region
                  go_wp2_with fail
                  go_ret
                  exact ⟨rfl, hB.drew⟩
                · have heb : (pm == pg) = false := beq_eq_false_iff_ne.2 he
                  have HE := Lib.hid he
                  clear he
                  go_wp2_with fail
                  go_region
                  go_wp2_with fail
                  go_roundw
                  case rel =>
                    refine ⟨m + 1, by omega, by go_num, Lib.hid ?_, hB.drew⟩
                    intro i hi h1 h2
                    by_cases him : i < m
                    · exact hfr.out i him h1 h2
                    · obtain rfl : i = m := by omega
                      rw [HM.out, HP.out]; exact HE.out
                  case measure => simp [intOf]; omega
              · obtain rfl : m = k := by omega
                have hsucc := preI_succ l m hlt hpre.out ⟨by rw [HP.out]; omega, by rw [HP.out]; omega, by rw [HT.out]; exact H3.out⟩ (fresh_mem hlt hfr.out)
                have HSU := Lib.hid hsucc
                clear hsucc I1
                go_wp2_with fail
                go_roundw
                case rel => exact ⟨m + 1, by omega, by go_num, HSU, hB⟩
                case measure => simp [intOf]; omega
          · have hz2 : ((t.size : Int) != 480) = true := by rw [bne_iff_ne]; omega
            have hno : ¬ okI l := not_okI_img hlt (fun h => h3 (by rw [← HT.out]; exact h.2.2))
            obtain rfl : b = false := HBV.out.symm.trans (decide_eq_false hno)
            clear hno h3
            go_wp2_with fail
            go_ret
            exact ⟨rfl, hB⟩
    · obtain rfl : k = l.length := by omega
      obtain rfl : b = true := HBV.out.symm.trans (decide_eq_true (preI_full l hpre.out (by intro e; rw [e] at hl; simp at hl)))
      go_wp2_with fail
      go_ret
      exact ⟨rfl, hB⟩
end Go.Proofs.Ytbhebkjadgajeaa
namespace Go.Proofs.Ytbhebkjadgajeaa
open Go.RowKit
section
variable {w0 wr w1 : World} {v v' : Value} {A : List Tx} {T U : Nat}
/-- A slice of slices of images, of whatever types; all in blocks that are new since w0. -/
def GRowG (T U : Nat) (w0 : World) (v : Value) (A : List Tx) (wx : World) : Prop :=
  ∃ vs : List Value, vs.length = A.length ∧ RowOf w0 T 1 v A.length vs wx ∧ ∀ i (hi : i < A.length), ∃ vi, vs[i]? = some vi ∧ RowOf w0 U 2 vi A[i].length (flat A[i]) wx
theorem GRowG.start (w : World) : GRowG T U w (.slice none 0 0) [] w := ⟨[], rfl, RowOf.start _ _ _, fun i hi => by simp at hi⟩
theorem GRowG.later (h : GRowG T U w0 v A wr) (B : Below wr.heap.size wr w1) : GRowG T U w0 v A w1 := by
  obtain ⟨vs, hl, hR, hI⟩ := h
  refine ⟨vs, hl, hR.later B, fun i hi => ?_⟩
  obtain ⟨vi, hv, hr⟩ := hI i hi
  exact ⟨vi, hv, hr.later B⟩
theorem GRowG.below (h : GRowG T U w0 v A w1) : Below w0.heap.size w0 w1 := by
  obtain ⟨vs, _, hr, _⟩ := h; exact hr.below
theorem GRowG.form0 (h : GRowG T U w0 v A wr) : ∃ a c, v = .slice a A.length c := by
  obtain ⟨vs, hl, hR, hI⟩ := h
  exact hR.form0
theorem row_apartG (hTU : T ≠ U) {b b' : Nat} {v u : Value} {n m : Nat} {xs ys : List Value} (h : wr.ownsRow b T 1 v n xs) (h' : wr.ownsRow b' U 2 u m ys) : u.ownBlock = none ∨ u.ownBlock ≠ v.ownBlock := by
  rcases h'.2 with ⟨rfl, _⟩ | ⟨g, cap, cur, rfl, _, hg, _⟩
  · exact .inl rfl
  · refine .inr ?_
    rcases h.2 with ⟨rfl, _⟩ | ⟨g', cap', cur', rfl, _, hg', _⟩
    · simp [Value.ownBlock]
    · intro e
      simp only [Value.ownBlock, Option.some.injEq] at e
      subst e
      rw [hg] at hg'
      simp only [Option.some.injEq, Obj.cells.injEq] at hg'
      exact hTU hg'.2.1.symm
theorem GRowG.snoc (hTU : T ≠ U) {vs : List Value} {vi : Value} {R : Tx} {o : Obj} (hl : vs.length = A.length) (hR : RowOf w0 T 1 v A.length vs wr) (hI : ∀ i (hi : i < A.length), ∃ vi, vs[i]? = some vi ∧ RowOf w0 U 2 vi A[i].length (flat A[i]) wr)
    (hr : RowOf w0 U 2 vi R.length (flat R) wr) (hown : w1.ownsRow w0.heap.size T 1 v' (A.length + 1) (vs ++ [vi])) (hg : (wr.alloc o).grownBy w1 v.ownBlock) : GRowG T U w0 v' (A ++ [R]) w1 := by
  have hB : Below w0.heap.size w0 w1 := (hR.snoc (m := 1) (ys := [vi]) hown hg).below
  refine ⟨vs ++ [vi], by simp [hl], ?_, fun i hi => ?_⟩
  · rw [List.length_append]; exact ⟨hown, hB⟩
  · by_cases hi2 : i < A.length
    · obtain ⟨u, hu, hur⟩ := hI i hi2
      refine ⟨u, by rw [List.getElem?_append_left (by omega)]; exact hu, ?_, hB⟩
      rw [List.getElem_append_left hi2]
      exact (hur.own.alloc o).kept hg (row_apartG hTU hR.own hur.own)
    · have hi3 : i = A.length := by simp at hi; omega
      subst hi3
      refine ⟨vi, by rw [List.getElem?_append_right (by omega)]; simp [hl], ?_, hB⟩
      simp only [List.getElem_concat_length]
      exact (hr.own.alloc o).kept hg (row_apartG hTU hR.own hr.own)
/-- A slice of slices of images, as it reads. -/
def SlSl (w : World) (v : Value) (A : List Tx) : Prop := ∃ a c, v = .slice a A.length c ∧ (0 < A.length → ∃ g, a = some ⟨g, 0, none⟩ ∧ g < w.heap.size ∧ ∀ i (hi : i < A.length), ∃ vi, w.cell? ⟨g, i, none⟩ = some vi ∧ Sl w vi A[i])
theorem SlSl.below (h : SlSl wr v A) (B : Below wr.heap.size wr w1) : SlSl w1 v A := by
  obtain ⟨a, c, hv, hg⟩ := h
  refine ⟨a, c, hv, fun h0 => ?_⟩
  obtain ⟨g, ha, hgl, hi⟩ := hg h0
  refine ⟨g, ha, Nat.lt_of_lt_of_le hgl B.size, fun i hi' => ?_⟩
  obtain ⟨vi, hc, hs⟩ := hi i hi'
  exact ⟨vi, (B.cell (p := ⟨g, i, none⟩) hgl).trans hc, hs.below B⟩
theorem GRowG.slsl (h : GRowG T U w0 v A wr) : SlSl wr v A := by
  obtain ⟨vs, hl, hR, hI⟩ := h
  obtain ⟨a, c, hv⟩ := hR.form0
  refine ⟨a, c, hv, fun h0 => ?_⟩
  obtain ⟨g, c', hv', _, hgl, hc⟩ := hR.form h0
  rw [hv] at hv'
  simp only [Value.slice.injEq] at hv'
  refine ⟨g, hv'.1, hgl, fun i hi => ?_⟩
  obtain ⟨vi, hvi, hr⟩ := hI i hi
  exact ⟨vi, hc i vi hvi, hr.sl⟩
theorem GRow.slsl (h : GRow w0 v A wr) : SlSl wr v A := GRowG.slsl (T := 35) (U := 57) h
end
theorem take_snoc {α : Type} (l : List α) (k : Nat) (hk : k < l.length) : l.take (k + 1) = l.take k ++ [l[k]] := by
  rw [List.take_add_one, List.getElem?_eq_getElem hk]; rfl
theorem info37 : (Try.prog.info? 37).map (fun i => (i.zero, i.size, i.bytes)) = some (some (.slice none 0 0), 1, 24) := by kernel_rfl
set_option maxRecDepth 100000 in
set_option maxHeartbeats 4000000 in
theorem theirs_any (v : Value) (A : List Tx) (w : World) (hA : A.length ≤ 1000000) (hAi : ∀ x ∈ A, x.length ≤ 1000000) (hS : SlSl w v A) :
    Calls Try.prog 17 #[v] w fun e w' => ∃ v', e = .returned v' ∧ GRowG 37 72 w v' A w' := by
  obtain ⟨i0, hi0, hz0, hz1, hz2⟩ := info_parts info37
  obtain ⟨j0, hj0, hy0, hy1, hy2⟩ := info_parts info72
  obtain ⟨a, c, rfl, hS⟩ := hS
  go_enter Try.func17, Try.ntmps17
  go_wp2_with fail
  go_loopw [3, 11] (fun v i wr => ∃ k : Nat, k ≤ A.length ∧ i = .int .i64 k ∧ GRowG 37 72 w v (A.take k) wr) (fun _ i _ => A.length - (intOf i).toNat)
  case atStart => exact ⟨0, Nat.zero_le _, rfl, GRowG.start w⟩
  case round =>
    obtain ⟨k, hk, rfl, hG⟩ := hrel
    by_cases hlt : k < A.length
    · obtain ⟨g, rfl, hgl, hgi⟩ := hS (by omega)
      obtain ⟨x, hx⟩ : ∃ x, A[k] = x := ⟨_, rfl⟩
      obtain ⟨vi, hci, hsi⟩ := hgi k hlt
      have hxl : x.length ≤ 1000000 := by rw [← hx]; exact hAi _ (List.getElem_mem hlt)
      rw [hx] at hsi
      have hsi2 := hsi.below hG.below
      have ci := (hG.below.cell (p := ⟨g, k, none⟩) hgl).trans hci
      have HX := Lib.hid hx
      clear hx hci hgi
      obtain ⟨⟨ai, cc, rfl⟩, hrow⟩ := hsi2
      go_wp2_with fail
      generalize wr = wo at *
      go_loopw [6, 17] (fun u i wx => ∃ m : Nat, m ≤ x.length ∧ i = .int .i64 m ∧ RowOf wo 72 2 u m (flat (x.take m)) wx) (fun _ i _ => x.length - (intOf i).toNat)
      case atStart => exact ⟨0, Nat.zero_le _, rfl, RowOf.start _ _ _⟩
      case round =>
        obtain ⟨m, hm, rfl, hR⟩ := hrel
        by_cases hml : m < x.length
        · obtain ⟨gi, ci2, he, hI⟩ := hrow (by omega)
          simp only [Value.slice.injEq, true_and] at he
          obtain ⟨rfl, rfl⟩ := he
          have hst := take_snoc x m hml
          obtain ⟨y, hy⟩ : ∃ y, x[m] = y := ⟨_, rfl⟩
          have q := hI.2 m hml
          rw [hy] at q hst
          obtain ⟨pg, t⟩ := y
          have q0 := (hR.below.cell (p := ⟨gi, m * 2, none⟩) hI.1).trans q.1
          have q1 := (hR.below.cell (p := ⟨gi, m * 2 + 1, none⟩) hI.1).trans q.2
          simp only at q0 q1
          have HST := Lib.hid hst
          clear hst hy q hrow
          have hR1 := hR.later ((Below.refl wr.heap.size wr).alloc (Nat.le_refl _) (.cells #[.int .i64 pg, .string t] 57))
          go_wp2_with (at_builtin; refine wpList_append_own _ rfl _ _ 37 rfl wo.heap.size 72 j0 (.agg #[.int .i64 0, .string ⟨#[]⟩]) 2 24 Try.underlying37 hj0 hy0 hy1 hy2 rfl (by decide) _ _ _ rfl (hR1.own.alloc _) ⟨wr.heap.size + 1, 0, none⟩ 1 1 [.int .i64 pg, .string t] rfl ?d1 ?d2 ?d3 ?d4 ?d5 ?d6 ?_)
          case d1 => rfl
          case d2 => have := two_cells (wr.alloc (.cells #[.int .i64 pg, .string t] 57)) pg t 72; simpa using this
          case d3 => exact two_one pg t
          case d4 => unfold maxLen; omega
          case d5 => omega
          case d6 => have := hR1.below.size; simp at this ⊢; omega
          intro v2 w2 hown2 hgrow2 hnil2
          have hR2 := hR1.snoc hown2 hgrow2
          go_wp2_with fail
          go_roundw
          case rel => exact ⟨m + 1, by omega, by go_num, by rw [HST.out, flat_snoc]; exact hR2⟩
          case measure => simp [intOf]; omega
        · obtain rfl : m = x.length := by omega
          rw [List.take_length] at hR
          have hG2 := hG.later hR.below
          have hR3 := hR.since hG.below
          obtain ⟨aR, cR, rfl⟩ := hR3.form0
          obtain ⟨vs, hvl, hr, hI⟩ := hG2
          have hst := take_snoc A k hlt
          rw [HX.out] at hst
          have HST := Lib.hid hst
          have hlk : (A.take k).length = k := by rw [List.length_take]; omega
          have HLK := Lib.hid hlk
          clear hst hlk
          go_wp2_with (at_builtin; refine wpList_append_own _ rfl _ _ 41 rfl w.heap.size 37 i0 (.slice none 0 0) 1 24 Try.underlying41 hi0 hz0 hz1 hz2 rfl (by decide) _ _ _ rfl (hr.own.alloc _) ⟨wr.heap.size, 0, none⟩ 1 1 [.slice aR x.length cR] rfl ?d1 ?d2 ?d3 ?d4 ?d5 ?d6 ?_)
          case d1 => rfl
          case d2 =>
            intro j u hj
            match j, hj with
            | 0, hj => simp at hj; subst hj; simp [Addr.add]
          case d3 => intro u hu; simp at hu; subst hu; rfl
          case d4 => rw [HLK.out]; unfold maxLen; omega
          case d5 => rw [HLK.out]; omega
          case d6 => have := hr.below.size; simp; omega
          intro v2 w3 hown3 hgrow3 hnil3
          have hG3 := GRowG.snoc (by decide) hvl hr hI hR3 (by rw [HLK.out]; exact hown3) hgrow3
          rw [← HST.out] at hG3
          go_wp2_with fail
          go_roundw
          case rel => exact ⟨k + 1, by omega, by go_num, hG3⟩
          case measure => simp [intOf]; omega
    · obtain rfl : k = A.length := by omega
      rw [List.take_length] at hG
      go_wp2_with fail
      go_ret
      exact ⟨_, rfl, hG⟩
set_option maxRecDepth 100000 in
set_option maxHeartbeats 4000000 in
theorem same_eq (va vb : Value) (A : List Tx) (w : World) (hA : A.length ≤ 1000000) (hAi : ∀ x ∈ A, x.length ≤ 1000000) (hSa : SlSl w va A) (hSb : SlSl w vb A) :
    Calls Try.prog 16 #[va, vb] w fun e w' => e = .returned (.bool true) ∧ Below w.heap.size w w' := by
  obtain ⟨a, c, rfl, hSa⟩ := hSa
  obtain ⟨b, d, rfl, hSb⟩ := hSb
  go_enter Try.func16, Try.ntmps16
  go_wp2_with fail
  go_loopw [5] (fun i wr => ∃ k : Nat, k ≤ A.length ∧ i = .int .i64 k ∧ Below w.heap.size w wr) (fun i _ => A.length - (intOf i).toNat)
  case atStart => exact ⟨0, Nat.zero_le _, rfl, Below.refl _ _⟩
  case round =>
    obtain ⟨k, hk, rfl, hB⟩ := hrel
    by_cases hlt : k < A.length
    · obtain ⟨g, rfl, hgl, hgi⟩ := hSa (by omega)
      obtain ⟨g', rfl, hgl', hgi'⟩ := hSb (by omega)
      obtain ⟨x, hx⟩ : ∃ x, A[k] = x := ⟨_, rfl⟩
      obtain ⟨vi, hci, hsi⟩ := hgi k hlt
      obtain ⟨vi', hci', hsi'⟩ := hgi' k hlt
      have hxl : x.length ≤ 1000000 := by rw [← hx]; exact hAi _ (List.getElem_mem hlt)
      rw [hx] at hsi hsi'
      obtain ⟨⟨ai, cc, rfl⟩, hrow⟩ := hsi
      obtain ⟨⟨ai', cc', rfl⟩, hrow'⟩ := hsi'
      have ci := (hB.cell (p := ⟨g, k, none⟩) hgl).trans hci
      have ci' := (hB.cell (p := ⟨g', k, none⟩) hgl').trans hci'
      clear hx hgi hgi'
      go_wp2_with fail
      go_region
      go_wp2_with fail
      replace hB := hB.drew
      clear ci ci'
      generalize wr.drew = wo at *
      go_loopw [6] (fun i wx => ∃ m : Nat, m ≤ x.length ∧ i = .int .i64 m ∧ Below w.heap.size w wx) (fun i _ => x.length - (intOf i).toNat)
      case atStart => exact ⟨0, Nat.zero_le _, rfl, hB⟩
      case round =>
        clear hB
        obtain ⟨m, hm, rfl, hB⟩ := hrel
        have ci := (hB.cell (p := ⟨g, k, none⟩) hgl).trans hci
        have ci' := (hB.cell (p := ⟨g', k, none⟩) hgl').trans hci'
        by_cases hml : m < x.length
        · obtain ⟨gi, c1, he, hI⟩ := hrow (by omega)
          obtain ⟨gi', c1', he', hI'⟩ := hrow' (by omega)
          simp only [Value.slice.injEq, true_and] at he he'
          obtain ⟨rfl, rfl⟩ := he
          obtain ⟨rfl, rfl⟩ := he'
          obtain ⟨y, hy⟩ : ∃ y, x[m] = y := ⟨_, rfl⟩
          have q := hI.2 m hml
          have q' := hI'.2 m hml
          rw [hy] at q q'
          obtain ⟨pg, t⟩ := y
          have q0 := (hB.cell (p := ⟨gi, m * 2, none⟩) hI.1).trans q.1
          have q1 := (hB.cell (p := ⟨gi, m * 2 + 1, none⟩) hI.1).trans q.2
          have r0 := (hB.cell (p := ⟨gi', m * 2, none⟩) hI'.1).trans q'.1
          have r1 := (hB.cell (p := ⟨gi', m * 2 + 1, none⟩) hI'.1).trans q'.2
          simp only at q0 q1 r0 r1
          clear hy q q' hrow hrow' hSa hSb
          go_wp2_with fail
          go_region
          go_wp2_with fail
          go_roundw
          case rel => exact ⟨m + 1, by omega, by go_num, hB.drew⟩
          case measure => simp [intOf]; omega
        · obtain rfl : m = x.length := by omega
          go_wp2_with fail
          go_roundw
          case rel => exact ⟨k + 1, by omega, by go_num, hB⟩
          case measure => simp [intOf]; omega
    · obtain rfl : k = A.length := by omega
      go_wp2_with fail
      go_ret
      exact ⟨rfl, hB⟩
end Go.Proofs.Ytbhebkjadgajeaa
namespace Go.Proofs.Ytbhebkjadgajeaa
theorem readT_size' {S : List ByteArray} {P : List (Int × ByteArray)} (hS : ∀ b ∈ S, b.size = 512) (hP : ∀ x ∈ P, x.2.size = 512) (i : Nat) (hi : i < S.length) : (readT S P i).size = 512 := by
  unfold readT
  have h0 : (S.getD i ByteArray.empty).size = 512 := by
    rw [List.getD_eq_getElem?_getD, List.getElem?_eq_getElem hi]
    exact hS _ (List.getElem_mem hi)
  revert h0
  generalize S.getD i ByteArray.empty = s
  intro h0
  induction P generalizing s with
  | nil => exact h0
  | cons x r ih =>
    simp only [List.foldl_cons]
    refine ih (fun y hy => hP y (List.mem_cons_of_mem _ hy)) _ ?_
    split
    · exact hP x (List.mem_cons_self ..)
    · exact h0
theorem wrL_size' {i : Nat} {B : List ByteArray} (h : ∀ b ∈ B, b.size = 512) : ∀ x ∈ wrL i B, x.2.size = 512 := by
  intro x hx
  obtain ⟨j, hj, rfl⟩ := List.getElem_of_mem hx
  rw [wrL_get]
  exact h _ (List.getElem_mem _)
theorem appl_from {S : List ByteArray} {P : List (Int × ByteArray)} {q : Nat → Bool} {k i : Nat} (hF : Fits P S.length) (hk : k ≤ P.length) : (appl S P q k)[i]? = S[i]? ∨ ∃ j, ∃ hj : j < P.length, P[j].1 = (i : Int) ∧ (appl S P q k)[i]? = some P[j].2 := by
  induction k with
  | zero => exact .inl rfl
  | succ k ih =>
    cases hq : q k with
    | false => rw [appl_no hq]; exact ih (by omega)
    | true =>
      obtain ⟨a, ha, hp⟩ := hF k (by omega)
      have hP : P[k] = ((a : Int), P[k].2) := by rw [← hp]
      rw [appl_yes hq (by omega) hP, List.getElem?_set]
      split
      · rename_i h
        subst h
        rw [if_pos (by rw [appl_length]; exact ha)]
        exact .inr ⟨k, by omega, hp, rfl⟩
      · exact ih (by omega)
theorem appl_read {S : List ByteArray} {P : List (Int × ByteArray)} {i : Nat} (hF : Fits P S.length) (hi : i < S.length) : ∀ k, k ≤ P.length → (appl S P (fun _ => true) k)[i]? = some (readT S (P.take k) i)
  | 0, _ => by
    simp only [appl, List.take_zero]
    unfold readT
    rw [List.getElem?_eq_getElem hi]
    simp [List.getD_eq_getElem?_getD, List.getElem?_eq_getElem hi]
  | k + 1, hk => by
    obtain ⟨a, ha, hp⟩ := hF k (by omega)
    have hP : P[k] = ((a : Int), P[k].2) := by rw [← hp]
    have ih := appl_read hF hi k (by omega)
    rw [appl_yes rfl (by omega) hP, List.getElem?_set, List.take_add_one, List.getElem?_eq_getElem (show k < P.length by omega), readT_append]
    simp only [Option.toList_some, List.foldl_cons, List.foldl_nil]
    rw [hp]
    by_cases h : a = i
    · subst h
      rw [if_pos rfl, if_pos (by rw [appl_length]; exact ha), if_pos rfl]
    · rw [if_neg h, if_neg (by omega)]
      exact ih
/-- What the sectors of a journal of epoch 2 hold when these transactions were appended, or the last of them in part. -/
structure InvE (size : Nat) (S : List ByteArray) (P : List (Int × ByteArray)) (A : List Tx) (safe : Nat) : Prop where
  ok : ∀ t ∈ A, okI t
  hlen : S.length = size + 1
  xlen : (secsFrom 2 z480 0 A).length ≤ size
  base : ∀ i s, i < size → S[1 + i]? = some s → (∃ h : i < (secsFrom 2 z480 0 A).length, s = ((secsFrom 2 z480 0 A)[i]).bytes) ∨ (openT s).e ≠ 2
  pend : ∀ x ∈ P, ∃ i, ∃ h : i < (secsFrom 2 z480 0 A).length, x = (((1 + i : Nat) : Int), ((secsFrom 2 z480 0 A)[i]).bytes)
  safeLe : safe ≤ A.length
  safeIs : ∀ i, i < (secsFrom 2 z480 0 (A.take safe)).length → ∃ h : i < (secsFrom 2 z480 0 A).length, S[1 + i]? = some ((secsFrom 2 z480 0 A)[i]).bytes
  sz : ∀ b ∈ S, b.size = 512
/-- .. whole. -/
structure Inv (size : Nat) (S : List ByteArray) (P : List (Int × ByteArray)) (A : List Tx) (safe : Nat) : Prop extends InvE size S P A safe where
  seen : ∀ i, (h : i < (secsFrom 2 z480 0 A).length) → readT S P (1 + i) = ((secsFrom 2 z480 0 A)[i]).bytes
theorem tx_len {A : List Tx} {e c : Nat} {z : ByteArray} : A.length ≤ (secsFrom e z c A).length := by
  induction A generalizing c with
  | nil => simp
  | cons t r ih =>
    have := ih (c := c + 1)
    rw [secsFrom, List.length_append, txS_length, List.length_cons]
    omega
theorem each_len {A : List Tx} {e c : Nat} {z : ByteArray} : ∀ t ∈ A, t.length + 1 ≤ (secsFrom e z c A).length := by
  induction A generalizing c with
  | nil => intro t ht; simp at ht
  | cons a r ih =>
    intro t ht
    rw [secsFrom, List.length_append, txS_length]
    rcases List.mem_cons.1 ht with rfl | ht
    · omega
    · have := ih (c := c + 1) t ht
      omega
section
variable {size : Nat} {S : List ByteArray} {P : List (Int × ByteArray)} {A : List Tx} {safe : Nat}
theorem InvE.secOk (h : InvE size S P A safe) (hs : size ≤ 1024) : ∀ s ∈ secsFrom 2 z480 0 A, s.ok := by
  have h1 := tx_len (A := A) (e := 2) (c := 0) (z := z480)
  have h2 := h.xlen
  exact secsFrom_ok (by omega) z480_size 0 A (fun t ht => ⟨h.ok t ht, by have := each_len (e := 2) (c := 0) (z := z480) t ht; omega⟩) (by omega)
theorem InvE.fits (h : InvE size S P A safe) : Fits P S.length := by
  intro k hk
  obtain ⟨i, hi, hx⟩ := h.pend _ (List.getElem_mem hk)
  have := h.xlen
  exact ⟨1 + i, by rw [h.hlen]; omega, by rw [hx]⟩
theorem InvE.psz (h : InvE size S P A safe) (hs : size ≤ 1024) : ∀ x ∈ P, x.2.size = 512 := by
  intro x hx
  obtain ⟨i, hi, rfl⟩ := h.pend x hx
  exact bytes_size (h.secOk hs _ (List.getElem_mem hi))
theorem InvE.up (h : InvE size S P A safe) (hs : size ≤ 1024) (q : Nat → Bool) :
    ∃ m, m ≤ A.length ∧ safe ≤ m ∧ scanG 2 z480 (size + 1) (readS (appl S P q P.length) [] size) 0 = A.take m := by
  have hget : ∀ i, i < size → ∃ s, (appl S P q P.length)[1 + i]? = some s ∧ readT (appl S P q P.length) [] (1 + i) = s := by
    intro i hi
    have hl : 1 + i < (appl S P q P.length).length := by rw [appl_length, h.hlen]; omega
    refine ⟨_, List.getElem?_eq_getElem hl, ?_⟩
    unfold readT
    simp [List.getD_eq_getElem?_getD, List.getElem?_eq_getElem hl]
  have hsec := h.secOk hs
  have hcase : ∀ i, i < size → (∃ hx : i < (secsFrom 2 z480 0 A).length, openT (readT (appl S P q P.length) [] (1 + i)) = (secsFrom 2 z480 0 A)[i]) ∨ (openT (readT (appl S P q P.length) [] (1 + i))).e ≠ 2 := by
    intro i hi
    obtain ⟨s, hs1, hs2⟩ := hget i hi
    rw [hs2]
    rcases appl_from (q := q) (i := 1 + i) h.fits (Nat.le_refl _) with h1 | ⟨k, hk, h1, h2⟩
    · rw [hs1] at h1
      rcases h.base i s hi h1.symm with ⟨hx, e⟩ | e
      · exact .inl ⟨hx, by rw [e]; exact openT_bytes hsec hx⟩
      · exact .inr e
    · obtain ⟨i', hi', hx⟩ := h.pend _ (List.getElem_mem hk)
      rw [hx] at h1 h2
      have hii : i' = i := by simp only at h1; omega
      subst hii
      rw [hs1] at h2
      simp only [Option.some.injEq] at h2
      exact .inl ⟨hi', by rw [h2]; exact openT_bytes hsec hi'⟩
  obtain ⟨m, hm, he, hsafe⟩ := scan_prefix 2 z480 A 0 (size + 1) (readS (appl S P q P.length) [] size) h.ok (by rw [readS_length]; omega) (by
    intro i hi
    rw [readS_length] at hi
    rw [List.getElem?_eq_getElem (by rw [readS_length]; exact hi), readS_get _ _ _ _ hi]
    rcases hcase i hi with ⟨hx, e⟩ | e
    · left
      rw [e, List.getElem?_eq_getElem hx]
    · exact .inr e)
  refine ⟨m, hm, hsafe safe h.safeLe ?_, he⟩
  intro i hi
  obtain ⟨hx, hS⟩ := h.safeIs i hi
  have hi2 : i < size := Nat.lt_of_lt_of_le hx h.xlen
  obtain ⟨s, hs1, hs2⟩ := hget i hi2
  rw [List.getElem?_eq_getElem (by rw [readS_length]; exact hi2), readS_get _ _ _ _ hi2, List.getElem?_eq_getElem hx, hs2]
  congr 1
  rcases appl_from (q := q) (i := 1 + i) h.fits (Nat.le_refl _) with h1 | ⟨k, hk, h1, h2⟩
  · rw [hs1, hS] at h1
    simp only [Option.some.injEq] at h1
    rw [h1]; exact openT_bytes hsec hx
  · obtain ⟨i', hi', hxx⟩ := h.pend _ (List.getElem_mem hk)
    rw [hxx] at h1 h2
    have hii : i' = i := by simp only at h1; omega
    subst hii
    rw [hs1] at h2
    simp only [Option.some.injEq] at h2
    rw [h2]; exact openT_bytes hsec hi'
theorem InvE.part (h : InvE size S P A safe) (t : Tx) (ht : okI t) (hr : (secsFrom 2 z480 0 A).length + (t.length + 1) ≤ size) (k : Nat) :
    InvE size S (P ++ wrL (1 + (secsFrom 2 z480 0 A).length) (((txS 2 (A.length + 1) t z480).map Sct.bytes).take k)) (A ++ [t]) safe := by
  have hX : secsFrom 2 z480 0 (A ++ [t]) = secsFrom 2 z480 0 A ++ txS 2 (A.length + 1) t z480 := by
    rw [secsFrom_append]; simp [secsFrom]
  have hg : ∀ i, (hi : i < (secsFrom 2 z480 0 A).length) → ∃ h2 : i < (secsFrom 2 z480 0 (A ++ [t])).length, (secsFrom 2 z480 0 (A ++ [t]))[i] = (secsFrom 2 z480 0 A)[i] := by
    intro i hi
    refine ⟨by rw [hX, List.length_append]; omega, ?_⟩
    simp only [hX]
    exact List.getElem_append_left hi
  refine ⟨?_, h.hlen, ?_, ?_, ?_, ?_, ?_, h.sz⟩
  · intro x hx
    rcases List.mem_append.1 hx with hx | hx
    · exact h.ok x hx
    · rw [List.mem_singleton.1 hx]; exact ht
  · rw [hX, List.length_append, txS_length]; exact hr
  · intro i s hi hs
    rcases h.base i s hi hs with ⟨hx, e⟩ | e
    · obtain ⟨h2, h3⟩ := hg i hx
      exact .inl ⟨h2, by rw [h3]; exact e⟩
    · exact .inr e
  · intro x hx
    rcases List.mem_append.1 hx with hx | hx
    · obtain ⟨i, hi, e⟩ := h.pend x hx
      obtain ⟨h2, h3⟩ := hg i hi
      exact ⟨i, h2, by rw [h3]; exact e⟩
    · obtain ⟨j, hj, rfl⟩ := List.getElem_of_mem hx
      rw [wrL_get]
      rw [wrL_length, List.length_take, List.length_map, txS_length] at hj
      have hj2 : j < (txS 2 (A.length + 1) t z480).length := by rw [txS_length]; omega
      refine ⟨(secsFrom 2 z480 0 A).length + j, by rw [hX, List.length_append]; omega, ?_⟩
      congr 1
      · omega
      · simp only [List.getElem_take, List.getElem_map, hX]
        rw [List.getElem_append_right (by omega)]
        simp
  · rw [List.length_append]; have := h.safeLe; omega
  · intro i hi
    rw [List.take_append_of_le_length h.safeLe] at hi
    obtain ⟨hx, e⟩ := h.safeIs i hi
    obtain ⟨h2, h3⟩ := hg i hx
    exact ⟨h2, by rw [h3]; exact e⟩
theorem Inv.app (h : Inv size S P A safe) (t : Tx) (ht : okI t) (hr : (secsFrom 2 z480 0 A).length + (t.length + 1) ≤ size) :
    Inv size S (P ++ wrL (1 + (secsFrom 2 z480 0 A).length) ((txS 2 (A.length + 1) t z480).map Sct.bytes)) (A ++ [t]) safe := by
  have h1 := h.toInvE.part t ht hr (t.length + 1)
  rw [List.take_of_length_le (by rw [List.length_map, txS_length]; exact Nat.le_refl _)] at h1
  have hX : secsFrom 2 z480 0 (A ++ [t]) = secsFrom 2 z480 0 A ++ txS 2 (A.length + 1) t z480 := by
    rw [secsFrom_append]; simp [secsFrom]
  refine ⟨h1, fun i hi => ?_⟩
  rw [readT_wrL]
  by_cases hx : i < (secsFrom 2 z480 0 A).length
  · rw [dif_neg (by omega), h.seen i hx]
    simp only [hX]
    rw [List.getElem_append_left hx]
  · have hi2 : i < (secsFrom 2 z480 0 A).length + (t.length + 1) := by rw [hX, List.length_append, txS_length] at hi; exact hi
    rw [dif_pos (by rw [List.length_map, txS_length]; omega)]
    simp only [hX, List.getElem_map]
    rw [List.getElem_append_right (by omega)]
    congr 2
    omega
theorem Inv.flush (h : Inv size S P A safe) (hs : size ≤ 1024) : Inv size (appl S P (fun _ => true) P.length) [] A A.length := by
  have hrd : ∀ i, i < S.length → (appl S P (fun _ => true) P.length)[i]? = some (readT S P i) := by
    intro i hi
    have := appl_read h.fits hi P.length (Nat.le_refl _)
    rwa [List.take_length] at this
  have hx1 : ∀ i, (hx : i < (secsFrom 2 z480 0 A).length) → (appl S P (fun _ => true) P.length)[1 + i]? = some ((secsFrom 2 z480 0 A)[i]).bytes := by
    intro i hx
    have := h.xlen
    rw [hrd (1 + i) (by rw [h.hlen]; omega), h.seen i hx]
  refine ⟨⟨h.ok, by rw [appl_length]; exact h.hlen, h.xlen, ?_, fun x hx => by simp at hx, Nat.le_refl _, ?_, ?_⟩, ?_⟩
  · intro i s hi hsi
    rcases appl_from (q := fun _ => true) (i := 1 + i) h.fits (Nat.le_refl _) with h1 | ⟨k, hk, h1, h2⟩
    · rw [hsi] at h1
      exact h.base i s hi h1.symm
    · obtain ⟨i', hi', hxx⟩ := h.pend _ (List.getElem_mem hk)
      rw [hxx] at h1 h2
      have hii : i' = i := by simp only at h1; omega
      subst hii
      rw [hsi] at h2
      simp only [Option.some.injEq] at h2
      exact .inl ⟨hi', h2⟩
  · intro i hi
    rw [List.take_length] at hi
    exact ⟨hi, hx1 i hi⟩
  · intro b hb
    obtain ⟨i, hi, rfl⟩ := List.getElem_of_mem hb
    have hi2 : i < S.length := by rw [appl_length] at hi; exact hi
    have := hrd i hi2
    rw [List.getElem?_eq_getElem hi] at this
    simp only [Option.some.injEq] at this
    rw [this]
    exact readT_size' h.sz (h.toInvE.psz hs) i hi2
  · intro i hi
    have h1 := hx1 i hi
    unfold readT
    simp only [List.foldl_nil, List.getD_eq_getElem?_getD, h1]
    rfl
end
end Go.Proofs.Ytbhebkjadgajeaa
namespace Go.Proofs.Ytbhebkjadgajeaa
open Go.RowKit
theorem Disk.grow {K : Nat → Prop} {w w1 : World} {d sb : Nat} {S : List ByteArray} {pv : Value} {P : List (Int × ByteArray)} {fuse : Int} {down : Bool} {ops : Int} (h : Disk K w d sb S pv P fuse down ops) (hs : w.heap.size ≤ w1.heap.size) (hb : ∀ k, k < w.heap.size → ¬ K k → w1.heap[k]? = w.heap[k]?) : Disk (fun k => K k ∨ w.heap.size ≤ k ∧ k < w1.heap.size) w1 d sb S pv P fuse down ops := by
  have g := h.same hs (hb d h.dlt h.nd) (hb sb h.slt h.ns) (fun k hk => hb k (h.pend.lt k hk).2 (h.np k hk).1)
  refine ⟨g.c0, g.c1, g.c2, g.c3, g.c4, g.f1, g.f2, g.f3, g.f4, g.row, g.pend, ?_, ?_, ?_, g.ne, g.slt, ?_⟩
  · rintro (hk | hk)
    · exact h.nd hk
    · have := h.dlt; omega
  · rintro (hk | hk)
    · exact h.ns hk
    · have := h.slt; omega
  · intro k hk
    refine ⟨?_, (h.np k hk).2⟩
    rintro (hk2 | hk2)
    · exact (h.np k hk).1 hk2
    · have := (h.pend.lt k hk).2; omega
  · rintro k (hk | hk)
    · have := h.lt k hk; omega
    · exact hk.2
/-- A row in blocks of K. -/
structure KRow (b : Nat) (K : Nat → Prop) (T sz : Nat) (v : Value) (n : Nat) (xs : List Value) (w : World) : Prop where
  own : w.ownsRow b T sz v n xs
  inK : ∀ g, v.ownBlock = some g → K g
section
variable {b : Nat} {K L : Nat → Prop} {w w1 : World} {T sz n : Nat} {v v' : Value} {xs : List Value} {A : List Tx}
theorem own_block (h : w.ownsRow b T sz v n xs) (hb : ∀ g, v.ownBlock = some g → w1.heap[g]? = w.heap[g]?) : w1.ownsRow b T sz v n xs := by
  refine ⟨h.1, ?_⟩
  rcases h.2 with hn | ⟨g, cap, cur, rfl, h1, h2, h3⟩
  · exact .inl hn
  · exact .inr ⟨g, cap, cur, rfl, h1, (hb g rfl).trans h2, h3⟩
theorem KRow.keep (h : KRow b K T sz v n xs w) (hk : Keep K w w1) : KRow b K T sz v n xs w1 := ⟨own_block h.own (fun g hg => hk.block g (h.inK g hg)), h.inK⟩
theorem KRow.mono (h : KRow b K T sz v n xs w) (hl : ∀ k, K k → L k) : KRow b L T sz v n xs w := ⟨h.own, fun g hg => hl g (h.inK g hg)⟩
theorem KRow.below (h : KRow b K T sz v n xs w) (B : Below w.heap.size w w1) : KRow b K T sz v n xs w1 := ⟨own_below h.own B, h.inK⟩
/-- Rows of images in blocks of K. -/
def GK (b : Nat) (K : Nat → Prop) (v : Value) (A : List Tx) (w : World) : Prop :=
  ∃ vs : List Value, vs.length = A.length ∧ KRow b K 37 1 v A.length vs w ∧ ∀ i (hi : i < A.length), ∃ vi, vs[i]? = some vi ∧ KRow b K 72 2 vi A[i].length (flat A[i]) w
theorem GK.start : GK b K (.slice none 0 0) [] w := ⟨[], rfl, ⟨World.ownsRow_nil _ _ _ _, fun g hg => by simp [Value.ownBlock] at hg⟩, fun i hi => by simp at hi⟩
theorem GK.keep (h : GK b K v A w) (hk : Keep K w w1) : GK b K v A w1 := by
  obtain ⟨vs, hl, hR, hI⟩ := h
  exact ⟨vs, hl, hR.keep hk, fun i hi => by obtain ⟨vi, hv, hr⟩ := hI i hi; exact ⟨vi, hv, hr.keep hk⟩⟩
theorem GK.mono (h : GK b K v A w) (hl : ∀ k, K k → L k) : GK b L v A w := by
  obtain ⟨vs, hl2, hR, hI⟩ := h
  exact ⟨vs, hl2, hR.mono hl, fun i hi => by obtain ⟨vi, hv, hr⟩ := hI i hi; exact ⟨vi, hv, hr.mono hl⟩⟩
theorem GK.below (h : GK b K v A w) (B : Below w.heap.size w w1) : GK b K v A w1 := by
  obtain ⟨vs, hl2, hR, hI⟩ := h
  exact ⟨vs, hl2, hR.below B, fun i hi => by obtain ⟨vi, hv, hr⟩ := hI i hi; exact ⟨vi, hv, hr.below B⟩⟩
theorem own_form (h : w.ownsRow b T sz v n xs) (hn : 0 < n) : ∃ g c, v = .slice (some ⟨g, 0, none⟩) n c ∧ g < w.heap.size ∧ ∀ j u, xs[j]? = some u → w.cell? ⟨g, j, none⟩ = some u := by
  have hc := @World.ownsRow.cells _ _ _ _ _ _ _ h
  rcases h.2 with ⟨_, h0⟩ | ⟨g, cap, cur, rfl, hb, hg, _⟩
  · omega
  · exact ⟨g, cap, rfl, (Array.getElem?_eq_some_iff.1 hg).1, fun j u hu => by rw [← add_nil]; exact hc rfl j u hu⟩
theorem own_form0 (h : w.ownsRow b T sz v n xs) : ∃ a c, v = .slice a n c := by
  rcases h.2 with ⟨rfl, hn⟩ | ⟨g, cap, cur, rfl, _⟩
  · exact ⟨none, 0, by rw [hn]⟩
  · exact ⟨_, _, rfl⟩
theorem own_sl {l : Tx} (h : w.ownsRow b T 2 v l.length (flat l)) : Sl w v l := by
  refine ⟨own_form0 h, fun h0 => ?_⟩
  obtain ⟨g, c, rfl, h2, h3⟩ := own_form h h0
  refine ⟨g, c, rfl, h2, fun j hj => ?_⟩
  have := flat_get l j hj
  rw [Nat.mul_comm] at this
  exact ⟨h3 _ _ this.1, h3 _ _ this.2⟩
theorem GK.slsl (h : GK b K v A w) : SlSl w v A := by
  obtain ⟨vs, hl, hR, hI⟩ := h
  obtain ⟨a, c, hv⟩ := own_form0 hR.own
  refine ⟨a, c, hv, fun h0 => ?_⟩
  obtain ⟨g, c', hv', hgl, hc⟩ := own_form hR.own h0
  rw [hv] at hv'
  simp only [Value.slice.injEq] at hv'
  refine ⟨g, hv'.1, hgl, fun i hi => ?_⟩
  obtain ⟨vi, hvi, hr⟩ := hI i hi
  exact ⟨vi, hc i vi hvi, own_sl hr.own⟩
theorem GK.form0 (h : GK b K v A w) : ∃ a c, v = .slice a A.length c := by
  obtain ⟨vs, hl, hR, hI⟩ := h
  exact own_form0 hR.own
/-- One more, behind an append to the outer row. -/
theorem GK.snoc {vs : List Value} {vi : Value} {R : Tx} {o : Obj} (hl : vs.length = A.length) (hR : KRow b K 37 1 v A.length vs w) (hI : ∀ i (hi : i < A.length), ∃ vi, vs[i]? = some vi ∧ KRow b K 72 2 vi A[i].length (flat A[i]) w)
    (hr : KRow b K 72 2 vi R.length (flat R) w) (hown : w1.ownsRow b 37 1 v' (A.length + 1) (vs ++ [vi])) (hg : (w.alloc o).grownBy w1 v.ownBlock) (hloc : v'.ownBlock = v.ownBlock ∨ v'.ownBlock = some (w.alloc o).heap.size) :
    GK b (fun k => K k ∨ w.heap.size ≤ k ∧ k < w1.heap.size) v' (A ++ [R]) w1 := by
  have hs := hg.size
  simp only [World.size_alloc] at hs
  have hnew : ∀ g, v'.ownBlock = some g → K g ∨ w.heap.size ≤ g ∧ g < w1.heap.size := by
    intro g hgv
    have hlt := (hown.lt g hgv).2
    rcases hloc with h | h
    · exact .inl (hR.inK g (h ▸ hgv))
    · rw [h] at hgv
      simp only [World.size_alloc, Option.some.injEq] at hgv
      exact .inr ⟨by omega, hlt⟩
  refine ⟨vs ++ [vi], by simp [hl], ⟨by rw [List.length_append]; exact hown, hnew⟩, fun i hi => ?_⟩
  by_cases hi2 : i < A.length
  · obtain ⟨u, hu, hur⟩ := hI i hi2
    refine ⟨u, by rw [List.getElem?_append_left (by omega)]; exact hu, ?_, fun g hgu => .inl (hur.inK g hgu)⟩
    rw [List.getElem_append_left hi2]
    exact (hur.own.alloc o).kept hg (row_apartG (by decide) hR.own hur.own)
  · have hi3 : i = A.length := by simp at hi; omega
    subst hi3
    refine ⟨vi, by rw [List.getElem?_append_right (by omega)]; simp [hl], ?_, fun g hgu => .inl (hr.inK g hgu)⟩
    simp only [List.getElem_concat_length]
    exact (hr.own.alloc o).kept hg (row_apartG (by decide) hR.own hr.own)
/-- .. and the disk beside it. -/
theorem Disk.snoc {d sb : Nat} {S : List ByteArray} {pv : Value} {P : List (Int × ByteArray)} {fuse : Int} {down : Bool} {ops : Int} {o : Obj} (h : Disk L w d sb S pv P fuse down ops) (hv : ∀ g, v.ownBlock = some g → L g) (hg : (w.alloc o).grownBy w1 v.ownBlock) : Disk (fun k => L k ∨ w.heap.size ≤ k ∧ k < w1.heap.size) w1 d sb S pv P fuse down ops := by
  have hs := hg.size
  simp only [World.size_alloc] at hs
  refine h.grow (by omega) (fun k hk hnk => ?_)
  exact (hg.block k (by simp; omega) (fun e => hnk (hv k e.symm))).trans (Below.heap_alloc w o k hk)
theorem keep_snoc {w0 : World} {o : Obj} (h : Keep L w0 w) (hl : ∀ k, L k → k < w0.heap.size) (hv : ∀ g, v.ownBlock = some g → ¬ L g) (hg : (w.alloc o).grownBy w1 v.ownBlock) : Keep L w0 w1 := by
  have hs := hg.size
  simp only [World.size_alloc] at hs
  refine ⟨hg.os.trans h.os, hg.tape.trans h.tape, hg.output.trans h.output, by have := h.size; omega, fun k hk => ?_⟩
  have hkl : k < w.heap.size := Nat.lt_of_lt_of_le (hl k hk) h.size
  exact ((hg.block k (by simp; omega) (fun e => hv k e.symm hk)).trans (Below.heap_alloc w o k hkl)).trans (h.block k hk)
theorem Jour.snoc {j d size used ep num : Nat} {o : Obj} (h : Jour w j d size used ep num) (hv : v.ownBlock ≠ some j) (hg : (w.alloc o).grownBy w1 v.ownBlock) : Jour w1 j d size used ep num :=
  h.block ((hg.block j (by have := h.lt; simp; omega) (fun e => hv e.symm)).trans (Below.heap_alloc w o j h.lt))
end
theorem wrsF_bounds (n : Nat) : ∀ (B : List ByteArray) (i : Nat) (s : DS), (wrsF n B i s).2.2.1 ≤ s.2.1 ∧ s.2.2.2 ≤ (wrsF n B i s).2.2.2.2 ∧ (wrsF n B i s).2.2.2.2 ≤ s.2.2.2 + B.length
  | [], i, s => by simp [wrsF]
  | b :: r, i, s => by
    obtain ⟨y1, P1, f1, d1, o1, hw⟩ : ∃ y1 P1 f1 d1 o1, wrF n s.1 s.2.1 s.2.2.1 s.2.2.2 (i : Int) b = (y1, P1, f1, d1, o1) := ⟨_, _, _, _, _, rfl⟩
    have h1 := wrF_bounds hw
    simp only [wrsF, hw]
    split
    · have h2 := wrsF_bounds n r (i + 1) (P1, f1, d1, o1)
      simp only [List.length_cons] at h2 ⊢
      omega
    · simp only [List.length_cons]
      omega
/-- What Append does to a disk that is up, or not. -/
theorem apF_form {n size used ep num : Nat} {l : Tx} {P : List (Int × ByteArray)} {f : Int} {d : Bool} {o : Int} (he : ep < 18446744073709551616) (hn : num + 1 < 18446744073709551616) (hs : size < n) (y : Int) (P' : List (Int × ByteArray)) (f' : Int) (d' : Bool) (o' : Int) (u' m' : Nat) (h : apF n size used ep num l z480 (P, f, d, o) = (y, (P', f', d', o'), u', m')) :
    (y = 18 ∧ ¬ okI l ∧ P' = P ∧ f' = f ∧ d' = d ∧ o' = o ∧ u' = used ∧ m' = num) ∨ (y = 14 ∧ P' = P ∧ f' = f ∧ d' = d ∧ o' = o ∧ u' = used ∧ m' = num) ∨
    (okI l ∧ used + (l.length + 1) ≤ size ∧ f' ≤ f ∧ o ≤ o' ∧ o' ≤ o + (l.length + 1) ∧ ((y = 0 ∧ P' = P ++ wrL (1 + used) ((txS ep (num + 1) l z480).map Sct.bytes) ∧ u' = used + (l.length + 1) ∧ m' = num + 1) ∨
      (y = 17 ∧ d' = true ∧ (∃ k, P' = P ++ wrL (1 + used) (((txS ep (num + 1) l z480).map Sct.bytes).take k)) ∧ u' = used ∧ m' = num))) := by
  unfold apF at h
  by_cases hok : okI l
  · rw [if_neg (by simpa using hok)] at h
    by_cases hr : size < used + (l.length + 1)
    · rw [if_pos hr] at h
      simp only [Prod.mk.injEq] at h
      obtain ⟨rfl, ⟨rfl, rfl, rfl, rfl⟩, rfl, rfl⟩ := h
      exact .inr (.inl ⟨rfl, rfl, rfl, rfl, rfl, rfl, rfl⟩)
    · rw [if_neg hr] at h
      refine .inr (.inr ⟨hok, by omega, ?_⟩)
      have hl := okI_len hok
      obtain ⟨k, f2, d2, o2, y2, hk, hw, hy⟩ := wrsF_form n ((txS ep (num + 1) l z480).map Sct.bytes) (1 + used) P f d o (by rw [List.length_map, txS_length]; omega) (fun b hb => by
        obtain ⟨s, hs, rfl⟩ := List.mem_map.1 hb
        exact bytes_size (txS_ok hok (by omega) he hn z480_size s hs))
      have hbd := wrsF_bounds n ((txS ep (num + 1) l z480).map Sct.bytes) (1 + used) (P, f, d, o)
      rw [hw] at hbd
      rw [List.length_map, txS_length] at hbd hk
      rw [hw] at h
      simp only at hbd
      rcases hy with ⟨rfl, rfl⟩ | ⟨rfl, hk2, rfl⟩
      · rw [if_pos rfl] at h
        simp only [Prod.mk.injEq] at h
        obtain ⟨rfl, ⟨rfl, rfl, rfl, rfl⟩, rfl, rfl⟩ := h
        refine ⟨hbd.1, hbd.2.1, by have := hbd.2.2; omega, .inl ⟨rfl, ?_, rfl, rfl⟩⟩
        rw [List.take_of_length_le (Nat.le_refl _)]
      · rw [if_neg (by simp)] at h
        simp only [Prod.mk.injEq] at h
        obtain ⟨rfl, ⟨rfl, rfl, rfl, rfl⟩, rfl, rfl⟩ := h
        exact ⟨hbd.1, hbd.2.1, by have := hbd.2.2; omega, .inr ⟨rfl, rfl, ⟨k, rfl⟩, rfl, rfl⟩⟩
  · rw [if_pos hok] at h
    simp only [Prod.mk.injEq] at h
    obtain ⟨rfl, ⟨rfl, rfl, rfl, rfl⟩, rfl, rfl⟩ := h
    exact .inl ⟨rfl, hok, rfl, rfl, rfl, rfl, rfl, rfl⟩
end Go.Proofs.Ytbhebkjadgajeaa
namespace Go.Proofs.Ytbhebkjadgajeaa
open Go.RowKit
theorem Putss.below {w w1 : World} {a : Option Addr} {n : Nat} {l : List (List PutR)} (h : Putss w a n l) (B : Below w.heap.size w w1) : Putss w1 a n l :=
  ⟨h.1, h.2.imp id fun ⟨b, off, e, hb, hj⟩ => ⟨b, off, e, Nat.lt_of_lt_of_le hb B.size, fun j hj' => by
    obtain ⟨pa, pn, pc, h1, h2, h3⟩ := hj j hj'
    exact ⟨pa, pn, pc, (B.cell (p := ⟨b, off + j, none⟩) hb).trans h1, h2.below B, h3⟩⟩⟩
theorem Putss.get {w : World} {a : Option Addr} {n : Nat} {l : List (List PutR)} (h : Putss w a n l) {k : Nat} (hk : k < n) : ∃ b off pa pn pc, ∃ hl : k < l.length, a = some ⟨b, off, none⟩ ∧ w.cell? ⟨b, off + k, none⟩ = some (.slice pa pn pc) ∧ Puts w pa pn l[k] ∧ ∀ x ∈ l[k], (Lit.int .i64 x.page).wf = true := by
  obtain ⟨h1, h2⟩ := h
  rcases h2 with h0 | ⟨b, off, e, hb, hj⟩
  · omega
  · have hl : k < l.length := by omega
    obtain ⟨pa, pn, pc, h3, h4, h5⟩ := hj k hl
    exact ⟨b, off, pa, pn, pc, hl, e, h3, h4, h5⟩
set_option maxRecDepth 100000 in
theorem begins_far (size : Int) (ao al : Option Addr) (no co nl cl : Nat) (fa : Option Addr) (fn fc : Nat) (step : Int) (ka : Option Addr) (kn kc : Nat) (w : World) (h : size < 4 ∨ 40 < size ∨ 12 < no ∨ 12 < nl) :
    Calls Try.prog 3 #[.int .i64 size, .slice ao no co, .slice al nl cl, .slice fa fn fc, .int .i64 step, .slice ka kn kc] w fun e w' => e = .returned (.bool true) ∧ Below w.heap.size w w' := by
  have hc : size < 4 ∨ (4 ≤ size ∧ 40 < size) ∨ (4 ≤ size ∧ size ≤ 40 ∧ 12 < no) ∨ (4 ≤ size ∧ size ≤ 40 ∧ no ≤ 12 ∧ 12 < nl) := by omega
  clear h
  rcases hc with h1 | ⟨h1, h2⟩ | ⟨h1, h2, h3⟩ | ⟨h1, h2, h3, h4⟩
  all_goals
    go_enter Try.func3, Try.ntmps3
    go_wp2_with fail
    refine (lives8 _).mono ?_
    rintro e w1 ⟨rfl, B⟩
    go_wp2_with fail
    go_ret
    exact ⟨rfl, B⟩
theorem imgs_any (a : Option Addr) (n c : Nat) (l : List PutR) (t : Tx) (ht : l.map PutR.img = t) (w : World) (hn : n ≤ 2000000) (hP : Puts w a n l) :
    Calls Try.prog 10 #[.slice a n c] w fun e w' => ∃ v, e = .returned v ∧ RowOf w 72 2 v t.length (flat t) w' := by
  subst ht
  rw [List.length_map]
  exact images_any a n c l w hn hP
theorem apF_calm {n size used ep num : Nat} {l : Tx} {P : List (Int × ByteArray)} {o : Int} (he : ep < 18446744073709551616) (hn : num + 1 < 18446744073709551616) (hs : size < n) (y : Int) (P' : List (Int × ByteArray)) (f' : Int) (d' : Bool) (o' : Int) (u' m' : Nat) (h : apF n size used ep num l z480 (P, 0, false, o) = (y, (P', f', d', o'), u', m')) :
    f' = 0 ∧ d' = false ∧ ((P' = P ∧ o' = o ∧ u' = used ∧ m' = num) ∨ (okI l ∧ used + (l.length + 1) ≤ size ∧ P' = P ++ wrL (1 + used) ((txS ep (num + 1) l z480).map Sct.bytes) ∧ o' = o + (l.length + 1 : Nat) ∧ u' = used + (l.length + 1) ∧ m' = num + 1)) := by
  by_cases hok : okI l
  · by_cases hr : used + (l.length + 1) ≤ size
    · have hl := okI_len hok
      rw [apF_ok hok (by omega) he hn z480_size hr (by omega)] at h
      simp only [Prod.mk.injEq] at h
      obtain ⟨rfl, ⟨rfl, rfl, rfl, rfl⟩, rfl, rfl⟩ := h
      exact ⟨rfl, rfl, .inr ⟨hok, hr, rfl, rfl, rfl, rfl⟩⟩
    · rw [apF_full hok (by omega)] at h
      simp only [Prod.mk.injEq] at h
      obtain ⟨rfl, ⟨rfl, rfl, rfl, rfl⟩, rfl, rfl⟩ := h
      exact ⟨rfl, rfl, .inl ⟨rfl, rfl, rfl, rfl⟩⟩
  · unfold apF at h
    rw [if_pos hok] at h
    simp only [Prod.mk.injEq] at h
    obtain ⟨rfl, ⟨rfl, rfl, rfl, rfl⟩, rfl, rfl⟩ := h
    exact ⟨rfl, rfl, .inl ⟨rfl, rfl, rfl, rfl⟩⟩
theorem img_wf {l : List PutR} (h : ∀ x ∈ l, (Lit.int .i64 x.page).wf = true) : ∀ x ∈ l.map PutR.img, (Lit.int .i64 x.1).wf = true := by
  intro x hx
  obtain ⟨p, hp, rfl⟩ := List.mem_map.1 hx
  exact h p hp
/-- Nothing of epoch 2 stands there. -/
def Old (s : ByteArray) : Prop := s.size = 512 ∧ (openT s).e ≠ 2
theorem old_blank : Old z512 := ⟨z512_size, by rw [openT_blank]; decide⟩
theorem old_wrL {i num : Nat} {l : Tx} (hok : okI l) (hn : num < 1000) : ∀ x ∈ wrL i ((txS 1 (num + 1) l z480).map Sct.bytes), Old x.2 := by
  intro x hx
  obtain ⟨j, hj, rfl⟩ := List.getElem_of_mem hx
  rw [wrL_get]
  rw [wrL_length, List.length_map] at hj
  simp only [List.getElem_map]
  have hl := okI_len hok
  have h1 := txS_ok (e := 1) (n := num + 1) hok (by omega) (by omega) (by omega) z480_size _ (List.getElem_mem hj)
  refine ⟨bytes_size h1, ?_⟩
  rw [openT_seal h1, txS_e _ (List.getElem_mem hj)]
  decide
theorem fits_wrL {i n : Nat} {B : List ByteArray} (h : i + B.length ≤ n) : Fits (wrL i B) n := by
  intro k hk
  rw [wrL_get]
  rw [wrL_length] at hk
  exact ⟨i + k, by omega, rfl⟩
theorem inv_start {size : Nat} {S : List ByteArray} {P : List (Int × ByteArray)} (hl : S.length = size + 1) (hS : ∀ s ∈ S, Old s) (hP : ∀ x ∈ P, Old x.2) (hF : Fits P S.length) : Inv size (appl S P (fun _ => true) P.length) [] [] 0 := by
  have hO : ∀ (i : Nat) (s : ByteArray), (appl S P (fun _ => true) P.length)[i]? = some s → Old s := by
    intro i s hs
    rcases appl_from (q := fun _ => true) (i := i) hF (Nat.le_refl _) with h1 | ⟨k, hk, _, h2⟩
    · rw [hs] at h1
      exact hS s (List.mem_of_getElem? h1.symm)
    · rw [hs] at h2
      simp only [Option.some.injEq] at h2
      rw [h2]; exact hP _ (List.getElem_mem hk)
  refine ⟨⟨fun t ht => by simp at ht, by rw [appl_length]; exact hl, by simp [secsFrom], fun i s hi hs => .inr (hO _ s hs).2, fun x hx => by simp at hx, Nat.le_refl _, fun i hi => by simp [secsFrom] at hi, fun b hb => ?_⟩, fun i hi => by simp [secsFrom] at hi⟩
  obtain ⟨i, hi, rfl⟩ := List.getElem_of_mem hb
  exact (hO i _ (List.getElem?_eq_getElem hi)).1
theorem Bools.to {K : Nat → Prop} {w wx : World} {a : Option Addr} {n : Nat} {ks : List Bool} (h : Bools (fun k => k < w.heap.size) w a n ks) (B : Below w.heap.size w wx) (hK : ∀ k, k < w.heap.size → K k) : Bools K wx a n ks :=
  ⟨h.1, h.2.imp id fun ⟨b, off, e, hb, hj⟩ => ⟨b, off, e, hK b hb, fun j hj' => (B.cell (p := ⟨b, off + j, none⟩) hb).trans (hj j hj')⟩⟩
theorem appl_sz {size : Nat} {S : List ByteArray} {P : List (Int × ByteArray)} {A : List Tx} {safe : Nat} (h : InvE size S P A safe) (hs : size ≤ 1024) (q : Nat → Bool) : ∀ i, i < (appl S P q P.length).length → (readT (appl S P q P.length) [] i).size ≤ maxLen := by
  intro i hi
  have hb : ∀ b ∈ appl S P q P.length, b.size = 512 := by
    intro b hb
    obtain ⟨i, hi, rfl⟩ := List.getElem_of_mem hb
    rcases appl_from (q := q) (i := i) h.fits (Nat.le_refl _) with h1 | ⟨k, hk, _, h2⟩
    · rw [List.getElem?_eq_getElem hi] at h1
      exact h.sz _ (List.mem_of_getElem? h1.symm)
    · rw [List.getElem?_eq_getElem hi] at h2
      simp only [Option.some.injEq] at h2
      rw [h2]; exact h.psz hs _ (List.getElem_mem hk)
  rw [readT_size hb (fun x hx => by simp at hx) i hi]
  unfold maxLen; omega
theorem GK.formc {b : Nat} {K : Nat → Prop} {v : Value} {A : List Tx} {w : World} (h : GK b K v A w) : ∃ a c, v = .slice a A.length c ∧ A.length ≤ c := by
  obtain ⟨vs, hl, hR, hI⟩ := h
  rcases hR.own.2 with ⟨rfl, hn⟩ | ⟨g, cap, cur, rfl, _, _, hc, _⟩
  · exact ⟨none, 0, by rw [hn], by omega⟩
  · exact ⟨_, _, rfl, hc⟩
theorem SlSl.take {w : World} {a : Option Addr} {c : Nat} {A : List Tx} (h : SlSl w (.slice a A.length c) A) (m : Nat) (hm : m ≤ A.length) : SlSl w (.slice a m c) (A.take m) := by
  have hl : (A.take m).length = m := by rw [List.length_take]; omega
  obtain ⟨a', c', hv, hg⟩ := h
  simp only [Value.slice.injEq, true_and] at hv
  obtain ⟨rfl, rfl⟩ := hv
  refine ⟨a, c, by rw [hl], fun h0 => ?_⟩
  obtain ⟨g, ha, hgl, hi⟩ := hg (by omega)
  refine ⟨g, ha, hgl, fun i hi' => ?_⟩
  obtain ⟨vi, hc, hs⟩ := hi i (by omega)
  exact ⟨vi, hc, by rw [List.getElem_take]; exact hs⟩
set_option maxRecDepth 100000 in
set_option maxHeartbeats 8000000 in
theorem begins_main (size : Nat) (h4 : 4 ≤ size) (h40 : size ≤ 40) (ao al : Option Addr) (no co nl cl : Nat) (lo ll : List (List PutR)) (hno : no ≤ 12) (hnl : nl ≤ 12) (fa : Option Addr) (fn fc : Nat) (fs : List Bool) (step : Int) (hst : step ≤ 9223372036854775807) (ka : Option Addr) (kn kc : Nat) (ks : List Bool) (w : World)
    (hO : Putss w ao no lo) (hL : Putss w al nl ll) (hlo : ∀ x ∈ lo, x.length ≤ 2000000) (hll : ∀ x ∈ ll, x.length ≤ 2000000) (hfs : Bools (fun k => k < w.heap.size) w fa fn fs) (hks : Bools (fun k => k < w.heap.size) w ka kn ks) :
    Calls Try.prog 3 #[.int .i64 (size : Int), .slice ao no co, .slice al nl cl, .slice fa fn fc, .int .i64 step, .slice ka kn kc] w fun e w' => e = .returned (.bool true) ∧ Below w.heap.size w w' := by
  obtain ⟨i0, hi0, hz0, hz1, hz2⟩ := info_parts info37
  have hnew : ∀ w, Calls Try.prog 6 #[.int .i64 ((size : Int) + 1)] w fun e w' => ∃ d sb, e = .returned (.tuple #[.pointer (some ⟨d, 0, none⟩), .int .i64 0]) ∧ Disk (fun k => k < w.heap.size) w' d sb (List.replicate (size + 1) z512) (.slice none 0 0) [] 0 false 0 ∧ Below w.heap.size w w' := fun w => new_ok (K := fun k => k < w.heap.size) (size + 1) w (by omega) (by omega) z512 rfl (fun k hk => hk)
  have HN := Lib.hid hnew
  have HS0 : Hid (∀ s ∈ List.replicate (size + 1) z512, Old s) := Lib.hid (fun s hs => by rw [List.eq_of_mem_replicate hs]; exact old_blank)
  have HL0 : Hid ((List.replicate (size + 1) z512).length = size + 1) := Lib.hid (by simp)
  clear hnew
  generalize List.replicate (size + 1) z512 = S0 at HN HS0 HL0
  go_enter Try.func3, Try.ntmps3
  go_wp2_with fail
  refine (lives8 _).mono ?_
  rintro e wb ⟨rfl, B0⟩
  replace hO := hO.below B0
  replace hL := hL.below B0
  go_wp2_with fail
  refine (HN.out _).mono ?_
  rintro e w1 ⟨d, sb, rfl, D, B⟩
  go_wp2_with fail
  refine (jopen_lit D size 1 _ _ rfl rfl (by omega) (by omega) (by rw [HL0.out]; omega)).mono ?_
  rintro e w2 ⟨rfl, J, D2, hb⟩
  have hj : ¬ w1.heap.size < wb.heap.size := by have := B.size; omega
  replace B := below_to B hb
  clear hb D
  generalize w1.heap.size = j at J D2 hj ⊢
  go_wp2_with fail
  go_loopw [71] (fun i wr => ∃ k : Nat, k ≤ no ∧ i = .int .i64 k ∧ ∃ (pv : Value) (P : List (Int × ByteArray)) (o : Int) (used num : Nat), Disk (fun k => k < wb.heap.size ∨ k = j) wr d sb S0 pv P 0 false o ∧ Jour wr j d size used 1 num ∧ Below wb.heap.size wb wr ∧ used ≤ size ∧ num ≤ k ∧ P.length ≤ used ∧ 0 ≤ o ∧ o ≤ used ∧ Hid (∀ x ∈ P, Old x.2) ∧ Hid (Fits P S0.length)) (fun i _ => no - (intOf i).toNat)
  case atStart => exact ⟨0, Nat.zero_le _, rfl, _, [], 0, 0, 0, D2, J, B, Nat.zero_le _, Nat.le_refl _, Nat.le_refl _, Int.le_refl _, Int.le_refl _, Lib.hid (fun x hx => by simp at hx), Lib.hid (fun k hk => by simp at hk)⟩
  case round =>
    clear D2 J B
    obtain ⟨k, hk, rfl, pv, P, o, used, num, D, J, B, b1, b2, b3, b4, b5, HPO, HF⟩ := hrel
    by_cases hlt : k < no
    · obtain ⟨b, off, pa, pn, pc, hkl, rfl, hcell, hP, hwf⟩ := (hO.below B).get hlt
      have hpl := hlo _ (List.getElem_mem hkl)
      have hP1 := hP.1
      generalize lo[k] = x at hP hwf hpl hP1
      obtain ⟨t, ht⟩ : ∃ t, x.map PutR.img = t := ⟨_, rfl⟩
      have htl : t.length ≤ 2000000 := by rw [← ht, List.length_map]; exact hpl
      have htw := img_wf hwf
      rw [ht] at htw
      have n1 := Lib.hid (imgs_any pa pn pc x t ht wr (by omega) hP)
      clear ht hwf hP
      obtain ⟨y, P', f', d', o', u', m', hq⟩ : ∃ y P' f' d' o' u' m', apF S0.length size used 1 num t z480 (P, 0, false, o) = (y, (P', f', d', o'), u', m') := ⟨_, _, _, _, _, _, _, rfl⟩
      have hcalm := apF_calm (by omega) (by omega) (by rw [HL0.out]; omega) _ _ _ _ _ _ _ hq
      have HQ := Lib.hid hq
      have HTW := Lib.hid htw
      clear hq htw
      go_wp2_with fail
      refine n1.out.mono ?_
      rintro e w3 ⟨v, rfl, hR⟩
      replace D := D.below hR.below
      replace J := J.below hR.below
      replace B := below_to B hR.below
      go_wp2_with fail
      refine (ours_any v t _ htl hR.sl).mono ?_
      rintro e w4 ⟨v2, rfl, hR2⟩
      replace D := D.below hR2.below
      replace J := J.below hR2.below
      replace B := below_to B hR2.below
      go_wp2_with fail
      refine (append_any D J hj (by omega) b1 (by omega) (by omega) v2 t hR2.sl htl HTW.out (by omega) (by omega) b4 (by omega) y P' f' d' o' u' m' HQ.out).mono ?_
      rintro e w5 ⟨rfl, ⟨pv5, D5⟩, J5, hk5⟩
      replace B := B.trans hk5.toBelow
      clear D J hR hR2 hk5 n1 hcell
      obtain ⟨rfl, rfl, hcalm⟩ := hcalm
      go_wp2_with fail
      go_roundw
      case rel =>
        refine ⟨k + 1, by omega, by go_num, pv5, P', o', u', m', D5, J5, B, ?_⟩
        rcases hcalm with ⟨rfl, rfl, rfl, rfl⟩ | ⟨hok, hr, rfl, rfl, rfl, rfl⟩
        · exact ⟨b1, by omega, b3, b4, b5, HPO, HF⟩
        · refine ⟨hr, by omega, ?_, by omega, by omega, Lib.hid (fun x hx => ?_), Lib.hid (fits_append HF.out (fits_wrL ?_))⟩
          · rw [List.length_append, wrL_length, List.length_map, txS_length]; omega
          · rcases List.mem_append.1 hx with hx | hx
            · exact HPO.out x hx
            · exact old_wrL hok (by omega) x hx
          · rw [List.length_map, txS_length, HL0.out]; omega
      case measure => simp [intOf]; omega
    · obtain rfl : k = no := by omega
      have hinv := inv_start HL0.out HS0.out HPO.out HF.out
      have HFL := Lib.hid (show flF S0 P 0 false o = (0, appl S0 P (fun _ => true) P.length, [], 0, false, o + 1) by simp [flF, opF])
      have nf := Lib.hid (flush_any D HF.out (by omega) (by omega) b4 (by omega) _ _ _ _ _ _ HFL.out)
      generalize appl S0 P (fun _ => true) P.length = S1 at HFL nf hinv
      have HI1 := Lib.hid hinv
      have HL1 := Lib.hid hinv.hlen
      clear HFL hinv
      go_wp2_with fail
      refine nf.out.mono ?_
      rintro e w3 ⟨rfl, ⟨pv3, D3⟩, hk3⟩
      replace D3 := D3.weaken (L := fun k => k < wb.heap.size) (fun k hk => .inl hk)
      replace B := B.trans (hk3.mono (fun k hk => .inl hk)).toBelow
      clear D J hk3 nf
      go_wp2_with fail
      refine (jopen_lit D3 size 2 _ _ rfl rfl (by omega) (by omega) (by rw [HL1.out]; omega)).mono ?_
      rintro e w4 ⟨rfl, J, D4, hb⟩
      have hj2 : ¬ w3.heap.size < wb.heap.size := by have := B.size; omega
      replace B := below_to B hb
      clear hb D3
      generalize w3.heap.size = j2 at J D4 hj2 ⊢
      go_wp2_with fail
      refine (arm_any D4 step).mono ?_
      rintro e w5 ⟨rfl, D5, hk5⟩
      replace J := J.keep (.inr rfl) hk5
      replace B := B.trans (hk5.mono (fun k hk => .inl hk)).toBelow
      have hf5 : max step 0 ≤ 9223372036854775807 := by omega
      generalize max step 0 = f0 at D5 hf5
      clear D4 hk5
      go_wp2_with fail
      go_loopw [19, 20, 101] (fun va vs i wr => ∃ k : Nat, k ≤ nl ∧ i = .int .i64 k ∧ ∃ (A : List Tx) (safe : Nat), vs = .int .i64 (safe : Int) ∧ A.length ≤ k ∧ ∃ (K : Nat → Prop) (pv : Value) (S : List ByteArray) (P : List (Int × ByteArray)) (f : Int) (dn : Bool) (o : Int), (∀ q, q < wb.heap.size → K q) ∧ ¬ K j2 ∧ Disk (fun q => K q ∨ q = j2) wr d sb S pv P f dn o ∧ Jour wr j2 d size (secsFrom 2 z480 0 A).length 2 A.length ∧ Below wb.heap.size wb wr ∧ GK wb.heap.size K va A wr ∧ Hid (Inv size S P A safe) ∧ P.length ≤ 50 * k ∧ f ≤ 9223372036854775807 ∧ 0 ≤ o ∧ o ≤ 100 + 50 * k) (fun _ _ i _ => nl - (intOf i).toNat)
      case atStart => exact ⟨0, Nat.zero_le _, rfl, [], 0, rfl, Nat.le_refl _, fun q => q < wb.heap.size, _, S1, [], f0, false, o + 1, fun q hq => hq, hj2, D5, J, B, GK.start, HI1, Nat.le_refl _, hf5, by omega, by omega⟩
      case round =>
        clear D5 J B HI1 HL1 hf5 f0 b1 b2 b3 b5 HPO HF
        obtain ⟨k, hk, rfl, A, safe, rfl, hAk, K, pv, S, P, f, dn, o2, hKb, hKj, D, J, B, gk, HI, hPb, hfb, hob, hob2⟩ := hrel
        have hxl := HI.out.xlen
        by_cases hlt : k < nl
        · obtain ⟨b, off, pa, pn, pc, hkl, rfl, hcell, hP, hwf⟩ := (hL.below B).get hlt
          have hpl := hll _ (List.getElem_mem hkl)
          have hP1 := hP.1
          generalize ll[k] = x at hP hwf hpl hP1
          obtain ⟨t, ht⟩ : ∃ t, x.map PutR.img = t := ⟨_, rfl⟩
          have htl : t.length ≤ 2000000 := by rw [← ht, List.length_map]; exact hpl
          have htw := img_wf hwf
          rw [ht] at htw
          have n1 := Lib.hid (imgs_any pa pn pc x t ht wr (by omega) hP)
          clear ht hwf hP
          have hSl := HI.out.hlen
          obtain ⟨y, P', f', d', o', u', m', hq⟩ : ∃ y P' f' d' o' u' m', apF S.length size (secsFrom 2 z480 0 A).length 2 A.length t z480 (P, f, dn, o2) = (y, (P', f', d', o'), u', m') := ⟨_, _, _, _, _, _, _, rfl⟩
          have hform := apF_form (by omega) (by omega) (by omega) _ _ _ _ _ _ _ hq
          have HQ := Lib.hid hq
          have HTW := Lib.hid htw
          clear hq htw
          go_wp2_with fail
          refine n1.out.mono ?_
          rintro e w3 ⟨v, rfl, hR⟩
          obtain ⟨K1, hK1, hK1j, D3, kr, gk3⟩ : ∃ K1 : Nat → Prop, (∀ q, K q → K1 q) ∧ ¬ K1 j2 ∧ Disk (fun q => K1 q ∨ q = j2) w3 d sb S pv P f dn o2 ∧ KRow wb.heap.size K1 72 2 v t.length (flat t) w3 ∧ GK wb.heap.size K1 u19 A w3 :=
            ⟨fun q => K q ∨ wr.heap.size ≤ q ∧ q < w3.heap.size, fun q hq => .inl hq, fun h => by
              rcases h with h | h
              · exact hKj h
              · have := J.lt; omega, (D.fence hR.below).weaken (fun q hq => by
                rcases hq with (hq | hq) | hq
                · exact .inl (.inl hq)
                · exact .inr hq
                · exact .inl (.inr hq)), ⟨own_base hR.own B.size, fun g hg => .inr (hR.own.lt g hg)⟩, (gk.below hR.below).mono (fun q hq => .inl hq)⟩
          have J3 := J.below hR.below
          have B3 := below_to B hR.below
          have sl3 := hR.sl
          have hKb1 : ∀ q, q < wb.heap.size → K1 q := fun q hq => hK1 q (hKb q hq)
          clear D J B gk hR n1 hcell hKb hKj
          go_wp2_with fail
          refine (ours_any v t _ htl sl3).mono ?_
          rintro e w4 ⟨v2, rfl, hR2⟩
          replace D3 := D3.below hR2.below
          replace J3 := J3.below hR2.below
          replace B3 := below_to B3 hR2.below
          replace gk3 := gk3.below hR2.below
          replace kr := kr.below hR2.below
          go_wp2_with fail
          refine (append_any D3 J3 hK1j (by omega) hxl (by omega) (by omega) v2 t hR2.sl htl HTW.out (by omega) hfb hob (by omega) y P' f' d' o' u' m' HQ.out).mono ?_
          rintro e w5 ⟨rfl, ⟨pv5, D5⟩, J5, hk5⟩
          have B5 := B3.trans (hk5.mono hKb1).toBelow
          have gk5 := gk3.keep hk5
          have kr5 := kr.keep hk5
          clear D3 J3 B3 gk3 kr hR2 hk5 sl3 HQ
          rcases hform with hform | hform | hform
          · obtain ⟨rfl, _, rfl, rfl, rfl, rfl, rfl, rfl⟩ := hform
            by_cases hkf : k < fn
            · obtain ⟨fb, fo, hfa, _, hfj⟩ := hfs.2.resolve_left (by omega)
              have hkfs : k < fs.length := by rw [hfs.1]; exact hkf
              obtain ⟨fv, hfv⟩ : ∃ fv, fs[k] = fv := ⟨_, rfl⟩
              have hcf := hfj k hkfs
              rw [hfv] at hcf
              replace hcf := ((below_to B0 B5).cell (p := ⟨fb, fo + k, none⟩) (World.block_lt_of_cell? _ _ hcf)).trans hcf
              subst hfa
              clear hfv hfj
              cases fv with
              | false =>
                go_wp2_with fail
                go_roundw
                case rel => exact ⟨k + 1, by omega, by go_num, A, safe, rfl, by omega, K1, _, S, P', f', d', o', hKb1, hK1j, D5, J5, B5, gk5, HI, by omega, by omega, by omega, by omega⟩
                case measure => simp [intOf]; omega
              | true =>
                rcases opF_cases f' d' o' with ⟨f3, d3, o3, hop⟩ | ⟨f3, d3, o3, hop⟩
                · have hbo := opF_bounds hop
                  have HFL := Lib.hid (show flF S (P') f' d' o' = (0, appl S (P') (fun _ => true) (P').length, [], f3, d3, o3) by simp [flF, hop])
                  have nf := Lib.hid (flush_any D5 HI.out.toInvE.fits (by omega) (by omega) (by omega) (by omega) _ _ _ _ _ _ HFL.out)
                  have hinv2 := HI.out.flush (by omega)
                  generalize appl S (P') (fun _ => true) (P').length = S3 at HFL nf hinv2
                  have HI3 := Lib.hid hinv2
                  obtain ⟨a3, c3, hva3⟩ := gk5.form0
                  clear HFL hinv2 hop
                  go_wp2_with fail
                  refine nf.out.mono ?_
                  rintro e w8 ⟨rfl, ⟨pv8, D8⟩, hk8⟩
                  have J8 := J5.keep (.inr rfl) hk8
                  have B8 := B5.trans (hk8.mono (fun q hq => .inl (hKb1 q hq))).toBelow
                  have gk8 := gk5.keep (hk8.mono (fun q hq => .inl hq))
                  clear nf hk8
                  subst hva3
                  go_wp2_with fail
                  go_roundw
                  case rel => exact ⟨k + 1, by omega, by go_num, A, (A).length, by go_num, by omega, K1, pv8, S3, [], f3, d3, o3, hKb1, hK1j, D8, J8, B8, gk8, HI3, by simp, by omega, by omega, by omega⟩
                  case measure => simp [intOf]; omega
                · have hbo := opF_bounds hop
                  have HFL := Lib.hid (show flF S (P') f' d' o' = (17, S, P', f3, d3, o3) by simp [flF, hop])
                  have nf := Lib.hid (flush_any D5 HI.out.toInvE.fits (by omega) (by omega) (by omega) (by omega) _ _ _ _ _ _ HFL.out)
                  clear HFL hop
                  go_wp2_with fail
                  refine nf.out.mono ?_
                  rintro e w8 ⟨rfl, ⟨pv8, D8⟩, hk8⟩
                  have J8 := J5.keep (.inr rfl) hk8
                  have B8 := B5.trans (hk8.mono (fun q hq => .inl (hKb1 q hq))).toBelow
                  have gk8 := gk5.keep (hk8.mono (fun q hq => .inl hq))
                  clear nf hk8
                  go_wp2_with fail
                  go_roundw
                  case rel => exact ⟨k + 1, by omega, by go_num, A, safe, rfl, by omega, K1, pv8, S, P', f3, d3, o3, hKb1, hK1j, D8, J8, B8, gk8, HI, by omega, by omega, by omega, by omega⟩
                  case measure => simp [intOf]; omega
            · have hkf2 : (fn : Int) ≤ (k : Int) := by omega
              go_wp2_with fail
              go_roundw
              case rel => exact ⟨k + 1, by omega, by go_num, A, safe, rfl, by omega, K1, _, S, P', f', d', o', hKb1, hK1j, D5, J5, B5, gk5, HI, by omega, by omega, by omega, by omega⟩
              case measure => simp [intOf]; omega
          · obtain ⟨rfl, rfl, rfl, rfl, rfl, rfl, rfl⟩ := hform
            by_cases hkf : k < fn
            · obtain ⟨fb, fo, hfa, _, hfj⟩ := hfs.2.resolve_left (by omega)
              have hkfs : k < fs.length := by rw [hfs.1]; exact hkf
              obtain ⟨fv, hfv⟩ : ∃ fv, fs[k] = fv := ⟨_, rfl⟩
              have hcf := hfj k hkfs
              rw [hfv] at hcf
              replace hcf := ((below_to B0 B5).cell (p := ⟨fb, fo + k, none⟩) (World.block_lt_of_cell? _ _ hcf)).trans hcf
              subst hfa
              clear hfv hfj
              cases fv with
              | false =>
                go_wp2_with fail
                go_roundw
                case rel => exact ⟨k + 1, by omega, by go_num, A, safe, rfl, by omega, K1, _, S, P', f', d', o', hKb1, hK1j, D5, J5, B5, gk5, HI, by omega, by omega, by omega, by omega⟩
                case measure => simp [intOf]; omega
              | true =>
                rcases opF_cases f' d' o' with ⟨f3, d3, o3, hop⟩ | ⟨f3, d3, o3, hop⟩
                · have hbo := opF_bounds hop
                  have HFL := Lib.hid (show flF S (P') f' d' o' = (0, appl S (P') (fun _ => true) (P').length, [], f3, d3, o3) by simp [flF, hop])
                  have nf := Lib.hid (flush_any D5 HI.out.toInvE.fits (by omega) (by omega) (by omega) (by omega) _ _ _ _ _ _ HFL.out)
                  have hinv2 := HI.out.flush (by omega)
                  generalize appl S (P') (fun _ => true) (P').length = S3 at HFL nf hinv2
                  have HI3 := Lib.hid hinv2
                  obtain ⟨a3, c3, hva3⟩ := gk5.form0
                  clear HFL hinv2 hop
                  go_wp2_with fail
                  refine nf.out.mono ?_
                  rintro e w8 ⟨rfl, ⟨pv8, D8⟩, hk8⟩
                  have J8 := J5.keep (.inr rfl) hk8
                  have B8 := B5.trans (hk8.mono (fun q hq => .inl (hKb1 q hq))).toBelow
                  have gk8 := gk5.keep (hk8.mono (fun q hq => .inl hq))
                  clear nf hk8
                  subst hva3
                  go_wp2_with fail
                  go_roundw
                  case rel => exact ⟨k + 1, by omega, by go_num, A, (A).length, by go_num, by omega, K1, pv8, S3, [], f3, d3, o3, hKb1, hK1j, D8, J8, B8, gk8, HI3, by simp, by omega, by omega, by omega⟩
                  case measure => simp [intOf]; omega
                · have hbo := opF_bounds hop
                  have HFL := Lib.hid (show flF S (P') f' d' o' = (17, S, P', f3, d3, o3) by simp [flF, hop])
                  have nf := Lib.hid (flush_any D5 HI.out.toInvE.fits (by omega) (by omega) (by omega) (by omega) _ _ _ _ _ _ HFL.out)
                  clear HFL hop
                  go_wp2_with fail
                  refine nf.out.mono ?_
                  rintro e w8 ⟨rfl, ⟨pv8, D8⟩, hk8⟩
                  have J8 := J5.keep (.inr rfl) hk8
                  have B8 := B5.trans (hk8.mono (fun q hq => .inl (hKb1 q hq))).toBelow
                  have gk8 := gk5.keep (hk8.mono (fun q hq => .inl hq))
                  clear nf hk8
                  go_wp2_with fail
                  go_roundw
                  case rel => exact ⟨k + 1, by omega, by go_num, A, safe, rfl, by omega, K1, pv8, S, P', f3, d3, o3, hKb1, hK1j, D8, J8, B8, gk8, HI, by omega, by omega, by omega, by omega⟩
                  case measure => simp [intOf]; omega
            · have hkf2 : (fn : Int) ≤ (k : Int) := by omega
              go_wp2_with fail
              go_roundw
              case rel => exact ⟨k + 1, by omega, by go_num, A, safe, rfl, by omega, K1, _, S, P', f', d', o', hKb1, hK1j, D5, J5, B5, gk5, HI, by omega, by omega, by omega, by omega⟩
              case measure => simp [intOf]; omega
          · obtain ⟨hok, hroom, hf2, ho1, ho2', hform⟩ := hform
            obtain ⟨vs, hvl, hRow, hIr⟩ := gk5
            obtain ⟨av, cv, hvv⟩ := own_form0 kr5.own
            have hvo : u19.ownBlock ≠ some j2 := fun e => hK1j (hRow.inK j2 e)
            rcases hform with ⟨rfl, rfl, rfl, rfl⟩ | ⟨rfl, rfl, ⟨kk, rfl⟩, rfl, rfl⟩
            · subst hvv
              have hinv := HI.out.app t hok hroom
              have HI2 := Lib.hid hinv
              have hXl : (secsFrom 2 z480 0 (A ++ [t])).length = (secsFrom 2 z480 0 A).length + (t.length + 1) := by rw [secsFrom_append, List.length_append]; simp [secsFrom, txS_length]
              have hAl : (A ++ [t]).length = A.length + 1 := by simp
              have hPl : (P ++ wrL (1 + (secsFrom 2 z480 0 A).length) ((txS 2 (A.length + 1) t z480).map Sct.bytes)).length ≤ 50 * (k + 1) := by rw [List.length_append, wrL_length, List.length_map, txS_length]; omega
              have HPL := Lib.hid hPl
              clear hinv hPl
              go_wp2_with (at_builtin; refine wpList_append_own_at _ rfl _ _ 41 rfl wb.heap.size 37 i0 (.slice none 0 0) 1 24 Try.underlying41 hi0 hz0 hz1 hz2 rfl (by decide) _ _ _ rfl (hRow.own.alloc _) ⟨w5.heap.size, 0, none⟩ 1 1 [.slice av t.length cv] rfl ?d1 ?d2 ?d3 ?d4 ?d5 ?d6 ?_)
              case d1 => rfl
              case d2 =>
                intro j u hj
                match j, hj with
                | 0, hj => simp at hj; subst hj; simp [Addr.add]
              case d3 => intro u hu; simp at hu; subst hu; rfl
              case d4 => unfold maxLen; omega
              case d5 => omega
              case d6 => have := B5.size; simp; omega
              intro v6 w6 hown6 hgrow6 hnil6 hloc6
              obtain ⟨K2, hKb2, hK2j, D6, J6, B6, gk6⟩ : ∃ K2 : Nat → Prop, (∀ q, q < wb.heap.size → K2 q) ∧ ¬ K2 j2 ∧ Disk (fun q => K2 q ∨ q = j2) w6 d sb S pv5 (P ++ wrL (1 + (secsFrom 2 z480 0 A).length) ((txS 2 (A.length + 1) t z480).map Sct.bytes)) f' d' o' ∧ Jour w6 j2 d size ((secsFrom 2 z480 0 A).length + (t.length + 1)) 2 (A.length + 1) ∧ Below wb.heap.size wb w6 ∧ GK wb.heap.size K2 v6 (A ++ [t]) w6 := by
                have hs6 := hgrow6.size
                refine ⟨fun q => K1 q ∨ w5.heap.size ≤ q ∧ q < w6.heap.size, fun q hq => .inl (hKb1 q hq), fun h => ?_, (Disk.snoc D5 (fun g hg => .inl (hRow.inK g hg)) hgrow6).weaken (fun q hq => ?_), J5.snoc hvo hgrow6, (keep_snoc (L := fun q => q < wb.heap.size) ⟨B5.os, B5.tape, B5.output, B5.size, fun q hq => B5.block q hq⟩ (fun q hq => hq) (fun g hg => by have := (hRow.own.lt g hg).1; omega) hgrow6).toBelow, GK.snoc hvl hRow hIr kr5 hown6 hgrow6 (by simpa using hloc6)⟩
                · rcases h with h | h
                  · exact hK1j h
                  · have := J5.lt; omega
                · rcases hq with (hq | hq) | hq
                  · exact .inl (.inl hq)
                  · exact .inr hq
                  · exact .inl (.inr hq)
              clear D5 J5 hRow hIr kr5 hown6 hgrow6 hnil6 hloc6
              rw [← hXl, ← hAl] at J6
              have HAL := Lib.hid hAl
              clear hXl hAl HI hvo
              have hPb := HPL.out
              generalize A ++ [t] = A2 at J6 gk6 HI2 HAL
              generalize P ++ wrL (1 + (secsFrom 2 z480 0 A).length) ((txS 2 (A.length + 1) t z480).map Sct.bytes) = P2 at D6 HI2 hPb HPL
              have hA2 : A2.length ≤ k + 1 := by rw [HAL.out]; omega
              clear B5
              by_cases hkf : k < fn
              · obtain ⟨fb, fo, hfa, _, hfj⟩ := hfs.2.resolve_left (by omega)
                have hkfs : k < fs.length := by rw [hfs.1]; exact hkf
                obtain ⟨fv, hfv⟩ : ∃ fv, fs[k] = fv := ⟨_, rfl⟩
                have hcf := hfj k hkfs
                rw [hfv] at hcf
                replace hcf := ((below_to B0 B6).cell (p := ⟨fb, fo + k, none⟩) (World.block_lt_of_cell? _ _ hcf)).trans hcf
                subst hfa
                clear hfv hfj
                cases fv with
                | false =>
                  go_wp2_with fail
                  go_roundw
                  case rel => exact ⟨k + 1, by omega, by go_num, A2, safe, rfl, hA2, K2, _, S, P2, f', d', o', hKb2, hK2j, D6, J6, B6, gk6, HI2, by omega, by omega, by omega, by omega⟩
                  case measure => simp [intOf]; omega
                | true =>
                  rcases opF_cases f' d' o' with ⟨f3, d3, o3, hop⟩ | ⟨f3, d3, o3, hop⟩
                  · have hbo := opF_bounds hop
                    have HFL := Lib.hid (show flF S (P2) f' d' o' = (0, appl S (P2) (fun _ => true) (P2).length, [], f3, d3, o3) by simp [flF, hop])
                    have nf := Lib.hid (flush_any D6 HI2.out.toInvE.fits (by omega) (by omega) (by omega) (by omega) _ _ _ _ _ _ HFL.out)
                    have hinv2 := HI2.out.flush (by omega)
                    generalize appl S (P2) (fun _ => true) (P2).length = S3 at HFL nf hinv2
                    have HI3 := Lib.hid hinv2
                    obtain ⟨a3, c3, hva3⟩ := gk6.form0
                    clear HFL hinv2 hop
                    go_wp2_with fail
                    refine nf.out.mono ?_
                    rintro e w8 ⟨rfl, ⟨pv8, D8⟩, hk8⟩
                    have J8 := J6.keep (.inr rfl) hk8
                    have B8 := B6.trans (hk8.mono (fun q hq => .inl (hKb2 q hq))).toBelow
                    have gk8 := gk6.keep (hk8.mono (fun q hq => .inl hq))
                    clear nf hk8
                    subst hva3
                    go_wp2_with fail
                    go_roundw
                    case rel => exact ⟨k + 1, by omega, by go_num, A2, (A2).length, by go_num, hA2, K2, pv8, S3, [], f3, d3, o3, hKb2, hK2j, D8, J8, B8, gk8, HI3, by simp, by omega, by omega, by omega⟩
                    case measure => simp [intOf]; omega
                  · have hbo := opF_bounds hop
                    have HFL := Lib.hid (show flF S (P2) f' d' o' = (17, S, P2, f3, d3, o3) by simp [flF, hop])
                    have nf := Lib.hid (flush_any D6 HI2.out.toInvE.fits (by omega) (by omega) (by omega) (by omega) _ _ _ _ _ _ HFL.out)
                    clear HFL hop
                    go_wp2_with fail
                    refine nf.out.mono ?_
                    rintro e w8 ⟨rfl, ⟨pv8, D8⟩, hk8⟩
                    have J8 := J6.keep (.inr rfl) hk8
                    have B8 := B6.trans (hk8.mono (fun q hq => .inl (hKb2 q hq))).toBelow
                    have gk8 := gk6.keep (hk8.mono (fun q hq => .inl hq))
                    clear nf hk8
                    go_wp2_with fail
                    go_roundw
                    case rel => exact ⟨k + 1, by omega, by go_num, A2, safe, rfl, hA2, K2, pv8, S, P2, f3, d3, o3, hKb2, hK2j, D8, J8, B8, gk8, HI2, by omega, by omega, by omega, by omega⟩
                    case measure => simp [intOf]; omega
              · have hkf2 : (fn : Int) ≤ (k : Int) := by omega
                go_wp2_with fail
                go_roundw
                case rel => exact ⟨k + 1, by omega, by go_num, A2, safe, rfl, hA2, K2, _, S, P2, f', d', o', hKb2, hK2j, D6, J6, B6, gk6, HI2, by omega, by omega, by omega, by omega⟩
                case measure => simp [intOf]; omega
            · subst hvv
              have hie := HI.out.toInvE.part t hok hroom kk
              have HIE := Lib.hid hie
              have hPl : (P ++ wrL (1 + (secsFrom 2 z480 0 A).length) (((txS 2 (A.length + 1) t z480).map Sct.bytes).take kk)).length ≤ 700000 := by rw [List.length_append, wrL_length, List.length_take, List.length_map, txS_length]; omega
              have HPL := Lib.hid hPl
              have h0t : 0 < t.length := List.length_pos_iff.2 hok.1
              obtain ⟨gt, ct, he, hIt⟩ := (own_sl kr5.own).2 h0t
              simp only [Value.slice.injEq, true_and] at he
              obtain ⟨rfl, rfl⟩ := he
              have nr := Lib.hid (right_row gt cv t w5 h0t htl hIt true (decide_eq_true hok))
              have hAl : (A ++ [t]).length = A.length + 1 := by simp
              have HAL := Lib.hid hAl
              clear hie hPl hAl hIt
              go_wp2_with fail
              refine nr.out.mono ?_
              rintro e w5' ⟨rfl, hb5⟩
              replace D5 := D5.below hb5
              replace J5 := J5.below hb5
              replace B5 := below_to B5 hb5
              replace kr5 := kr5.below hb5
              replace hRow := hRow.below hb5
              have hIr2 : ∀ i (hi : i < A.length), ∃ vi, vs[i]? = some vi ∧ KRow wb.heap.size K1 72 2 vi A[i].length (flat A[i]) w5' := fun i hi => by
                obtain ⟨vi, h1, h2⟩ := hIr i hi
                exact ⟨vi, h1, h2.below hb5⟩
              replace hIr := hIr2
              clear hb5 nr
              obtain ⟨av, hav⟩ : ∃ av, some (⟨gt, 0, none⟩ : Addr) = av := ⟨_, rfl⟩
              rw [hav] at kr5 ⊢
              go_wp2_with (at_builtin; refine wpList_append_own_at _ rfl _ _ 41 rfl wb.heap.size 37 i0 (.slice none 0 0) 1 24 Try.underlying41 hi0 hz0 hz1 hz2 rfl (by decide) _ _ _ rfl (hRow.own.alloc _) ⟨w5'.heap.size, 0, none⟩ 1 1 [.slice av t.length cv] rfl ?d1 ?d2 ?d3 ?d4 ?d5 ?d6 ?_)
              case d1 => rfl
              case d2 =>
                intro j u hj
                match j, hj with
                | 0, hj => simp at hj; subst hj; simp [Addr.add]
              case d3 => intro u hu; simp at hu; subst hu; rfl
              case d4 => unfold maxLen; omega
              case d5 => omega
              case d6 => have := B5.size; simp; omega
              intro v6 w6 hown6 hgrow6 hnil6 hloc6
              obtain ⟨K2, hKb2, hK2j, D6, J6, B6, gk6⟩ : ∃ K2 : Nat → Prop, (∀ q, q < wb.heap.size → K2 q) ∧ ¬ K2 j2 ∧ Disk (fun q => K2 q ∨ q = j2) w6 d sb S pv5 (P ++ wrL (1 + (secsFrom 2 z480 0 A).length) (((txS 2 (A.length + 1) t z480).map Sct.bytes).take kk)) f' true o' ∧ Jour w6 j2 d size (secsFrom 2 z480 0 A).length 2 A.length ∧ Below wb.heap.size wb w6 ∧ GK wb.heap.size K2 v6 (A ++ [t]) w6 := by
                have hs6 := hgrow6.size
                refine ⟨fun q => K1 q ∨ w5'.heap.size ≤ q ∧ q < w6.heap.size, fun q hq => .inl (hKb1 q hq), fun h => ?_, (Disk.snoc D5 (fun g hg => .inl (hRow.inK g hg)) hgrow6).weaken (fun q hq => ?_), J5.snoc hvo hgrow6, (keep_snoc (L := fun q => q < wb.heap.size) ⟨B5.os, B5.tape, B5.output, B5.size, fun q hq => B5.block q hq⟩ (fun q hq => hq) (fun g hg => by have := (hRow.own.lt g hg).1; omega) hgrow6).toBelow, GK.snoc hvl hRow hIr kr5 hown6 hgrow6 (by simpa using hloc6)⟩
                · rcases h with h | h
                  · exact hK1j h
                  · have := J5.lt; omega
                · rcases hq with (hq | hq) | hq
                  · exact .inl (.inl hq)
                  · exact .inr hq
                  · exact .inl (.inr hq)
              clear D5 J5 hRow hIr kr5 hown6 hgrow6 hnil6 hloc6
              clear J6 HI hvo B5 hav hKb1 hK1j
              generalize A ++ [t] = A2 at gk6 HIE HAL
              generalize P ++ wrL (1 + (secsFrom 2 z480 0 A).length) (((txS 2 (A.length + 1) t z480).map Sct.bytes).take kk) = P2 at D6 HIE HPL
              have hA2 : A2.length ≤ k + 1 := by rw [HAL.out]; omega
              have hPb2 := HPL.out
              have hIE := HIE.out
              have HFI := Lib.hid hIE.fits
              have hbo := Bools.to hks (below_to B0 B6) (K := fun q => K2 q ∨ q = j2) (fun q hq => .inl (hKb2 q (Nat.lt_of_lt_of_le hq B0.size)))
              obtain ⟨m, hm1, hm2, hm3⟩ := hIE.up (by omega) (keptQ ks)
              have hsz := appl_sz hIE (by omega) (keptQ ks)
              have hln : (appl S P2 (keptQ ks) P2.length).length = size + 1 := by rw [appl_length]; exact hIE.hlen
              have nu := Lib.hid (up_any D6 HFI.out (by omega) hbo (kc := kc))
              generalize appl S P2 (keptQ ks) P2.length = S2 at hm3 hsz hln nu
              have HM3 := Lib.hid hm3
              have HSZ2 := Lib.hid hsz
              have HLN := Lib.hid hln
              have hTl : (A2.take m).length = m := by rw [List.length_take]; omega
              have HTL := Lib.hid hTl
              have hAl : A2.length ≤ 2000 := by omega
              have hAi : ∀ x ∈ A2, x.length ≤ 1000000 := fun x hx => by have := each_len (e := 2) (c := 0) (z := z480) x hx; have := hIE.xlen; omega
              have HAI : Hid (∀ x ∈ A2.take m, x.length ≤ 1000000) := Lib.hid (fun x hx => hAi x (List.mem_of_mem_take hx))
              clear hm3 hsz hln hIE hbo hTl hAi
              obtain ⟨aa, ca, hva, hcap⟩ := gk6.formc
              go_wp2_with fail
              refine nu.out.mono ?_
              rintro e wu ⟨rfl, Du, hku⟩
              have gku := gk6.keep (hku.mono (fun q hq => .inl hq))
              have Bu := B6.trans (hku.mono (fun q hq => .inl (hKb2 q hq))).toBelow
              clear nu hku
              go_wp2_with fail
              refine (scan_lit Du size 2 _ _ rfl rfl (by omega) (by omega) (by rw [HLN.out]; omega) (by simp) HSZ2.out _ HM3.out).mono ?_
              rintro e wS ⟨vg, rfl, hG⟩
              have gkS := gku.below hG.below
              have BS := below_to Bu hG.below
              have slg := hG.slsl
              obtain ⟨ag, cg, rfl⟩ := hG.form0
              rw [HTL.out] at slg ⊢
              have sla := gkS.slsl
              subst hva
              have slt := sla.take m hm1
              have HSLG := Lib.hid (slg.below ((Below.refl wS.heap.size wS).drew))
              have HSLT := Lib.hid (slt.below ((Below.refl wS.heap.size wS).drew))
              replace BS := below_to BS ((Below.refl wS.heap.size wS).drew)
              have g1 : (safe : Int) ≤ (m : Int) := by omega
              have g2 : (m : Int) ≤ (A2.length : Int) := by omega
              have g3 : m ≤ ca := by omega
              clear slg slt sla hG gku gkS Du
              go_wp2_with fail
              go_region_held3 (fun _ => True) (trivial)
                (first | (go_at_call 17; refine (theirs_any _ (A2.take m) _ (by rw [HTL.out]; omega) HAI.out HSLG.out).mono ?_; rintro e wT ⟨vT, rfl, hGT⟩) | (go_at_call 16; refine (same_eq _ _ (A2.take m) _ (by rw [HTL.out]; omega) HAI.out hGT.slsl (HSLT.out.below hGT.below)).mono ?_; rintro e wU ⟨rfl, hbU⟩))
              go_wp2_with fail
              go_ret
              exact ⟨rfl, below_to (below_to (below_to B0 BS) hGT.below) hbU⟩
        · obtain rfl : k = nl := by omega
          have hIE := HI.out.toInvE
          have HFI := Lib.hid hIE.fits
          have hbo := Bools.to hks (below_to B0 B) (K := fun q => K q ∨ q = j2) (fun q hq => .inl (hKb q (Nat.lt_of_lt_of_le hq B0.size)))
          obtain ⟨m, hm1, hm2, hm3⟩ := hIE.up (by omega) (keptQ ks)
          have hsz := appl_sz hIE (by omega) (keptQ ks)
          have hln : (appl S P (keptQ ks) P.length).length = size + 1 := by rw [appl_length]; exact hIE.hlen
          have nu := Lib.hid (up_any D HFI.out (by omega) hbo (kc := kc))
          generalize appl S P (keptQ ks) P.length = S2 at hm3 hsz hln nu
          have HM3 := Lib.hid hm3
          have HSZ2 := Lib.hid hsz
          have HLN := Lib.hid hln
          have hTl : (A.take m).length = m := by rw [List.length_take]; omega
          have HTL := Lib.hid hTl
          have hAl : A.length ≤ 2000 := by omega
          have hAi : ∀ x ∈ A, x.length ≤ 1000000 := fun x hx => by have := each_len (e := 2) (c := 0) (z := z480) x hx; have := hIE.xlen; omega
          have HAI : Hid (∀ x ∈ A.take m, x.length ≤ 1000000) := Lib.hid (fun x hx => hAi x (List.mem_of_mem_take hx))
          clear hm3 hsz hln hIE hbo hTl hAi
          obtain ⟨aa, ca, hva, hcap⟩ := gk.formc
          go_wp2_with fail
          refine nu.out.mono ?_
          rintro e wu ⟨rfl, Du, hku⟩
          have gku := gk.keep (hku.mono (fun q hq => .inl hq))
          have Bu := B.trans (hku.mono (fun q hq => .inl (hKb q hq))).toBelow
          clear nu hku
          go_wp2_with fail
          refine (scan_lit Du size 2 _ _ rfl rfl (by omega) (by omega) (by rw [HLN.out]; omega) (by simp) HSZ2.out _ HM3.out).mono ?_
          rintro e wS ⟨vg, rfl, hG⟩
          have gkS := gku.below hG.below
          have BS := below_to Bu hG.below
          have slg := hG.slsl
          obtain ⟨ag, cg, rfl⟩ := hG.form0
          rw [HTL.out] at slg ⊢
          have sla := gkS.slsl
          subst hva
          have slt := sla.take m hm1
          have HSLG := Lib.hid (slg.below ((Below.refl wS.heap.size wS).drew))
          have HSLT := Lib.hid (slt.below ((Below.refl wS.heap.size wS).drew))
          replace BS := below_to BS ((Below.refl wS.heap.size wS).drew)
          have g1 : (safe : Int) ≤ (m : Int) := by omega
          have g2 : (m : Int) ≤ (A.length : Int) := by omega
          have g3 : m ≤ ca := by omega
          clear slg slt sla hG gku gkS Du
          go_wp2_with fail
          go_region_held3 (fun _ => True) (trivial)
            (first | (go_at_call 17; refine (theirs_any _ (A.take m) _ (by rw [HTL.out]; omega) HAI.out HSLG.out).mono ?_; rintro e wT ⟨vT, rfl, hGT⟩) | (go_at_call 16; refine (same_eq _ _ (A.take m) _ (by rw [HTL.out]; omega) HAI.out hGT.slsl (HSLT.out.below hGT.below)).mono ?_; rintro e wU ⟨rfl, hbU⟩))
          go_wp2_with fail
          go_ret
          exact ⟨rfl, below_to (below_to (below_to B0 BS) hGT.below) hbU⟩
end Go.Proofs.Ytbhebkjadgajeaa
