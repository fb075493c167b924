/- The reference's disk: Write that succeeds. -/
import Derived.Test.YtplngodilalbhaaR4
namespace Go.Proofs.Ytplngodilalbhaa
open Go.RowKit Go.Shelf
section
variable {K : Nat → Prop} {sa wa : Option Addr} {sn wn wc : Nat} {S : List ByteArray} {W : List (Int × ByteArray)}
theorem made0 (w : World) (t : TypeId) (size : Nat) : (w.alloc (.cells #[] t)).ownsRow w.heap.size t size (.slice (some ⟨w.heap.size, 0, none⟩) 0 0) 0 [] :=
  World.ownsRow_made w #[] 0 (Nat.le_refl _) (Nat.zero_le _) (by simp)
theorem grown0 {w w1 : World} {o : Obj} (h : (w.alloc o).grownBy w1 (some w.heap.size)) : Below w.heap.size w w1 := by
  refine ⟨h.os, h.tape, h.output, by have := h.size; simp at this; omega, fun k hk => ?_⟩
  exact (h.block k (by simp; omega) (by simp; omega)).trans (Below.heap_alloc _ _ k hk)
theorem heap_set (w : World) (b o : Nat) (v : Value) (k : Nat) (h : k ≠ b) : (w.setCell ⟨b, o, none⟩ v).heap[k]? = w.heap[k]? := Below.heap_setCell w ⟨b, o, none⟩ v k h
theorem WrRow.cells {w : World} {g : Nat} {L : List (Int × ByteArray)} (h : WrRow w g L) (j : Nat) (u : Value) (hj : (flat L)[j]? = some u) : w.cell? ⟨g, j, none⟩ = some u := by
  have hl : j < L.length * 2 := by rw [← flat_length]; exact (List.getElem?_eq_some_iff.1 hj).1
  rcases Nat.mod_two_eq_zero_or_one j with hm | hm
  · obtain ⟨q, rfl⟩ : ∃ q, j = 2 * q := ⟨j / 2, by omega⟩
    rw [(flat_get L q (by omega)).1] at hj
    rw [Nat.mul_comm 2 q, (h q (by omega)).1, hj]
  · obtain ⟨q, rfl⟩ : ∃ q, j = 2 * q + 1 := ⟨j / 2, by omega⟩
    rw [(flat_get L q (by omega)).2] at hj
    rw [Nat.mul_comm 2 q, (h q (by omega)).2, hj]
theorem rd_app {w w5 : World} {W' : List (Int × ByteArray)} {g n : Nat} (h : Ref K w sa sn wa wn wc S W) (hK : ∀ k, K k → k < w.heap.size) (hg : w.heap.size ≤ g) (hg' : g < w5.heap.size) (W5 : WrRow w5 g W') (hl : n = W'.length) {sc cap : Nat} {arm : Int} {dead : Bool} {ops y : Int} {w' : World}
    (B : Below w.heap.size w w') (hs : w5.heap.size ≤ w'.heap.size) (hb : w'.heap[g]? = w5.heap[g]?) :
    RdRet K S W' arm dead ops y w (.returned (.tuple #[.agg #[.slice sa sn sc, .slice (some ⟨g, 0, none⟩) n cap, .int .i64 arm, .bool dead, .int .i64 ops], .int .i64 y])) w' := by
  obtain ⟨b, e, hb', hr⟩ := (h.keep (fun k hk => B.block k (hK k hk))).s
  exact ⟨_, _, _, _, _, _, rfl, ⟨h.sn, ⟨b, e, .inl hb', hr⟩, hl, .inr ⟨g, rfl, .inr ⟨hg, by omega⟩, W5.block hb⟩⟩, B⟩
/-- Behind an append to a row of one's own: all that lay below its base. -/
theorem grownB {w w1 : World} {b : Nat} {v : Value} (h : w.grownBy w1 v.ownBlock) (hv : ∀ k, v.ownBlock = some k → b ≤ k) (hb : b ≤ w.heap.size) : Below b w w1 := by
  refine ⟨h.os, h.tape, h.output, h.size, fun k hk => h.block k (by omega) (fun e => ?_)⟩
  have := hv k e.symm
  omega
set_option maxRecDepth 100000 in
set_option maxHeartbeats 2000000 in
theorem rwrite_ok (sc : Nat) (arm : Int) (dead : Bool) (ops : Int) (i : Int) (s : ByteArray) (w : World) (h : Ref K w sa sn wa wn wc S W) (hK : ∀ k, K k → k < w.heap.size) (h1 : 0 ≤ i) (h2 : i < S.length) (h3 : s.size = 512) (hW : W.length ≤ 1000000)
    (hf2 : arm ≤ 9223372036854775807) (ho : 0 ≤ ops) (ho2 : ops < 4611686018427387904) (arm' : Int) (dead' : Bool) (ops' : Int) (hq : opR arm dead ops = (true, arm', dead', ops')) :
    Calls Try.prog 57 #[.agg #[.slice sa sn sc, .slice wa wn wc, .int .i64 arm, .bool dead, .int .i64 ops], .int .i64 i, .string s] w (RdRet K S (W ++ [(i, s)]) arm' dead' ops' 0 w) := by
  have hn := h.sn
  have hwn := h.wn
  have h2' : i < (sn : Int) := by omega
  have hs : ((s.size : Int) == 512) = true := by rw [beq_iff_eq]; omega
  have hs' : ((s.size : Int) != 512) = false := by rw [bne_eq_false_iff_eq]; omega
  have n1 := Lib.hid (fun w => rstep_any sa sn sc wa wn wc arm dead ops w hf2 ho ho2 _ _ _ _ hq)
  have H := Lib.hid h
  have HWN := Lib.hid hwn
  obtain ⟨i0, hi0, hz0, hz1, hz2⟩ := info_parts info102
  clear h hn hwn h3 hq h2
  go_enter Try.func57, Try.ntmps57
  go_wp2_with fail
  refine (n1.out _).mono ?_
  rintro e w1 ⟨rfl, B⟩
  have F1 := ((Five.new w (.slice sa sn sc) (.slice wa wn wc) (.int .i64 arm) (.bool dead) (.int .i64 ops) 52).alloc (.cells #[.slice none 0 0, .slice none 0 0, .int .i64 0, .bool false, .int .i64 0] 52)).below B (by simp; omega)
  have F2 := (Five.new (w.alloc (.cells #[.slice sa sn sc, .slice wa wn wc, .int .i64 arm, .bool dead, .int .i64 ops] 52)) (.slice none 0 0) (.slice none 0 0) (.int .i64 0) (.bool false) (.int .i64 0) 52).below B (by simp)
  have hwb : (w.alloc (.cells #[.slice sa sn sc, .slice wa wn wc, .int .i64 arm, .bool dead, .int .i64 ops] 52)).heap.size = w.heap.size + 1 := by simp
  rw [hwb] at F2
  have B' := below_to (((Below.refl _ w).alloc (Nat.le_refl _) (.cells #[.slice sa sn sc, .slice wa wn wc, .int .i64 arm, .bool dead, .int .i64 ops] 52)).alloc (by simp) (.cells #[.slice none 0 0, .slice none 0 0, .int .i64 0, .bool false, .int .i64 0] 52)) B
  clear hwb B
  have G1 := F1.put (.slice sa sn sc) (.slice wa wn wc) (.int .i64 arm') (.bool dead') (.int .i64 ops')
  have G2 := F2.block (put5_block w1 w.heap.size (.slice sa sn sc) (.slice wa wn wc) (.int .i64 arm') (.bool dead') (.int .i64 ops') (w.heap.size + 1) (by omega))
  have B2 := put5_below (b := w.heap.size) B' (Nat.le_refl _) (.slice sa sn sc) (.slice wa wn wc) (.int .i64 arm') (.bool dead') (.int .i64 ops')
  obtain ⟨c0, c1, c2, c3, c4, f0, f1, f2, f3, f4⟩ := F1
  go_upto_region 6 with (fail)
  unfold put5 at G1 G2 B2
  generalize ((((w1.setCell ⟨w.heap.size, 0, none⟩ (.slice sa sn sc)).setCell ⟨w.heap.size, 1, none⟩ (.slice wa wn wc)).setCell ⟨w.heap.size, 2, none⟩ (.int .i64 arm')).setCell ⟨w.heap.size, 3, none⟩ (.bool dead')).setCell ⟨w.heap.size, 4, none⟩ (.int .i64 ops') = w2 at G1 G2 B2 ⊢
  clear c0 c1 c2 c3 c4 f0 f1 f2 f3 f4 F2 B' n1
  have hsz2 : w.heap.size + 1 < w2.heap.size := G2.lt
  have R2 := H.out.keep (fun k hk => B2.block k (hK k hk))
  have g1 := G1.c1
  rcases R2.ws with ⟨rfl, rfl, hWe⟩ | ⟨g, rfl, hg, hrow⟩
  · obtain rfl : wn = 0 := by rw [HWN.out, hWe]; rfl
    have gA := (G1.alloc (.cells #[] 102)).c1
    have hown := made0 w2 102 2
    have B3 := (Below.refl w2.heap.size w2).alloc (Nat.le_refl _) (.cells #[] 102)
    have HWE := Lib.hid hWe
    clear hWe
    go_wp2_with (at_builtin; first | (refine wpList_append_own_none rfl _ _ 50 rfl w2.heap.size 102 i0 2 Try.underlying50 hi0 _ _ _ rfl (made0 w2 102 2) rfl ?_) | (refine wpList_append_own _ rfl _ _ 50 rfl w2.heap.size 102 i0 (.agg #[.int .i64 0, .string ⟨#[]⟩]) 2 24 Try.underlying50 hi0 hz0 hz1 hz2 rfl (by decide) _ _ _ rfl (hown.alloc _) ⟨w2.heap.size + 1, 0, none⟩ 1 1 [.int .i64 i, .string s] rfl ?d1 ?d2 ?d3 ?d4 ?d5 ?d6 ?_))
    case d1 => rfl
    case d2 =>
      intro j u hj
      match j, hj with
      | 0, hj => simp at hj; subst hj; simp [Addr.add]
      | 1, hj => simp at hj; subst hj; simp [Addr.add]
    case d3 => intro u hu; simp at hu; rcases hu with rfl | rfl <;> rfl
    case d4 => unfold maxLen; omega
    case d5 => omega
    case d6 => have := B3.size; simp at this ⊢; omega
    intro v2 w5 hown5 hgrow5 hnil5
    have B5 : Below w2.heap.size w2 w5 := (B3.alloc B3.size _).trans (grownB hgrow5 (fun k hk => (hown.lt k hk).1) (by have := B3.size; simp at this ⊢; omega))
    have hrow5 : w5.ownsRow w2.heap.size 102 2 v2 (0 + 1) (flat (W ++ [(i, s)])) := by rw [flat_snoc, HWE.out]; exact hown5
    obtain ⟨g2, cap2, rfl⟩ : ∃ g2 cap2, v2 = .slice (some ⟨g2, 0, none⟩) (0 + 1) cap2 := by
      rcases hown5.2 with ⟨rfl, _⟩ | ⟨g, cap, cur, rfl, _⟩
      · exact (hnil5 rfl).elim
      · exact ⟨g, cap, rfl⟩
    have hg2 : w2.heap.size ≤ g2 ∧ g2 < w5.heap.size := hown5.lt g2 rfl
    have W5 := WrRow.of_own hrow5
    have hgw : w.heap.size ≤ g2 := by omega
    have hnl : 0 + 1 = (W ++ [(i, s)]).length := by rw [HWE.out]; rfl
    have HX := Lib.hid (fun (w' : World) (B : Below w.heap.size w w') (hs : w5.heap.size ≤ w'.heap.size) (hb : w'.heap[g2]? = w5.heap[g2]?) => rd_app (K := K) (y := 0) (sc := sc) (cap := cap2) (arm := arm') (dead := dead') (ops := ops') H.out hK hgw hg2.2 W5 hnl B hs hb)
    have Q1 := G1.below B5 (by omega)
    have Q2 := G2.below B5 (by omega)
    have hB5 := B2.trans (B5.mono (by omega))
    clear hrow5 hown5 hgrow5 hnil5 hown B3 B5 W5 G1 G2 B2 R2 hnl gA
    obtain ⟨c0, c1, c2, c3, c4, f0, f1, f2, f3, f4⟩ := Q1
    obtain ⟨d0, d1, d2, d3, d4, e0, e1, e2, e3, e4⟩ := Q2
    go_wp2_with fail
    refine bodyPost_ret (v := .tuple #[.agg #[.slice sa sn sc, .slice (some ⟨g2, 0, none⟩) (0 + 1) cap2, .int .i64 arm', .bool dead', .int .i64 ops'], .int .i64 0]) (by simp [results, Try.results57, go_sem, d0, d1, d2, d3, d4]) rfl ?_
    refine HX.out _ ?_ ?_ ?_
    · iterate 6 refine Below.setCell ?_ (by simp) _
      exact hB5
    · simp
    · iterate 6 refine (heap_set _ _ _ _ _ (by omega)).trans ?_
      rfl
  · have hwn := HWN.out
    subst hwn
    have gA := (G1.alloc (.cells #[] 102)).c1
    go_wp2_with (at_builtin; refine wpList_append_own _ rfl _ _ 50 rfl w2.heap.size 102 i0 (.agg #[.int .i64 0, .string ⟨#[]⟩]) 2 24 Try.underlying50 hi0 hz0 hz1 hz2 rfl (by decide) _ _ _ rfl (made0 w2 102 2) ⟨g, 0, none⟩ W.length wc (flat W) rfl ?c1 ?c2 ?c3 ?c4 ?c5 ?c6 ?_)
    case c1 => exact flat_length W
    case c2 =>
      intro j u hj
      exact Lib.cell?_alloc_some _ (hrow.cells j u hj)
    case c3 => exact flat_one W
    case c4 => unfold maxLen; omega
    case c5 => omega
    intro v1 w3 hown hgrow hnil
    have B3 := grown0 hgrow
    clear gA hnil hgrow
    go_wp2_with (at_builtin; refine wpList_append_own _ rfl _ _ 50 rfl w2.heap.size 102 i0 (.agg #[.int .i64 0, .string ⟨#[]⟩]) 2 24 Try.underlying50 hi0 hz0 hz1 hz2 rfl (by decide) _ _ _ rfl (hown.alloc _) ⟨w3.heap.size, 0, none⟩ 1 1 [.int .i64 i, .string s] rfl ?d1 ?d2 ?d3 ?d4 ?d5 ?d6 ?_)
    case d1 => rfl
    case d2 =>
      intro j u hj
      match j, hj with
      | 0, hj => simp at hj; subst hj; simp [Addr.add]
      | 1, hj => simp at hj; subst hj; simp [Addr.add]
    case d3 => intro u hu; simp at hu; rcases hu with rfl | rfl <;> rfl
    case d4 => unfold maxLen; omega
    case d5 => omega
    case d6 => have := B3.size; simp at this ⊢; omega
    intro v2 w5 hown5 hgrow5 hnil5
    have B5 : Below w2.heap.size w2 w5 := (B3.alloc B3.size _).trans (grownB hgrow5 (fun k hk => (hown.lt k hk).1) (by have := B3.size; simp at this ⊢; omega))
    have hrow5 : w5.ownsRow w2.heap.size 102 2 v2 (W.length + 1) (flat (W ++ [(i, s)])) := by rw [flat_snoc]; exact hown5
    obtain ⟨g2, cap2, rfl⟩ : ∃ g2 cap2, v2 = .slice (some ⟨g2, 0, none⟩) (W.length + 1) cap2 := by
      rcases hown5.2 with ⟨rfl, _⟩ | ⟨g, cap, cur, rfl, _⟩
      · exact (hnil5 rfl).elim
      · exact ⟨g, cap, rfl⟩
    have hg2 : w2.heap.size ≤ g2 ∧ g2 < w5.heap.size := hown5.lt g2 rfl
    have W5 := WrRow.of_own hrow5
    have hgw : w.heap.size ≤ g2 := by omega
    have hnl : W.length + 1 = (W ++ [(i, s)]).length := by simp
    have HX := Lib.hid (fun (w' : World) (B : Below w.heap.size w w') (hs : w5.heap.size ≤ w'.heap.size) (hb : w'.heap[g2]? = w5.heap[g2]?) => rd_app (K := K) (y := 0) (sc := sc) (cap := cap2) (arm := arm') (dead := dead') (ops := ops') H.out hK hgw hg2.2 W5 hnl B hs hb)
    have Q1 := G1.below B5 (by omega)
    have Q2 := G2.below B5 (by omega)
    have hB5 := B2.trans (B5.mono (by omega))
    clear hrow5 hown5 hgrow5 hnil5 hown B3 B5 W5 G1 G2 B2 R2 hnl
    obtain ⟨c0, c1, c2, c3, c4, f0, f1, f2, f3, f4⟩ := Q1
    obtain ⟨d0, d1, d2, d3, d4, e0, e1, e2, e3, e4⟩ := Q2
    go_wp2_with fail
    refine bodyPost_ret (v := .tuple #[.agg #[.slice sa sn sc, .slice (some ⟨g2, 0, none⟩) (W.length + 1) cap2, .int .i64 arm', .bool dead', .int .i64 ops'], .int .i64 0]) (by simp [results, Try.results57, go_sem, d0, d1, d2, d3, d4]) rfl ?_
    refine HX.out _ ?_ ?_ ?_
    · iterate 6 refine Below.setCell ?_ (by simp) _
      exact hB5
    · simp
    · iterate 6 refine (heap_set _ _ _ _ _ (by omega)).trans ?_
      rfl
end
end Go.Proofs.Ytplngodilalbhaa
