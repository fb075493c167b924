/- One act: Flush. -/
import Derived.Test.YtplngodilalbhaaP3
namespace Go.Proofs.Ytplngodilalbhaa
open Go.RowKit Go.Shelf
set_option linter.unusedVariables false
section
variable {K : Nat → Prop} {n c d : Nat} {sa wa : Option Addr} {sn wn wc : Nat} {arm : Int} {dead : Bool} {ops : Int} {S : List ByteArray} {P : List (Int × ByteArray)}
theorem flush_pair {w : World} {fuse : Int} (sc : Nat) (hR : Ref K w sa sn wa wn wc S P) (hK : ∀ k, K k → k < w.heap.size) (hF : Fits P S.length) (hS : S.length ≤ 1000000) (hP : P.length ≤ c) (hc : c ≤ 100) (ha : dead = true ∨ arm = fuse) (hf : fuse ≤ 9223372036854775807) (hA : arm ≤ 9223372036854775807) (ho : 0 ≤ ops) (ho2 : ops ≤ c) :
    ∃ y S' P' f' a' d' o', flF S P fuse dead ops = (y, S', P', f', d', o') ∧ Calls Try.prog 58 #[.agg #[.slice sa sn sc, .slice wa wn wc, .int .i64 arm, .bool dead, .int .i64 ops]] w (RdRet K S' P' a' d' o' y w) ∧ S'.length = S.length ∧ Fits P' S.length ∧ P'.length ≤ c + 1 ∧ (d' = true ∨ a' = f') ∧ f' ≤ 9223372036854775807 ∧ a' ≤ 9223372036854775807 ∧ 0 ≤ o' ∧ o' ≤ ((c + 1 : Nat) : Int) := by
  unfold flF
  rcases op_pair ops ha hf with ⟨f', o', a', h1, h2, h3, h4, h5, h6⟩ | ⟨f', o', a', h1, h2, h3, h4, h5, h6⟩
  · rw [h1, if_pos rfl]
    exact ⟨_, _, _, _, a', _, _, rfl, rflush_ok sc arm dead ops w hR hK hS (by omega) hF hA ho (by omega) a' false o' h2 _ rfl, appl_length _ _ _ _, fun j hj => by simp at hj, by simp, .inr h3, h4, by omega, by show 0 ≤ o'; omega, by show o' ≤ _; omega⟩
  · rw [h1, if_neg (show ¬ ((17 : Int) = 0) by decide)]
    exact ⟨_, _, _, _, a', _, _, rfl, rflush_down sc arm dead ops w hR hK hA ho (by omega) a' true o' h2, rfl, hF, by omega, .inl rfl, h3, h4, by show 0 ≤ o'; omega, by show o' ≤ _; omega⟩
theorem sxo_keep {K : Nat → Prop} {w w1 : World} {a q v : Nat} {x v0 v1 v2 v3 v4 : Value} (hk : Keep K w w1) (ha : K a) (hv : K v) (h : w.cell? ⟨a, q, none⟩ = some x ∧ w.cell? ⟨v, 0, none⟩ = some v0 ∧ w.cell? ⟨v, 1, none⟩ = some v1 ∧ w.cell? ⟨v, 2, none⟩ = some v2 ∧ w.cell? ⟨v, 3, none⟩ = some v3 ∧ w.cell? ⟨v, 4, none⟩ = some v4) :
    w1.cell? ⟨a, q, none⟩ = some x ∧ w1.cell? ⟨v, 0, none⟩ = some v0 ∧ w1.cell? ⟨v, 1, none⟩ = some v1 ∧ w1.cell? ⟨v, 2, none⟩ = some v2 ∧ w1.cell? ⟨v, 3, none⟩ = some v3 ∧ w1.cell? ⟨v, 4, none⟩ = some v4 := by
  obtain ⟨h0, h1, h2, h3, h4, h5⟩ := h
  exact ⟨(World.cell?_of_block (a := ⟨a, q, none⟩) (hk.block a ha)).trans h0, (World.cell?_of_block (a := ⟨v, 0, none⟩) (hk.block v hv)).trans h1, (World.cell?_of_block (a := ⟨v, 1, none⟩) (hk.block v hv)).trans h2, (World.cell?_of_block (a := ⟨v, 2, none⟩) (hk.block v hv)).trans h3, (World.cell?_of_block (a := ⟨v, 3, none⟩) (hk.block v hv)).trans h4, (World.cell?_of_block (a := ⟨v, 4, none⟩) (hk.block v hv)).trans h5⟩
theorem sxo_put {w : World} {a q v r : Nat} {x v0 v1 v2 v3 v4 u0 u1 u2 u3 u4 : Value} (ha : a ≠ r) (hv : v ≠ r) (h : w.cell? ⟨a, q, none⟩ = some x ∧ w.cell? ⟨v, 0, none⟩ = some v0 ∧ w.cell? ⟨v, 1, none⟩ = some v1 ∧ w.cell? ⟨v, 2, none⟩ = some v2 ∧ w.cell? ⟨v, 3, none⟩ = some v3 ∧ w.cell? ⟨v, 4, none⟩ = some v4) :
    (((((w.setCell ⟨r, 0, none⟩ u0).setCell ⟨r, 1, none⟩ u1).setCell ⟨r, 2, none⟩ u2).setCell ⟨r, 3, none⟩ u3).setCell ⟨r, 4, none⟩ u4).cell? ⟨a, q, none⟩ = some x ∧ (((((w.setCell ⟨r, 0, none⟩ u0).setCell ⟨r, 1, none⟩ u1).setCell ⟨r, 2, none⟩ u2).setCell ⟨r, 3, none⟩ u3).setCell ⟨r, 4, none⟩ u4).cell? ⟨v, 0, none⟩ = some v0 ∧ (((((w.setCell ⟨r, 0, none⟩ u0).setCell ⟨r, 1, none⟩ u1).setCell ⟨r, 2, none⟩ u2).setCell ⟨r, 3, none⟩ u3).setCell ⟨r, 4, none⟩ u4).cell? ⟨v, 1, none⟩ = some v1 ∧ (((((w.setCell ⟨r, 0, none⟩ u0).setCell ⟨r, 1, none⟩ u1).setCell ⟨r, 2, none⟩ u2).setCell ⟨r, 3, none⟩ u3).setCell ⟨r, 4, none⟩ u4).cell? ⟨v, 2, none⟩ = some v2 ∧ (((((w.setCell ⟨r, 0, none⟩ u0).setCell ⟨r, 1, none⟩ u1).setCell ⟨r, 2, none⟩ u2).setCell ⟨r, 3, none⟩ u3).setCell ⟨r, 4, none⟩ u4).cell? ⟨v, 3, none⟩ = some v3 ∧ (((((w.setCell ⟨r, 0, none⟩ u0).setCell ⟨r, 1, none⟩ u1).setCell ⟨r, 2, none⟩ u2).setCell ⟨r, 3, none⟩ u3).setCell ⟨r, 4, none⟩ u4).cell? ⟨v, 4, none⟩ = some v4 := by
  obtain ⟨h0, h1, h2, h3, h4, h5⟩ := h
  have b1 := put5_block w r u0 u1 u2 u3 u4 a ha
  have b2 := put5_block w r u0 u1 u2 u3 u4 v hv
  exact ⟨(World.cell?_of_block (a := ⟨a, q, none⟩) b1).trans h0, (World.cell?_of_block (a := ⟨v, 0, none⟩) b2).trans h1, (World.cell?_of_block (a := ⟨v, 1, none⟩) b2).trans h2, (World.cell?_of_block (a := ⟨v, 2, none⟩) b2).trans h3, (World.cell?_of_block (a := ⟨v, 3, none⟩) b2).trans h4, (World.cell?_of_block (a := ⟨v, 4, none⟩) b2).trans h5⟩
set_option maxRecDepth 100000 in
set_option maxHeartbeats 4000000 in
theorem one_flush (sc : Nat) (N : Int) (byte : UInt8) (short : Bool) (ka : Option Addr) (kn kc : Nat) (w : World) (h : St K w n c d sa sn wa wn wc arm dead ops S P) (hK : ∀ k, K k → k < w.heap.size) (hn1 : 1 ≤ n) (hn2 : n ≤ 60) (hc : c ≤ 100) :
    Calls Try.prog 25 #[.pointer (some ⟨d, 0, none⟩), .agg #[.slice sa sn sc, .slice wa wn wc, .int .i64 arm, .bool dead, .int .i64 ops], .agg #[.int .i64 1, .int .i64 N, .int .u8 (byte.toNat : Int), .bool short, .slice ka kn kc]] w (OneRet K n c w) := by
  obtain ⟨sb, pv, fuse, hD, hR, hn, hF, hP, ha, hf, hA, ho, ho2⟩ := h
  have F1 := ((Five.new w (.slice sa sn sc) (.slice wa wn wc) (.int .i64 arm) (.bool dead) (.int .i64 ops) 52).alloc (.cells #[.int .i64 1, .int .i64 N, .int .u8 (byte.toNat : Int), .bool short, .slice ka kn kc] 57)).alloc (.cells #[.slice none 0 0, .slice none 0 0, .int .i64 0, .bool false, .int .i64 0] 52)
  have F2 := (Five.new (w.alloc (.cells #[.slice sa sn sc, .slice wa wn wc, .int .i64 arm, .bool dead, .int .i64 ops] 52)) (.int .i64 1) (.int .i64 N) (.int .u8 (byte.toNat : Int)) (.bool short) (.slice ka kn kc) 57).alloc (.cells #[.slice none 0 0, .slice none 0 0, .int .i64 0, .bool false, .int .i64 0] 52)
  have F3 := Five.new ((w.alloc (.cells #[.slice sa sn sc, .slice wa wn wc, .int .i64 arm, .bool dead, .int .i64 ops] 52)).alloc (.cells #[.int .i64 1, .int .i64 N, .int .u8 (byte.toNat : Int), .bool short, .slice ka kn kc] 57)) (.slice none 0 0) (.slice none 0 0) (.int .i64 0) (.bool false) (.int .i64 0) 52
  have hw1 : (w.alloc (.cells #[.slice sa sn sc, .slice wa wn wc, .int .i64 arm, .bool dead, .int .i64 ops] 52)).heap.size = w.heap.size + 1 := by simp
  have hw2 : ((w.alloc (.cells #[.slice sa sn sc, .slice wa wn wc, .int .i64 arm, .bool dead, .int .i64 ops] 52)).alloc (.cells #[.int .i64 1, .int .i64 N, .int .u8 (byte.toNat : Int), .bool short, .slice ka kn kc] 57)).heap.size = w.heap.size + 2 := by simp
  rw [hw1] at F2
  rw [hw2] at F3
  have hBB : Below w.heap.size w (((w.alloc (.cells #[.slice sa sn sc, .slice wa wn wc, .int .i64 arm, .bool dead, .int .i64 ops] 52)).alloc (.cells #[.int .i64 1, .int .i64 N, .int .u8 (byte.toNat : Int), .bool short, .slice ka kn kc] 57)).alloc (.cells #[.slice none 0 0, .slice none 0 0, .int .i64 0, .bool false, .int .i64 0] 52)) := (((Below.refl _ w).alloc (Nat.le_refl _) _).alloc (by simp) _).alloc (by simp; omega) _
  clear hw1 hw2
  have HN := Lib.hid hn
  have HF := Lib.hid hF
  have HA := Lib.hid ha
  clear hn hF ha
  have hsB : w.heap.size + 2 < (((w.alloc (.cells #[.slice sa sn sc, .slice wa wn wc, .int .i64 arm, .bool dead, .int .i64 ops] 52)).alloc (.cells #[.int .i64 1, .int .i64 N, .int .u8 (byte.toNat : Int), .bool short, .slice ka kn kc] 57)).alloc (.cells #[.slice none 0 0, .slice none 0 0, .int .i64 0, .bool false, .int .i64 0] 52)).heap.size := F3.lt
  have hR1 := hR.keep (fun k hk => hBB.block k (hK k hk))
  obtain ⟨y, S', P', f', a', d', o', hq, hcall, hl', hF', hP', ha', hf', hA', ho', ho2'⟩ := flush_pair (fuse := fuse) (w := ((w.alloc (.cells #[.slice sa sn sc, .slice wa wn wc, .int .i64 arm, .bool dead, .int .i64 ops] 52)).alloc (.cells #[.int .i64 1, .int .i64 N, .int .u8 (byte.toNat : Int), .bool short, .slice ka kn kc] 57)).alloc (.cells #[.slice none 0 0, .slice none 0 0, .int .i64 0, .bool false, .int .i64 0] 52)) sc hR1 (fun k hk => by have := hK k hk; omega) (by rw [HN.out]; exact HF.out) (by rw [HN.out]; omega) hP hc HA.out hf hA ho ho2
  have HC := Lib.hid hcall
  have HQ := Lib.hid hq
  have HF' := Lib.hid hF'
  have HA' := Lib.hid ha'
  have HL' := Lib.hid hl'
  clear hq hcall hF' ha' hl'
  go_enter Try.func25, Try.ntmps25
  go_wp2_with fail
  refine HC.out.mono ?_
  generalize ((w.alloc (.cells #[.slice sa sn sc, .slice wa wn wc, .int .i64 arm, .bool dead, .int .i64 ops] 52)).alloc (.cells #[.int .i64 1, .int .i64 N, .int .u8 (byte.toNat : Int), .bool short, .slice ka kn kc] 57)).alloc (.cells #[.slice none 0 0, .slice none 0 0, .int .i64 0, .bool false, .int .i64 0] 52) = w1 at *
  rintro e w2 ⟨sa2, sn2, sc2, wa2, wn2, wc2, rfl, hR2, B2⟩
  have hVB : Below w.heap.size w (w2.alloc (.cells #[.slice sa2 sn2 sc2, .slice wa2 wn2 wc2, .int .i64 a', .bool d', .int .i64 o'] 52)) := (below_to hBB B2).alloc (by have := (below_to hBB B2).size; omega) _
  have hs2 : w1.heap.size ≤ w2.heap.size := B2.size
  have x1' := (F2.below B2 (by omega)).alloc (.cells #[.slice sa2 sn2 sc2, .slice wa2 wn2 wc2, .int .i64 a', .bool d', .int .i64 o'] 52)
  have r' := (F3.below B2 (by omega)).alloc (.cells #[.slice sa2 sn2 sc2, .slice wa2 wn2 wc2, .int .i64 a', .bool d', .int .i64 o'] 52)
  have v' := Five.new w2 (.slice sa2 sn2 sc2) (.slice wa2 wn2 wc2) (.int .i64 a') (.bool d') (.int .i64 o') 52
  have hD3 := hD.fence hVB
  have hR3 := hR2.keep (fun k hk => Below.heap_alloc w2 (.cells #[.slice sa2 sn2 sc2, .slice wa2 wn2 wc2, .int .i64 a', .bool d', .int .i64 o'] 52) k (hk.elim (fun hk => by have := hK k hk; omega) (fun hk => hk.2)))
  clear F1 F2 F3 hR2 HC hR1
  have hvs : w2.heap.size < (w2.alloc (.cells #[.slice sa2 sn2 sc2, .slice wa2 wn2 wc2, .int .i64 a', .bool d', .int .i64 o'] 52)).heap.size := by simp
  go_upto_region 10 with (fail)
  generalize w2.alloc (.cells #[.slice sa2 sn2 sc2, .slice wa2 wn2 wc2, .int .i64 a', .bool d', .int .i64 o'] 52) = w3 at hVB x1' r' v' hD3 hR3 hvs ⊢
  have y1 := (x1'.below ((Below.refl w3.heap.size w3).drew) (by omega)).c1
  obtain ⟨v0, v1, v2, v3, v4, -, -, -, -, -⟩ := v'.below ((Below.refl w3.heap.size w3).drew) (by omega)
  have hD3' : Disk (fenceK K w w3) w3 d sb S pv P fuse dead ops := hD3
  have hD3d := hD3'.below ((Below.refl w3.heap.size w3).drew)
  have hKa : fenceK K w w3 (w.heap.size + 1) := .inr ⟨by omega, by omega⟩
  have hKv : fenceK K w w3 w2.heap.size := .inr ⟨by omega, by omega⟩
  have hKr : fenceK K w w3 (w.heap.size + 2) := .inr ⟨by omega, by omega⟩
  have hne1 : w.heap.size + 1 ≠ w.heap.size + 2 := by omega
  have hne2 : w2.heap.size ≠ w.heap.size + 2 := by omega
  have rd := r'.below ((Below.refl w3.heap.size w3).drew) (by omega)
  clear hD3 x1' r'
  have HFS : Hid (Fits P S.length) := Lib.hid (by rw [HN.out]; exact HF.out)
  go_region_held3 (fun w' => w'.cell? ⟨w.heap.size + 1, 1, none⟩ = some (.int .i64 N) ∧ w'.cell? ⟨w2.heap.size, 0, none⟩ = some (.slice sa2 sn2 sc2) ∧ w'.cell? ⟨w2.heap.size, 1, none⟩ = some (.slice wa2 wn2 wc2) ∧ w'.cell? ⟨w2.heap.size, 2, none⟩ = some (.int .i64 a') ∧ w'.cell? ⟨w2.heap.size, 3, none⟩ = some (.bool d') ∧ w'.cell? ⟨w2.heap.size, 4, none⟩ = some (.int .i64 o'))
    (first | with_reducible exact ⟨y1, v0, v1, v2, v3, v4⟩ | with_reducible exact sxo_keep hKw hKa hKv (by assumption) | with_reducible exact sxo_put hne1 hne2 (by assumption))
    (first | (go_at_call 36; refine (flush_any hD3d HFS.out (by omega) hf ho (by omega) _ _ _ _ _ _ HQ.out).mono ?_; rintro e w4 ⟨rfl, hDw, hKw⟩; obtain ⟨d0, d1, d2, d3, d4, e0, e1, e2, e3, e4⟩ := rd.block (hKw.block _ hKr)))
  obtain ⟨pv', hDw⟩ := hDw
  have hKz := ((Keep.refl w3).below hD3'.lt ((Below.refl w3.heap.size w3).drew)).trans hKw
  have h3 : ∀ k, fenceK K w1 w2 k → fenceK K w w3 k ∧ k ≠ w.heap.size + 2 := fun k hk => hk.elim (fun h => ⟨.inl h, by have := hK k h; omega⟩) (fun h => ⟨.inr ⟨by omega, by omega⟩, by omega⟩)
  have FIN := fin_one (sc := sc2) hK hVB (show w.heap.size ≤ w.heap.size + 2 by omega) (by omega) hDw hKz hR3 h3 (HL'.out.trans HN.out) (by rw [← HN.out]; exact HF'.out) hP' HA'.out hf' hA' ho' ho2' (.slice sa2 sn2 sc2) (.slice wa2 wn2 wc2) (.int .i64 a') (.bool d') (.int .i64 o')
  have HFIN := Lib.hid FIN
  clear FIN h3 hKz hDw hKw hD3d hD3' hR3 HF' HA' HL' hVB
  go_wp2_with fail
  refine bodyPost_ret (v := .tuple #[.pointer (some ⟨d, 0, none⟩), .agg #[.slice sa2 sn2 sc2, .slice wa2 wn2 wc2, .int .i64 a', .bool d', .int .i64 o'], .bool true]) (by simp [results, Try.results25, go_sem, d0, d1, d2, d3, d4]) rfl ?_
  exact HFIN.out
end
end Go.Proofs.Ytplngodilalbhaa
