/- One act: Up. -/
import Derived.Test.YtplngodilalbhaaP4
namespace Go.Proofs.Ytplngodilalbhaa
open Go.RowKit Go.Shelf
set_option linter.unusedVariables false
section
variable {K : Nat → Prop} {n c d : Nat} {sa wa : Option Addr} {sn wn wc : Nat} {arm : Int} {dead : Bool} {ops : Int} {S : List ByteArray} {P : List (Int × ByteArray)}
theorem rup_as {a' o' y : Int} {d' : Bool} {S' : List ByteArray} {P' : List (Int × ByteArray)} (sc : Nat) (arm : Int) (dead : Bool) (w : World) (h : Ref K w sa sn wa wn wc S P) (hK : ∀ k, K k → k < w.heap.size) (hSn : S.length ≤ 1000000) (hWn : P.length ≤ 1000000) (hF : Fits P S.length)
    {ka : Option Addr} {kn kc : Nat} {ks : List Bool} (hB : Bools K w ka kn ks) (hS' : appl S P (keptQ ks) P.length = S') (hy : (cntq (keptQ ks) P.length : Int) = y) (h1 : P' = []) (h2 : a' = 0) (h3 : d' = false) (h4 : o' = ops) :
    Calls Try.prog 59 #[.agg #[.slice sa sn sc, .slice wa wn wc, .int .i64 arm, .bool dead, .int .i64 ops], .slice ka kn kc] w (RdRet K S' P' a' d' o' y w) := by
  subst h1 h2 h3 h4
  exact rup_any sc arm dead _ w h hK hSn hWn hF hB S' hS' y hy
theorem up_as {w : World} {d sb : Nat} {pv : Value} {fuse f' o' y : Int} {down d' : Bool} {S' : List ByteArray} {P' : List (Int × ByteArray)} (h : Disk K w d sb S pv P fuse down ops) (hF : Fits P S.length) (hP : P.length ≤ 1000000) {ka : Option Addr} {kn kc : Nat} {ks : List Bool} (hB : Bools K w ka kn ks)
    (hE : appl S P (keptQ ks) P.length = S' ∧ (cntq (keptQ ks) P.length : Int) = y ∧ P' = [] ∧ f' = 0 ∧ d' = false ∧ o' = ops) :
    Calls Try.prog 38 #[.pointer (some ⟨d, 0, none⟩), .slice ka kn kc] w fun e w' => e = .returned (.int .i64 y) ∧ (∃ pv', Disk K w' d sb S' pv' P' f' d' o') ∧ Keep K w w' := by
  obtain ⟨rfl, rfl, rfl, rfl, rfl, rfl⟩ := hE
  exact (up_any h hF hP hB).mono fun e w' ⟨h1, h2, h3⟩ => ⟨h1, ⟨_, h2⟩, h3⟩
set_option maxRecDepth 100000 in
set_option maxHeartbeats 4000000 in
theorem one_up (sc : Nat) (N : Int) (byte : UInt8) (short : Bool) (ka : Option Addr) (kn kc : Nat) (w : World) (h : St K w n c d sa sn wa wn wc arm dead ops S P) (hK : ∀ k, K k → k < w.heap.size) (hn1 : 1 ≤ n) (hn2 : n ≤ 60) (hc : c ≤ 100) (ks : List Bool) (hB : Bools K w ka kn ks) :
    Calls Try.prog 25 #[.pointer (some ⟨d, 0, none⟩), .agg #[.slice sa sn sc, .slice wa wn wc, .int .i64 arm, .bool dead, .int .i64 ops], .agg #[.int .i64 3, .int .i64 N, .int .u8 (byte.toNat : Int), .bool short, .slice ka kn kc]] w (OneRet K n c w) := by
  obtain ⟨sb, pv, fuse, hD, hR, hn, hF, hP, ha, hf, hA, ho, ho2⟩ := h
  have F1 := ((Five.new w (.slice sa sn sc) (.slice wa wn wc) (.int .i64 arm) (.bool dead) (.int .i64 ops) 52).alloc (.cells #[.int .i64 3, .int .i64 N, .int .u8 (byte.toNat : Int), .bool short, .slice ka kn kc] 57)).alloc (.cells #[.slice none 0 0, .slice none 0 0, .int .i64 0, .bool false, .int .i64 0] 52)
  have F2 := (Five.new (w.alloc (.cells #[.slice sa sn sc, .slice wa wn wc, .int .i64 arm, .bool dead, .int .i64 ops] 52)) (.int .i64 3) (.int .i64 N) (.int .u8 (byte.toNat : Int)) (.bool short) (.slice ka kn kc) 57).alloc (.cells #[.slice none 0 0, .slice none 0 0, .int .i64 0, .bool false, .int .i64 0] 52)
  have F3 := Five.new ((w.alloc (.cells #[.slice sa sn sc, .slice wa wn wc, .int .i64 arm, .bool dead, .int .i64 ops] 52)).alloc (.cells #[.int .i64 3, .int .i64 N, .int .u8 (byte.toNat : Int), .bool short, .slice ka kn kc] 57)) (.slice none 0 0) (.slice none 0 0) (.int .i64 0) (.bool false) (.int .i64 0) 52
  have hw1 : (w.alloc (.cells #[.slice sa sn sc, .slice wa wn wc, .int .i64 arm, .bool dead, .int .i64 ops] 52)).heap.size = w.heap.size + 1 := by simp
  have hw2 : ((w.alloc (.cells #[.slice sa sn sc, .slice wa wn wc, .int .i64 arm, .bool dead, .int .i64 ops] 52)).alloc (.cells #[.int .i64 3, .int .i64 N, .int .u8 (byte.toNat : Int), .bool short, .slice ka kn kc] 57)).heap.size = w.heap.size + 2 := by simp
  rw [hw1] at F2
  rw [hw2] at F3
  have hBB : Below w.heap.size w (((w.alloc (.cells #[.slice sa sn sc, .slice wa wn wc, .int .i64 arm, .bool dead, .int .i64 ops] 52)).alloc (.cells #[.int .i64 3, .int .i64 N, .int .u8 (byte.toNat : Int), .bool short, .slice ka kn kc] 57)).alloc (.cells #[.slice none 0 0, .slice none 0 0, .int .i64 0, .bool false, .int .i64 0] 52)) := (((Below.refl _ w).alloc (Nat.le_refl _) _).alloc (by simp) _).alloc (by simp; omega) _
  clear hw1 hw2
  have HN := Lib.hid hn
  have HF := Lib.hid hF
  have HA := Lib.hid ha
  clear hn hF ha
  have hsB : w.heap.size + 2 < (((w.alloc (.cells #[.slice sa sn sc, .slice wa wn wc, .int .i64 arm, .bool dead, .int .i64 ops] 52)).alloc (.cells #[.int .i64 3, .int .i64 N, .int .u8 (byte.toNat : Int), .bool short, .slice ka kn kc] 57)).alloc (.cells #[.slice none 0 0, .slice none 0 0, .int .i64 0, .bool false, .int .i64 0] 52)).heap.size := F3.lt
  have hR1 := hR.keep (fun k hk => hBB.block k (hK k hk))
  have hB1 : Bools K (((w.alloc (.cells #[.slice sa sn sc, .slice wa wn wc, .int .i64 arm, .bool dead, .int .i64 ops] 52)).alloc (.cells #[.int .i64 3, .int .i64 N, .int .u8 (byte.toNat : Int), .bool short, .slice ka kn kc] 57)).alloc (.cells #[.slice none 0 0, .slice none 0 0, .int .i64 0, .bool false, .int .i64 0] 52)) ka kn ks := hB.keep ((Keep.refl w).below hK hBB)
  obtain ⟨S', hS'⟩ : ∃ S', appl S P (keptQ ks) P.length = S' := ⟨_, rfl⟩
  obtain ⟨y, hy⟩ : ∃ y : Int, (cntq (keptQ ks) P.length : Int) = y := ⟨_, rfl⟩
  obtain ⟨P', hP0⟩ : ∃ P' : List (Int × ByteArray), P' = [] := ⟨_, rfl⟩
  obtain ⟨f', hf0⟩ : ∃ f' : Int, f' = 0 := ⟨_, rfl⟩
  obtain ⟨a', ha0⟩ : ∃ a' : Int, a' = 0 := ⟨_, rfl⟩
  obtain ⟨d', hd0⟩ : ∃ d' : Bool, d' = false := ⟨_, rfl⟩
  obtain ⟨o', ho0⟩ : ∃ o' : Int, o' = ops := ⟨_, rfl⟩
  have hcall := rup_as sc arm dead _ hR1 (fun k hk => by have := hK k hk; omega) (by rw [HN.out]; omega) (by omega) (by rw [HN.out]; exact HF.out) (kc := kc) hB1 hS' hy hP0 ha0 hd0 ho0
  have HC := Lib.hid hcall
  have HF' : Hid (Fits P' S.length) := Lib.hid (by rw [hP0]; exact fun j hj => by simp at hj)
  have HA' : Hid (d' = true ∨ a' = f') := Lib.hid (.inr (by omega))
  have HL' : Hid (S'.length = S.length) := Lib.hid (by rw [← hS', appl_length])
  have hP' : P'.length ≤ c + 1 := by rw [hP0]; simp
  have hf' : f' ≤ 9223372036854775807 := by omega
  have hA' : a' ≤ 9223372036854775807 := by omega
  have ho' : 0 ≤ o' := by omega
  have ho2' : o' ≤ ((c + 1 : Nat) : Int) := by omega
  have HE := Lib.hid (And.intro hS' (And.intro hy (And.intro hP0 (And.intro hf0 (And.intro hd0 ho0)))))
  clear hcall hS' hy hP0 hf0 ha0 hd0 ho0
  go_enter Try.func25, Try.ntmps25
  go_wp2_with fail
  refine HC.out.mono ?_
  generalize ((w.alloc (.cells #[.slice sa sn sc, .slice wa wn wc, .int .i64 arm, .bool dead, .int .i64 ops] 52)).alloc (.cells #[.int .i64 3, .int .i64 N, .int .u8 (byte.toNat : Int), .bool short, .slice ka kn kc] 57)).alloc (.cells #[.slice none 0 0, .slice none 0 0, .int .i64 0, .bool false, .int .i64 0] 52) = w1 at *
  rintro e w2 ⟨sa2, sn2, sc2, wa2, wn2, wc2, rfl, hR2, B2⟩
  have hVB : Below w.heap.size w (w2.alloc (.cells #[.slice sa2 sn2 sc2, .slice wa2 wn2 wc2, .int .i64 a', .bool d', .int .i64 o'] 52)) := (below_to hBB B2).alloc (by have := (below_to hBB B2).size; omega) _
  have hs2 : w1.heap.size ≤ w2.heap.size := B2.size
  have x1' := (F2.below B2 (by omega)).alloc (.cells #[.slice sa2 sn2 sc2, .slice wa2 wn2 wc2, .int .i64 a', .bool d', .int .i64 o'] 52)
  have r' := (F3.below B2 (by omega)).alloc (.cells #[.slice sa2 sn2 sc2, .slice wa2 wn2 wc2, .int .i64 a', .bool d', .int .i64 o'] 52)
  have v' := Five.new w2 (.slice sa2 sn2 sc2) (.slice wa2 wn2 wc2) (.int .i64 a') (.bool d') (.int .i64 o') 52
  have hD3 := hD.fence hVB
  have hR3 := hR2.keep (fun k hk => Below.heap_alloc w2 (.cells #[.slice sa2 sn2 sc2, .slice wa2 wn2 wc2, .int .i64 a', .bool d', .int .i64 o'] 52) k (hk.elim (fun hk => by have := hK k hk; omega) (fun hk => hk.2)))
  clear F1 F2 F3 hR2 HC hR1
  have hvs : w2.heap.size < (w2.alloc (.cells #[.slice sa2 sn2 sc2, .slice wa2 wn2 wc2, .int .i64 a', .bool d', .int .i64 o'] 52)).heap.size := by simp
  go_upto_region 16 with (fail)
  generalize w2.alloc (.cells #[.slice sa2 sn2 sc2, .slice wa2 wn2 wc2, .int .i64 a', .bool d', .int .i64 o'] 52) = w3 at hVB x1' r' v' hD3 hR3 hvs ⊢
  have y1 := (x1'.below ((Below.refl w3.heap.size w3).drew) (by omega)).c4
  obtain ⟨v0, v1, v2, v3, v4, -, -, -, -, -⟩ := v'.below ((Below.refl w3.heap.size w3).drew) (by omega)
  have hD3' : Disk (fenceK K w w3) w3 d sb S pv P fuse dead ops := hD3
  have hD3d := hD3'.below ((Below.refl w3.heap.size w3).drew)
  have hKa : fenceK K w w3 (w.heap.size + 1) := .inr ⟨by omega, by omega⟩
  have hKv : fenceK K w w3 w2.heap.size := .inr ⟨by omega, by omega⟩
  have hKr : fenceK K w w3 (w.heap.size + 2) := .inr ⟨by omega, by omega⟩
  have hne1 : w.heap.size + 1 ≠ w.heap.size + 2 := by omega
  have hne2 : w2.heap.size ≠ w.heap.size + 2 := by omega
  have rd := r'.below ((Below.refl w3.heap.size w3).drew) (by omega)
  clear hD3 x1' r'
  have HFS : Hid (Fits P S.length) := Lib.hid (by rw [HN.out]; exact HF.out)
  have hK3 : Keep K w w3.drew := ((Keep.refl w).below hK hVB).below hK ((Below.refl w3.heap.size w3).drew.mono (by have := hVB.size; omega))
  have HUP := Lib.hid (up_as hD3d HFS.out (by omega) (kc := kc) ((hB.keep hK3).wider (fun k hk => (Or.inl hk : fenceK K w w3 k))) HE.out)
  go_region_held3 (fun w' => w'.cell? ⟨w.heap.size + 1, 4, none⟩ = some (.slice ka kn kc) ∧ w'.cell? ⟨w2.heap.size, 0, none⟩ = some (.slice sa2 sn2 sc2) ∧ w'.cell? ⟨w2.heap.size, 1, none⟩ = some (.slice wa2 wn2 wc2) ∧ w'.cell? ⟨w2.heap.size, 2, none⟩ = some (.int .i64 a') ∧ w'.cell? ⟨w2.heap.size, 3, none⟩ = some (.bool d') ∧ w'.cell? ⟨w2.heap.size, 4, none⟩ = some (.int .i64 o'))
    (first | with_reducible exact ⟨y1, v0, v1, v2, v3, v4⟩ | with_reducible exact sxo_keep hKw hKa hKv (by assumption) | with_reducible exact sxo_put hne1 hne2 (by assumption))
    (first | (go_at_call 38; refine HUP.out.mono ?_; rintro e w4 ⟨rfl, hDw, hKw⟩; obtain ⟨d0, d1, d2, d3, d4, e0, e1, e2, e3, e4⟩ := rd.block (hKw.block _ hKr)))
  obtain ⟨pv', hDw⟩ := hDw
  have hKz := ((Keep.refl w3).below hD3'.lt ((Below.refl w3.heap.size w3).drew)).trans hKw
  have h3 : ∀ k, fenceK K w1 w2 k → fenceK K w w3 k ∧ k ≠ w.heap.size + 2 := fun k hk => hk.elim (fun h => ⟨.inl h, by have := hK k h; omega⟩) (fun h => ⟨.inr ⟨by omega, by omega⟩, by omega⟩)
  have FIN := fin_one (sc := sc2) hK hVB (show w.heap.size ≤ w.heap.size + 2 by omega) (by omega) hDw hKz hR3 h3 (HL'.out.trans HN.out) (by rw [← HN.out]; exact HF'.out) hP' HA'.out hf' hA' ho' ho2' (.slice sa2 sn2 sc2) (.slice wa2 wn2 wc2) (.int .i64 a') (.bool d') (.int .i64 o')
  have HFIN := Lib.hid FIN
  clear FIN h3 hKz hDw hKw hD3d hD3' hR3 HF' HA' HL' hVB
  go_wp2_with fail
  refine bodyPost_ret (v := .tuple #[.pointer (some ⟨d, 0, none⟩), .agg #[.slice sa2 sn2 sc2, .slice wa2 wn2 wc2, .int .i64 a', .bool d', .int .i64 o'], .bool true]) (by simp [results, Try.results25, go_sem, d0, d1, d2, d3, d4]) rfl ?_
  exact HFIN.out
end
end Go.Proofs.Ytplngodilalbhaa
