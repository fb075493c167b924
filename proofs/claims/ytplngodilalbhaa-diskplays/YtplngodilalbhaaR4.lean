/- The reference's disk: Write. -/
import Derived.Test.YtplngodilalbhaaR3
namespace Go.Proofs.Ytplngodilalbhaa
open Go.RowKit Go.Shelf
theorem info102 : (Try.prog.info? 102).map (fun i => (i.zero, i.size, i.bytes)) = some (some (.agg #[.int .i64 0, .string ⟨#[]⟩]), 2, 24) := by kernel_rfl
section
variable {K : Nat → Prop} {sa wa : Option Addr} {sn wn wc : Nat} {S : List ByteArray} {W : List (Int × ByteArray)}
theorem rd_of {w w' : World} {y : Int} (sc : Nat) (arm : Int) (dead : Bool) (ops : Int) (h : Ref K w sa sn wa wn wc S W) (hK : ∀ k, K k → k < w.heap.size) (B : Below w.heap.size w w') :
    RdRet K S W arm dead ops y w (.returned (.tuple #[.agg #[.slice sa sn sc, .slice wa wn wc, .int .i64 arm, .bool dead, .int .i64 ops], .int .i64 y])) w' :=
  ⟨_, _, _, _, _, _, rfl, (h.keep (fun k hk => B.block k (hK k hk))).wider (fun _ hk => .inl hk), B⟩
set_option maxRecDepth 100000 in
set_option maxHeartbeats 1000000 in
theorem rwrite_bad (sc : Nat) (arm : Int) (dead : Bool) (ops : Int) (i : Int) (s : ByteArray) (w : World) (h : Ref K w sa sn wa wn wc S W) (hK : ∀ k, K k → k < w.heap.size) (hi : i < 0 ∨ (S.length : Int) ≤ i ∨ s.size ≠ 512) :
    Calls Try.prog 57 #[.agg #[.slice sa sn sc, .slice wa wn wc, .int .i64 arm, .bool dead, .int .i64 ops], .int .i64 i, .string s] w (RdRet K S W arm dead ops 18 w) := by
  have hn := h.sn
  have hc : (i < 0) ∨ (0 ≤ i ∧ (sn : Int) ≤ i) ∨ (0 ≤ i ∧ i < (sn : Int) ∧ s.size ≠ 512) := by omega
  have fin := fun w' B => rd_of (y := 18) sc arm dead ops h hK (w' := w') B
  have FIN := Lib.hid fin
  clear fin h hi hn
  rcases hc with h1 | ⟨h1, h2⟩ | ⟨h1, h2, h3⟩
  · go_enter Try.func57, Try.ntmps57
    go_wp2
    refine bodyPost_ret (v := .tuple #[.agg #[.slice sa sn sc, .slice wa wn wc, .int .i64 arm, .bool dead, .int .i64 ops], .int .i64 18]) (by simp [results, Try.results57, go_sem]) rfl (FIN.out _ ?_)
    repeat (first | exact ((Below.refl _ w).alloc (Nat.le_refl _) _).alloc (by simp) _ | refine Below.setCell ?_ (by simp) _)
  · go_enter Try.func57, Try.ntmps57
    go_wp2
    refine bodyPost_ret (v := .tuple #[.agg #[.slice sa sn sc, .slice wa wn wc, .int .i64 arm, .bool dead, .int .i64 ops], .int .i64 18]) (by simp [results, Try.results57, go_sem]) rfl (FIN.out _ ?_)
    repeat (first | exact ((Below.refl _ w).alloc (Nat.le_refl _) _).alloc (by simp) _ | refine Below.setCell ?_ (by simp) _)
  · have hs : ((s.size : Int) == 512) = false := by rw [beq_eq_false_iff_ne]; omega
    have hs' : ((s.size : Int) != 512) = true := by rw [bne_iff_ne]; omega
    clear h3
    go_enter Try.func57, Try.ntmps57
    go_wp2
    refine bodyPost_ret (v := .tuple #[.agg #[.slice sa sn sc, .slice wa wn wc, .int .i64 arm, .bool dead, .int .i64 ops], .int .i64 18]) (by simp [results, Try.results57, go_sem]) rfl (FIN.out _ ?_)
    repeat (first | exact ((Below.refl _ w).alloc (Nat.le_refl _) _).alloc (by simp) _ | refine Below.setCell ?_ (by simp) _)
set_option maxRecDepth 100000 in
set_option maxHeartbeats 1000000 in
theorem rwrite_down (sc : Nat) (arm : Int) (dead : Bool) (ops : Int) (i : Int) (s : ByteArray) (w : World) (h : Ref K w sa sn wa wn wc S W) (hK : ∀ k, K k → k < w.heap.size) (h1 : 0 ≤ i) (h2 : i < S.length) (h3 : s.size = 512)
    (hf2 : arm ≤ 9223372036854775807) (ho : 0 ≤ ops) (ho2 : ops < 4611686018427387904) (arm' : Int) (dead' : Bool) (ops' : Int) (hq : opR arm dead ops = (false, arm', dead', ops')) :
    Calls Try.prog 57 #[.agg #[.slice sa sn sc, .slice wa wn wc, .int .i64 arm, .bool dead, .int .i64 ops], .int .i64 i, .string s] w (RdRet K S W arm' dead' ops' 17 w) := by
  have hn := h.sn
  have h2' : i < (sn : Int) := by omega
  have hs : ((s.size : Int) == 512) = true := by rw [beq_iff_eq]; omega
  have hs' : ((s.size : Int) != 512) = false := by rw [bne_eq_false_iff_eq]; omega
  have n1 := Lib.hid (fun w => rstep_any sa sn sc wa wn wc arm dead ops w hf2 ho ho2 _ _ _ _ hq)
  have H := Lib.hid h
  clear h hn h3 hq h2
  go_enter Try.func57, Try.ntmps57
  go_wp2_with fail
  refine (n1.out _).mono ?_
  rintro e w1 ⟨rfl, B⟩
  have F1 := ((Five.new w (.slice sa sn sc) (.slice wa wn wc) (.int .i64 arm) (.bool dead) (.int .i64 ops) 52).alloc (.cells #[.slice none 0 0, .slice none 0 0, .int .i64 0, .bool false, .int .i64 0] 52)).below B (by simp; omega)
  have F2 := (Five.new (w.alloc (.cells #[.slice sa sn sc, .slice wa wn wc, .int .i64 arm, .bool dead, .int .i64 ops] 52)) (.slice none 0 0) (.slice none 0 0) (.int .i64 0) (.bool false) (.int .i64 0) 52).below B (by simp)
  have hwb : (w.alloc (.cells #[.slice sa sn sc, .slice wa wn wc, .int .i64 arm, .bool dead, .int .i64 ops] 52)).heap.size = w.heap.size + 1 := by simp
  rw [hwb] at F2
  have B' := below_to (((Below.refl _ w).alloc (Nat.le_refl _) (.cells #[.slice sa sn sc, .slice wa wn wc, .int .i64 arm, .bool dead, .int .i64 ops] 52)).alloc (by simp) (.cells #[.slice none 0 0, .slice none 0 0, .int .i64 0, .bool false, .int .i64 0] 52)) B
  clear hwb B
  have G1 := F1.put (.slice sa sn sc) (.slice wa wn wc) (.int .i64 arm') (.bool dead') (.int .i64 ops')
  have G2 := F2.block (put5_block w1 w.heap.size (.slice sa sn sc) (.slice wa wn wc) (.int .i64 arm') (.bool dead') (.int .i64 ops') (w.heap.size + 1) (by omega))
  have B2 := put5_below (b := w.heap.size) B' (Nat.le_refl _) (.slice sa sn sc) (.slice wa wn wc) (.int .i64 arm') (.bool dead') (.int .i64 ops')
  obtain ⟨c0, c1, c2, c3, c4, f0, f1, f2, f3, f4⟩ := F1
  go_upto_region 5 with (fail)
  unfold put5 at G1 G2 B2
  generalize ((((w1.setCell ⟨w.heap.size, 0, none⟩ (.slice sa sn sc)).setCell ⟨w.heap.size, 1, none⟩ (.slice wa wn wc)).setCell ⟨w.heap.size, 2, none⟩ (.int .i64 arm')).setCell ⟨w.heap.size, 3, none⟩ (.bool dead')).setCell ⟨w.heap.size, 4, none⟩ (.int .i64 ops') = w2 at G1 G2 B2 ⊢
  clear c0 c1 c2 c3 c4 f0 f1 f2 f3 f4 F2 B' n1
  obtain ⟨c0, c1, c2, c3, c4, f0, f1, f2, f3, f4⟩ := G1
  obtain ⟨d0, d1, d2, d3, d4, e0, e1, e2, e3, e4⟩ := G2
  go_wp2_with fail
  refine bodyPost_ret (v := .tuple #[.agg #[.slice sa sn sc, .slice wa wn wc, .int .i64 arm', .bool dead', .int .i64 ops'], .int .i64 17]) (by simp [results, Try.results57, go_sem, d0, d1, d2, d3, d4]) rfl (rd_of sc arm' dead' ops' H.out hK ?_)
  iterate 5 refine Below.setCell ?_ (by simp) _
  exact B2
end
end Go.Proofs.Ytplngodilalbhaa
