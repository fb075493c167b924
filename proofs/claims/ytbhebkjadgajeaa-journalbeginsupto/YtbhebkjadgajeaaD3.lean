/- Contracts: Write. -/
import Derived.Test.YtbhebkjadgajeaaD2
namespace Go.Proofs.Ytbhebkjadgajeaa
open Go.RowKit
theorem info107 : (Try.prog.info? 92).map (fun i => (i.zero, i.size, i.bytes)) = some (some (.agg #[.int .i64 0, .string ⟨#[]⟩]), 2, 24) := by kernel_rfl
theorem write_nil (i : Int) (s : ByteArray) (w : World) : Calls Try.prog 41 #[.pointer none, .int .i64 i, .string s] w fun e w' => e = .returned (.int .i64 18) ∧ w = w' := by
  go_enter Try.func41, Try.ntmps41
  go_wp2_with fail
  refine (has_nil _ _).mono ?_
  rintro e w' ⟨rfl, rfl⟩
  go_wp2_with fail
  go_ret
  exact ⟨rfl, rfl⟩
section
variable {K : Nat → Prop} {w w1 : World} {d sb : Nat} {S : List ByteArray} {pv : Value} {P : List (Int × ByteArray)} {fuse : Int} {down : Bool} {ops : Int}
theorem write_out (h : Disk K w d sb S pv P fuse down ops) (i : Int) (s : ByteArray) (hi : i < 0 ∨ (S.length : Int) ≤ i) : Calls Try.prog 41 #[.pointer (some ⟨d, 0, none⟩), .int .i64 i, .string s] w fun e w' => e = .returned (.int .i64 18) ∧ w = w' := by
  have H := Lib.hid hi
  clear hi
  go_enter Try.func41, Try.ntmps41
  go_wp2_with fail
  refine (has_no h i H.out).mono ?_
  rintro e w' ⟨rfl, rfl⟩
  go_wp2_with fail
  go_ret
  exact ⟨rfl, rfl⟩
theorem write_short (h : Disk K w d sb S pv P fuse down ops) (i : Nat) (s : ByteArray) (hi : i < S.length) (hs : s.size ≠ 512) : Calls Try.prog 41 #[.pointer (some ⟨d, 0, none⟩), .int .i64 (i : Int), .string s] w fun e w' => e = .returned (.int .i64 18) ∧ w = w' := by
  have hd : ((s.size : Int) != 512) = true := by rw [bne_iff_ne]; omega
  clear hs
  go_enter Try.func41, Try.ntmps41
  go_wp2_with fail
  refine (has_yes h i hi).mono ?_
  rintro e w' ⟨rfl, rfl⟩
  go_wp2_with fail
  go_ret
  exact ⟨rfl, rfl⟩
theorem write_down (h : Disk K w d sb S pv P fuse down ops) (i : Nat) (s : ByteArray) (hi : i < S.length) (hs : s.size = 512) (hf2 : fuse ≤ 9223372036854775807) (ho : 0 ≤ ops) (ho2 : ops < 4611686018427387904) (fuse' ops' : Int) (down' : Bool) (hop : opF fuse down ops = (17, fuse', down', ops')) :
    Calls Try.prog 41 #[.pointer (some ⟨d, 0, none⟩), .int .i64 (i : Int), .string s] w fun e w' => e = .returned (.int .i64 17) ∧ Disk K w' d sb S pv P fuse' down' ops' ∧ Keep K w w' := by
  have hd : ((s.size : Int) != 512) = false := by rw [bne_eq_false_iff_eq]; omega
  have n1 := operate_any h hf2 ho ho2
  rw [hop] at n1
  have N1 := Lib.hid n1
  clear n1 hop hs
  go_enter Try.func41, Try.ntmps41
  go_wp2_with fail
  refine (has_yes h i hi).mono ?_
  rintro e w' ⟨rfl, rfl⟩
  go_wp2_with fail
  refine N1.out.mono ?_
  rintro e w1 ⟨rfl, hD, hK⟩
  go_wp2_with fail
  go_ret
  exact ⟨rfl, hD, hK⟩
theorem Disk.grown1 (h : Disk K w d sb S pv P fuse down ops) (o : Obj) {w4 : World} (hg : (w.alloc o).grownBy w4 pv.ownBlock) : w4.cell? ⟨d, 1, none⟩ = some pv ∧ w4.frozen? ⟨d, 1, none⟩ = false := by
  have hd : w4.heap[d]? = w.heap[d]? := (hg.block d (by have := h.dlt; simp; omega) (fun e => (h.np d e.symm).2.1 rfl)).trans (Below.heap_alloc w o d h.dlt)
  exact ⟨(World.cell?_of_block (a := ⟨d, 1, none⟩) hd).trans h.c1, (World.frozen?_of_block (a := ⟨d, 1, none⟩) hd).trans h.f1⟩
/-- The disk behind an append. -/
theorem Disk.appended (h : Disk K w d sb S pv P fuse down ops) (o : Obj) {a : Int} {t : ByteArray} {g' cap' : Nat} {w4 : World} (hown : w4.ownsRow 0 92 2 (.slice (some ⟨g', 0, none⟩) (P.length + 1) cap') (P.length + 1) (flat P ++ [.int .i64 a, .string t]))
    (hg : (w.alloc o).grownBy w4 pv.ownBlock) (hg' : pv.ownBlock = some g' ∨ g' = w.heap.size + 1) :
    Disk K (w4.setCell ⟨d, 1, none⟩ (.slice (some ⟨g', 0, none⟩) (P.length + 1) cap')) d sb S (.slice (some ⟨g', 0, none⟩) (P.length + 1) cap') (P ++ [(a, t)]) fuse down ops ∧ Keep K w (w4.setCell ⟨d, 1, none⟩ (.slice (some ⟨g', 0, none⟩) (P.length + 1) cap')) := by
  have hsz : w.heap.size ≤ w4.heap.size := by have := hg.size; simp at this; omega
  have blk : ∀ k, k < w.heap.size → pv.ownBlock ≠ some k → w4.heap[k]? = w.heap[k]? := fun k hk hn => (hg.block k (by simp; omega) (fun e => hn e.symm)).trans (Below.heap_alloc w o k hk)
  have hd : w4.heap[d]? = w.heap[d]? := blk d h.dlt (fun e => (h.np d e).2.1 rfl)
  have hb : w4.heap[sb]? = w.heap[sb]? := blk sb h.slt (fun e => (h.np sb e).2.2 rfl)
  have hgd : ¬ K g' ∧ g' ≠ d ∧ g' ≠ sb := by
    rcases hg' with e | rfl
    · exact h.np g' e
    · exact ⟨fun hk => by have := h.lt _ hk; omega, by have := h.dlt; omega, by have := h.slt; omega⟩
  have o' : ∀ j, j ≠ 1 → (w4.setCell ⟨d, 1, none⟩ (.slice (some ⟨g', 0, none⟩) (P.length + 1) cap')).cell? ⟨d, j, none⟩ = w.cell? ⟨d, j, none⟩ := fun j hj => (other _ _ _ _ _ (fun e => hj e.symm)).trans (World.cell?_of_block (a := ⟨d, j, none⟩) hd)
  have fz : ∀ j, (w4.setCell ⟨d, 1, none⟩ (.slice (some ⟨g', 0, none⟩) (P.length + 1) cap')).frozen? ⟨d, j, none⟩ = w.frozen? ⟨d, j, none⟩ := fun j => (World.frozen?_setCell ..).trans (World.frozen?_of_block (a := ⟨d, j, none⟩) hd)
  refine ⟨⟨h.c0.imp fun _ h0 => (o' 0 (by omega)).trans h0, World.cell?_setCell_same _ _ _ ((World.cell?_of_block (a := ⟨d, 1, none⟩) hd).trans h.c1), (o' 2 (by omega)).trans h.c2, (o' 3 (by omega)).trans h.c3, (o' 4 (by omega)).trans h.c4, (fz 1).trans h.f1, (fz 2).trans h.f2, (fz 3).trans h.f3, (fz 4).trans h.f4, ?_, ?_, h.nd, h.ns, ?_, h.ne, ?_, ?_⟩, ?_⟩
  · intro j hj
    exact ⟨(World.cell?_setCell_other _ _ _ _ (fun e => h.ne (by injection e))).trans ((World.cell?_of_block (a := ⟨sb, j, none⟩) hb).trans (h.row j hj).1), (World.frozen?_setCell ..).trans ((World.frozen?_of_block (a := ⟨sb, j, none⟩) hb).trans (h.row j hj).2)⟩
  · rw [flat_snoc, List.length_append]
    refine ⟨hown.1, ?_⟩
    rcases hown.2 with ⟨e, _⟩ | ⟨g, cap, cur, hv, h1, h2, h3⟩
    · cases e
    · refine .inr ⟨g, cap, cur, hv, h1, ?_, h3⟩
      have hgg : g = g' := by injection hv with e1 _ _; injection e1 with e2; injection e2 with e3; exact e3.symm
      exact (Below.heap_setCell w4 ⟨d, 1, none⟩ _ g (by rw [hgg]; exact hgd.2.1)).trans h2
  · intro k hk
    have : g' = k := by simpa [Value.ownBlock] using hk
    rw [← this]; exact hgd
  · have := h.slt; simp; omega
  · intro k hk; have := h.lt k hk; simp; omega
  · have hk0 : Keep K w w4 := ⟨hg.os, hg.tape, hg.output, hsz, fun k hk => blk k (h.lt k hk) (fun e => (h.np k e).1 hk)⟩
    exact hk0.setCell h.nd _
set_option maxHeartbeats 400000 in
theorem write_ok (h : Disk K w d sb S pv P fuse down ops) (i : Nat) (s : ByteArray) (hi : i < S.length) (hs : s.size = 512) (hP : P.length ≤ 1000000) (hf2 : fuse ≤ 9223372036854775807) (ho : 0 ≤ ops) (ho2 : ops < 4611686018427387904) (fuse' ops' : Int) (down' : Bool) (hop : opF fuse down ops = (0, fuse', down', ops')) :
    Calls Try.prog 41 #[.pointer (some ⟨d, 0, none⟩), .int .i64 (i : Int), .string s] w fun e w' => e = .returned (.int .i64 0) ∧ (∃ pv', Disk K w' d sb S pv' (P ++ [((i : Int), s)]) fuse' down' ops') ∧ Keep K w w' := by
  have hd : ((s.size : Int) != 512) = false := by rw [bne_eq_false_iff_eq]; omega
  have n1 := operate_any h hf2 ho ho2
  rw [hop] at n1
  have N1 := Lib.hid n1
  obtain ⟨i0, hi0, hz0, hz1, hz2⟩ := info_parts info107
  clear n1 hop hs
  go_enter Try.func41, Try.ntmps41
  go_wp2_with fail
  refine (has_yes h i hi).mono ?_
  rintro e w' ⟨rfl, rfl⟩
  go_wp2_with fail
  refine N1.out.mono ?_
  rintro e w1 ⟨rfl, hD, hK⟩
  clear h
  have hown := hD.pend
  have c1 := hD.c1
  go_wp2_with (at_builtin; refine wpList_append_fresh _ rfl _ _ 61 rfl 92 i0 (.agg #[.int .i64 0, .string ⟨#[]⟩]) 2 24 Try.underlying61 hi0 hz0 hz1 hz2 rfl (by decide) _ _ _ rfl (hown.alloc _) ⟨w1.heap.size, 0, none⟩ 1 1 (by decide) [.int .i64 (i : Int), .string s] rfl rfl ?c1 ?c2 ?c3 ?c4 ?_)
  case c1 =>
    intro j u hj
    match j, hj with
    | 0, hj => simp at hj; subst hj; simp [Addr.add]
    | 1, hj => simp at hj; subst hj; simp [Addr.add]
  case c2 => intro u hu; simp at hu; rcases hu with rfl | rfl <;> rfl
  case c3 => unfold maxLen; omega
  case c4 => omega
  intro g' cap' w4 hown' hgrow hg'
  obtain ⟨hE, hK2⟩ := hD.appended _ hown' hgrow hg'
  obtain ⟨g1, g2⟩ := hD.grown1 _ hgrow
  clear c1 hown hown' hgrow hg' hD
  go_wp2_with fail
  go_ret
  exact ⟨rfl, ⟨_, hE⟩, hK.trans hK2⟩
end
end Go.Proofs.Ytbhebkjadgajeaa
