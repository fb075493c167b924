/- Contract: a leaf, read: the walk. -/
import Derived.Test.YtnjpijihjifkfaaTA
namespace Go.Proofs.Ytnjpijihjifkfaa
open Go.RowKit
set_option linter.unusedVariables false
/-- A slice in memory of the call's own. -/
def Fresh (h : Nat) (a : Option Addr) : Prop := ∀ x, a = some x → h ≤ x.block
theorem own_fresh {w : World} {base n c h : Nat} {T : TypeId} {sz : Nat} {a : Option Addr} {xs : List Value} (H : w.ownsRow base T sz (.slice a n c) n xs) (hb : h ≤ base) : Fresh h a := by
  intro x hx
  subst hx
  exact Nat.le_trans hb (H.lt x.block rfl).1
/-- How reading a node ends. -/
def RdNode (w : World) (b : Nat) (L : List It) (K : List Int) (e : Ending) (w' : World) : Prop :=
  ∃ a n c ka kn kc, e = .returned (.agg #[.slice a n c, .slice ka kn kc]) ∧ n ≤ c ∧ kn ≤ kc ∧ Fresh w.heap.size a ∧ Fresh w.heap.size ka ∧ Its w' a n L ∧ Kds w' ka kn K ∧ Only b w w'
theorem Its.block {w w1 : World} {a : Option Addr} {n : Nat} {I : List It} (h : Its w a n I) (H : ∀ b off, a = some ⟨b, off, none⟩ → 0 < n → b < w1.heap.size ∧ w1.heap[b]? = w.heap[b]?) : Its w1 a n I := by
  refine ⟨h.1, ?_⟩
  rcases h.2 with h0 | ⟨b, off, ha, hb, hc⟩
  · exact .inl h0
  · by_cases h0 : n = 0
    · exact .inl h0
    · have hB := H b off ha (by omega)
      exact .inr ⟨b, off, ha, hB.1, fun j hj => ⟨(World.cell?_of_block (a := ⟨b, off + j * 2, none⟩) hB.2).trans (hc j hj).1, (World.cell?_of_block (a := ⟨b, off + j * 2 + 1, none⟩) hB.2).trans (hc j hj).2⟩⟩
theorem rdLeaf_succ (n : Nat) (s t t2 : ByteArray) (e y y2 : Int) (p q : ByteArray) (h1 : shortS s e = (t, y, p)) (h2 : shortS t y = (t2, y2, q)) : rdLeaf (n + 1) s e = (p, q) :: rdLeaf n t2 y2 := by
  rw [rdLeaf, h1, h2]
set_option maxRecDepth 100000 in
set_option maxHeartbeats 4000000 in
theorem readLeaf_any (b many : Nat) (s : ByteArray) (e : Int) (w : World) (hr : Rd w b s e) (hw : RWf s e) (hs : s.size ≤ maxLen) (hm : many ≤ 255) :
    Calls Try.prog 60 #[.pointer (some ⟨b, 0, none⟩), .int .i64 (many : Int)] w (RdNode w b (rdLeaf many s e) []) := by
  obtain ⟨i0, hi0, hz0, hz1, hz2⟩ := info_parts info44
  have HW := Lib.hid hw
  have HS := Lib.hid hs
  have hbl := hr.lt
  have N0 := (Nb.fresh w (.slice none 0 0) (.slice none 0 0) 31).below (new_below _ (.cells #[.slice none 0 0, .slice none 0 0] 31))
  have N1 := Nb.fresh (w.alloc (.cells #[.slice none 0 0, .slice none 0 0] 31)) (.slice none 0 0) (.slice none 0 0) 31
  have hR := (hr.below (new_below w (.cells #[.slice none 0 0, .slice none 0 0] 31))).below (new_below _ (.cells #[.slice none 0 0, .slice none 0 0] 31))
  have hO : Only b w ((w.alloc (.cells #[.slice none 0 0, .slice none 0 0] 31)).alloc (.cells #[.slice none 0 0, .slice none 0 0] 31)) := ((Only.refl b w).alloc _).alloc _
  have hsz : ((w.alloc (.cells #[.slice none 0 0, .slice none 0 0] 31)).alloc (.cells #[.slice none 0 0, .slice none 0 0] 31)).heap.size = w.heap.size + 2 := by simp
  have hs1 : (w.alloc (.cells #[.slice none 0 0, .slice none 0 0] 31)).heap.size = w.heap.size + 1 := by simp
  rw [hs1] at N1
  clear hr hw hs hs1
  go_enter Try.func60, Try.ntmps60
  go_wp2_with fail
  generalize (w.alloc (.cells #[.slice none 0 0, .slice none 0 0] 31)).alloc (.cells #[.slice none 0 0, .slice none 0 0] 31) = w2 at N0 N1 hR hO hsz ⊢
  have hsz2 : w.heap.size + 2 ≤ w2.heap.size := by omega
  clear hsz
  go_loopw [8] (fun i wx => ∃ (k : Nat) (t : ByteArray) (y : Int) (L : List It) (v : Value), k ≤ many ∧ Hid (L ++ rdLeaf (many - k) t y = rdLeaf many s e) ∧ Hid (RWf t y) ∧ Hid (t.size ≤ maxLen) ∧ Rd wx b t y ∧ wx.ownsRow (w.heap.size + 2) 44 2 v k (flatI L) ∧ Nb wx w.heap.size (.slice none 0 0) (.slice none 0 0) ∧ Nb wx (w.heap.size + 1) v (.slice none 0 0) ∧ Only b w wx ∧ w.heap.size + 2 ≤ wx.heap.size ∧ i = .int .i64 (k : Int)) (fun i _ => many - (intOf i).toNat)
  case atStart => exact ⟨0, s, e, [], .slice none 0 0, by omega, Lib.hid (by simp), HW, HS, hR, World.ownsRow_nil _ _ _ _, N0, N1, hO, hsz2, rfl⟩
  case round =>
    clear N0 N1 hR hO hsz2
    obtain ⟨k, t, y, L, v, hk, HL, HWF, HTS, hR, hown, N0, N1, hO, hsz, rfl⟩ := hrel
    by_cases hlt : k < many
    · obtain ⟨t1, y1, p, h1⟩ : ∃ t1 y1 p, shortS t y = (t1, y1, p) := ⟨_, _, _, rfl⟩
      obtain ⟨t2, y2, q, h2⟩ : ∃ t2 y2 q, shortS t1 y1 = (t2, y2, q) := ⟨_, _, _, rfl⟩
      have hw1 := shortS_wf HWF.out
      have hl1 := shortS_le t y
      rw [h1] at hw1 hl1
      have hw2 := shortS_wf hw1
      have hl2 := shortS_le t1 y1
      rw [h2] at hw2 hl2
      have hts1 := Nat.le_trans hl1 HTS.out
      have HTS2 := Lib.hid (Nat.le_trans hl2 hts1)
      have HWF2 := Lib.hid hw2
      have HL2 := Lib.hid (show (L ++ [(p, q)]) ++ rdLeaf (many - (k + 1)) t2 y2 = rdLeaf many s e by
        rw [← HL.out, show many - k = (many - (k + 1)) + 1 by omega, rdLeaf_succ _ _ _ _ _ _ _ _ _ h1 h2, List.append_assoc]; rfl)
      have K1 := Lib.hid (fun w hr => readShort_any b t t1 y y1 p h1 w hr HWF.out HTS.out)
      have K2 := Lib.hid (fun w hr => readShort_any b t1 t2 y1 y2 q h2 w hr hw1 hts1)
      have hnb0 : w.heap.size ≠ b := by omega
      have hnb1 : w.heap.size + 1 ≠ b := by omega
      clear h1 h2 hw1 hl1 hw2 hl2 hts1
      go_wp2_with fail
      refine (K1.out _ hR).mono ?_
      rintro e w3 ⟨rfl, R3, o3⟩
      have own3 := own_only hown o3 (by omega)
      have M0 := N0.only o3 hnb0
      have M1 := N1.only o3 hnb1
      have O3 := hO.trans o3
      have hsz3 := Nat.le_trans hsz o3.size
      clear hR hown N0 N1 hO o3 hsz
      go_wp2_with fail
      have c0 := M1.c0
      have c0d : w3.drew.cell? ⟨w.heap.size + 1, 0, none⟩ = some v := c0
      have R3d : Rd w3.drew b t1 y1 := ⟨R3.c0, R3.c1, R3.f0, R3.f1⟩
      have O3d : Only b w w3.drew := ⟨O3.os, O3.tape, O3.output, O3.size, O3.block⟩
      go_region_law (first
        | (refine step_append_lies _ (by rfl) (.tmp 13) (.tmp 18) 22 (by rfl) (w.heap.size + 2) 44 i0 (.agg #[.string ByteArray.empty, .string ByteArray.empty]) 2 32 Try.underlying22 hi0 hz0 hz1 hz2 (by rfl) (by decide) v k (flatI L) (by rfl) (own4.alloc _) ⟨w4.heap.size, 0, none⟩ 1 1 (itemV (p, q)) (by rfl) (by rfl) (item_cells w4 (p, q) 44) (itemV_one (p, q)) (by omega) (by unfold maxLen; omega) (by omega) (by have := hsz4; simp; omega) _ rfl ?_; intro g cap w5 own5 grow5 _ _; have P1 := (Q1.below (new_below w4 (.cells (itemV (p, q)).toArray 44))).grown grow5.size grow5 (fun e => by have := own4.lt _ e.symm; omega); have d0 := P1.c0; have df := P1.f0)
        | (go_simp; go_at_call 81; refine (K2.out _ R3d).mono ?_; rintro e w4 ⟨rfl, R4, o4⟩; have own4 := own_only (show w3.drew.ownsRow (w.heap.size + 2) 44 2 v k (flatI L) from own3) o4 (by omega); have Q0 := Nb.only (show Nb w3.drew w.heap.size (.slice none 0 0) (.slice none 0 0) from ⟨M0.lt, M0.c0, M0.c1, M0.f0, M0.f1⟩) o4 hnb0; have Q1 := Nb.only (show Nb w3.drew (w.heap.size + 1) v (.slice none 0 0) from ⟨M1.lt, M1.c0, M1.c1, M1.f0, M1.f1⟩) o4 hnb1; have hsz4 : w.heap.size + 2 ≤ w4.heap.size := Nat.le_trans hsz3 o4.size; have e0 := Q1.c0; have e1 := (Q1.below (new_below w4 (.cells #[.string p, .string q] 44))).c0))
      all_goals
        have P0 := (Q0.below (new_below w4 (.cells (itemV (p, q)).toArray 44))).grown grow5.size grow5 (fun e => by have := own4.lt _ e.symm; omega)
        have R5 := rd_grown (R4.below (new_below w4 (.cells (itemV (p, q)).toArray 44))) grow5 (fun e => by have := own4.lt _ e.symm; omega)
        have O5 : Only b w w5 := only_grown ((O3d.trans o4).alloc (.cells (itemV (p, q)).toArray 44)) grow5 grow5.size (fun g hg => by have := own4.lt _ hg; omega)
        have hsz5 : w.heap.size + 2 ≤ w5.heap.size := Nat.le_trans hsz4 (Nat.le_trans (new_below w4 (.cells (itemV (p, q)).toArray 44)).size grow5.size)
        clear own3 M0 M1 O3 hsz3 c0 c0d R3 R3d O3d own4 Q0 Q1 R4 o4 hsz4 e0 e1 grow5 d0 df
        go_wp2_with fail
        go_roundw
        case rel => exact ⟨k + 1, t2, y2, L ++ [(p, q)], _, by omega, HL2, HWF2, HTS2, rd_set R5 _ hnb1, by rw [flatI_snoc]; exact own_set own5 (by omega), P0.set_far _ (by omega), P1.set0 _, only_set O5 (by omega), by simpa using hsz5, by go_num⟩
        case measure => simp [intOf]; omega
    · obtain rfl : k = many := by omega
      have hL : L = rdLeaf k s e := by have := HL.out; rwa [Nat.sub_self, rdLeaf, List.append_nil] at this
      obtain ⟨a, c, hv, hac, _⟩ := its_of_own hown
      subst hv
      have own2 := own_set (g := w.heap.size) (o := 1) (x := .slice none 0 0) (own_set (g := w.heap.size) (o := 0) (x := .slice a k c) hown (by omega)) (by omega)
      obtain ⟨a2, c2, hv2, _, hI2⟩ := its_of_own own2
      simp only [Value.slice.injEq, true_and] at hv2
      obtain ⟨rfl, rfl⟩ := hv2
      have M := (N0.set0 (.slice a k c)).set1 (.slice none 0 0)
      have hOO := only_set (g := w.heap.size) (o := 1) (x := .slice none 0 0) (only_set (g := w.heap.size) (o := 0) (x := .slice a k c) hO (by omega)) (by omega)
      have HI2 := Lib.hid hI2
      have HFR := Lib.hid (own_fresh (h := w.heap.size) hown (by omega))
      have HLL := Lib.hid hL
      have c0 := N1.c0
      have c1 := N1.c1
      have d0 := N0.c0
      have d1 := N0.c1
      have f0 := N0.f0
      have f1 := N0.f1
      have m0 := M.c0
      have m1 := M.c1
      clear hR hown own2 hO hI2 hL
      go_wp2_with fail
      refine bodyPost_ret (v := .agg #[.slice a k c, .slice none 0 0]) (by simp [results, Try.results60, go_sem, m0, m1]) rfl ?_
      exact ⟨a, k, c, none, 0, 0, rfl, hac, by omega, HFR.out, (by intro x hx; cases hx), by rw [← HLL.out]; exact HI2.out, ⟨rfl, .inl rfl⟩, hOO⟩
end Go.Proofs.Ytnjpijihjifkfaa
