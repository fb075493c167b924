/- Contract: a branch, read. -/
import Derived.Test.YtnjpijihjifkfaaTB
namespace Go.Proofs.Ytnjpijihjifkfaa
open Go.RowKit
set_option linter.unusedVariables false
theorem info3 : (Try.prog.info? 3).map (fun i => (i.zero, i.size, i.bytes)) = some (some (.int .i64 0), 1, 8) := by kernel_rfl
def kidV (K : List Int) : List Value := K.map (Value.int .i64)
theorem kidV_snoc (K : List Int) (z : Int) : kidV (K ++ [z]) = kidV K ++ [.int .i64 z] := by simp [kidV]
theorem kidV_app (K M : List Int) : kidV (K ++ M) = kidV K ++ kidV M := by simp [kidV]
theorem kidV_one (K : List Int) : ∀ u ∈ kidV K, u.oneCell' = true := by
  intro u hu
  obtain ⟨x, _, rfl⟩ := List.mem_map.1 hu
  rfl
theorem kds_of_own {w : World} {base n : Nat} {v : Value} {K : List Int} (h : w.ownsRow base 3 1 v n (kidV K)) : ∃ a c, v = .slice a n c ∧ n ≤ c ∧ Kds w a n K := by
  have hc := @World.ownsRow.cells _ _ _ _ _ _ _ h
  have hl : K.length = n := by have := h.1; simp [kidV] at this; omega
  rcases h.2 with ⟨rfl, hn⟩ | ⟨g, cap, cur, rfl, hb, hg, hcap, _⟩
  · exact ⟨none, 0, by rw [hn], by omega, hl, .inl hn⟩
  · refine ⟨_, _, rfl, hcap, hl, .inr ⟨g, 0, rfl, (Array.getElem?_eq_some_iff.1 hg).1, fun j hj => ?_⟩⟩
    have hj2 : j < K.length := by omega
    have h1 := hc rfl j (.int .i64 K[j]) (by unfold kidV; rw [List.getElem?_map, List.getElem?_eq_getElem hj2]; rfl)
    rw [add_nil] at h1
    rw [Nat.zero_add, getD_at _ _ _ hj2]
    exact h1
theorem own_far {w w1 : World} {T : TypeId} {sz n base : Nat} {v : Value} {xs : List Value} {row : Option Nat} (h : w.ownsRow base T sz v n xs) (hg : w.grownBy w1 row) (hne : ∀ g, v.ownBlock = some g → row ≠ some g) : w1.ownsRow base T sz v n xs := by
  refine ⟨h.1, ?_⟩
  rcases h.2 with hn | ⟨g, cap, cur, hv, h1, h2, h3⟩
  · exact .inl hn
  · exact .inr ⟨g, cap, cur, hv, h1, (hg.block g (Array.getElem?_eq_some_iff.1 h2).1 (fun e => hne g (by rw [hv]; rfl) e.symm)).trans h2, h3⟩
theorem own_setn {w : World} {T : TypeId} {sz n base g o : Nat} {v x : Value} {xs : List Value} (h : w.ownsRow base T sz v n xs) (hb : v.ownBlock ≠ some g) : (w.setCell ⟨g, o, none⟩ x).ownsRow base T sz v n xs := by
  refine ⟨h.1, ?_⟩
  rcases h.2 with hn | ⟨k, cap, cur, hv, h1, h2, h3⟩
  · exact .inl hn
  · exact .inr ⟨k, cap, cur, hv, h1, (Below.heap_setCell w ⟨g, o, none⟩ x k (by show k ≠ g; rintro rfl; exact hb (by rw [hv]; rfl))).trans h2, h3⟩
theorem own_below {w w1 : World} {T : TypeId} {sz n base : Nat} {v : Value} {xs : List Value} (h : w.ownsRow base T sz v n xs) (B : Below w.heap.size w w1) : w1.ownsRow base T sz v n xs := by
  refine ⟨h.1, ?_⟩
  rcases h.2 with hn | ⟨g, cap, cur, hv, h1, h2, h3⟩
  · exact .inl hn
  · exact .inr ⟨g, cap, cur, hv, h1, (B.block g (Array.getElem?_eq_some_iff.1 h2).1).trans h2, h3⟩
theorem own_full (w : World) (cur : Array Value) (n size base : Nat) (e : TypeId) (hb : base ≤ w.heap.size) (hm : n ≤ maxLen) (hs : cur.size = n * size) :
    (w.alloc (.cells cur e)).ownsRow base e size (.slice (some ⟨w.heap.size, 0, none⟩) n n) n cur.toList :=
  ⟨by simpa using hs, .inr ⟨w.heap.size, n, cur, rfl, hb, heap_alloc_new w _, Nat.le_refl _, hm, hs, by rw [← hs]; exact List.take_of_length_le (by simp)⟩⟩
/-- Where an append's row lies. -/
theorem lies_ne {v : Value} {g H x n c : Nat} (hat : v.ownBlock = some g ∨ g = H) (hx : x < H) (hv : v.ownBlock ≠ some x) : (Value.slice (some ⟨g, 0, none⟩) n c).ownBlock ≠ some x := by
  intro e
  have e : g = x := by simpa [Value.ownBlock] using e
  subst e
  rcases hat with h | h
  · exact hv h
  · omega
theorem rdBr_succ (n : Nat) (s t t2 : ByteArray) (e y y2 : Int) (p : ByteArray) (k : Nat) (h1 : shortS s e = (t, y, p)) (h2 : numS t y 2 = (t2, y2, k)) : rdBr (n + 1) s e = ((p, ByteArray.empty) :: (rdBr n t2 y2).1, (k : Int) :: (rdBr n t2 y2).2) := by
  rw [rdBr, h1, h2]
theorem kid_cells (w : World) (z : Int) (T : TypeId) : ∀ j u, ([Value.int .i64 z])[j]? = some u → (w.alloc (.cells #[.int .i64 z] T)).cell? ((⟨w.heap.size, 0, none⟩ : Addr).add j) = some u := by
  intro j u hj
  match j, hj with
  | 0, hj => simp at hj; subst hj; rw [add_nil]; simp [go_sem]
theorem nb_drew {w : World} {g : Nat} {u v : Value} (h : Nb w g u v) : Nb w.drew g u v := ⟨h.lt, h.c0, h.c1, h.f0, h.f1⟩
theorem only_drew {w w1 : World} {b : Nat} (h : Only b w w1) : Only b w w1.drew := ⟨h.os, h.tape, h.output, h.size, h.block⟩
theorem rd_drew {w : World} {b : Nat} {s : ByteArray} {e : Int} (h : Rd w b s e) : Rd w.drew b s e := ⟨h.c0, h.c1, h.f0, h.f1⟩
set_option maxRecDepth 100000 in
set_option maxHeartbeats 4000000 in
theorem readBranch_any (b many : Nat) (s t0 : ByteArray) (e y0 : Int) (z0 : Nat) (h0 : numS s e 2 = (t0, y0, z0)) (w : World) (hr : Rd w b s e) (hw : RWf s e) (hs : s.size ≤ maxLen) (hm : many ≤ 255) :
    Calls Try.prog 61 #[.pointer (some ⟨b, 0, none⟩), .int .i64 (many : Int)] w (RdNode w b (rdBr (many - 1) t0 y0).1 ((z0 : Int) :: (rdBr (many - 1) t0 y0).2)) := by
  obtain ⟨i0, hi0, hz0, hz1, hz2⟩ := info_parts info44
  obtain ⟨i3, hi3, hz30, hz31, hz32⟩ := info_parts info3
  have hbl := hr.lt
  have hw0 := numS_wf (n := 2) hw
  have hl0 := numS_le s e 2
  rw [h0] at hw0 hl0
  have HW := Lib.hid hw0
  have HS := Lib.hid (Nat.le_trans hl0 hs)
  have N0 := Nb.fresh w (.slice none 0 0) (.slice none 0 0) 31
  have hR := hr.below (new_below w (.cells #[.slice none 0 0, .slice none 0 0] 31))
  have K0 := Lib.hid (readKid_any b s t0 e y0 z0 h0 _ hR hw hs)
  have hO : Only b w (w.alloc (.cells #[.slice none 0 0, .slice none 0 0] 31)) := (Only.refl b w).alloc _
  obtain ⟨m, hm1⟩ : ∃ m, many - 1 = m := ⟨_, rfl⟩
  rw [hm1]
  have HM := Lib.hid hm1
  clear hr hw hs h0 hw0 hl0 hm1 hR
  go_enter Try.func61, Try.ntmps61
  go_wp2_with fail
  refine K0.out.mono ?_
  rintro e w1 ⟨rfl, R1, o1⟩
  have hnb0 : w.heap.size ≠ b := by omega
  have M0 := (N0.only o1 hnb0).below (new_below w1 (.cells #[.int .i64 (z0 : Int)] 3))
  have R1a := R1.below (new_below w1 (.cells #[.int .i64 (z0 : Int)] 3))
  have O1 := (hO.trans o1).alloc (.cells #[.int .i64 (z0 : Int)] 3)
  have ownK : (w1.alloc (.cells #[.int .i64 (z0 : Int)] 3)).ownsRow (w.heap.size + 1) 3 1 (.slice (some ⟨w1.heap.size, 0, none⟩) 1 1) 1 (kidV [(z0 : Int)]) :=
    own_full w1 #[.int .i64 (z0 : Int)] 1 1 (w.heap.size + 1) 3 (by have := o1.size; simpa using this) (by unfold maxLen; omega) (by simp)
  have M2 := Nb.fresh (w1.alloc (.cells #[.int .i64 (z0 : Int)] 3)) (.slice none 0 0) (.slice (some ⟨w1.heap.size, 0, none⟩) 1 1) 31
  have M3 := M0.below (new_below _ (.cells #[.slice none 0 0, .slice (some ⟨w1.heap.size, 0, none⟩) 1 1] 31))
  have R3 := R1a.below (new_below _ (.cells #[.slice none 0 0, .slice (some ⟨w1.heap.size, 0, none⟩) 1 1] 31))
  have O3 := O1.alloc (.cells #[.slice none 0 0, .slice (some ⟨w1.heap.size, 0, none⟩) 1 1] 31)
  have own3 := own_below ownK (new_below _ (.cells #[.slice none 0 0, .slice (some ⟨w1.heap.size, 0, none⟩) 1 1] 31))
  have hg1 : w.heap.size + 1 ≤ w1.heap.size := by have := o1.size; simpa using this
  clear N0 hO o1 R1 M0 R1a O1 ownK
  go_wp2_with fail
  have e1 : (w1.alloc (.cells #[.int .i64 (z0 : Int)] 3)).heap.size = w1.heap.size + 1 := by simp
  rw [e1] at M2
  have hsz : w1.heap.size + 1 + 1 ≤ ((w1.alloc (.cells #[.int .i64 (z0 : Int)] 3)).alloc (.cells #[.slice none 0 0, .slice (some ⟨w1.heap.size, 0, none⟩) 1 1] 31)).heap.size := by simp
  generalize (w1.alloc (.cells #[.int .i64 (z0 : Int)] 3)).alloc (.cells #[.slice none 0 0, .slice (some ⟨w1.heap.size, 0, none⟩) 1 1] 31) = w2 at M2 M3 R3 O3 own3 hsz ⊢
  obtain ⟨nb, hnb⟩ : ∃ nb, w1.heap.size + 1 = nb := ⟨_, rfl⟩
  have hu0 : (Value.slice (some ⟨w1.heap.size, 0, none⟩) 1 1).ownBlock ≠ some nb := by simp [Value.ownBlock]; omega
  generalize Value.slice (some ⟨w1.heap.size, 0, none⟩) 1 1 = u0 at M2 own3 hu0
  rw [hnb] at M2 hsz ⊢
  have hnw : w.heap.size < nb := by omega
  clear hnb e1 hg1
  go_loopw [12] (fun i wx => ∃ (k : Nat) (t : ByteArray) (y : Int) (L : List It) (M : List Int) (v u : Value), k ≤ m ∧ Hid (L ++ (rdBr (m - k) t y).1 = (rdBr m t0 y0).1 ∧ M ++ (rdBr (m - k) t y).2 = (rdBr m t0 y0).2) ∧ Hid (RWf t y) ∧ Hid (t.size ≤ maxLen) ∧ Rd wx b t y ∧ wx.ownsRow (w.heap.size + 1) 44 2 v k (flatI L) ∧ wx.ownsRow (w.heap.size + 1) 3 1 u (k + 1) (kidV ((z0 : Int) :: M)) ∧ Hid (v.ownBlock ≠ some nb ∧ u.ownBlock ≠ some nb ∧ ∀ g, v.ownBlock = some g → u.ownBlock ≠ some g) ∧ Nb wx w.heap.size (.slice none 0 0) (.slice none 0 0) ∧ Nb wx nb v u ∧ Only b w wx ∧ nb + 1 ≤ wx.heap.size ∧ i = .int .i64 (k : Int)) (fun i _ => m - (intOf i).toNat)
  case atStart => exact ⟨0, t0, y0, [], [], .slice none 0 0, u0, by omega, Lib.hid (by simp), HW, HS, R3, World.ownsRow_nil _ _ _ _, own3, Lib.hid ⟨by simp [Value.ownBlock], hu0, by simp [Value.ownBlock]⟩, M3, M2, O3, hsz, rfl⟩
  case round =>
    clear M2 M3 R3 O3 own3 hsz hu0
    obtain ⟨k, t, y, L, M, v, u, hk, HL, HWF, HTS, hR, hown, hownU, HNE, N0, N1, hO, hsz, rfl⟩ := hrel
    have hnb1 : nb ≠ b := by omega
    by_cases hlt : k < m
    · obtain ⟨t1, y1, p, h1⟩ : ∃ t1 y1 p, shortS t y = (t1, y1, p) := ⟨_, _, _, rfl⟩
      obtain ⟨t2, y2, q, h2⟩ : ∃ t2 y2 q, numS t1 y1 2 = (t2, y2, q) := ⟨_, _, _, rfl⟩
      have hw1 := shortS_wf HWF.out
      have hl1 := shortS_le t y
      rw [h1] at hw1 hl1
      have hw2 := numS_wf (n := 2) hw1
      have hl2 := numS_le t1 y1 2
      rw [h2] at hw2 hl2
      have hts1 := Nat.le_trans hl1 HTS.out
      have HTS2 := Lib.hid (Nat.le_trans hl2 hts1)
      have HWF2 := Lib.hid hw2
      have HL2 := Lib.hid (show (L ++ [(p, ByteArray.empty)]) ++ (rdBr (m - (k + 1)) t2 y2).1 = (rdBr m t0 y0).1 ∧ (M ++ [(q : Int)]) ++ (rdBr (m - (k + 1)) t2 y2).2 = (rdBr m t0 y0).2 by
        rw [← HL.out.1, ← HL.out.2, show m - k = (m - (k + 1)) + 1 by omega, rdBr_succ _ _ _ _ _ _ _ _ _ h1 h2, List.append_assoc, List.append_assoc]; exact ⟨rfl, rfl⟩)
      have K1 := Lib.hid (fun w hr => readShort_any b t t1 y y1 p h1 w hr HWF.out HTS.out)
      have K2 := Lib.hid (fun w hr => readKid_any b t1 t2 y1 y2 q h2 w hr hw1 hts1)
      have hbk : (k : Int) < (many : Int) - 1 := by have := HM.out; omega
      have hm255 : m ≤ 255 := by have := HM.out; omega
      clear h1 h2 hw1 hl1 hw2 hl2 hts1
      go_wp2_with fail
      have c0 := N1.c0
      have c0d : wr.drew.cell? ⟨nb, 0, none⟩ = some v := c0
      go_region_law (first
        | (refine step_append_lies _ (by rfl) (.tmp 15) (.tmp 19) 22 (by rfl) (w.heap.size + 1) 44 i0 (.agg #[.string ByteArray.empty, .string ByteArray.empty]) 2 32 Try.underlying22 hi0 hz0 hz1 hz2 (by rfl) (by decide) v k (flatI L) (by rfl) (own4.alloc _) ⟨w4.heap.size, 0, none⟩ 1 1 (itemV (p, ByteArray.empty)) (by rfl) (by rfl) (item_cells w4 (p, ByteArray.empty) 44) (itemV_one (p, ByteArray.empty)) (by omega) (by unfold maxLen; omega) (by omega) (by have := hsz4; simp; omega) _ rfl ?_; intro g cap w5 own5 grow5 hat5 _; have P1 := (Q1.below (new_below w4 (.cells (itemV (p, ByteArray.empty)).toArray 44))).grown grow5.size grow5 (fun e => HNE.out.1 e.symm); have d0 := P1.c0; have df := P1.f0)
        | (go_simp; go_at_call 81; refine (K1.out _ (rd_drew hR)).mono ?_; rintro e w4 ⟨rfl, R4, o4⟩; have own4 := own_only (show wr.drew.ownsRow (w.heap.size + 1) 44 2 v k (flatI L) from hown) o4 (by omega); have ownU4 := own_only (show wr.drew.ownsRow (w.heap.size + 1) 3 1 u (k + 1) (kidV ((z0 : Int) :: M)) from hownU) o4 (by omega); have Q0 := Nb.only (nb_drew N0) o4 hnb0; have Q1 := Nb.only (nb_drew N1) o4 hnb1; have hsz4 : nb + 1 ≤ w4.heap.size := Nat.le_trans hsz o4.size; have e0 := Q1.c0; have e1 := (Q1.below (new_below w4 (.cells #[.string p, .string ⟨#[]⟩] 44))).c0))
      all_goals
        have P0 := (Q0.below (new_below w4 (.cells (itemV (p, ByteArray.empty)).toArray 44))).grown grow5.size grow5 (fun e => by have := own4.lt _ e.symm; omega)
        have R5 := rd_grown (R4.below (new_below w4 (.cells (itemV (p, ByteArray.empty)).toArray 44))) grow5 (fun e => by have := own4.lt _ e.symm; omega)
        have O5 : Only b w w5 := only_grown (((only_drew hO).trans o4).alloc (.cells (itemV (p, ByteArray.empty)).toArray 44)) grow5 grow5.size (fun g hg => by have := own4.lt _ hg; omega)
        have ownU5 := own_far (own_below ownU4 (new_below w4 (.cells (itemV (p, ByteArray.empty)).toArray 44))) grow5 (fun g hg e => HNE.out.2.2 g e hg)
        have hsz5 : nb + 1 ≤ w5.heap.size := Nat.le_trans hsz4 (Nat.le_trans (new_below w4 (.cells (itemV (p, ByteArray.empty)).toArray 44)).size grow5.size)
        replace hat5 : v.ownBlock = some g ∨ g = w4.heap.size + 1 := hat5.imp id (fun h => h.trans (World.size_alloc _ _))
        have hv1 : (Value.slice (some ⟨g, 0, none⟩) (k + 1) cap).ownBlock ≠ some nb := lies_ne hat5 (by omega) HNE.out.1
        have hv2 : u.ownBlock ≠ some g := by
          intro e
          have h2 := ownU4.lt _ e
          rcases hat5 with h | h
          · exact HNE.out.2.2 g h e
          · omega
        have HV2 := Lib.hid hv2
        have HV1 := Lib.hid hv1
        have P1s := P1.set0 (.slice (some ⟨g, 0, none⟩) (k + 1) cap)
        have P0s := P0.set_far (k := nb) (o := 0) (.slice (some ⟨g, 0, none⟩) (k + 1) cap) (by omega)
        have R5s := rd_set (k := nb) (o := 0) R5 (.slice (some ⟨g, 0, none⟩) (k + 1) cap) hnb1
        have O5s := only_set (g := nb) (o := 0) (x := .slice (some ⟨g, 0, none⟩) (k + 1) cap) O5 (by omega)
        have own5s := own_setn (g := nb) (o := 0) (x := .slice (some ⟨g, 0, none⟩) (k + 1) cap) own5 hv1
        have ownU5s := own_setn (g := nb) (o := 0) (x := .slice (some ⟨g, 0, none⟩) (k + 1) cap) ownU5 HNE.out.2.1
        have hsz5s : nb + 1 ≤ (w5.setCell ⟨nb, 0, none⟩ (.slice (some ⟨g, 0, none⟩) (k + 1) cap)).heap.size := by simpa using hsz5
        clear hown hownU N0 N1 hO hsz hR R4 o4 own4 ownU4 Q0 Q1 hsz4 e0 e1 own5 grow5 hat5 P1 d0 df P0 R5 O5 ownU5 hsz5 hv1 hv2 c0 c0d
        generalize w5.setCell ⟨nb, 0, none⟩ (.slice (some ⟨g, 0, none⟩) (k + 1) cap) = w6 at P1s P0s R5s O5s own5s ownU5s hsz5s ⊢
        go_wp2_with fail
        have c1 := P1s.c1
        have c1d : w6.drew.cell? ⟨nb, 1, none⟩ = some u := c1
        go_region_law (first
          | (refine step_append_lies _ (by rfl) (.tmp 23) (.tmp 26) 23 (by rfl) (w.heap.size + 1) 3 i3 (.int .i64 0) 1 8 Try.underlying23 hi3 hz30 hz31 hz32 (by rfl) (by decide) u (k + 1) (kidV ((z0 : Int) :: M)) (by rfl) (ownU8.alloc _) ⟨w8.heap.size, 0, none⟩ 1 1 [.int .i64 (q : Int)] (by rfl) (by rfl) (kid_cells w8 (q : Int) 3) (by intro x hx; simp at hx; subst hx; rfl) (by omega) (by unfold maxLen; omega) (by omega) (by have := hsz8; simp; omega) _ rfl ?_; intro g9 cap9 w9 own9 grow9 hat9 _; have S1 := (T1.below (new_below w8 (.cells #[.int .i64 (q : Int)] 3))).grown grow9.size grow9 (fun e => HNE.out.2.1 e.symm); have d1 := S1.c1; have df1 := S1.f1)
          | (go_simp; go_at_call 82; refine (K2.out _ (rd_drew R5s)).mono ?_; rintro e w8 ⟨rfl, R8, o8⟩; have own8 := own_only (show w6.drew.ownsRow (w.heap.size + 1) 44 2 _ (k + 1) _ from own5s) o8 (by omega); have ownU8 := own_only (show w6.drew.ownsRow (w.heap.size + 1) 3 1 u (k + 1) (kidV ((z0 : Int) :: M)) from ownU5s) o8 (by omega); have T0 := Nb.only (nb_drew P0s) o8 hnb0; have T1 := Nb.only (nb_drew P1s) o8 hnb1; have hsz8 : nb + 1 ≤ w8.heap.size := Nat.le_trans hsz5s o8.size; have e2 := T1.c1; have e3 := (T1.below (new_below w8 (.cells #[.int .i64 (q : Int)] 3))).c1))
        all_goals
          have S0 := (T0.below (new_below w8 (.cells #[.int .i64 (q : Int)] 3))).grown grow9.size grow9 (fun e => by have := ownU8.lt _ e.symm; omega)
          have R9 := rd_grown (R8.below (new_below w8 (.cells #[.int .i64 (q : Int)] 3))) grow9 (fun e => by have := ownU8.lt _ e.symm; omega)
          have O9 : Only b w w9 := only_grown (((only_drew O5s).trans o8).alloc (.cells #[.int .i64 (q : Int)] 3)) grow9 grow9.size (fun g hg => by have := ownU8.lt _ hg; omega)
          have ownI9 := own_far (own_below own8 (new_below w8 (.cells #[.int .i64 (q : Int)] 3))) grow9 (fun x hx e => by
            have hxg : g = x := by simpa [Value.ownBlock] using hx
            exact HV2.out (by rw [hxg]; exact e))
          have hsz9 : nb + 1 ≤ w9.heap.size := Nat.le_trans hsz8 (Nat.le_trans (new_below w8 (.cells #[.int .i64 (q : Int)] 3)).size grow9.size)
          replace hat9 : u.ownBlock = some g9 ∨ g9 = w8.heap.size + 1 := hat9.imp id (fun h => h.trans (World.size_alloc _ _))
          have hu1 : (Value.slice (some ⟨g9, 0, none⟩) (k + 1 + 1) cap9).ownBlock ≠ some nb := lies_ne hat9 (by omega) HNE.out.2.1
          have hu2 : ∀ x, (Value.slice (some ⟨g, 0, none⟩) (k + 1) cap).ownBlock = some x → (Value.slice (some ⟨g9, 0, none⟩) (k + 1 + 1) cap9).ownBlock ≠ some x := by
            intro x hx e
            have hxg : g = x := by simpa [Value.ownBlock] using hx
            have hxg9 : g9 = x := by simpa [Value.ownBlock] using e
            have h2 := own8.lt g rfl
            rcases hat9 with h | h
            · exact HV2.out (by rw [hxg, ← hxg9]; exact h)
            · omega
          have ownI9s := own_setn (g := nb) (o := 1) (x := .slice (some ⟨g9, 0, none⟩) (k + 1 + 1) cap9) ownI9 HV1.out
          have ownK9s := own_setn (g := nb) (o := 1) (x := .slice (some ⟨g9, 0, none⟩) (k + 1 + 1) cap9) own9 hu1
          have HNE2 := Lib.hid (And.intro HV1.out (And.intro hu1 hu2))
          clear own5s ownU5s P0s P1s R5s O5s hsz5s R8 o8 own8 ownU8 T0 T1 hsz8 e2 e3 own9 grow9 hat9 d1 df1 ownI9 hu1 hu2 c1 c1d
          go_wp2_with fail
          go_roundw
          case rel => exact ⟨k + 1, t2, y2, L ++ [(p, ByteArray.empty)], M ++ [(q : Int)], _, _, by omega, HL2, HWF2, HTS2, rd_set R9 _ hnb1, by rw [flatI_snoc]; exact ownI9s, by rw [← List.cons_append, kidV_snoc]; exact ownK9s, HNE2, S0.set_far _ (by omega), S1.set1 _, only_set O9 (by omega), by simpa using hsz9, by go_num⟩
          case measure => simp [intOf]; omega
    · obtain rfl : k = m := by omega
      have hbk : ¬ (k : Int) < (many : Int) - 1 := by have := HM.out; omega
      have hL : L = (rdBr k t0 y0).1 ∧ M = (rdBr k t0 y0).2 := by have h := HL.out; rw [Nat.sub_self, rdBr, List.append_nil, List.append_nil] at h; exact h
      obtain ⟨a, c, hv, hac, _⟩ := its_of_own hown
      obtain ⟨a3, c3, hu, hac3, _⟩ := kds_of_own hownU
      subst hv hu
      have hvr : (Value.slice a k c).ownBlock ≠ some w.heap.size := fun e => by have := hown.lt _ e; omega
      have hur : (Value.slice a3 (k + 1) c3).ownBlock ≠ some w.heap.size := fun e => by have := hownU.lt _ e; omega
      have own2 := own_setn (g := w.heap.size) (o := 1) (x := .slice a3 (k + 1) c3) (own_setn (g := w.heap.size) (o := 0) (x := .slice a k c) hown hvr) hvr
      have ownU2 := own_setn (g := w.heap.size) (o := 1) (x := .slice a3 (k + 1) c3) (own_setn (g := w.heap.size) (o := 0) (x := .slice a k c) hownU hur) hur
      obtain ⟨a2, c2, hv2, _, hI2⟩ := its_of_own own2
      obtain ⟨a4, c4, hv4, _, hK2⟩ := kds_of_own ownU2
      simp only [Value.slice.injEq, true_and] at hv2 hv4
      obtain ⟨rfl, rfl⟩ := hv2
      obtain ⟨rfl, rfl⟩ := hv4
      have M := (N0.set0 (.slice a k c)).set1 (.slice a3 (k + 1) c3)
      have hOO := only_set (g := w.heap.size) (o := 1) (x := .slice a3 (k + 1) c3) (only_set (g := w.heap.size) (o := 0) (x := .slice a k c) hO (Nat.le_refl _)) (Nat.le_refl _)
      have HI2 := Lib.hid hI2
      have HFR := Lib.hid (own_fresh (h := w.heap.size) hown (by omega))
      have HFK := Lib.hid (own_fresh (h := w.heap.size) hownU (by omega))
      have HK2 := Lib.hid hK2
      have HLL := Lib.hid hL
      have c0 := N1.c0
      have c1 := N1.c1
      have d0 := N0.c0
      have d1 := N0.c1
      have f0 := N0.f0
      have f1 := N0.f1
      have m0 := M.c0
      have m1 := M.c1
      clear hR hown hownU own2 ownU2 hO hI2 hK2 hL hvr hur
      go_wp2_with fail
      refine bodyPost_ret (v := .agg #[.slice a k c, .slice a3 (k + 1) c3]) (by simp [results, Try.results61, go_sem, m0, m1]) rfl ?_
      exact ⟨a, k, c, a3, k + 1, c3, rfl, hac, hac3, HFR.out, HFK.out, by rw [← HLL.out.1]; exact HI2.out, by rw [← HLL.out.2]; exact HK2.out, hOO⟩
end Go.Proofs.Ytnjpijihjifkfaa
