/- The examples of the journal hold: the walk. -/
import Derived.Test.YtbhebkjadgajeaaJC
namespace Go.Proofs.Ytbhebkjadgajeaa
open Go.RowKit
section
variable {K : Nat → Prop} {w w1 : World} {d sb : Nat} {S : List ByteArray} {pv : Value} {P : List (Int × ByteArray)} {fuse : Int} {down : Bool} {ops : Int} {j size used ep num : Nat}
theorem append_lit (h : Disk (fun k => K k ∨ k = j) w d sb S pv P fuse down ops) (J : Jour w j d size used ep num) (hj : ¬ K j) (hsz : size ≤ 1024) (hu : used ≤ size) (hnum : num ≤ 1000000) (hep : ep < 18446744073709551616) (g c n : Nat) (l : Tx) (hnl : n = l.length) (hl : 0 < l.length) (hn : l.length ≤ 65535) (hI : IRow w g l) (hwf : ∀ x ∈ l, (Lit.int .i64 x.1).wf = true)
    (hP : P.length + l.length + 1 ≤ 1000000) (hf : fuse ≤ 9223372036854775807) (ho : 0 ≤ ops) (ho2 : ops + l.length + 1 < 4611686018427387904) (y : Int) (P' : List (Int × ByteArray)) (f' : Int) (d' : Bool) (o' : Int) (used' num' : Nat) (hq : apF S.length size used ep num l z480 (P, fuse, down, ops) = (y, (P', f', d', o'), used', num')) :
    Calls Try.prog 8 #[.pointer (some ⟨j, 0, none⟩), .slice (some ⟨g, 0, none⟩) n c] w fun e w' => e = .returned (.int .i64 y) ∧ (∃ pv', Disk (fun k => K k ∨ k = j) w' d sb S pv' P' f' d' o') ∧ Jour w' j d size used' ep num' ∧ Keep K w w' := by
  subst hnl; exact append_row h J hj hsz hu hnum hep g c l hl hn hI hwf z480 rfl hP hf ho ho2 y P' f' d' o' used' num' hq
theorem room_lit (h : Jour w j d size used ep num) (hs : size ≤ 1024) (hu : used ≤ size) (N : Int) (hN : N = (size : Int) - used) : Calls Try.prog 18 #[.pointer (some ⟨j, 0, none⟩)] w fun e w' => e = .returned (.int .i64 N) ∧ Below w.heap.size w w' := by
  subst hN; exact (room_any h hs hu).mono fun e w' ⟨he, hw⟩ => ⟨he, hw ▸ (Below.refl _ _).drew⟩
theorem jnumber_lit (h : Jour w j d size used ep num) (N : Int) (hN : N = (num : Int)) : Calls Try.prog 19 #[.pointer (some ⟨j, 0, none⟩)] w fun e w' => e = .returned (.int .u64 N) ∧ w = w' := by
  subst hN; exact jnumber_any h
theorem epoch_lit (h : Jour w j d size used ep num) (N : Int) (hN : N = (ep : Int)) : Calls Try.prog 20 #[.pointer (some ⟨j, 0, none⟩)] w fun e w' => e = .returned (.int .u64 N) ∧ w = w' := by
  subst hN; exact epoch_any h
theorem jopen_lit (h : Disk K w d sb S pv P fuse down ops) (size ep : Nat) (N E : Int) (hN : N = (size : Int)) (hE : E = (ep : Int)) (h1 : 4 ≤ size) (h2 : size ≤ 1024) (h3 : size < S.length) : Calls Try.prog 7 #[.pointer (some ⟨d, 0, none⟩), .int .i64 N, .int .u64 E] w fun e w' =>
    e = .returned (.tuple #[.pointer (some ⟨w.heap.size, 0, none⟩), .int .i64 0]) ∧ Jour w' w.heap.size d size 0 ep 0 ∧ Disk (fun k => K k ∨ k = w.heap.size) w' d sb S pv P fuse down ops ∧ Below w.heap.size w w' := by
  subst hN hE
  exact (jopen_yes h size ep h1 h2 h3).mono fun e w' ⟨he, hJ, hB⟩ => ⟨he, hJ, (h.fence hB).weaken (fun k hk => hk.imp id (fun e => by subst e; exact ⟨Nat.le_refl _, hJ.lt⟩)), hB⟩
theorem scan_lit (h : Disk K w d sb S pv P fuse false ops) (size ep : Nat) (N E : Int) (hN : N = (size : Int)) (hE : E = (ep : Int)) (h1 : 4 ≤ size) (h2 : size ≤ 1024) (h3 : size < S.length) (hP : P.length ≤ 1000000) (hT : ∀ i, i < S.length → (readT S P i).size ≤ maxLen) (A : List Tx) (hA : scanG ep z480 (size + 1) (readS S P size) 0 = A) :
    Calls Try.prog 15 #[.pointer (some ⟨d, 0, none⟩), .int .i64 N, .int .u64 E] w fun e w' => ∃ v, e = .returned (.tuple #[v, .int .i64 0]) ∧ GRow w v A w' := by
  subst hN hE; exact scan_ok h size ep h1 h2 h3 hP hT z480 rfl A hA
end
theorem irow1 (w : World) (x : Int) (t : ByteArray) (T : TypeId) : IRow (w.alloc (.cells #[.int .i64 x, .string t] T)) w.heap.size [(x, t)] := by
  refine ⟨by simp, fun j hj => ?_⟩
  match j, hj with
  | 0, _ => exact ⟨by simp [go_sem], by simp [go_sem]⟩
theorem irow2 (w : World) (x y : Int) (t u : ByteArray) (T : TypeId) : IRow (w.alloc (.cells #[.int .i64 x, .string t, .int .i64 y, .string u] T)) w.heap.size [(x, t), (y, u)] := by
  refine ⟨by simp, fun j hj => ?_⟩
  match j, hj with
  | 0, _ => exact ⟨by simp [go_sem], by simp [go_sem]⟩
  | 1, _ => exact ⟨by simp [go_sem], by simp [go_sem]⟩
/-- Two transactions in memory, as the examples read them. -/
theorem GRow.two {w0 w : World} {v : Value} {x : Int} {t : ByteArray} {b : Tx} (h : GRow w0 v [[(x, t)], b] w) (hb : 0 < b.length) :
    ∃ g c g0 c0 v1 c1, v = .slice (some ⟨g, 0, none⟩) 2 c ∧ w.cell? ⟨g, 0, none⟩ = some (.slice (some ⟨g0, 0, none⟩) 1 c0) ∧ w.cell? ⟨g, 1, none⟩ = some (.slice (some ⟨v1, 0, none⟩) b.length c1) ∧ w.cell? ⟨g0, 0, none⟩ = some (.int .i64 x) ∧ w.cell? ⟨g0, 1, none⟩ = some (.string t) := by
  obtain ⟨vs, hl, hR, hI⟩ := h
  obtain ⟨g, c, rfl, _, _, hc⟩ := hR.form (by simp)
  obtain ⟨u0, hu0, hr0⟩ := hI 0 (by simp)
  obtain ⟨u1, hu1, hr1⟩ := hI 1 (by simp)
  obtain ⟨g0, c0, rfl, _, _, hc0⟩ := hr0.form (by simp)
  obtain ⟨g1, c1, rfl, _, _, hc1⟩ := hr1.form (by simpa using hb)
  exact ⟨g, c, g0, c0, g1, c1, rfl, hc 0 _ hu0, hc 1 _ hu1, hc0 0 _ rfl, hc0 1 _ rfl⟩
theorem readT_size {S : List ByteArray} {P : List (Int × ByteArray)} (hS : ∀ b ∈ S, b.size = 512) (hP : ∀ x ∈ P, x.2.size = 512) (i : Nat) (hi : i < S.length) : (readT S P i).size = 512 := by
  unfold readT
  have h0 : (S.getD i ByteArray.empty).size = 512 := by
    rw [List.getD_eq_getElem?_getD, List.getElem?_eq_getElem hi]
    exact hS _ (List.getElem_mem hi)
  revert h0
  generalize S.getD i ByteArray.empty = s
  intro h0
  induction P generalizing s with
  | nil => exact h0
  | cons x r ih =>
    simp only [List.foldl_cons]
    refine ih (fun y hy => hP y (List.mem_cons_of_mem _ hy)) _ ?_
    split
    · exact hP x (List.mem_cons_self ..)
    · exact h0
theorem wrL_size {i : Nat} {B : List ByteArray} (h : ∀ b ∈ B, b.size = 512) : ∀ x ∈ wrL i B, x.2.size = 512 := by
  intro x hx
  obtain ⟨j, hj, rfl⟩ := List.getElem_of_mem hx
  rw [wrL_get]
  exact h _ (List.getElem_mem _)
theorem z512_size : z512.size = 512 := rep_size 512 0
theorem exP_size : ∀ x ∈ exP, x.2.size = 512 := wrL_size (fun b hb => by
  obtain ⟨s, hs, rfl⟩ := List.mem_map.1 hb
  exact bytes_size (exX_ok s hs))
theorem four_below {w w' : World} {b0 o0 b1 o1 b2 o2 b3 o3 : Nat} {v0 v1 v2 v3 : Value} (hb : Below w.heap.size w w') (h : w.cell? ⟨b0, o0, none⟩ = some v0 ∧ w.cell? ⟨b1, o1, none⟩ = some v1 ∧ w.cell? ⟨b2, o2, none⟩ = some v2 ∧ w.cell? ⟨b3, o3, none⟩ = some v3) :
    w'.cell? ⟨b0, o0, none⟩ = some v0 ∧ w'.cell? ⟨b1, o1, none⟩ = some v1 ∧ w'.cell? ⟨b2, o2, none⟩ = some v2 ∧ w'.cell? ⟨b3, o3, none⟩ = some v3 :=
  ⟨(hb.cell (p := ⟨b0, o0, none⟩) (World.block_lt_of_cell? _ _ h.1)).trans h.1, (hb.cell (p := ⟨b1, o1, none⟩) (World.block_lt_of_cell? _ _ h.2.1)).trans h.2.1, (hb.cell (p := ⟨b2, o2, none⟩) (World.block_lt_of_cell? _ _ h.2.2.1)).trans h.2.2.1, (hb.cell (p := ⟨b3, o3, none⟩) (World.block_lt_of_cell? _ _ h.2.2.2)).trans h.2.2.2⟩
theorem check_x (w : World) : Calls Try.prog 22 #[.slice (some ⟨w.heap.size, 0, none⟩) 1 1] (w.alloc (.cells #[.int .i64 1, .string ⟨#[120]⟩] 57)) fun e w' => e = .returned (.int .i64 18) ∧ Below (w.alloc (.cells #[.int .i64 1, .string ⟨#[120]⟩] 57)).heap.size (w.alloc (.cells #[.int .i64 1, .string ⟨#[120]⟩] 57)) w' := by
  refine (check_row w.heap.size 1 [(1, ⟨#[120]⟩)] _ (by simp) (by simp) (irow1 w 1 ⟨#[120]⟩ 57).1 (irow1 w 1 ⟨#[120]⟩ 57).2 (by simp; decide)).mono ?_
  rintro e w14 ⟨⟨y, rfl, hy⟩, hb2⟩
  obtain rfl : y = 18 := by
    rcases hy with ⟨h, _⟩ | ⟨_, h⟩
    · exact absurd (h.2.1 _ (List.mem_cons_self ..)).2.2 (by decide)
    · exact h
  exact ⟨rfl, hb2⟩
set_option maxRecDepth 100000 in
set_option maxHeartbeats 4000000 in
theorem lives8 (w : World) : Calls Try.prog 5 #[] w fun e w' => e = .returned (.bool true) ∧ Below w.heap.size w w' := by
  obtain ⟨T1, hT1⟩ : ∃ T, pageB 1 = T := ⟨_, rfl⟩
  obtain ⟨T2, hT2⟩ : ∃ T, pageB 2 = T := ⟨_, rfl⟩
  obtain ⟨T7, hT7⟩ : ∃ T, pageB 7 = T := ⟨_, rfl⟩
  have t1 := Lib.hid (fun w => page_lit 1 1 (by decide) T1 hT1 w)
  have t2 := Lib.hid (fun w => page_lit 2 2 (by decide) T2 hT2 w)
  have t7 := Lib.hid (fun w => page_lit 7 7 (by decide) T7 hT7 w)
  have a1 := apF_ok (n := 9) (size := 6) (used := 0) (ep := 5) (num := 0) (P := []) (o := 0) ok1 (by simp [ex1]) (by omega) (by omega) z480_size (by simp [ex1]) (by simp [ex1])
  have a2 := apF_ok (n := 9) (size := 6) (used := 0 + (ex1.length + 1)) (ep := 5) (num := 0 + 1) (P := [] ++ wrL (1 + 0) ((txS 5 (0 + 1) ex1 z480).map Sct.bytes)) (o := 0 + (ex1.length + 1 : Nat)) ok2 (by simp [ex2]) (by omega) (by omega) z480_size (by simp [ex1, ex2]) (by simp [ex1, ex2])
  rw [exP_eq] at a2
  have a3 := fun s => apF_full (n := 9) (size := 6) (used := 5) (ep := 5) (num := 2) (z := z480) (s := s) ok3 (by simp [ex3])
  have hP1 : ([] ++ wrL (1 + 0) ((txS 5 (0 + 1) ex1 z480).map Sct.bytes)).length ≤ 10 := by rw [List.nil_append, wrL_length, List.length_map, txS_length]; simp [ex1]
  generalize [] ++ wrL (1 + 0) ((txS 5 (0 + 1) ex1 z480).map Sct.bytes) = P1 at a1 a2 hP1
  have hP2 : exP.length ≤ 10 := by unfold exP; rw [wrL_length, List.length_map, exX_length]; omega
  simp only [ex1, ex2, ex3, hT1, hT2, hT7, List.length_cons, List.length_nil] at a1 a2 a3
  have s5 := ex_scan5
  have s4 := ex_scan4
  simp only [ex1, ex2, hT1, hT2, hT7] at s5
  have hsz : ∀ i, i < (List.replicate 9 z512).length → (readT (List.replicate 9 z512) exP i).size ≤ maxLen := fun i hi => by
    rw [readT_size (fun b hb => by rw [List.eq_of_mem_replicate hb]; exact z512_size) exP_size i hi]; unfold maxLen; omega
  generalize exP = P2 at a2 s5 s4 hP2 hsz
  have hnew : ∀ w, Calls Try.prog 6 #[.int .i64 9] w fun e w' => ∃ d sb, e = .returned (.tuple #[.pointer (some ⟨d, 0, none⟩), .int .i64 0]) ∧ Disk (fun k => k < w.heap.size) w' d sb (List.replicate 9 z512) (.slice none 0 0) [] 0 false 0 ∧ Below w.heap.size w w' := fun w => new_ok (K := fun k => k < w.heap.size) 9 w (by omega) (by omega) z512 rfl (fun k hk => hk)
  have HN := Lib.hid hnew
  have A1 : Hid (apF 9 6 0 5 0 [(3, T7)] z480 ([], 0, false, 0) = (0, (P1, 0, false, 2), 2, 1)) := Lib.hid a1
  have A2 : Hid (apF 9 6 2 5 1 [(1, T1), (2, T2)] z480 (P1, 0, false, 2) = (0, (P2, 0, false, 5), 5, 2)) := Lib.hid a2
  have A3 : Hid (apF 9 6 5 5 2 [(1, T1)] z480 (P2, 0, false, 5) = (14, (P2, 0, false, 5), 5, 2)) := Lib.hid (a3 _)
  have S5 := Lib.hid s5
  have S4 := Lib.hid s4
  have HSZ := Lib.hid hsz
  have HS9 : Hid ((List.replicate 9 z512).length = 9) := Lib.hid (by simp)
  clear hT1 hT2 hT7 a1 a2 a3 s5 s4 hnew hsz
  generalize List.replicate 9 z512 = S at HN S5 S4 HSZ HS9
  go_enter Try.func5, Try.ntmps5
  go_wp2_with fail
  refine (HN.out _).mono ?_
  rintro e w1 ⟨d, sb, rfl, D, B⟩
  go_wp2_with fail
  refine (jopen_lit D 6 5 _ _ rfl rfl (by omega) (by omega) (by rw [HS9.out]; omega)).mono ?_
  rintro e w2 ⟨rfl, J, D2, hb⟩
  have hj : ¬ w1.heap.size < w.heap.size := by have := B.size; omega
  replace B := below_to B hb
  generalize w1.heap.size = j at J D2 hj ⊢
  clear D hb
  go_wp2_with fail
  refine (jopen_no D2 9 5 (.inr (.inr (by rw [HS9.out]; omega)))).mono ?_
  rintro e w' ⟨rfl, rfl⟩
  go_wp2_with fail
  refine (t7.out _).mono ?_
  rintro e w3 ⟨rfl, hb⟩
  replace D2 := D2.below hb
  replace J := J.below hb
  replace B := below_to B hb
  clear hb
  go_wp2_with fail
  have hb := (Below.refl w3.heap.size w3).alloc (Nat.le_refl _) (.cells #[.int .i64 3, .string T7] 57)
  replace D2 := D2.below hb
  replace J := J.below hb
  replace B := below_to B hb
  clear hb
  refine (append_lit D2 J hj (by omega) (by omega) (by omega) (by omega) w3.heap.size 1 1 [(3, T7)] rfl (by simp) (by simp) (irow1 w3 3 T7 57) (by simp; decide) (by simp) (by omega) (by omega) (by simp) 0 P1 0 false 2 2 1 (by rw [HS9.out]; exact A1.out)).mono ?_
  rintro e w4 ⟨rfl, ⟨pvw4, D3⟩, J3, hk⟩
  replace B := B.trans hk.toBelow
  replace D2 := D3
  replace J := J3
  clear hk D3 J3
  go_wp2_with fail
  refine (t1.out _).mono ?_
  rintro e w5 ⟨rfl, hb⟩
  replace D2 := D2.below hb
  replace J := J.below hb
  replace B := below_to B hb
  clear hb
  go_wp2_with fail
  refine (t2.out _).mono ?_
  rintro e w6 ⟨rfl, hb⟩
  replace D2 := D2.below hb
  replace J := J.below hb
  replace B := below_to B hb
  clear hb
  go_wp2_with fail
  have hb := (Below.refl w6.heap.size w6).alloc (Nat.le_refl _) (.cells #[.int .i64 1, .string T1, .int .i64 2, .string T2] 57)
  replace D2 := D2.below hb
  replace J := J.below hb
  replace B := below_to B hb
  clear hb
  refine (append_lit D2 J hj (by omega) (by omega) (by omega) (by omega) w6.heap.size 2 2 [(1, T1), (2, T2)] rfl (by simp) (by simp) (irow2 w6 1 2 T1 T2 57) (by simp; decide) (by simp; omega) (by omega) (by omega) (by simp) 0 P2 0 false 5 5 2 (by rw [HS9.out]; exact A2.out)).mono ?_
  rintro e w7 ⟨rfl, ⟨pvw7, D3⟩, J3, hk⟩
  replace B := B.trans hk.toBelow
  replace D2 := D3
  replace J := J3
  clear hk D3 J3
  go_wp2_with fail
  refine (t1.out _).mono ?_
  rintro e w8 ⟨rfl, hb⟩
  replace D2 := D2.below hb
  replace J := J.below hb
  replace B := below_to B hb
  clear hb
  go_wp2_with fail
  have hb := (Below.refl w8.heap.size w8).alloc (Nat.le_refl _) (.cells #[.int .i64 1, .string T1] 57)
  replace D2 := D2.below hb
  replace J := J.below hb
  replace B := below_to B hb
  clear hb
  refine (append_lit D2 J hj (by omega) (by omega) (by omega) (by omega) w8.heap.size 1 1 [(1, T1)] rfl (by simp) (by simp) (irow1 w8 1 T1 57) (by simp; decide) (by simp; omega) (by omega) (by omega) (by simp) 14 P2 0 false 5 5 2 (by rw [HS9.out]; exact A3.out)).mono ?_
  rintro e w9 ⟨rfl, ⟨pvw9, D3⟩, J3, hk⟩
  replace B := B.trans hk.toBelow
  replace D2 := D3
  replace J := J3
  clear hk D3 J3
  go_wp2_with fail
  refine (scan_lit D2 6 5 _ _ rfl rfl (by omega) (by omega) (by rw [HS9.out]; omega) (by omega) HSZ.out _ S5.out).mono ?_
  rintro e w10 ⟨v, rfl, G⟩
  replace D2 := D2.below G.below
  replace J := J.below G.below
  replace B := below_to B G.below
  go_wp2_with fail
  refine (scan_lit D2 6 4 _ _ rfl rfl (by omega) (by omega) (by rw [HS9.out]; omega) (by omega) HSZ.out _ S4.out).mono ?_
  rintro e w11 ⟨v', rfl, G'⟩
  replace D2 := D2.below G'.below
  replace J := J.below G'.below
  replace B := below_to B G'.below
  replace G := G.later G'.below
  obtain ⟨ga, gc, rfl⟩ := G'.form0
  clear G'
  obtain ⟨g, c, g0, c0, g1, c1, rfl, x0, x1, y0, y1⟩ := G.two (by simp)
  simp only [List.length_cons, List.length_nil, Nat.zero_add, Nat.reduceAdd] at x1
  clear G D2
  replace x0 : w11.drew.cell? ⟨g, 0, none⟩ = _ := x0
  replace x1 : w11.drew.cell? ⟨g, 1, none⟩ = _ := x1
  replace y0 : w11.drew.cell? ⟨g0, 0, none⟩ = _ := y0
  replace y1 : w11.drew.cell? ⟨g0, 1, none⟩ = _ := y1
  replace J := J.below ((Below.refl w11.heap.size w11).drew)
  replace B := below_to B ((Below.refl w11.heap.size w11).drew)
  go_wp2_with fail
  simp only [List.append]
  go_region_held3 (fun w' => w'.cell? ⟨g, 0, none⟩ = some (.slice (some ⟨g0, 0, none⟩) 1 c0) ∧ w'.cell? ⟨g, 1, none⟩ = some (.slice (some ⟨g1, 0, none⟩) 2 c1) ∧ w'.cell? ⟨g0, 0, none⟩ = some (.int .i64 3) ∧ w'.cell? ⟨g0, 1, none⟩ = some (.string T7))
    (first | with_reducible exact ⟨x0, x1, y0, y1⟩ | with_reducible assumption | with_reducible exact four_below hb (by assumption) | with_reducible exact four_below hb2 (by assumption) | with_reducible exact four_below hb3 (by assumption) | exact four_below ((Below.refl _ _).alloc (Nat.le_refl _) _) (by assumption))
    (first | (go_at_call 18; refine (room_lit J (by omega) (by omega) 1 (by omega)).mono ?_; rintro e w12 ⟨rfl, hb⟩) | (go_at_call 19; refine (jnumber_lit (J.below hb) 2 rfl).mono ?_; rintro e w' ⟨rfl, rfl⟩) | (go_at_call 20; refine (epoch_lit (J.below hb) 5 rfl).mono ?_; rintro e w' ⟨rfl, rfl⟩) | (go_at_call 21; refine (t7.out _).mono ?_; rintro e w13 ⟨rfl, hb2⟩) | (go_at_call 8; refine (append_empty _ _ _).mono ?_; rintro e w' ⟨rfl, rfl⟩) | (go_at_call 22; refine (check_x _).mono ?_; rintro e w14 ⟨rfl, hb3⟩))
  go_wp2_with fail
  go_ret
  exact ⟨rfl, below_to (below_to (below_to (below_to B hb) hb2) ((Below.refl _ _).alloc (Nat.le_refl _) _)) hb3⟩
end Go.Proofs.Ytbhebkjadgajeaa
