/- DiskWhole, walked. -/
import Derived.Test.YtplngodilalbhaaW1
namespace Go.Proofs.Ytplngodilalbhaa
open Go.RowKit Go.Shelf
theorem two_below {w w1 : World} {b : Nat} {u v : Value} (B : Below w.heap.size w w1) (h : w.cell? ⟨b, 1, none⟩ = some u ∧ w.cell? ⟨b, 2, none⟩ = some v) : w1.cell? ⟨b, 1, none⟩ = some u ∧ w1.cell? ⟨b, 2, none⟩ = some v :=
  have hb := World.block_lt_of_cell? w _ h.1
  ⟨(B.cell (p := ⟨b, 1, none⟩) hb).trans h.1, (B.cell (p := ⟨b, 2, none⟩) hb).trans h.2⟩
theorem two_keep {K : Nat → Prop} {w w1 : World} {b : Nat} {u v : Value} (hk : Keep K w w1) (hb : K b) (h : w.cell? ⟨b, 1, none⟩ = some u ∧ w.cell? ⟨b, 2, none⟩ = some v) : w1.cell? ⟨b, 1, none⟩ = some u ∧ w1.cell? ⟨b, 2, none⟩ = some v :=
  ⟨(World.cell?_of_block (a := ⟨b, 1, none⟩) (hk.block b hb)).trans h.1, (World.cell?_of_block (a := ⟨b, 2, none⟩) (hk.block b hb)).trans h.2⟩
/-- How far the first loop has come. -/
def Wh1 (K : Nat → Prop) (w : World) (d sb n : Nat) (k : Nat) (wx : World) : Prop :=
  ∃ (pv : Value) (P : List (Int × ByteArray)) (ops : Int), Disk K wx d sb (List.replicate n z512) pv P 0 false ops ∧ Keep K w wx ∧ Fits P n ∧ P.length ≤ k ∧ 0 ≤ ops ∧ ops ≤ k
theorem wrF_on (n : Nat) (P : List (Int × ByteArray)) (ops : Int) (i : Int) (s : ByteArray) (hF : Fits P n) : ∃ y P' o', wrF n P 0 false ops i s = (y, P', 0, false, o') ∧ Fits P' n ∧ P'.length ≤ P.length + 1 ∧ ops ≤ o' ∧ o' ≤ ops + 1 := by
  unfold wrF
  by_cases h : i < 0 ∨ (n : Int) ≤ i ∨ s.size ≠ 512
  · rw [if_pos h]; exact ⟨_, _, _, rfl, hF, by omega, by omega, by omega⟩
  · rw [if_neg h, show opF 0 false ops = (0, 0, false, ops + 1) by simp [opF], if_pos rfl]
    refine ⟨0, P ++ [(i, s)], ops + 1, rfl, ?_, by simp, by omega, by omega⟩
    intro j hj
    by_cases hlt : j < P.length
    · rw [List.getElem_append_left hlt]; exact hF j hlt
    · rw [List.getElem_append_right (by omega)]
      simp only [List.getElem_singleton]
      exact ⟨i.toNat, by omega, by omega⟩
theorem wrF_all (n : Nat) (P : List (Int × ByteArray)) (f : Int) (dn : Bool) (ops : Int) (i : Int) (s : ByteArray) (hf : f ≤ 9223372036854775807) : ∃ y P' f' d' o', wrF n P f dn ops i s = (y, P', f', d', o') ∧ (y = 0 ∧ P' = P ++ [(i, s)] ∧ 0 ≤ i ∧ i < n ∨ (y == 0) = false ∧ P' = P) ∧ f' ≤ 9223372036854775807 ∧ ops ≤ o' ∧ o' ≤ ops + 1 := by
  unfold wrF
  by_cases h : i < 0 ∨ (n : Int) ≤ i ∨ s.size ≠ 512
  · rw [if_pos h]; exact ⟨_, _, _, _, _, rfl, .inr ⟨rfl, rfl⟩, hf, by omega, by omega⟩
  · rw [if_neg h]
    refine ⟨_, _, _, _, _, rfl, ?_⟩
    unfold opF
    split
    · exact ⟨.inr ⟨rfl, rfl⟩, by show (1 : Int) ≤ _; omega, by show ops ≤ ops; omega, by show ops ≤ ops + 1; omega⟩
    · split
      · exact ⟨.inr ⟨rfl, rfl⟩, by show f ≤ _; omega, by show ops ≤ ops; omega, by show ops ≤ ops + 1; omega⟩
      · split
        · exact ⟨.inl ⟨rfl, rfl, by omega, by omega⟩, by show f - 1 ≤ _; omega, by show ops ≤ ops + 1; omega, by show ops + 1 ≤ ops + 1; omega⟩
        · exact ⟨.inl ⟨rfl, rfl, by omega, by omega⟩, by show f ≤ _; omega, by show ops ≤ ops + 1; omega, by show ops + 1 ≤ ops + 1; omega⟩
theorem fits_snoc {P : List (Int × ByteArray)} {n : Nat} {i : Int} {s : ByteArray} (hF : Fits P n) (h0 : 0 ≤ i) (h1 : i < n) : Fits (P ++ [(i, s)]) n := by
  intro j hj
  by_cases hlt : j < P.length
  · rw [List.getElem_append_left hlt]; exact hF j hlt
  · rw [List.getElem_append_right (by omega)]
    simp only [List.getElem_singleton]
    exact ⟨i.toNat, by omega, by omega⟩
/-- How far the second loop has come. -/
def Wh2 (K : Nat → Prop) (w : World) (d sb : Nat) (S : List ByteArray) (l : List ActR) (j kk : Nat) (wx : World) : Prop :=
  ∃ (pv : Value) (P : List (Int × ByteArray)) (f : Int) (dn : Bool) (ops : Int), Disk K wx d sb S pv P f dn ops ∧ Keep K w wx ∧ Fits P S.length ∧ P.length = kk ∧ kk ≤ j ∧ 0 ≤ ops ∧ ops ≤ 100 + j ∧ f ≤ 9223372036854775807 ∧ ∀ x ∈ P, ∃ r ∈ l, x = (r.n, txt r.byte)
theorem Bools.wider {K L : Nat → Prop} {w : World} {a : Option Addr} {n : Nat} {ks : List Bool} (h : Bools K w a n ks) (hl : ∀ k, K k → L k) : Bools L w a n ks :=
  ⟨h.1, h.2.imp id fun ⟨b, off, e, hb, hj⟩ => ⟨b, off, e, hl b hb, hj⟩⟩
theorem Acts.wider {K L : Nat → Prop} {w : World} {a : Option Addr} {n : Nat} {l : List ActR} (h : Acts K w a n l) (hl : ∀ k, K k → L k) : Acts L w a n l :=
  ⟨h.1, h.2.imp id fun ⟨b, off, e, hb, hj⟩ => ⟨b, off, e, hl b hb, fun j hj' => let q := hj j hj'; ⟨q.c0, q.c1, q.c2, q.c3, q.c4, q.keep.wider hl, q.hi⟩⟩⟩
theorem mem_snoc {P : List (Int × ByteArray)} {l : List ActR} {r : ActR} (hX : ∀ x ∈ P, ∃ r ∈ l, x = (r.n, txt r.byte)) (hr : r ∈ l) : ∀ x ∈ P ++ [(r.n, txt r.byte)], ∃ r ∈ l, x = (r.n, txt r.byte) := by
  intro x hx
  rcases List.mem_append.1 hx with h | h
  · exact hX x h
  · simp at h; exact ⟨r, hr, h⟩
theorem appl_from {S : List ByteArray} {P : List (Int × ByteArray)} {q : Nat → Bool} {k i : Nat} (hF : Fits P S.length) (hk : k ≤ P.length) : (appl S P q k)[i]? = S[i]? ∨ ∃ j, ∃ hj : j < P.length, P[j].1 = (i : Int) ∧ (appl S P q k)[i]? = some P[j].2 := by
  induction k with
  | zero => exact .inl rfl
  | succ k ih =>
    cases hq : q k with
    | false => rw [appl_no hq]; exact ih (by omega)
    | true =>
      obtain ⟨a, ha, hp⟩ := hF k (by omega)
      have hP : P[k] = ((a : Int), P[k].2) := by rw [← hp]
      rw [appl_yes hq (by omega) hP, List.getElem?_set]
      split
      · rename_i h
        subst h
        rw [if_pos (by rw [appl_length]; exact ha)]
        exact .inr ⟨k, by omega, hp, rfl⟩
      · exact ih (by omega)
theorem appl_none {S : List ByteArray} {P : List (Int × ByteArray)} {q : Nat → Bool} {k : Nat} (h : ∀ j, q j = false) : appl S P q k = S := by
  induction k with
  | zero => rfl
  | succ k ih => rw [appl_no (h k), ih]
/-- What the sectors may be behind a failure. -/
theorem whole_facts {S : List ByteArray} {P : List (Int × ByteArray)} {ks : List Bool} {l : List ActR} (hF : Fits P S.length) (hX : ∀ x ∈ P, ∃ r ∈ l, x = (r.n, txt r.byte)) :
    (appl S P (keptQ ks) P.length).length = S.length ∧ (∀ i (h1 : i < (appl S P (keptQ ks) P.length).length) (h2 : i < S.length), (appl S P (keptQ ks) P.length)[i] = S[i] ∨ ∃ r ∈ l, r.n = (i : Int) ∧ (appl S P (keptQ ks) P.length)[i] = txt r.byte) ∧ (ks = [] → appl S P (keptQ ks) P.length = S) := by
  refine ⟨appl_length _ _ _ _, fun i h1 h2 => ?_, fun h => appl_none (fun j => by subst h; simp [keptQ])⟩
  rcases appl_from (q := keptQ ks) (i := i) hF (Nat.le_refl _) with h | ⟨j, hj, e1, e2⟩
  · left
    rw [List.getElem?_eq_getElem h1, List.getElem?_eq_getElem h2] at h
    exact Option.some.inj h
  · right
    obtain ⟨r, hr, hp⟩ := hX _ (List.getElem_mem hj)
    rw [List.getElem?_eq_getElem h1] at e2
    rw [hp] at e1 e2
    exact ⟨r, hr, e1, Option.some.inj e2⟩
/-- Is sector i as it was, or as one of the first k acts left it? -/
def okB (s t : ByteArray) (l : List ActR) (i : Int) (k : Nat) : Bool := (s.toList == t.toList) || (l.take k).any (fun r => decide (r.n = i) && (s.toList == (txt r.byte).toList))
theorem okB_zero (s t : ByteArray) (l : List ActR) (i : Int) : okB s t l i 0 = (s.toList == t.toList) := by simp [okB]
theorem okB_succ (s t : ByteArray) (l : List ActR) (i : Int) (k : Nat) (hk : k < l.length) : okB s t l i (k + 1) = (okB s t l i k || (decide (l[k].n = i) && (s.toList == (txt l[k].byte).toList))) := by
  unfold okB
  rw [List.take_succ_eq_append_getElem hk, List.any_append]
  simp [Bool.or_assoc]
theorem okB_all {s t : ByteArray} {l : List ActR} {i : Int} (h : s = t ∨ ∃ r ∈ l, r.n = i ∧ s = txt r.byte) : okB s t l i l.length = true := by
  unfold okB
  rcases h with rfl | ⟨r, hr, h1, h2⟩
  · simp
  · rw [List.take_length]
    have : l.any (fun r => decide (r.n = i) && (s.toList == (txt r.byte).toList)) = true := List.any_eq_true.2 ⟨r, hr, by rw [h2]; simp [h1]⟩
    rw [this, Bool.or_true]
theorem boolV {a b : Bool} (h : a = b) : Value.bool a = .bool b := by rw [h]
set_option maxRecDepth 100000 in
set_option maxHeartbeats 4000000 in
theorem whole_main (m : Nat) (a1 a2 : Option Addr) (n1 c1 n2 c2 : Nat) (l1 l2 : List ActR) (step : Int) (ka : Option Addr) (kn kc : Nat) (ks : List Bool) (w : World) (hm1 : 1 ≤ m) (hm2 : m ≤ 60) (hn1 : n1 ≤ 40) (hn2 : n2 ≤ 40)
    (hA1 : Acts (fun k => k < w.heap.size) w a1 n1 l1) (hA2 : Acts (fun k => k < w.heap.size) w a2 n2 l2) (hB : Bools (fun k => k < w.heap.size) w ka kn ks) (hst : step ≤ 9223372036854775807) :
    Calls Try.prog 7 #[.int .i64 (m : Int), .slice a1 n1 c1, .slice a2 n2 c2, .int .i64 step, .slice ka kn kc] w fun e w' => e = .returned (.bool true) ∧ Below w.heap.size w w' := by
  have HA1 := Lib.hid hA1
  have HA2 := Lib.hid hA2
  have HB := Lib.hid hB
  have HKL := Lib.hid hB.1
  clear hA1 hA2 hB
  go_enter Try.func7, Try.ntmps7
  go_wp2_with fail
  refine (lives7 _).mono ?_
  rintro e w1 ⟨rfl, B⟩
  go_wp2_with fail
  refine (new_ok (K := fun k => k < w.heap.size) m _ hm1 (by omega) _ rfl (fun k hk => by have := B.size; omega)).mono ?_
  rintro e w2 ⟨d, sb, rfl, hD, B2⟩
  replace B := below_to B B2
  have hK : Keep (fun k => k < w.heap.size) w w2 := ⟨B.os, B.tape, B.output, B.size, fun k hk => B.block k hk⟩
  clear B2
  go_wp2_with fail
  go_loopw [61] (fun i wx => ∃ k : Nat, k ≤ n1 ∧ Wh1 (fun k => k < w.heap.size) w d sb m k wx ∧ i = .int .i64 (k : Int)) (fun i _ => n1 - (intOf i).toNat)
  case atStart => exact ⟨0, Nat.zero_le _, ⟨_, [], 0, hD, hK, fun j hj => by simp at hj, by simp, by omega, by omega⟩, rfl⟩
  case round =>
    clear hD hK B
    obtain ⟨k, hk, ⟨pv, P, ops, hD, hK, hF, hP, ho1, ho2⟩, rfl⟩ := hrel
    by_cases hlt : k < n1
    · have hA := HA1.out.keep hK
      obtain ⟨b, off, rfl, -, hj⟩ : ∃ b off, a1 = some ⟨b, off, none⟩ ∧ b < w.heap.size ∧ ∀ j (hj : j < l1.length), ActAt (fun k => k < w.heap.size) wr b (off + j * 5) l1[j] := by
        rcases hA.2 with h0 | h
        · omega
        · exact h
      have hkl : k < l1.length := by rw [hA.1]; exact hlt
      have hR := hj k hkl
      generalize l1[k] = r at hR
      clear hj hA hkl
      obtain ⟨q0, q1, q2, q3, q4, -, -⟩ := hR
      obtain ⟨y, P', o', hq, hF', hP', ho1', ho2'⟩ := wrF_on m P ops r.n (txt r.byte) hF
      have HQ := Lib.hid (show wrF (List.replicate m z512).length P 0 false ops r.n (txt r.byte) = (y, P', 0, false, o') by rw [List.length_replicate]; exact hq)
      clear hq
      go_wp2_with fail
      have hG := hD.guard (.cells #[.int .i64 r.kind, .int .i64 r.n, .int .u8 (r.byte.toNat : Int), .bool r.short, .slice r.ka r.kn r.kc] 57)
      have hKG := hK.below (fun k hk => hk) ((Below.refl wr.heap.size wr).alloc (Nat.le_refl _) (.cells #[.int .i64 r.kind, .int .i64 r.n, .int .u8 (r.byte.toNat : Int), .bool r.short, .slice r.ka r.kn r.kc] 57))
      obtain ⟨x1, x2⟩ : (wr.alloc (.cells #[.int .i64 r.kind, .int .i64 r.n, .int .u8 (r.byte.toNat : Int), .bool r.short, .slice r.ka r.kn r.kc] 57)).cell? ⟨wr.heap.size, 1, none⟩ = some (.int .i64 r.n) ∧ (wr.alloc (.cells #[.int .i64 r.kind, .int .i64 r.n, .int .u8 (r.byte.toNat : Int), .bool r.short, .slice r.ka r.kn r.kc] 57)).cell? ⟨wr.heap.size, 2, none⟩ = some (.int .u8 (r.byte.toNat : Int)) := ⟨by simp [go_sem], by simp [go_sem]⟩
      generalize wr.alloc (.cells #[.int .i64 r.kind, .int .i64 r.n, .int .u8 (r.byte.toNat : Int), .bool r.short, .slice r.ka r.kn r.kc] 57) = wz at hG hKG x1 x2 ⊢
      have hGd := hG.below ((Below.refl wz.heap.size wz).drew)
      have hKd := hKG.below (fun k hk => hk) ((Below.refl wz.heap.size wz).drew)
      clear q0 q1 q2 q3 q4 hD hK hG hKG
      go_region_held3 (fun w' => w'.cell? ⟨wr.heap.size, 1, none⟩ = some (.int .i64 r.n) ∧ w'.cell? ⟨wr.heap.size, 2, none⟩ = some (.int .u8 (r.byte.toNat : Int)))
        (first | exact ⟨x1, x2⟩ | exact two_below hb (by assumption) | exact two_keep hKw (.inr rfl) (by assumption))
        (first | (go_at_call 35; refine (txt_any r.byte _).mono ?_; rintro e w4 ⟨rfl, hb⟩; have hsz4 := hb.size) | (go_at_call 34; refine (write_any (hGd.below hb) r.n (txt r.byte) (by omega) (by omega) ho1 (by omega) _ _ _ _ _ HQ.out).mono ?_; rintro e w5 ⟨rfl, hDw, hKw⟩))
      obtain ⟨pv', hDw⟩ := hDw
      have hKz := (hKd.below (fun k hk => hk) hb).trans (hKw.mono (fun k hk => .inl hk))
      have hDz := hDw.weaken (fun k hk => .inl hk)
      clear hDw hKw hb hKd hGd x1 x2
      go_wp2_with fail
      go_roundw
      case rel => exact ⟨k + 1, by omega, ⟨pv', P', o', hDz, hKz, hF', by omega, by omega, by omega⟩, by go_num⟩
      case measure => simp [intOf]; omega
    · have hFS : Fits P (List.replicate m z512).length := by rw [List.length_replicate]; exact hF
      have HQ := Lib.hid (show flF (List.replicate m z512) P 0 false ops = (0, appl (List.replicate m z512) P (fun _ => true) P.length, [], 0, false, ops + 1) by simp [flF, opF])
      have hS1 : (appl (List.replicate m z512) P (fun _ => true) P.length).length = m := by rw [appl_length, List.length_replicate]
      have hF1 := Lib.hid (flush_any hD hFS (by omega) (by omega) ho1 (by omega) _ _ _ _ _ _ HQ.out)
      generalize appl (List.replicate m z512) P (fun _ => true) P.length = S1 at HQ hS1 hF1
      clear hFS HQ
      go_wp2_with fail
      refine hF1.out.mono ?_
      rintro e w3 ⟨rfl, ⟨pv3, hD3⟩, hK3⟩
      replace hK := hK.trans hK3
      clear hF1 hK3 hD
      go_wp2_with fail
      refine (safe_any hD3 (by omega)).mono ?_
      rintro e w4 ⟨g, cap, rfl, hg1, hg2, hown, B4⟩
      obtain ⟨K, hKK, hKg, hD4, hKlt⟩ : ∃ K : Nat → Prop, (∀ k, k < w.heap.size → K k) ∧ K g ∧ Disk K w4 d sb S1 pv3 [] 0 false (ops + 1) ∧ ∀ k, K k → k < w4.heap.size := ⟨_, fun k hk => .inl hk, .inr ⟨hg1, hg2⟩, hD3.fence B4, (hD3.fence B4).lt⟩
      replace hK := hK.below (fun k hk => hk) B4
      have hrow := StrRow.of_own hown
      clear hown B4 hg1 hD3
      go_wp2_with fail
      refine (arm_any hD4 step).mono ?_
      rintro e w5 ⟨rfl, hD5, hK5⟩
      replace hK := hK.trans (hK5.mono hKK)
      replace hrow := hrow.block (hK5.block g hKg)
      replace hKlt : ∀ k, K k → k < w5.heap.size := fun k hk => by have := hKlt k hk; have := hK5.size; omega
      have hmx : max step 0 ≤ 9223372036854775807 := by omega
      generalize max step 0 = mx at hD5 hmx
      clear hD4 hK5 hg2
      have HR := Lib.hid hrow
      have HS1 := Lib.hid hS1
      clear hrow hS1
      go_wp2_with fail
      go_loopw [16, 83] (fun c i wx => ∃ j kk : Nat, j ≤ n2 ∧ Wh2 K w5 d sb S1 l2 j kk wx ∧ c = .int .i64 (kk : Int) ∧ i = .int .i64 (j : Int)) (fun _ i _ => n2 - (intOf i).toNat)
      case atStart => exact ⟨0, 0, Nat.zero_le _, ⟨_, [], _, _, _, hD5, Keep.refl _, fun j hj => by simp at hj, rfl, by omega, by omega, by omega, hmx, fun x hx => by simp at hx⟩, rfl, rfl⟩
      case round =>
        clear hD5
        obtain ⟨j, kk, hj, ⟨pv, P, f, dn, ops, hD, hK2, hF, rfl, hPj, ho1, ho2, hf, hX⟩, rfl, rfl⟩ := hrel
        by_cases hlt2 : j < n2
        · have hA := (HA2.out.keep (hK.trans (hK2.mono hKK))).wider hKK
          obtain ⟨b, off, rfl, -, hj⟩ : ∃ b off, a2 = some ⟨b, off, none⟩ ∧ K b ∧ ∀ j (hj : j < l2.length), ActAt K wr b (off + j * 5) l2[j] := by
            rcases hA.2 with h0 | h
            · omega
            · exact h
          have hkl : j < l2.length := by rw [hA.1]; exact hlt2
          have hR := hj j hkl
          have hrm : l2[j] ∈ l2 := List.getElem_mem _
          generalize l2[j] = r at hR hrm
          clear hj hA hkl
          obtain ⟨q0, q1, q2, q3, q4, -, -⟩ := hR
          obtain ⟨y, P', f', d', o', hq, hy, hf', ho1', ho2'⟩ := wrF_all S1.length P f dn ops r.n (txt r.byte) hf
          have HQ := Lib.hid hq
          clear hq
          have hsv := hK
          clear hK
          have hK := hK2
          rcases hy with ⟨rfl, rfl, hi0, hi1⟩ | ⟨hy, rfl⟩
          · go_wp2_with fail
            have hG := hD.guard (.cells #[.int .i64 r.kind, .int .i64 r.n, .int .u8 (r.byte.toNat : Int), .bool r.short, .slice r.ka r.kn r.kc] 57)
            have hKG := hK.below hKlt ((Below.refl wr.heap.size wr).alloc (Nat.le_refl _) (.cells #[.int .i64 r.kind, .int .i64 r.n, .int .u8 (r.byte.toNat : Int), .bool r.short, .slice r.ka r.kn r.kc] 57))
            obtain ⟨x1, x2⟩ : (wr.alloc (.cells #[.int .i64 r.kind, .int .i64 r.n, .int .u8 (r.byte.toNat : Int), .bool r.short, .slice r.ka r.kn r.kc] 57)).cell? ⟨wr.heap.size, 1, none⟩ = some (.int .i64 r.n) ∧ (wr.alloc (.cells #[.int .i64 r.kind, .int .i64 r.n, .int .u8 (r.byte.toNat : Int), .bool r.short, .slice r.ka r.kn r.kc] 57)).cell? ⟨wr.heap.size, 2, none⟩ = some (.int .u8 (r.byte.toNat : Int)) := ⟨by simp [go_sem], by simp [go_sem]⟩
            generalize wr.alloc (.cells #[.int .i64 r.kind, .int .i64 r.n, .int .u8 (r.byte.toNat : Int), .bool r.short, .slice r.ka r.kn r.kc] 57) = wz at hG hKG x1 x2 ⊢
            have hGd := hG.below ((Below.refl wz.heap.size wz).drew)
            have hKd := hKG.below hKlt ((Below.refl wz.heap.size wz).drew)
            clear q0 q1 q2 q3 q4 hD hK hG hKG
            go_region_held3 (fun w' => w'.cell? ⟨wr.heap.size, 1, none⟩ = some (.int .i64 r.n) ∧ w'.cell? ⟨wr.heap.size, 2, none⟩ = some (.int .u8 (r.byte.toNat : Int)))
              (first | exact ⟨x1, x2⟩ | exact two_below hb (by assumption) | exact two_keep hKw (.inr rfl) (by assumption))
              (first | (go_at_call 35; refine (txt_any r.byte _).mono ?_; rintro e w8 ⟨rfl, hb⟩) | (go_at_call 34; refine (write_any (hGd.below hb) r.n (txt r.byte) (by omega) hf ho1 (by omega) _ _ _ _ _ HQ.out).mono ?_; rintro e w9 ⟨rfl, hDw, hKw⟩))
            obtain ⟨pv', hDw⟩ := hDw
            have hKz := (hKd.below hKlt hb).trans (hKw.mono (fun k hk => .inl hk))
            have hDz := hDw.weaken (fun k hk => .inl hk)
            clear hDw hKw hb hKd hGd x1 x2
            go_wp2_with fail
            go_roundw
            case rel => exact ⟨j + 1, P.length + 1, by omega, ⟨pv', _, _, _, _, hDz, hKz, fits_snoc hF hi0 hi1, by simp, by omega, by omega, by omega, hf', mem_snoc hX hrm⟩, by go_num, by go_num⟩
            case measure => simp [intOf]; omega
          · go_wp2_with fail
            have hG := hD.guard (.cells #[.int .i64 r.kind, .int .i64 r.n, .int .u8 (r.byte.toNat : Int), .bool r.short, .slice r.ka r.kn r.kc] 57)
            have hKG := hK.below hKlt ((Below.refl wr.heap.size wr).alloc (Nat.le_refl _) (.cells #[.int .i64 r.kind, .int .i64 r.n, .int .u8 (r.byte.toNat : Int), .bool r.short, .slice r.ka r.kn r.kc] 57))
            obtain ⟨x1, x2⟩ : (wr.alloc (.cells #[.int .i64 r.kind, .int .i64 r.n, .int .u8 (r.byte.toNat : Int), .bool r.short, .slice r.ka r.kn r.kc] 57)).cell? ⟨wr.heap.size, 1, none⟩ = some (.int .i64 r.n) ∧ (wr.alloc (.cells #[.int .i64 r.kind, .int .i64 r.n, .int .u8 (r.byte.toNat : Int), .bool r.short, .slice r.ka r.kn r.kc] 57)).cell? ⟨wr.heap.size, 2, none⟩ = some (.int .u8 (r.byte.toNat : Int)) := ⟨by simp [go_sem], by simp [go_sem]⟩
            generalize wr.alloc (.cells #[.int .i64 r.kind, .int .i64 r.n, .int .u8 (r.byte.toNat : Int), .bool r.short, .slice r.ka r.kn r.kc] 57) = wz at hG hKG x1 x2 ⊢
            have hGd := hG.below ((Below.refl wz.heap.size wz).drew)
            have hKd := hKG.below hKlt ((Below.refl wz.heap.size wz).drew)
            clear q0 q1 q2 q3 q4 hD hK hG hKG
            go_region_held3 (fun w' => w'.cell? ⟨wr.heap.size, 1, none⟩ = some (.int .i64 r.n) ∧ w'.cell? ⟨wr.heap.size, 2, none⟩ = some (.int .u8 (r.byte.toNat : Int)))
              (first | exact ⟨x1, x2⟩ | exact two_below hb (by assumption) | exact two_keep hKw (.inr rfl) (by assumption))
              (first | (go_at_call 35; refine (txt_any r.byte _).mono ?_; rintro e w8 ⟨rfl, hb⟩) | (go_at_call 34; refine (write_any (hGd.below hb) r.n (txt r.byte) (by omega) hf ho1 (by omega) _ _ _ _ _ HQ.out).mono ?_; rintro e w9 ⟨rfl, hDw, hKw⟩))
            obtain ⟨pv', hDw⟩ := hDw
            have hKz := (hKd.below hKlt hb).trans (hKw.mono (fun k hk => .inl hk))
            have hDz := hDw.weaken (fun k hk => .inl hk)
            clear hDw hKw hb hKd hGd x1 x2
            go_wp2_with fail
            go_roundw
            case rel => exact ⟨j + 1, P'.length, by omega, ⟨pv', _, _, _, _, hDz, hKz, hF, rfl, by omega, by omega, by omega, hf', hX⟩, rfl, by go_num⟩
            case measure => simp [intOf]; omega
        · have n3 := Lib.hid (pending_any hD)
          obtain ⟨f1, f2, f3⟩ := whole_facts (ks := ks) hF hX
          have n4 := Lib.hid (up_any hD hF (by omega) (kc := kc) ((HB.out.keep (hK.trans (hK2.mono hKK))).wider hKK))
          generalize appl S1 P (keptQ ks) P.length = S2 at f1 f2 f3 n4
          have HF2 := Lib.hid f2
          have HF3 := Lib.hid f3
          have HF1 := Lib.hid f1
          clear f1 f2 f3 hX
          go_wp2_with fail
          refine n3.out.mono ?_
          rintro e w' ⟨rfl, rfl⟩
          go_wp2_with fail
          refine n4.out.mono ?_
          rintro e w6 ⟨rfl, hD6, hK6⟩
          replace hK := hK.trans ((hK2.trans hK6).mono hKK)
          have hrow := Lib.hid (HR.out.block ((hK2.trans hK6).block g hKg))
          have hglt : g < w6.heap.size := by have := hKlt g hKg; have := (hK2.trans hK6).size; omega
          clear n3 n4 hD hK2 hK6 hF HR
          go_wp2_with fail
          refine (safe_any hD6 (by rw [HF1.out, HS1.out]; omega)).mono ?_
          rintro e w7 ⟨g2, cap2, rfl, hg1, hg2, hown2, B7⟩
          have R1 := Lib.hid (hrow.out.block (B7.block g hglt))
          have R2 := Lib.hid (StrRow.of_own hown2)
          replace hglt : g < w7.heap.size := by have := B7.size; omega
          have D7 := Lib.hid (hD6.below B7)
          replace hK := hK.below (fun k hk => hk) B7
          have A7 := Lib.hid (HA2.out.keep hK)
          clear hrow hown2 hD6 HA2 HB hg1 B7
          go_wp2_with fail
          go_loopw [108] (fun i wx => ∃ k : Nat, k ≤ S2.length ∧ Below w7.heap.size w7 wx ∧ i = .int .i64 (k : Int)) (fun i _ => S2.length - (intOf i).toNat)
          case atStart => exact ⟨0, Nat.zero_le _, Below.refl _ _, rfl⟩
          case round =>
            obtain ⟨k3, hk3, B3, rfl⟩ := hrel
            by_cases hlt3 : k3 < S2.length
            · have hlt1 : k3 < S1.length := by rw [← HF1.out]; exact hlt3
              have hltm : k3 < m := by rw [← HS1.out]; exact hlt1
              have s2 := (B3.cell (p := ⟨g2, k3, none⟩) hg2).trans (R2.out k3 hlt3)
              have s1 := (B3.cell (p := ⟨g, k3, none⟩) hglt).trans (R1.out k3 hlt1)
              have hM := HF2.out k3 hlt3 hlt1
              have hN : ks = [] → S2[k3] = S1[k3] := fun h => by have := HF3.out h; subst this; rfl
              have HT : Hid (readT S2 [] k3 = S2[k3]) := Lib.hid (readT_none hlt3 (fun j hj => by simp at hj))
              generalize S2[k3] = s at s2 hM hN HT
              have R1t := Lib.hid (R1.out k3 hlt1)
              generalize S1[k3] = t at s1 hM hN R1t
              have HM := Lib.hid hM
              have HN := Lib.hid hN
              clear hM hN
              go_wp2_with fail
              go_loopw [21, 121] (fun o i wx => ∃ j4 : Nat, j4 ≤ n2 ∧ Below w7.heap.size w7 wx ∧ o = .bool (okB s t l2 (k3 : Int) j4) ∧ i = .int .i64 (j4 : Int)) (fun _ i _ => n2 - (intOf i).toNat)
              case atStart => exact ⟨0, Nat.zero_le _, B3, boolV (okB_zero _ _ _ _).symm, rfl⟩
              case round =>
                clear B3 s1 s2
                obtain ⟨j4, hj4, B3, rfl, rfl⟩ := hrel
                by_cases hlt4 : j4 < n2
                · have hA := A7.out
                  obtain ⟨b, off, rfl, hbK, hj⟩ : ∃ b off, a2 = some ⟨b, off, none⟩ ∧ b < w.heap.size ∧ ∀ j (hj : j < l2.length), ActAt (fun k => k < w.heap.size) w7 b (off + j * 5) l2[j] := by
                    rcases hA.2 with h0 | h
                    · omega
                    · exact h
                  have hkl : j4 < l2.length := by rw [hA.1]; exact hlt4
                  have hsu := okB_succ s t l2 (k3 : Int) j4 hkl
                  have hR := hj j4 hkl
                  generalize l2[j4] = r at hR hsu
                  have hb7 : b < w7.heap.size := by have := hK.size; omega
                  have q0 := (B3.cell (p := ⟨b, off + j4 * 5, none⟩) hb7).trans hR.c0
                  have q1 := (B3.cell (p := ⟨b, off + j4 * 5 + 1, none⟩) hb7).trans hR.c1
                  have q2 := (B3.cell (p := ⟨b, off + j4 * 5 + 2, none⟩) hb7).trans hR.c2
                  have q3 := (B3.cell (p := ⟨b, off + j4 * 5 + 3, none⟩) hb7).trans hR.c3
                  have q4 := (B3.cell (p := ⟨b, off + j4 * 5 + 4, none⟩) hb7).trans hR.c4
                  have HSU := Lib.hid hsu
                  obtain ⟨v, hv⟩ : ∃ v, okB s t l2 (k3 : Int) j4 = v := ⟨_, rfl⟩
                  rw [hv] at HSU ⊢
                  clear hv hsu hj hA hkl hR hb7 hbK
                  cases v with
                  | true =>
                    go_wp2_with fail
                    go_roundw
                    case rel => exact ⟨j4 + 1, by omega, B3.alloc B3.size _, boolV (by rw [HSU.out]; rfl), by go_num⟩
                    case measure => simp [intOf]; omega
                  | false =>
                    by_cases hrn : r.n = (k3 : Int)
                    · have hbe : (r.n == (k3 : Int)) = true := by rw [hrn]; simp
                      have HRN := Lib.hid hrn
                      clear hrn
                      go_wp2_with fail
                      refine (txt_any r.byte _).mono ?_
                      rintro e w8 ⟨rfl, hb⟩
                      have B8 := below_to (B3.alloc B3.size (.cells #[.int .i64 r.kind, .int .i64 r.n, .int .u8 (r.byte.toNat : Int), .bool r.short, .slice r.ka r.kn r.kc] 57)) hb
                      clear hb q0 q1 q2 q3 q4 B3
                      go_wp2_with fail
                      go_roundw
                      case rel => exact ⟨j4 + 1, by omega, B8, boolV (by rw [HSU.out]; simp [HRN.out]), by go_num⟩
                      case measure => simp [intOf]; omega
                    · have hbe : (r.n == (k3 : Int)) = false := by rw [beq_eq_false_iff_ne]; exact hrn
                      have HRN := Lib.hid hrn
                      clear hrn
                      go_wp2_with fail
                      go_roundw
                      case rel => exact ⟨j4 + 1, by omega, B3.alloc B3.size _, boolV (by rw [HSU.out]; simp [HRN.out]), by go_num⟩
                      case measure => simp [intOf]; omega
                · have hok : okB s t l2 (k3 : Int) j4 = true := by
                    have : j4 = l2.length := by rw [A7.out.1]; omega
                    rw [this]; exact okB_all HM.out
                  rw [hok]
                  have n5 := Lib.hid (read_ok (D7.out.below B3) k3 hlt3 (by simp))
                  have HT' := HT.out
                  rw [HT'] at n5
                  clear hok HT HT' HM
                  have s1'' := R1t.out
                  by_cases hkn : kn = 0
                  · have hst2 : s = t := HN.out (List.eq_nil_of_length_eq_zero (HKL.out.trans hkn))
                    subst hst2 hkn
                    go_wp2_with fail
                    refine n5.out.mono ?_
                    rintro e w9 ⟨rfl, hb⟩
                    have B9 := below_to B3 hb
                    have s9 := (B9.cell (p := ⟨g, k3, none⟩) hglt).trans s1''
                    clear hb B3 n5 s1''
                    go_wp2_with fail
                    go_roundw
                    case rel => exact ⟨k3 + 1, by omega, B9, by go_num⟩
                    case measure => simp [intOf]; omega
                  · have hk0 : ((kn : Int) == 0) = false := by rw [beq_eq_false_iff_ne]; omega
                    go_wp2_with fail
                    refine n5.out.mono ?_
                    rintro e w9 ⟨rfl, hb⟩
                    have B9 := below_to B3 hb
                    have s9 := (B9.cell (p := ⟨g, k3, none⟩) hglt).trans s1''
                    clear hb B3 n5 s1''
                    go_wp2_with fail
                    go_roundw
                    case rel => exact ⟨k3 + 1, by omega, B9, by go_num⟩
                    case measure => simp [intOf]; omega
            · have n6 := Lib.hid (pending_any (D7.out.below B3))
              have n7 := Lib.hid (down_any (D7.out.below B3))
              go_wp2_with fail
              refine n6.out.mono ?_
              rintro e w' ⟨rfl, rfl⟩
              go_wp2_with fail
              refine n7.out.mono ?_
              rintro e w' ⟨rfl, rfl⟩
              go_wp2_with fail
              go_ret
              exact ⟨rfl, hK.toBelow.trans (B3.mono hK.size)⟩
end Go.Proofs.Ytplngodilalbhaa
