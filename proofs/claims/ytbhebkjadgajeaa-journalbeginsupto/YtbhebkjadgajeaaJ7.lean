/- Contract: the transaction at the beginning of sectors. -/
import Derived.Test.YtbhebkjadgajeaaJ6
namespace Go.Proofs.Ytbhebkjadgajeaa
open Go.RowKit
theorem neq70 (s t : Sct) (w : World) : (binOp .neq 70 s.val t.val).run Try.prog w = .ok (.bool (!sameS s t)) w := by
  obtain ⟨k, e, n, a, m, p⟩ := s
  obtain ⟨k', e', n', a', m', p'⟩ := t
  unfold Sct.val sameS
  simp only [Sct.mk.injEq]
  by_cases h1 : k = k'
  · by_cases h2 : e = e'
    · by_cases h3 : n = n'
      · by_cases h4 : a = a'
        · by_cases h5 : m = m'
          · by_cases h6 : p = p' <;> simp [go_sem, h1, h2, h3, h4, h5, h6, str_beq]
          · simp [go_sem, h1, h2, h3, h4, h5, nat_beq]
        · simp [go_sem, h1, h2, h3, h4, nat_beq]
      · simp [go_sem, h1, h2, h3, nat_beq]
    · simp [go_sem, h1, h2, nat_beq]
  · simp [go_sem, h1, nat_beq]
/-- Block g holds these sectors from place o on. -/
def SAt (w : World) (g o : Nat) (L : List Sct) : Prop := g < w.heap.size ∧ ∀ j (hj : j < L.length) i u, (L[j].cells)[i]? = some u → w.cell? ⟨g, o + j * 6 + i, none⟩ = some u
theorem SW.at {w : World} {g : Nat} {L : List Sct} (h : SW w g L) (k : Nat) : SAt w g (k * 6) (L.drop k) := by
  refine ⟨h.lt, fun j hj i u hu => ?_⟩
  have hj' : k + j < L.length := by simp at hj; omega
  rw [show k * 6 + j * 6 + i = (k + j) * 6 + i by omega]
  exact h.cell (k + j) hj' i u (by simpa [List.getElem_drop] using hu)
theorem SAt.below {w w1 : World} {g o : Nat} {L : List Sct} (h : SAt w g o L) (B : Below w.heap.size w w1) : SAt w1 g o L :=
  ⟨Nat.lt_of_lt_of_le h.1 B.size, fun j hj i u hu => (B.cell (p := ⟨g, o + j * 6 + i, none⟩) h.1).trans (h.2 j hj i u hu)⟩
/-- The images of the transaction that stands at the beginning; none: there is none. -/
def nextG (e n : Nat) (z : ByteArray) : List Sct → List (Int × ByteArray) → List (Int × ByteArray)
  | [], _ => []
  | s :: r, acc => if acc ≠ [] ∧ s = coS e n acc.length z then acc else if s.a < 3840 ∧ s = imS e n acc.length ((s.a : Int), s.p) then nextG e n z r (acc ++ [((s.a : Int), s.p)]) else []
theorem nextG_end (e n : Nat) (z : ByteArray) (L : List Sct) (k : Nat) (hk : L.length ≤ k) (acc : List (Int × ByteArray)) : nextG e n z (L.drop k) acc = [] := by
  rw [List.drop_of_length_le hk]; rfl
theorem nextG_co {e n : Nat} {z : ByteArray} {L : List Sct} {k : Nat} (hk : k < L.length) {acc : List (Int × ByteArray)} (ha : acc.length = k) (h0 : 0 < k) (hs : L[k] = coS e n k z) : nextG e n z (L.drop k) acc = acc := by
  rw [List.drop_eq_getElem_cons hk, nextG, if_pos ⟨by intro e; rw [e] at ha; simp at ha; omega, by rw [ha]; exact hs⟩]
theorem nextG_im {e n : Nat} {z : ByteArray} {L : List Sct} {k : Nat} (hk : k < L.length) {acc : List (Int × ByteArray)} (ha : acc.length = k) (h1 : L[k].a < 3840) (hs : L[k] = imS e n k ((L[k].a : Int), L[k].p)) : nextG e n z (L.drop k) acc = nextG e n z (L.drop (k + 1)) (acc ++ [((L[k].a : Int), L[k].p)]) := by
  rw [List.drop_eq_getElem_cons hk, nextG, if_neg, if_pos ⟨h1, by rw [ha]; exact hs⟩]
  rintro ⟨_, h⟩
  rw [hs] at h
  simp [imS, coS] at h
theorem nextG_no {e n : Nat} {z : ByteArray} {L : List Sct} {k : Nat} (hk : k < L.length) {acc : List (Int × ByteArray)} (ha : acc.length = k) (h0 : ¬ (0 < k ∧ L[k] = coS e n k z)) (hs : ¬ (L[k].a < 3840 ∧ L[k] = imS e n k ((L[k].a : Int), L[k].p))) : nextG e n z (L.drop k) acc = [] := by
  rw [List.drop_eq_getElem_cons hk, nextG, if_neg, if_neg]
  · rw [ha]; exact hs
  · rintro ⟨h1, h2⟩
    refine h0 ⟨?_, by rw [ha] at h2; exact h2⟩
    have := List.length_pos_iff.2 h1
    omega
theorem info57 : (Try.prog.info? 57).map (fun i => (i.zero, i.size, i.bytes)) = some (some (.agg #[.int .i64 0, .string ⟨#[]⟩]), 2, 24) := by kernel_rfl
theorem sameS_yes {s t : Sct} (h : s = t) : sameS s t = true := by unfold sameS; exact decide_eq_true h
theorem sameS_no {s t : Sct} (h : ¬ s = t) : sameS s t = false := by unfold sameS; exact decide_eq_false h
set_option maxRecDepth 100000 in
set_option maxHeartbeats 4000000 in
theorem next_any (e n g o c : Nat) (L : List Sct) (z : ByteArray) (hz : bs (List.replicate 480 0) = z) (w : World) (hn : L.length ≤ 1024) (hS : SAt w g o L) (R : List (Int × ByteArray)) (hR : nextG e n z L [] = R) :
    Calls Try.prog 33 #[.slice (some ⟨g, o, none⟩) L.length c, .int .u64 (e : Int), .int .u64 (n : Int)] w fun x w' => ∃ v, x = .returned v ∧ RowOf w 57 2 v R.length (flat R) w' := by
  obtain ⟨i0, hi0, hz0, hz1, hz2⟩ := info_parts info57
  have nc := Lib.hid (fun i w => commit_any e n i z hz w)
  clear hz
  go_enter Try.func33, Try.ntmps33
  go_wp2
  go_loopw [7, 13] (fun v i wr => ∃ k : Nat, k ≤ L.length ∧ i = .int .i64 k ∧ ∃ acc : List (Int × ByteArray), Hid (acc.length = k) ∧ RowOf w 57 2 v acc.length (flat acc) wr ∧ Hid (nextG e n z (L.drop k) acc = R)) (fun _ i _ => L.length - (intOf i).toNat)
  case atStart => exact ⟨0, Nat.zero_le _, rfl, [], Lib.hid rfl, RowOf.start _ _ _, Lib.hid hR⟩
  case round =>
    obtain ⟨k, hk, rfl, acc, ha, hW, hG⟩ := hrel
    by_cases hlt : k < L.length
    · obtain ⟨s, hs⟩ : ∃ s, L[k] = s := ⟨_, rfl⟩
      have hS1 := hS.2 k hlt
      rw [hs] at hS1
      have hq : ∀ i u, s.cells[i]? = some u → wr.cell? ⟨g, o + k * 6 + i, none⟩ = some u := fun i u hu => (hW.below.cell (p := ⟨g, o + k * 6 + i, none⟩) hS.1).trans (hS1 i u hu)
      clear hS1
      have HS := Lib.hid hs
      obtain ⟨sk, se, sn, sa, sm, sp⟩ := s
      have q0 := hq 0 _ rfl
      have q1 := hq 1 _ rfl
      have q2 := hq 2 _ rfl
      have q3 := hq 3 _ rfl
      have q4 := hq 4 _ rfl
      have q5 := hq 5 _ rfl
      rw [Nat.add_zero] at q0
      simp only at q0 q1 q2 q3 q4 q5
      clear hq hs
      by_cases hco : 0 < k ∧ L[k] = coS e n k z
      · obtain ⟨h0, hco⟩ := hco
        have h0' : (0 : Int) < (k : Int) := by omega
        have HC : Hid (sameS ⟨sk, se, sn, sa, sm, sp⟩ ⟨3, e, n, 0, k, z⟩ = true) := Lib.hid (sameS_yes (HS.out.symm.trans hco))
        have HCO := Lib.hid hco
        clear hco
        go_wp2_with fail
        have F := Sec.new wr sk se sn sa sm sp 70
        generalize wr.alloc (.cells #[.int .i64 (sk : Int), .int .u64 (se : Int), .int .u64 (sn : Int), .int .i64 (sa : Int), .int .i64 (sm : Int), .string sp] 70) = W at F ⊢
        obtain ⟨F1, F2⟩ := F
        have c0 := F1.q0
        have c1 := F1.q1
        have c2 := F1.q2
        have c3 := F1.q3
        have c4 := F1.q4
        have c5 := F1.q5
        have hne : Nonempty (Bw W) := ⟨⟨W, Below.refl _ _⟩⟩
        have hE : ∀ w, (binOp .eql 70 (.agg #[.int .i64 (sk : Int), .int .u64 (se : Int), .int .u64 (sn : Int), .int .i64 (sa : Int), .int .i64 (sm : Int), .string sp]) (.agg #[.int .i64 3, .int .u64 (e : Int), .int .u64 (n : Int), .int .i64 0, .int .i64 (k : Int), .string z])).run Try.prog w = .ok (.bool true) w := fun w => (eql70 ⟨sk, se, sn, sa, sm, sp⟩ ⟨3, e, n, 0, k, z⟩ w).trans (by rw [HC.out])
        refine wp_region_below (by kernel_rfl) (by kernel_rfl) ?_
        repeat (go_big_quiet_step (fail))
        go_big_quiet_step (exact Calls.bw_of (nc.out _ _))
        repeat (go_big_quiet_step (fail))
        refine wpQuiet_nil ?_
        rintro _ ⟨q, rfl⟩
        go_wp2_with fail
        go_ret
        obtain rfl : R = acc := hG.out.symm.trans (nextG_co hlt ha.out h0 HCO.out)
        exact ⟨_, rfl, (hW.later F2).later q.h⟩
      · have NCO := Lib.hid hco
        by_cases h0 : 0 < k
        · have h0' : (0 : Int) < (k : Int) := by omega
          have HC : Hid (sameS ⟨sk, se, sn, sa, sm, sp⟩ ⟨3, e, n, 0, k, z⟩ = false) := Lib.hid (sameS_no (fun h => hco ⟨h0, HS.out.trans h⟩))
          clear hco
          go_wp2_with fail
          have F := Sec.new wr sk se sn sa sm sp 70
          generalize wr.alloc (.cells #[.int .i64 (sk : Int), .int .u64 (se : Int), .int .u64 (sn : Int), .int .i64 (sa : Int), .int .i64 (sm : Int), .string sp] 70) = W at F ⊢
          obtain ⟨F1, F2⟩ := F
          have c0 := F1.q0
          have c1 := F1.q1
          have c2 := F1.q2
          have c3 := F1.q3
          have c4 := F1.q4
          have c5 := F1.q5
          have hne : Nonempty (Bw W) := ⟨⟨W, Below.refl _ _⟩⟩
          have hE : ∀ w, (binOp .eql 70 (.agg #[.int .i64 (sk : Int), .int .u64 (se : Int), .int .u64 (sn : Int), .int .i64 (sa : Int), .int .i64 (sm : Int), .string sp]) (.agg #[.int .i64 3, .int .u64 (e : Int), .int .u64 (n : Int), .int .i64 0, .int .i64 (k : Int), .string z])).run Try.prog w = .ok (.bool false) w := fun w => (eql70 ⟨sk, se, sn, sa, sm, sp⟩ ⟨3, e, n, 0, k, z⟩ w).trans (by rw [HC.out])
          refine wp_region_below (by kernel_rfl) (by kernel_rfl) ?_
          repeat (go_big_quiet_step (fail))
          go_big_quiet_step (exact Calls.bw_of (nc.out _ _))
          repeat (go_big_quiet_step (fail))
          refine wpQuiet_nil ?_
          rintro _ ⟨q, rfl⟩
          have G1 := F1.below q.h
          have hW1 := (hW.later F2).later q.h
          clear c0 c1 c2 c3 c4 c5 F1 F2 hW
          generalize q.w = wq at G1 hW1 ⊢
          have d3 := G1.c3
          have d5 := G1.c5
          go_wp2_with fail
          have e0 : (wq.alloc (.cells #[.int .i64 (sa : Int), .string sp] 57)).cell? ⟨wq.heap.size, 0, none⟩ = some (.int .i64 (sa : Int)) := by simp [go_sem]
          have e1 : (wq.alloc (.cells #[.int .i64 (sa : Int), .string sp] 57)).cell? ⟨wq.heap.size, 1, none⟩ = some (.string sp) := by simp [go_sem]
          have lt2 : wq.heap.size < (wq.alloc (.cells #[.int .i64 (sa : Int), .string sp] 57)).heap.size := by simp
          replace G1 := G1.below ((Below.refl wq.heap.size wq).alloc (Nat.le_refl _) (.cells #[.int .i64 (sa : Int), .string sp] 57))
          replace hW1 := hW1.later ((Below.refl wq.heap.size wq).alloc (Nat.le_refl _) (.cells #[.int .i64 (sa : Int), .string sp] 57))
          clear d3 d5
          generalize wq.alloc (.cells #[.int .i64 (sa : Int), .string sp] 57) = W2 at e0 e1 lt2 G1 hW1 ⊢
          have c0 := G1.q0
          have c1 := G1.q1
          have c2 := G1.q2
          have c3 := G1.q3
          have c4 := G1.q4
          have c5 := G1.q5
          have x0 := Bw.cell lt2 e0
          have x1 := Bw.cell lt2 e1
          have hne2 : Nonempty (Bw W2) := ⟨⟨W2, Below.refl _ _⟩⟩
          clear e0 e1
          by_cases hpg : sa < 3840
          · have hp1 : (0 : Int) ≤ (sa : Int) := by omega
            have hp2 : (sa : Int) < 3840 := by omega
            by_cases him : (⟨sk, se, sn, sa, sm, sp⟩ : Sct) = ⟨2, e, n, sa, k, sp⟩
            · have HI := Lib.hid (sameS_yes him)
              have HIM := Lib.hid him
              clear him
              have hE2 : ∀ w, (binOp .neq 70 (.agg #[.int .i64 (sk : Int), .int .u64 (se : Int), .int .u64 (sn : Int), .int .i64 (sa : Int), .int .i64 (sm : Int), .string sp]) (.agg #[.int .i64 2, .int .u64 (e : Int), .int .u64 (n : Int), .int .i64 (sa : Int), .int .i64 (k : Int), .string sp])).run Try.prog w = .ok (.bool false) w := fun w => (neq70 ⟨sk, se, sn, sa, sm, sp⟩ ⟨2, e, n, sa, k, sp⟩ w).trans (by rw [HI.out]; rfl)
              refine wp_region_below (by kernel_rfl) (by kernel_rfl) ?_
              repeat (go_big_quiet_step (fail))
              go_big_quiet_step (exact Calls.bw_of_same (isPage_yes _ _ hp1 hp2))
              repeat (go_big_quiet_step (fail))
              go_big_quiet_step (exact Calls.bw_of (image_any e n (k : Int) (sa : Int) sp _))
              repeat (go_big_quiet_step (fail))
              refine wpQuiet_nil ?_
              rintro _ ⟨q, rfl⟩
              have f0 := x0 q
              have f1 := x1 q
              replace hW1 := hW1.later q.h
              clear c0 c1 c2 c3 c4 c5 x0 x1 hE2 G1
              generalize q.w = w3 at f0 f1 hW1 ⊢
              have hal : acc.length ≤ 1024 := by rw [ha.out]; omega
              go_wp2_with (at_builtin; refine wpList_append_own _ rfl _ _ 35 rfl w.heap.size 57 i0 (.agg #[.int .i64 0, .string ⟨#[]⟩]) 2 24 Try.underlying35 hi0 hz0 hz1 hz2 rfl (by decide) _ _ _ rfl (hW1.own.alloc _) ⟨w3.heap.size, 0, none⟩ 1 1 [.int .i64 (sa : Int), .string sp] rfl ?d1 ?d2 ?d3 ?d4 ?d5 ?d6 ?_)
              case d1 => rfl
              case d2 =>
                intro j u hj
                match j, hj with
                | 0, hj => simp at hj; subst hj; simp [Addr.add]
                | 1, hj => simp at hj; subst hj; simp [Addr.add]
              case d3 => intro u hu; simp at hu; rcases hu with rfl | rfl <;> rfl
              case d4 => unfold maxLen; omega
              case d5 => omega
              case d6 => have := hW1.below.size; simp; omega
              intro v2 w4 hown4 hgrow4 hnil4
              have hR2 := hW1.snoc hown4 hgrow4
              go_wp2_with fail
              go_roundw
              case rel =>
                refine ⟨k + 1, by omega, by go_num, acc ++ [((sa : Int), sp)], Lib.hid (by rw [List.length_append, ha.out]; rfl), ?_, Lib.hid ?_⟩
                · rw [flat_snoc, List.length_append]; exact hR2
                · have := nextG_im (z := z) hlt ha.out (by rw [HS.out]; exact hpg) (by rw [HS.out]; exact HIM.out)
                  rw [HS.out] at this
                  rw [← this]; exact hG.out
              case measure => simp [intOf]; omega
            · have HI := Lib.hid (sameS_no him)
              have NIM : Hid (¬ ((⟨sk, se, sn, sa, sm, sp⟩ : Sct).a < 3840 ∧ (⟨sk, se, sn, sa, sm, sp⟩ : Sct) = imS e n k (((⟨sk, se, sn, sa, sm, sp⟩ : Sct).a : Int), (⟨sk, se, sn, sa, sm, sp⟩ : Sct).p))) := Lib.hid (fun h => him h.2)
              clear him
              have hE2 : ∀ w, (binOp .neq 70 (.agg #[.int .i64 (sk : Int), .int .u64 (se : Int), .int .u64 (sn : Int), .int .i64 (sa : Int), .int .i64 (sm : Int), .string sp]) (.agg #[.int .i64 2, .int .u64 (e : Int), .int .u64 (n : Int), .int .i64 (sa : Int), .int .i64 (k : Int), .string sp])).run Try.prog w = .ok (.bool true) w := fun w => (neq70 ⟨sk, se, sn, sa, sm, sp⟩ ⟨2, e, n, sa, k, sp⟩ w).trans (by rw [HI.out]; rfl)
              refine wp_region_below (by kernel_rfl) (by kernel_rfl) ?_
              repeat (go_big_quiet_step (fail))
              go_big_quiet_step (exact Calls.bw_of_same (isPage_yes _ _ hp1 hp2))
              repeat (go_big_quiet_step (fail))
              go_big_quiet_step (exact Calls.bw_of (image_any e n (k : Int) (sa : Int) sp _))
              repeat (go_big_quiet_step (fail))
              refine wpQuiet_nil ?_
              rintro _ ⟨q, rfl⟩
              go_wp2_with fail
              go_ret
              obtain rfl : R = [] := hG.out.symm.trans (nextG_no hlt ha.out NCO.out (by rw [HS.out]; exact NIM.out))
              exact ⟨_, rfl, (RowOf.start w 57 2).later (below_to hW1.below q.h)⟩
          · have NIM : Hid (¬ ((⟨sk, se, sn, sa, sm, sp⟩ : Sct).a < 3840 ∧ (⟨sk, se, sn, sa, sm, sp⟩ : Sct) = imS e n k (((⟨sk, se, sn, sa, sm, sp⟩ : Sct).a : Int), (⟨sk, se, sn, sa, sm, sp⟩ : Sct).p))) := Lib.hid (fun h => hpg h.1)
            have hp3 : (sa : Int) < 0 ∨ 3840 ≤ (sa : Int) := .inr (by omega)
            have HP3 := Lib.hid hp3
            clear hp3
            refine wp_region_below (by kernel_rfl) (by kernel_rfl) ?_
            repeat (go_big_quiet_step (fail))
            go_big_quiet_step (exact Calls.bw_of_same (isPage_no _ _ HP3.out))
            repeat (go_big_quiet_step (fail))
            refine wpQuiet_nil ?_
            rintro _ ⟨q, rfl⟩
            go_wp2_with fail
            go_ret
            obtain rfl : R = [] := hG.out.symm.trans (nextG_no hlt ha.out NCO.out (by rw [HS.out]; exact NIM.out))
            exact ⟨_, rfl, (RowOf.start w 57 2).later (below_to hW1.below q.h)⟩
        · have hk0 : ((k : Int) ≤ 0) := by omega
          clear hco
          go_wp2_with fail
          have F := Sec.new wr sk se sn sa sm sp 70
          generalize wr.alloc (.cells #[.int .i64 (sk : Int), .int .u64 (se : Int), .int .u64 (sn : Int), .int .i64 (sa : Int), .int .i64 (sm : Int), .string sp] 70) = W at F ⊢
          obtain ⟨F1, F2⟩ := F
          have c0 := F1.q0
          have c1 := F1.q1
          have c2 := F1.q2
          have c3 := F1.q3
          have c4 := F1.q4
          have c5 := F1.q5
          have hne : Nonempty (Bw W) := ⟨⟨W, Below.refl _ _⟩⟩
          refine wp_region_below (by kernel_rfl) (by kernel_rfl) ?_
          repeat (go_big_quiet_step (fail))
          refine wpQuiet_nil ?_
          rintro _ ⟨q, rfl⟩
          have G1 := F1.below q.h
          have hW1 := (hW.later F2).later q.h
          clear c0 c1 c2 c3 c4 c5 F1 F2 hW
          generalize q.w = wq at G1 hW1 ⊢
          have d3 := G1.c3
          have d5 := G1.c5
          go_wp2_with fail
          have e0 : (wq.alloc (.cells #[.int .i64 (sa : Int), .string sp] 57)).cell? ⟨wq.heap.size, 0, none⟩ = some (.int .i64 (sa : Int)) := by simp [go_sem]
          have e1 : (wq.alloc (.cells #[.int .i64 (sa : Int), .string sp] 57)).cell? ⟨wq.heap.size, 1, none⟩ = some (.string sp) := by simp [go_sem]
          have lt2 : wq.heap.size < (wq.alloc (.cells #[.int .i64 (sa : Int), .string sp] 57)).heap.size := by simp
          replace G1 := G1.below ((Below.refl wq.heap.size wq).alloc (Nat.le_refl _) (.cells #[.int .i64 (sa : Int), .string sp] 57))
          replace hW1 := hW1.later ((Below.refl wq.heap.size wq).alloc (Nat.le_refl _) (.cells #[.int .i64 (sa : Int), .string sp] 57))
          clear d3 d5
          generalize wq.alloc (.cells #[.int .i64 (sa : Int), .string sp] 57) = W2 at e0 e1 lt2 G1 hW1 ⊢
          have c0 := G1.q0
          have c1 := G1.q1
          have c2 := G1.q2
          have c3 := G1.q3
          have c4 := G1.q4
          have c5 := G1.q5
          have x0 := Bw.cell lt2 e0
          have x1 := Bw.cell lt2 e1
          have hne2 : Nonempty (Bw W2) := ⟨⟨W2, Below.refl _ _⟩⟩
          clear e0 e1
          by_cases hpg : sa < 3840
          · have hp1 : (0 : Int) ≤ (sa : Int) := by omega
            have hp2 : (sa : Int) < 3840 := by omega
            by_cases him : (⟨sk, se, sn, sa, sm, sp⟩ : Sct) = ⟨2, e, n, sa, k, sp⟩
            · have HI := Lib.hid (sameS_yes him)
              have HIM := Lib.hid him
              clear him
              have hE2 : ∀ w, (binOp .neq 70 (.agg #[.int .i64 (sk : Int), .int .u64 (se : Int), .int .u64 (sn : Int), .int .i64 (sa : Int), .int .i64 (sm : Int), .string sp]) (.agg #[.int .i64 2, .int .u64 (e : Int), .int .u64 (n : Int), .int .i64 (sa : Int), .int .i64 (k : Int), .string sp])).run Try.prog w = .ok (.bool false) w := fun w => (neq70 ⟨sk, se, sn, sa, sm, sp⟩ ⟨2, e, n, sa, k, sp⟩ w).trans (by rw [HI.out]; rfl)
              refine wp_region_below (by kernel_rfl) (by kernel_rfl) ?_
              repeat (go_big_quiet_step (fail))
              go_big_quiet_step (exact Calls.bw_of_same (isPage_yes _ _ hp1 hp2))
              repeat (go_big_quiet_step (fail))
              go_big_quiet_step (exact Calls.bw_of (image_any e n (k : Int) (sa : Int) sp _))
              repeat (go_big_quiet_step (fail))
              refine wpQuiet_nil ?_
              rintro _ ⟨q, rfl⟩
              have f0 := x0 q
              have f1 := x1 q
              replace hW1 := hW1.later q.h
              clear c0 c1 c2 c3 c4 c5 x0 x1 hE2 G1
              generalize q.w = w3 at f0 f1 hW1 ⊢
              have hal : acc.length ≤ 1024 := by rw [ha.out]; omega
              go_wp2_with (at_builtin; refine wpList_append_own _ rfl _ _ 35 rfl w.heap.size 57 i0 (.agg #[.int .i64 0, .string ⟨#[]⟩]) 2 24 Try.underlying35 hi0 hz0 hz1 hz2 rfl (by decide) _ _ _ rfl (hW1.own.alloc _) ⟨w3.heap.size, 0, none⟩ 1 1 [.int .i64 (sa : Int), .string sp] rfl ?d1 ?d2 ?d3 ?d4 ?d5 ?d6 ?_)
              case d1 => rfl
              case d2 =>
                intro j u hj
                match j, hj with
                | 0, hj => simp at hj; subst hj; simp [Addr.add]
                | 1, hj => simp at hj; subst hj; simp [Addr.add]
              case d3 => intro u hu; simp at hu; rcases hu with rfl | rfl <;> rfl
              case d4 => unfold maxLen; omega
              case d5 => omega
              case d6 => have := hW1.below.size; simp; omega
              intro v2 w4 hown4 hgrow4 hnil4
              have hR2 := hW1.snoc hown4 hgrow4
              go_wp2_with fail
              go_roundw
              case rel =>
                refine ⟨k + 1, by omega, by go_num, acc ++ [((sa : Int), sp)], Lib.hid (by rw [List.length_append, ha.out]; rfl), ?_, Lib.hid ?_⟩
                · rw [flat_snoc, List.length_append]; exact hR2
                · have := nextG_im (z := z) hlt ha.out (by rw [HS.out]; exact hpg) (by rw [HS.out]; exact HIM.out)
                  rw [HS.out] at this
                  rw [← this]; exact hG.out
              case measure => simp [intOf]; omega
            · have HI := Lib.hid (sameS_no him)
              have NIM : Hid (¬ ((⟨sk, se, sn, sa, sm, sp⟩ : Sct).a < 3840 ∧ (⟨sk, se, sn, sa, sm, sp⟩ : Sct) = imS e n k (((⟨sk, se, sn, sa, sm, sp⟩ : Sct).a : Int), (⟨sk, se, sn, sa, sm, sp⟩ : Sct).p))) := Lib.hid (fun h => him h.2)
              clear him
              have hE2 : ∀ w, (binOp .neq 70 (.agg #[.int .i64 (sk : Int), .int .u64 (se : Int), .int .u64 (sn : Int), .int .i64 (sa : Int), .int .i64 (sm : Int), .string sp]) (.agg #[.int .i64 2, .int .u64 (e : Int), .int .u64 (n : Int), .int .i64 (sa : Int), .int .i64 (k : Int), .string sp])).run Try.prog w = .ok (.bool true) w := fun w => (neq70 ⟨sk, se, sn, sa, sm, sp⟩ ⟨2, e, n, sa, k, sp⟩ w).trans (by rw [HI.out]; rfl)
              refine wp_region_below (by kernel_rfl) (by kernel_rfl) ?_
              repeat (go_big_quiet_step (fail))
              go_big_quiet_step (exact Calls.bw_of_same (isPage_yes _ _ hp1 hp2))
              repeat (go_big_quiet_step (fail))
              go_big_quiet_step (exact Calls.bw_of (image_any e n (k : Int) (sa : Int) sp _))
              repeat (go_big_quiet_step (fail))
              refine wpQuiet_nil ?_
              rintro _ ⟨q, rfl⟩
              go_wp2_with fail
              go_ret
              obtain rfl : R = [] := hG.out.symm.trans (nextG_no hlt ha.out NCO.out (by rw [HS.out]; exact NIM.out))
              exact ⟨_, rfl, (RowOf.start w 57 2).later (below_to hW1.below q.h)⟩
          · have NIM : Hid (¬ ((⟨sk, se, sn, sa, sm, sp⟩ : Sct).a < 3840 ∧ (⟨sk, se, sn, sa, sm, sp⟩ : Sct) = imS e n k (((⟨sk, se, sn, sa, sm, sp⟩ : Sct).a : Int), (⟨sk, se, sn, sa, sm, sp⟩ : Sct).p))) := Lib.hid (fun h => hpg h.1)
            have hp3 : (sa : Int) < 0 ∨ 3840 ≤ (sa : Int) := .inr (by omega)
            have HP3 := Lib.hid hp3
            clear hp3
            refine wp_region_below (by kernel_rfl) (by kernel_rfl) ?_
            repeat (go_big_quiet_step (fail))
            go_big_quiet_step (exact Calls.bw_of_same (isPage_no _ _ HP3.out))
            repeat (go_big_quiet_step (fail))
            refine wpQuiet_nil ?_
            rintro _ ⟨q, rfl⟩
            go_wp2_with fail
            go_ret
            obtain rfl : R = [] := hG.out.symm.trans (nextG_no hlt ha.out NCO.out (by rw [HS.out]; exact NIM.out))
            exact ⟨_, rfl, (RowOf.start w 57 2).later (below_to hW1.below q.h)⟩
    · obtain rfl : R = [] := hG.out.symm.trans (nextG_end e n z L k (by omega) acc)
      go_wp2_with fail
      go_ret
      exact ⟨_, rfl, (RowOf.start w 57 2).later hW.below⟩
end Go.Proofs.Ytbhebkjadgajeaa
