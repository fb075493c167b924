/- TopHomes, walked. -/
import Derived.Test.YtplngodilalbhaaH8
import Derived.Deep.CutRange
namespace Go.Proofs.Ytplngodilalbhaa
open Go.RowKit Go.Shelf
set_option linter.unusedVariables false
theorem drew_to (n : Nat) (w : World) : Below n w w.drew := ⟨rfl, rfl, rfl, Nat.le_refl _, fun _ _ => rfl⟩
theorem opF_bd {fuse : Int} {dn : Bool} {ops y f' : Int} {d' : Bool} {o' : Int} (h : opF fuse dn ops = (y, f', d', o')) (hf : fuse ≤ 9223372036854775807) : f' ≤ 9223372036854775807 ∧ ops ≤ o' ∧ o' ≤ ops + 1 := by
  unfold opF at h
  split at h
  · simp only [Prod.mk.injEq] at h; obtain ⟨_, rfl, _, rfl⟩ := h; omega
  · split at h
    · simp only [Prod.mk.injEq] at h; obtain ⟨_, rfl, _, rfl⟩ := h; omega
    · split at h <;> (simp only [Prod.mk.injEq] at h; obtain ⟨_, rfl, _, rfl⟩ := h; omega)
/-- Is the page one of the first u? -/
def fnd (l : List UInt8) (c : UInt8) (u : Nat) : Bool := (l.take u).any fun x => ((pgB x).toList == (pgB c).toList)
theorem fnd_zero (l : List UInt8) (c : UInt8) : fnd l c 0 = false := by simp [fnd]
theorem fnd_succ (l : List UInt8) (c : UInt8) (u : Nat) (h : u < l.length) : fnd l c (u + 1) = (fnd l c u || ((pgB l[u]).toList == (pgB c).toList)) := by
  unfold fnd
  rw [List.take_succ_eq_append_getElem h, List.any_append]
  simp only [List.any_cons, List.any_nil, Bool.or_false]
theorem fnd_all {l : List UInt8} {c : UInt8} (h : c ∈ l) : fnd l c l.length = true := by
  unfold fnd
  rw [List.take_length]
  exact List.any_eq_true.2 ⟨c, h, beq_self_eq_true _⟩
/-- How far the second loop has come. -/
def Tp (w : World) (m d sb mb k : Nat) (wx : World) : Prop :=
  ∃ (K : Nat → Prop) (G : Nat → Nat) (M : List (List UInt8)) (S : List ByteArray) (pv : Value) (B : List (Nat × UInt8)) (fuse : Int) (dn : Bool) (ops : Int),
    Disk K wx d sb S pv (wrs B) fuse dn ops ∧ May K wx mb G M ∧ M.length = m ∧ Inv S B M ∧ (∀ x, x < w.heap.size → K x) ∧ Keep (fun x => x < w.heap.size) w wx ∧ (∀ i, i < m → w.heap.size ≤ G i) ∧ B.length ≤ k ∧ (∀ l ∈ M, l.length ≤ k + 1) ∧ fuse ≤ 9223372036854775807 ∧ 0 ≤ ops ∧ ops ≤ 2 * (k : Int)
set_option maxRecDepth 100000 in
set_option maxHeartbeats 4000000 in
theorem homes_main (nb : UInt8) (m : Nat) (hm : nb.toNat % 20 + 1 = m) (a1 : Option Addr) (n1 c1 : Nat) (l1 : List HomeR) (step : Int) (ka : Option Addr) (kn kc : Nat) (ks : List Bool) (w : World) (hn1 : n1 ≤ 60)
    (hA1 : Homes (fun k => k < w.heap.size) w a1 n1 l1) (hB : Bools (fun k => k < w.heap.size) w ka kn ks) (hst : step ≤ 9223372036854775807) :
    Calls Try.prog 9 #[.int .u8 (nb.toNat : Int), .slice a1 n1 c1, .int .i64 step, .slice ka kn kc] w fun e w' => e = .returned (.bool true) ∧ Below w.heap.size w w' := by
  have HA1 := Lib.hid hA1
  have HB := Lib.hid hB
  have hnb : nb.toNat < 256 := nb.toNat_lt
  have HM := Lib.hid hm
  have hm1 : 1 ≤ m := by omega
  have hm2 : m ≤ 20 := by omega
  clear hA1 hB hm
  go_enter Try.func9, Try.ntmps9
  go_wp2_with fail
  refine (begins3_any _).mono ?_
  rintro e w1 ⟨rfl, B⟩
  go_wp2_with fail
  have hmi : ((nb.toNat : Int) % 20 + 1) = (m : Int) := by have := HM.out; omega
  rw [hmi]
  clear hmi
  refine (new_ok (K := fun k => k < w.heap.size) m _ hm1 (by omega) _ rfl (fun k hk => by have := B.size; omega)).mono ?_
  rintro e w2 ⟨d, sb, rfl, hD, B2⟩
  replace B := below_to B B2
  clear B2
  have km := run_make49 w2 m (by omega)
  have hC := Cells.made w2 m (.slice none 0 0) 49
  have hBz := (Below.refl w2.heap.size w2).alloc (Nat.le_refl _) (.cells (List.replicate m (.slice none 0 0)).toArray 49)
  have hsz : w2.heap.size < (w2.alloc (.cells (List.replicate m (.slice none 0 0)).toArray 49)).heap.size := by simp
  generalize w2.alloc (.cells (List.replicate m (.slice none 0 0)).toArray 49) = wa at km hC hBz hsz
  go_wp2_with fail
  clear km
  go_loopw [62] (fun i wx => ∃ (k : Nat) (G : Nat → Nat), k ≤ m ∧ Cells wx w2.heap.size m ∧ May (fun x => w2.heap.size ≤ x ∧ x < wx.heap.size) wx w2.heap.size G (List.replicate k [0]) ∧ Below w2.heap.size w2 wx ∧ i = .int .i64 (k : Int)) (fun i _ => m - (intOf i).toNat)
  case atStart => exact ⟨0, fun _ => 0, Nat.zero_le _, hC, ⟨⟨Nat.le_refl _, hsz⟩, fun i hi => by simp at hi, fun i hi => by simp at hi, fun i j hi => by simp at hi⟩, hBz, rfl⟩
  case round =>
    clear hC hBz hsz
    obtain ⟨k, G, hk, hC, hMy, hBx, rfl⟩ := hrel
    by_cases hlt : k < m
    · go_wp2_with fail
      refine (pg_lit 0 0 rfl _).mono ?_
      rintro e w3 ⟨rfl, B3⟩
      have hmbl : w2.heap.size < wr.heap.size := hMy.own.2
      have hC3 := (hC.block (B3.block w2.heap.size hmbl)).block (Below.heap_alloc w3 (.cells #[.string (pgB 0)] 9) w2.heap.size (by have := B3.size; omega))
      have hM3 := hMy.snoc (k := k) (L := fun x => w2.heap.size ≤ x ∧ x < (w3.alloc (.cells #[.string (pgB 0)] 9)).heap.size) (w1 := w3.alloc (.cells #[.string (pgB 0)] 9)) (by simp) (fun x hx => ⟨hx.1, by have := B3.size; simp; omega⟩)
        (fun x hx => (Below.heap_alloc w3 _ x (by have := B3.size; omega)).trans (B3.block x hx.2)) (hC3 k hlt) (MRow.one w3 0) (fun h => by have := B3.size; omega) ⟨by have := B3.size; omega, by simp⟩
      have hBz := (below_to hBx B3).alloc (below_to hBx B3).size (.cells #[.string (pgB 0)] 9)
      have hC4 := hC3.set (i := k) (v := .slice (some ⟨w3.heap.size, 0, none⟩) 1 1)
      obtain ⟨u, hu⟩ := Option.isSome_iff_exists.1 (hC3 k hlt).1
      have hfz := (hC3 k hlt).2
      clear hC3 hMy hC B3
      go_wp2_with fail
      go_roundw
      case rel =>
        refine ⟨k + 1, fun i => if i = k then w3.heap.size else G i, by omega, hC4, ?_, hBz.setCell (p := ⟨w2.heap.size, k, none⟩) (Nat.le_refl _) _, by go_num⟩
        rw [List.replicate_succ']
        have hz : ((w3.alloc (.cells #[.string (pgB 0)] 9)).setCell ⟨w2.heap.size, k, none⟩ (.slice (some ⟨w3.heap.size, 0, none⟩) 1 1)).heap.size = (w3.alloc (.cells #[.string (pgB 0)] 9)).heap.size := by simp
        rw [hz]
        exact hM3
      case measure => simp [intOf]; omega
    · obtain rfl : k = m := by omega
      have hwm : w.heap.size ≤ w2.heap.size := B.size
      have hDf := hD.fence hBx
      have hMw : May (fun x => x < w.heap.size ∨ w2.heap.size ≤ x ∧ x < wr.heap.size) wr w2.heap.size G (List.replicate k [0]) := hMy.wider (fun x hx => .inr hx)
      have hGw : ∀ i, i < k → w.heap.size ≤ G i := fun i hi => by have := (hMy.ne i (by simpa using hi)).2.1; omega
      have hKx : Keep (fun x => x < w.heap.size) w wr := ⟨(below_to B hBx).os, (below_to B hBx).tape, (below_to B hBx).output, (below_to B hBx).size, fun x hx => (below_to B hBx).block x hx⟩
      have HAR := Lib.hid (arm_any hDf step)
      clear hD hC hBx B hDf
      go_wp2_with fail
      refine HAR.out.mono ?_
      rintro e w5 ⟨rfl, hD5, hK5⟩
      have hmx : max step 0 ≤ 9223372036854775807 := by omega
      have hTp : Tp w k d sb w2.heap.size 0 w5 := ⟨_, G, _, _, _, [], _, _, _, hD5, hMw.keep (fun x hx => hK5.block x hx), by simp, inv_new k, fun x hx => .inl hx, hKx.trans (hK5.mono (fun x hx => .inl hx)), hGw, by simp, fun l hl => by rw [List.eq_of_mem_replicate hl]; simp, hmx, by omega, by omega⟩
      clear HAR hD5 hK5 hmx hMw hKx hMy hGw
      go_wp2_with fail
      obtain ⟨mb, hmb⟩ : ∃ mb, w2.heap.size = mb := ⟨_, rfl⟩
      rw [hmb] at hTp hwm ⊢
      clear hmb
      go_loopw [76] (fun i wx => ∃ j : Nat, j ≤ n1 ∧ Tp w k d sb mb j wx ∧ i = .int .i64 (j : Int)) (fun i _ => n1 - (intOf i).toNat)
      case atStart => exact ⟨0, Nat.zero_le _, hTp, rfl⟩
      case round =>
        clear hTp
        obtain ⟨j, hj, ⟨K, G, M, S, pv, B, fuse, dn, ops, hD, hMy, hMl, hInv, hK0, hKw, hGw, hBl, hMb, hf, ho1, ho2⟩, rfl⟩ := hrel
        by_cases hlt2 : j < n1
        · have hA := HA1.out.keep hKw
          obtain ⟨b, off, rfl, hbK, hjj⟩ : ∃ b off, a1 = some ⟨b, off, none⟩ ∧ b < w.heap.size ∧ ∀ j (hj : j < l1.length), HomeAt wr b (off + j * 3) l1[j] := by
            rcases hA.2 with h0 | h
            · omega
            · exact h
          have hkl : j < l1.length := by rw [hA.1]; exact hlt2
          have hR := hjj j hkl
          generalize l1[j] = r at hR
          clear hjj hA hkl
          obtain ⟨q0, q1, q2⟩ := hR
          have hpl : r.page.toNat < 256 := r.page.toNat_lt
          obtain ⟨p, hp⟩ : ∃ p : Nat, r.page.toNat % k = p := ⟨_, rfl⟩
          have hpk : p < k := by rw [← hp]; exact Nat.mod_lt _ (by omega)
          have hpi : ((r.page.toNat : Int) % (k : Int)) = (p : Int) := by rw [← hp]; exact (Int.natCast_emod _ _).symm
          have hpt : Int.tmod (r.page.toNat : Int) (k : Int) = (p : Int) := by rw [Int.tmod_eq_emod_of_nonneg (by omega)]; exact hpi
          have hk0 : ((k : Int) == 0) = false := by rw [beq_eq_false_iff_ne]; omega
          clear hp
          go_wp2_with fail
          have hx0 := (Below.refl wr.heap.size wr).alloc (Nat.le_refl _) (.cells #[.int .u8 (r.page.toNat : Int), .int .u8 (r.byte.toNat : Int), .bool r.fl] 77)
          obtain ⟨z1, z2⟩ : (wr.alloc (.cells #[.int .u8 (r.page.toNat : Int), .int .u8 (r.byte.toNat : Int), .bool r.fl] 77)).cell? ⟨wr.heap.size, 1, none⟩ = some (.int .u8 (r.byte.toNat : Int)) ∧ (wr.alloc (.cells #[.int .u8 (r.page.toNat : Int), .int .u8 (r.byte.toNat : Int), .bool r.fl] 77)).cell? ⟨wr.heap.size, 2, none⟩ = some (.bool r.fl) := ⟨by simp [go_sem], by simp [go_sem]⟩
          generalize wr.alloc (.cells #[.int .u8 (r.page.toNat : Int), .int .u8 (r.byte.toNat : Int), .bool r.fl] 77) = wz at *
          clear q0 q1 q2
          refine (pg_any r.byte _).mono ?_
          rintro e w6 ⟨rfl, B6⟩
          have HHM := Lib.hid (home_lit (p : Int) p rfl (pgB r.byte) (by omega) (pgB_size _) w6)
          have HSZ := Lib.hid (homeB_size p (pgB r.byte) (by omega) (pgB_size _))
          have hx6 := below_to hx0 B6
          obtain ⟨y1, y2⟩ := two_below B6 ⟨z1, z2⟩
          clear z1 z2 hx0 B6
          obtain ⟨hm, hhm⟩ : ∃ hm, homeB p (pgB r.byte) = hm := ⟨_, rfl⟩
          rw [hhm] at HHM HSZ
          have HHB := Lib.hid hhm
          clear hhm
          go_wp2_with fail
          refine HHM.out.mono ?_
          rintro e w7 ⟨rfl, B7⟩
          have hx7 := below_to hx6 B7
          obtain ⟨z1, z2⟩ := two_below B7 ⟨y1, y2⟩
          clear y1 y2 hx6 B7 HHM
          obtain ⟨K1, hK1, hKb, hD7, hKn⟩ : ∃ K1 : Nat → Prop, (∀ x, K x → K1 x) ∧ K1 wr.heap.size ∧ Disk K1 w7 d sb S pv (wrs B) fuse dn ops ∧ (∀ x, K1 x → K x ∨ wr.heap.size ≤ x) := ⟨_, fun x hx => .inl hx, .inr ⟨Nat.le_refl _, World.block_lt_of_cell? w7 _ z1⟩, hD.fence hx7, fun x hx => hx.imp id (fun h => h.1)⟩
          have hMown : mb < wr.heap.size := hD.lt _ hMy.own
          have hMne : ∀ i, i < M.length → G i < wr.heap.size := fun i hi => hD.lt _ (hMy.ne i hi).2
          have hM7 := (hMy.keep (fun x hx => hx7.block x (hD.lt x hx))).wider hK1
          have hKw7 := hKw.below (fun x hx => hx) hx7
          obtain ⟨y, P', f', d', o', hq, hy, hf', ho1', ho2'⟩ := wrF_all S.length (wrs B) fuse dn ops p hm hf
          have hwl : (wrs B).length = B.length := by simp [wrs]
          have HWR := Lib.hid (write_any hD7 p hm (by omega) hf ho1 (by omega) _ _ _ _ _ hq)
          clear hq hwl hMy hKw
          go_upto_if 99 with (go_at_call 34; refine HWR.out.mono ?_; rintro e w8 ⟨rfl, ⟨pv8, hD8⟩, hK8⟩)
          obtain ⟨t1, t2⟩ := two_keep hK8 hKb ⟨z1, z2⟩
          have hM8 := hM7.keep (fun x hx => hK8.block x hx)
          have hKw8 := hKw7.trans (hK8.mono (fun x hx => hK1 x (hK0 x hx)))
          have hbm : wr.heap.size ≠ mb := fun e => by have := hMown; omega
          have hbG : ∀ i, i < M.length → wr.heap.size ≠ G i := fun i hi e => by have := hMne i hi; omega
          clear hM7 hKw7 HWR hD7 z1 z2
          go_cut [76] from 76 to 139 (fun s76 wx => s76 = .int .i64 (j : Int) ∧ TQ w k d sb mb j wr.heap.size r.fl wx)
          case first =>
            rcases hy with ⟨rfl, rfl, -, -⟩ | ⟨hy, rfl⟩
            · rw [← HHB.out, ← wrs_snoc] at hD8
              have hInv2 := hInv.write (show p < M.length by omega) r.byte
              obtain ⟨v, hv1, hv2, hvr⟩ := hM8.row p (by omega)
              have hpl2 : (M[p]'(by omega)).length ≤ 1000 := by have := hMb _ (List.getElem_mem (show p < M.length by omega)); omega
              have hmem : M[p]'(by omega) ∈ M := List.getElem_mem _
              obtain ⟨off', cap', rfl⟩ : ∃ off' cap', v = .slice (some ⟨G p, off', none⟩) (M[p]'(by omega)).length cap' := by
                obtain ⟨off', cap', e, _⟩ := hvr
                exact ⟨off', cap', e⟩
              have hGl : G p < w8.heap.size := hD8.lt _ (hM8.ne p (by omega)).2
              have hml : mb < w8.heap.size := hD8.lt _ hM8.own
              have hbl : wr.heap.size < w8.heap.size := World.block_lt_of_cell? w8 _ t1
              have hne : mb ≠ G p := fun e => (hM8.ne p (by omega)).1 e.symm
              have HVR := Lib.hid hvr
              obtain ⟨L, hLL⟩ : ∃ L, M[p]'(by omega) = L := ⟨_, rfl⟩
              rw [hLL] at HVR hv1 hpl2 hInv2 hmem
              have HI2 := Lib.hid hInv2
              clear hvr hLL hInv2
              go_upto_region 22 with (fail)
              go_region_law (first
                | (refine step_append_run (by rfl) (.tmp 105) (.tmp 109) 49 (by rfl) _ _ (by rfl) (by rfl) _ (mrow_append _ _ _ _ HV9.out r.byte _ HS9.out hpl2 _) ?_; rintro v' w10 ⟨g', hr', hg', hgl', hgrow⟩; obtain ⟨off2, cap2, rfl, -⟩ := id hr'; have hm9 : mb < w9.heap.size := Nat.lt_of_lt_of_le hml hb9.size; have hbk := (hgrow.block mb (by simp; omega) (fun e => hne (Option.some.inj e))).trans (Below.heap_alloc w9 (.cells #[.string (pgB r.byte)] 9) mb hm9); have s1 := (World.cell?_of_block (a := ⟨mb, p, none⟩) hbk).trans u1; have s2 := (World.frozen?_of_block (a := ⟨mb, p, none⟩) hbk).trans u2)
                | (go_simp; go_at_call 41; refine (pg_any r.byte _).mono ?_; rintro e w9 ⟨rfl, hb9⟩; have HV9 := Lib.hid ((HVR.out.block (hb9.block _ hGl)).block (Below.heap_alloc w9 (.cells #[.string (pgB r.byte)] 9) _ (Nat.lt_of_lt_of_le hGl hb9.size))); have HS9 := Lib.hid (show (w9.alloc (.cells #[.string (pgB r.byte)] 9)).cell? ⟨w9.heap.size, 0, none⟩ = some (.string (pgB r.byte)) by simp [go_sem]); have u1 := (hb9.cell (p := ⟨mb, p, none⟩) hml).trans hv1; have u2 := (hb9.frozen (p := ⟨mb, p, none⟩) hml).trans hv2; have u3 : (w9.alloc (.cells #[.string (pgB r.byte)] 9)).cell? ⟨mb, p, none⟩ = some (.slice (some ⟨G p, off', none⟩) L.length cap') := Lib.cell?_alloc_some _ u1))
              all_goals
                have HTQ := Lib.hid (tq_ok (T := pgB r.byte) (fl := r.fl) (box := wr.heap.size) hD8 hM8 hMl hpk HI2.out (fun x hx => hK1 x (hK0 x hx)) hKw8 hGw hwm hBl hMb hmem hf' (by omega) (by omega) t2 hbm (hbG p (by omega)) hb9 hr' hg' hgl' hgrow)
                clear HV9 HS9 u1 u2 u3 s1 s2 hr' hgrow hb9 hbk
                go_wp2_with fail
                go_meet
                case rel => have h := HTQ.out; rw [List.length_append] at h; exact ⟨rfl, h⟩
            · have HTQ : Hid (TQ w k d sb mb j wr.heap.size r.fl w8) := Lib.hid ⟨K1, G, M, S, pv8, B, f', d', o', hD8, hM8, hMl, hInv, fun x hx => hK1 x (hK0 x hx), hKw8, hGw, by omega, fun l hl => by have := hMb l hl; omega, hf', by omega, by omega, t2⟩
              go_wp2_with fail
              go_meet
              case rel => exact ⟨rfl, HTQ.out⟩
          case rest =>
            clear hy hD8 hK8 hM8 hKw8 t1 t2 hD hInv hMl hBl hMb hf ho1 ho2 hf' ho1' ho2' hGw hMown hMne hbm hbG hK1 hKb hKn hx7 hK0
            obtain ⟨rfl, K, G, M, S, pv, B, fuse, dn, ops, hD, hMy, hMl, hInv, hK0, hKw, hGw, hBl, hMb, hf, ho1, ho2, hfl⟩ := hcut
            have hwl : (wrs B).length = B.length := by simp [wrs]
            have HF := Lib.hid (wrs_fits hInv)
            have HINV := Lib.hid hInv.2.2
            cases hfv : r.fl with
            | false =>
              rw [hfv] at hfl
              clear hfv hwl
              go_wp2_with fail
              go_roundw
              case rel => exact ⟨j + 1, by omega, ⟨K, G, M, S, pv, B, fuse, dn, ops, hD, hMy, hMl, hInv, hK0, hKw, hGw, hBl, hMb, hf, ho1, by omega⟩, by go_num⟩
              case measure => simp [intOf]; omega
            | true =>
              rw [hfv] at hfl
              clear hfv
              rcases opF_cases fuse dn ops with ⟨f', d', o', hop⟩ | ⟨f', d', o', hop⟩
              · obtain ⟨hf', ho1', ho2'⟩ := opF_bd hop hf
                have hq : flF S (wrs B) fuse dn ops = (0, appl S (wrs B) (fun _ => true) (wrs B).length, wrs [], f', d', o') := by unfold flF; rw [hop, if_pos rfl]; rfl
                have HFL := Lib.hid (flush_any hD HF.out (by omega) hf ho1 (by omega) _ _ _ _ _ _ hq)
                have hIv := hInv.flush
                generalize appl S (wrs B) (fun _ => true) (wrs B).length = S2 at HFL hIv
                clear hq hop hwl
                go_wp2_with fail
                refine HFL.out.mono ?_
                rintro e w11 ⟨rfl, ⟨pv2, hD2⟩, hK2⟩
                have hM2 := hMy.keep (fun x hx => hK2.block x hx)
                have hKw2 := hKw.trans (hK2.mono hK0)
                clear HFL hD hMy hKw hK2 hInv HF hfl
                go_wp2_with fail
                go_loopw [121] (fun i wx => ∃ t : Nat, t ≤ k ∧ Disk K wx d sb S2 pv2 (wrs []) f' d' o' ∧ May K wx mb G (cutM M t) ∧ Keep (fun x => x < w.heap.size) w wx ∧ i = .int .i64 (t : Int)) (fun i _ => k - (intOf i).toNat)
                case atStart => exact ⟨0, Nat.zero_le _, hD2, by rw [cutM_zero]; exact hM2, hKw2, rfl⟩
                case round =>
                  clear hD2 hM2 hKw2
                  obtain ⟨t, ht, hD2, hM2, hKw2, rfl⟩ := hrel
                  by_cases hlt3 : t < k
                  · have htM : t < M.length := by omega
                    obtain ⟨h', hge⟩ := cutM_get M t htM
                    obtain ⟨v, hv1, hv2, hvr⟩ := hM2.row t h'
                    rw [hge] at hvr
                    have hlen : 1 ≤ M[t].length := by
                      obtain ⟨c0, _, e⟩ := HINV.out t htM
                      rw [e]; simp
                    obtain ⟨off', cap', rfl, hcap⟩ : ∃ off' cap', v = .slice (some ⟨G t, off', none⟩) M[t].length cap' ∧ M[t].length ≤ cap' := by
                      obtain ⟨off', cap', e, h2, _⟩ := hvr
                      exact ⟨off', cap', e, h2⟩
                    obtain ⟨q, hq⟩ : ∃ q, M[t].length = q + 1 := ⟨M[t].length - 1, by omega⟩
                    rw [hq] at hv1 hvr hcap
                    have hM3 := (hM2.cut htM hvr)
                    have hD3 := hD2.setM hM2.own t (.slice (some ⟨G t, off' + q, none⟩) 1 (cap' - q))
                    have hK3 := hKw2.setCell (b := mb) (o := t) (by omega) (.slice (some ⟨G t, off' + q, none⟩) 1 (cap' - q))
                    have hml3 : (M[t]'(by omega)).length ≤ 1000 := by have := hMb _ (List.getElem_mem htM); omega
                    have hq3 : q ≤ 1000 := by omega
                    clear hge h' hvr hlen hq hml3 hM2 hD2 hKw2
                    go_upto_region 27 with (fail)
                    go_region
                    go_wp2_with fail
                    go_roundw
                    case rel => exact ⟨t + 1, by omega, hD3.below ((Below.refl _ _).drew), hM3.keep (fun x hx => rfl), hK3.below (fun x hx => hx) (drew_to _ _), by go_num⟩
                    case measure => simp [intOf]; omega
                  · obtain rfl : t = k := by omega
                    have hM3 : May K wr mb G (M.map fun l => [lastB l]) := by rw [← cutM_all, hMl]; exact hM2
                    have hl3 : (M.map fun l => [lastB l]).length = t := by rw [List.length_map]; exact hMl
                    have HL3 := Lib.hid hl3
                    clear hM2 hl3
                    go_wp2_with fail
                    go_roundw
                    case rel => exact ⟨j + 1, by omega, ⟨K, G, _, S2, pv2, [], f', d', o', hD2, hM3, HL3.out, hIv, hK0, hKw2, hGw, by simp, fun l hl => by obtain ⟨x, _, rfl⟩ := List.mem_map.1 hl; simp, hf', by omega, by omega⟩, by go_num⟩
                    case measure => simp [intOf]; omega
              · obtain ⟨hf', ho1', ho2'⟩ := opF_bd hop hf
                have hq : flF S (wrs B) fuse dn ops = (17, S, wrs B, f', d', o') := by unfold flF; rw [hop, if_neg (show ¬ ((17 : Int) = 0) by decide)]
                have HFL := Lib.hid (flush_any hD HF.out (by omega) hf ho1 (by omega) _ _ _ _ _ _ hq)
                clear hq hop hwl
                go_wp2_with fail
                refine HFL.out.mono ?_
                rintro e w11 ⟨rfl, ⟨pv2, hD2⟩, hK2⟩
                have hM2 := hMy.keep (fun x hx => hK2.block x hx)
                have hKw2 := hKw.trans (hK2.mono hK0)
                clear HFL hD hMy hKw hK2
                go_wp2_with fail
                go_roundw
                case rel => exact ⟨j + 1, by omega, ⟨K, G, M, S, pv2, B, f', d', o', hD2, hM2, hMl, hInv, hK0, hKw2, hGw, hBl, hMb, hf', by omega, by omega⟩, by go_num⟩
                case measure => simp [intOf]; omega
        · have hwl : (wrs B).length = B.length := by simp [wrs]
          have hAf := fun i hi => hInv.after (keptQ ks) i hi
          have hlS : (appl S (wrs B) (keptQ ks) (wrs B).length).length = k := by rw [appl_length, hInv.1]; exact hMl
          have HUP := Lib.hid (up_any hD (wrs_fits hInv) (by omega) (kc := kc) ((HB.out.keep hKw).wider hK0))
          generalize appl S (wrs B) (keptQ ks) (wrs B).length = S3 at hAf hlS HUP
          have HAF := Lib.hid hAf
          have HLS := Lib.hid hlS
          clear hAf hlS hwl
          go_wp2_with fail
          refine HUP.out.mono ?_
          rintro e w12 ⟨rfl, hD12, hK12⟩
          have D12 := Lib.hid hD12
          have M12 := Lib.hid (hMy.keep (fun x hx => hK12.block x hx))
          have hKw12 := hKw.trans (hK12.mono hK0)
          have hlt12 := hD12.lt
          clear HUP hD hMy hKw hK12 hInv hD12 HB HA1
          go_wp2_with fail
          go_loopw [145] (fun i wx => ∃ t : Nat, t ≤ k ∧ Below w12.heap.size w12 wx ∧ i = .int .i64 (t : Int)) (fun i _ => k - (intOf i).toNat)
          case atStart => exact ⟨0, Nat.zero_le _, Below.refl _ _, rfl⟩
          case round =>
            obtain ⟨t, ht, B12, rfl⟩ := hrel
            by_cases hlt4 : t < k
            · have htM : t < M.length := by omega
              obtain ⟨c, hcM, hcS⟩ := HAF.out t htM
              have hlS : t < S3.length := by rw [HLS.out]; exact hlt4
              have hrt : readT S3 [] t = homeB t (pgB c) := by
                rw [readT_none hlS (fun j hj => by simp at hj)]
                rw [List.getElem?_eq_getElem hlS] at hcS
                exact Option.some.inj hcS
              have n1 := read_ok (D12.out.below B12) t hlS (by simp)
              rw [hrt] at n1
              have N1 := Lib.hid n1
              have N2 := Lib.hid (fun w => ofHome_is t (pgB c) (by omega) (pgB_size c) w)
              obtain ⟨q3, y3, hy3, n3⟩ := ofHome_next t (pgB c) (by omega) (pgB_size c)
              have N3 := Lib.hid n3
              have HFA := Lib.hid (fnd_all hcM)
              obtain ⟨v, hv1, _, hvr⟩ := M12.out.row t htM
              obtain ⟨off', cap', rfl, hcap, _, hcells⟩ := hvr
              have HCE := Lib.hid hcells
              have hgl : G t < w12.heap.size := hlt12 _ (M12.out.ne t htM).2
              have hmbl : mb < w12.heap.size := hlt12 _ M12.out.own
              have hll : M[t].length ≤ 1000 := by have := hMb _ (List.getElem_mem htM); omega
              generalize homeB t (pgB c) = hb at N1 N2 N3
              generalize M[t] = l at hv1 HCE hll HFA hcap
              clear n1 n3 hrt hcS hcM hcells
              go_wp2_with fail
              refine N1.out.mono ?_
              rintro e w13 ⟨rfl, B13⟩
              have hB13 := below_to B12 B13
              clear B12 B13
              go_wp2_with fail
              refine (N2.out _).mono ?_
              rintro e w14 ⟨rfl, B14⟩
              unfold strErr
              have hB14 := below_to hB13 B14
              have m1 := (hB14.cell (p := ⟨mb, t, none⟩) hmbl).trans hv1
              clear hB13 B14 N1 N2
              go_wp2_with fail
              go_loop [25, 165] (fun f i => ∃ u : Nat, u ≤ l.length ∧ f = .bool (fnd l c u) ∧ i = .int .i64 (u : Int)) (fun _ i => l.length - (intOf i).toNat)
              case atStart => exact ⟨0, Nat.zero_le _, boolV (fnd_zero l c).symm, rfl⟩
              case round =>
                obtain ⟨u, hu, rfl, rfl⟩ := hrel
                by_cases hlt5 : u < l.length
                · have m2 := (hB14.cell (p := ⟨G t, off' + u, none⟩) hgl).trans (HCE.out u hlt5)
                  have hsu := fnd_succ l c u hlt5
                  generalize l[u] = x at m2 hsu
                  have HSU := Lib.hid hsu
                  obtain ⟨b5, hb5⟩ : ∃ b5, fnd l c u = b5 := ⟨_, rfl⟩
                  rw [hb5] at HSU ⊢
                  clear hsu hb5
                  cases b5 with
                  | true =>
                    go_wp2_with fail
                    go_round
                    case rel => exact ⟨u + 1, by omega, boolV (by rw [HSU.out]; rfl), by go_num⟩
                    case measure => simp [intOf]; omega
                  | false =>
                    go_wp2_with fail
                    go_round
                    case rel => exact ⟨u + 1, by omega, boolV (by rw [HSU.out]; rfl), by go_num⟩
                    case measure => simp [intOf]; omega
                · have hfd : fnd l c u = true := by
                    have e : u = l.length := by omega
                    rw [e]; exact HFA.out
                  rw [hfd]
                  clear hfd HFA m1
                  go_wp2_with fail
                  refine (N3.out _).mono ?_
                  rintro e w15 ⟨rfl, B15⟩
                  unfold strErr
                  have hB15 := below_to hB14 B15
                  clear hB14 B15 N3
                  rcases hy3 with ⟨rfl, hz⟩ | hy3
                  · have hz2 : pgB c = pgB 0 := hz.trans pgB_zero.symm
                    rw [hz2]
                    clear hz hz2
                    go_wp2_with fail
                    refine (pg_lit 0 0 rfl _).mono ?_
                    rintro e w16 ⟨rfl, B16⟩
                    have hB16 := below_to hB15 B16
                    clear hB15 B16
                    go_wp2_with fail
                    go_roundw
                    case rel => exact ⟨t + 1, by omega, hB16, by go_num⟩
                    case measure => simp [intOf]; omega
                  · go_wp2_with fail
                    go_roundw
                    case rel => exact ⟨t + 1, by omega, hB15, by go_num⟩
                    case measure => simp [intOf]; omega
            · go_wp2_with fail
              go_ret
              exact ⟨rfl, hKw12.toBelow.trans (B12.mono hKw12.size)⟩
end Go.Proofs.Ytplngodilalbhaa
