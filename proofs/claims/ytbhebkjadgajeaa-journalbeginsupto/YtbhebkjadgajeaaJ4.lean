/- Contract: Append. -/
import Derived.Test.YtbhebkjadgajeaaJ3
import Derived.StillTailTactics
import Derived.Deep.RegionHeld3
namespace Go.Proofs.Ytbhebkjadgajeaa
open Go.RowKit
/-- What of a disk turns when it is written to: pending writes, fuse, down, count. -/
abbrev DS := List (Int × ByteArray) × Int × Bool × Int
/-- What a row of writes answers, and what it leaves. -/
def wrsF (n : Nat) : List ByteArray → Nat → DS → Int × DS
  | [], _, s => (0, s)
  | b :: r, i, s => if (wrF n s.1 s.2.1 s.2.2.1 s.2.2.2 (i : Int) b).1 = 0 then wrsF n r (i + 1) (wrF n s.1 s.2.1 s.2.2.1 s.2.2.2 (i : Int) b).2 else wrF n s.1 s.2.1 s.2.2.1 s.2.2.2 (i : Int) b
theorem wrsF_snoc (n : Nat) (b : ByteArray) : ∀ (L : List ByteArray) (i : Nat) (s s1 : DS), wrsF n L i s = (0, s1) → wrsF n (L ++ [b]) i s = wrF n s1.1 s1.2.1 s1.2.2.1 s1.2.2.2 ((i + L.length : Nat) : Int) b
  | [], i, s, s1, h => by
    simp only [wrsF, Prod.mk.injEq, true_and] at h
    subst h
    simp only [List.nil_append, wrsF, List.length_nil, Nat.add_zero]
    split
    · next h0 => rw [← h0]
    · rfl
  | a :: L, i, s, s1, h => by
    simp only [wrsF, List.cons_append] at h ⊢
    split at h
    · next h0 =>
      rw [if_pos h0, wrsF_snoc n b L (i + 1) _ s1 h]
      congr 1
      simp only [List.length_cons]
      omega
    · next h0 =>
      exact absurd (by rw [h]) h0
theorem wrsF_stop (n : Nat) (R : List ByteArray) : ∀ (L : List ByteArray) (i : Nat) (s s1 : DS) (y : Int), wrsF n L i s = (y, s1) → y ≠ 0 → wrsF n (L ++ R) i s = (y, s1)
  | [], i, s, s1, y, h, hy => by
    simp only [wrsF, Prod.mk.injEq] at h
    exact absurd h.1.symm hy
  | a :: L, i, s, s1, y, h, hy => by
    simp only [wrsF, List.cons_append] at h ⊢
    split at h
    · next h0 => rw [if_pos h0]; exact wrsF_stop n R L (i + 1) _ s1 y h hy
    · next h0 => rw [if_neg h0]; exact h
theorem opF_bounds {f o f' o' y : Int} {d d' : Bool} (h : opF f d o = (y, f', d', o')) : f' ≤ f ∧ o ≤ o' ∧ o' ≤ o + 1 := by
  unfold opF at h
  split at h
  · simp only [Prod.mk.injEq] at h; omega
  · split at h
    · simp only [Prod.mk.injEq] at h; omega
    · split at h <;> (simp only [Prod.mk.injEq] at h; omega)
theorem wrF_bounds {n : Nat} {P P' : List (Int × ByteArray)} {f o f' o' y i : Int} {d d' : Bool} {b : ByteArray} (h : wrF n P f d o i b = (y, P', f', d', o')) : P'.length ≤ P.length + 1 ∧ f' ≤ f ∧ o ≤ o' ∧ o' ≤ o + 1 := by
  unfold wrF at h
  split at h
  · simp only [Prod.mk.injEq] at h
    obtain ⟨rfl, rfl, rfl, rfl, rfl⟩ := h
    omega
  · simp only [Prod.mk.injEq] at h
    obtain ⟨rfl, rfl, rfl, rfl, rfl⟩ := h
    have := opF_bounds (f := f) (d := d) (o := o) rfl
    refine ⟨?_, this⟩
    split
    · simp
    · omega
theorem wrF_fits {n : Nat} {P P' : List (Int × ByteArray)} {f o f' o' y i : Int} {d d' : Bool} {b : ByteArray} (h : wrF n P f d o i b = (y, P', f', d', o')) (hF : Fits P n) : Fits P' n := by
  unfold wrF at h
  split at h
  · simp only [Prod.mk.injEq] at h
    obtain ⟨rfl, rfl, rfl, rfl, rfl⟩ := h
    exact hF
  · next hi =>
    simp only [Prod.mk.injEq] at h
    obtain ⟨rfl, rfl, rfl, rfl, rfl⟩ := h
    split
    · intro k hk
      by_cases hk2 : k < P.length
      · obtain ⟨a, ha, he⟩ := hF k hk2
        exact ⟨a, ha, by rw [List.getElem_append_left hk2]; exact he⟩
      · have hk3 : k = P.length := by simp at hk; omega
        subst hk3
        exact ⟨i.toNat, by omega, by simp; omega⟩
    · exact hF
/-- A sector's bytes. -/
def Sct.bytes (s : Sct) : ByteArray := sealB s.k s.e s.n s.a s.m s.p
instance (l : List (Int × ByteArray)) : Decidable (okI l) := by unfold okI okImg; infer_instance
/-- What Append answers, and what it leaves. -/
def apF (n size used ep num : Nat) (l : List (Int × ByteArray)) (z : ByteArray) (s : DS) : Int × DS × Nat × Nat :=
  if ¬ okI l then (18, s, used, num)
  else if size < used + (l.length + 1) then (14, s, used, num)
  else if (wrsF n ((txS ep (num + 1) l z).map Sct.bytes) (1 + used) s).1 = 0 then (0, (wrsF n ((txS ep (num + 1) l z).map Sct.bytes) (1 + used) s).2, used + (l.length + 1), num + 1)
  else ((wrsF n ((txS ep (num + 1) l z).map Sct.bytes) (1 + used) s).1, (wrsF n ((txS ep (num + 1) l z).map Sct.bytes) (1 + used) s).2, used, num)
/-- Its sectors may be. -/
def Sct.ok (s : Sct) : Prop := okS s.k s.a s.m s.p.size ∧ s.e < 18446744073709551616 ∧ s.n < 18446744073709551616
theorem txS_ok {e n : Nat} {l : List (Int × ByteArray)} {z : ByteArray} (h : okI l) (hl : l.length ≤ 65535) (he : e < 18446744073709551616) (hn : n < 18446744073709551616) (hz : z.size = 480) : ∀ s ∈ txS e n l z, s.ok := by
  intro s hs
  unfold txS at hs
  rcases List.mem_append.1 hs with hs | hs
  · unfold imgsS at hs
    obtain ⟨i, hi, rfl⟩ := List.mem_mapIdx.1 hs
    have hx := h.2.1 _ (List.getElem_mem hi)
    unfold okImg at hx
    unfold Sct.ok okS imS
    refine ⟨?_, he, hn⟩
    simp only
    omega
  · rw [List.mem_singleton.1 hs]
    unfold Sct.ok okS coS
    refine ⟨?_, he, hn⟩
    simp only
    omega
section
variable {K : Nat → Prop} {w w1 : World} {d sb : Nat} {S : List ByteArray} {pv : Value} {P : List (Int × ByteArray)} {fuse : Int} {down : Bool} {ops : Int} {j size used ep num : Nat}
theorem Disk.otherCell (h : Disk K w d sb S pv P fuse down ops) {b : Nat} (hb : K b) (o : Nat) (v : Value) : Disk K (w.setCell ⟨b, o, none⟩ v) d sb S pv P fuse down ops :=
  h.same (by simp) (Below.heap_setCell w ⟨b, o, none⟩ v d (fun e => h.nd (by have e2 : d = b := e; rw [e2]; exact hb))) (Below.heap_setCell w ⟨b, o, none⟩ v sb (fun e => h.ns (by have e2 : sb = b := e; rw [e2]; exact hb)))
    (fun k hk => Below.heap_setCell w ⟨b, o, none⟩ v k (fun e => (h.np k hk).1 (by have e2 : k = b := e; rw [e2]; exact hb)))
theorem Jour.advance (h : Jour w j d size used ep num) (u n' : Nat) : Jour ((w.setCell ⟨j, 2, none⟩ (.int .i64 (u : Int))).setCell ⟨j, 4, none⟩ (.int .u64 (n' : Int))) j d size u ep n' := by
  have c4 : (w.setCell ⟨j, 2, none⟩ (.int .i64 (u : Int))).cell? ⟨j, 4, none⟩ = some (.int .u64 (num : Int)) := (other _ _ _ _ _ (by omega)).trans h.c4
  refine ⟨?_, ?_, ?_, ?_, World.cell?_setCell_same _ _ _ c4, by simpa using h.f2, by simpa using h.f4⟩
  · exact (other _ _ _ _ _ (by omega)).trans ((other _ _ _ _ _ (by omega)).trans h.c0)
  · exact (other _ _ _ _ _ (by omega)).trans ((other _ _ _ _ _ (by omega)).trans h.c1)
  · exact (other _ _ _ _ _ (by omega)).trans (World.cell?_setCell_same _ _ _ h.c2)
  · exact (other _ _ _ _ _ (by omega)).trans ((other _ _ _ _ _ (by omega)).trans h.c3)
theorem append_nil (a : Option Addr) (n c : Nat) (w : World) : Calls Try.prog 8 #[.pointer none, .slice a n c] w fun e w' => e = .returned (.int .i64 18) ∧ w = w' := by
  go_enter Try.func8, Try.ntmps8
  go_wp2
  go_ret
  exact ⟨rfl, rfl⟩
theorem append_empty (a : Option Addr) (c : Nat) (w : World) : Calls Try.prog 8 #[.pointer (some ⟨j, 0, none⟩), .slice a 0 c] w fun e w' => e = .returned (.int .i64 18) ∧ w = w' := by
  go_enter Try.func8, Try.ntmps8
  go_wp2_with (go_at_call 22; refine (check_none a c _).mono ?_; rintro e w' ⟨rfl, rfl⟩)
  go_ret
  exact ⟨rfl, rfl⟩
/-- Images in memory. -/
def IRow (w : World) (g : Nat) (l : List (Int × ByteArray)) : Prop := g < w.heap.size ∧ ∀ j (hj : j < l.length), w.cell? ⟨g, j * 2, none⟩ = some (.int .i64 l[j].1) ∧ w.cell? ⟨g, j * 2 + 1, none⟩ = some (.string l[j].2)
theorem IRow.block {g : Nat} {l : List (Int × ByteArray)} (h : IRow w g l) (hs : w.heap.size ≤ w1.heap.size) (hb : w1.heap[g]? = w.heap[g]?) : IRow w1 g l :=
  ⟨Nat.lt_of_lt_of_le h.1 hs, fun k hk => ⟨(World.cell?_of_block (a := ⟨g, k * 2, none⟩) hb).trans (h.2 k hk).1, (World.cell?_of_block (a := ⟨g, k * 2 + 1, none⟩) hb).trans (h.2 k hk).2⟩⟩
theorem IRow.below {g : Nat} {l : List (Int × ByteArray)} (h : IRow w g l) (B : Below w.heap.size w w1) : IRow w1 g l := h.block B.size (B.block g h.1)
theorem transaction_lit (e g c : Nat) (N : Int) (n : Nat) (hN : N = (n : Int)) (l : List (Int × ByteArray)) (z : ByteArray) (hz : bs (List.replicate 480 0) = z) (w : World) (hn : l.length ≤ 1000000) (hI : IRow w g l) (hp : okI l) :
    Calls Try.prog 26 #[.int .u64 (e : Int), .int .u64 N, .slice (some ⟨g, 0, none⟩) l.length c] w fun x w' => ∃ v, x = .returned v ∧ RowOf w 70 6 v (l.length + 1) (flatS (txS e n l z)) w' := by
  subst hN; exact transaction_any e n g c l z hz w hn hI.1 hI.2 (fun x hx => (hp.2.1 x hx).1)
set_option maxRecDepth 100000 in
set_option maxHeartbeats 2000000 in
theorem append_row (h : Disk (fun k => K k ∨ k = j) w d sb S pv P fuse down ops) (J : Jour w j d size used ep num) (hj : ¬ K j) (hsz : size ≤ 1024) (hu : used ≤ size) (hnum : num ≤ 1000000) (hep : ep < 18446744073709551616) (g c : Nat) (l : List (Int × ByteArray)) (hl : 0 < l.length) (hn : l.length ≤ 65535) (hI : IRow w g l) (hwf : ∀ x ∈ l, (Lit.int .i64 x.1).wf = true)
    (z : ByteArray) (hz : bs (List.replicate 480 0) = z) (hP : P.length + l.length + 1 ≤ 1000000) (hf : fuse ≤ 9223372036854775807) (ho : 0 ≤ ops) (ho2 : ops + l.length + 1 < 4611686018427387904) (y : Int) (P' : List (Int × ByteArray)) (f' : Int) (d' : Bool) (o' : Int) (used' num' : Nat) (hq : apF S.length size used ep num l z (P, fuse, down, ops) = (y, (P', f', d', o'), used', num')) :
    Calls Try.prog 8 #[.pointer (some ⟨j, 0, none⟩), .slice (some ⟨g, 0, none⟩) l.length c] w fun e w' => e = .returned (.int .i64 y) ∧ (∃ pv', Disk (fun k => K k ∨ k = j) w' d sb S pv' P' f' d' o') ∧ Jour w' j d size used' ep num' ∧ Keep K w w' := by
  have hzs : z.size = 480 := by rw [← hz]; exact rep_size 480 0
  unfold apF at hq
  have HQ := Lib.hid hq
  have HZ := Lib.hid hz
  clear hq hz
  go_enter Try.func8, Try.ntmps8
  go_wp2_with fail
  refine (check_row g c l _ hl (by omega) hI.1 hI.2 hwf).mono ?_
  rintro e w1 ⟨⟨y0, rfl, hy⟩, B1⟩
  have h1 := h.below B1
  have J1 := J.below B1
  have I1 := hI.below B1
  have k1 := (Keep.refl (K := fun k => K k ∨ k = j) w).below h.lt B1
  rcases hy with ⟨hok, rfl⟩ | ⟨hok, rfl⟩
  · have hq := HQ.out
    rw [if_neg (by simpa using hok)] at hq
    have c3 := J1.c3
    have c4 := J1.c4
    replace HQ := Lib.hid hq
    clear hq
    have HOK := Lib.hid hok
    clear hok
    have hw1 : IntKind.u64.wrap ((num : Int) + 1) = (num : Int) + 1 := IntWalk.u64_in _ ⟨by omega, by omega⟩
    go_wp2_with fail
    go_region_held3 (fun w' => w'.cell? ⟨j, 3, none⟩ = some (.int .u64 (ep : Int)) ∧ w'.cell? ⟨j, 4, none⟩ = some (.int .u64 (num : Int))) (first | exact ⟨c3, c4⟩ | exact ⟨(hR.below.cell (p := ⟨j, 3, none⟩) J1.lt).trans c3, (hR.below.cell (p := ⟨j, 4, none⟩) J1.lt).trans c4⟩)
      (first | (go_at_call 26; refine (transaction_lit ep g c _ (num + 1) (by omega) l z HZ.out _ (by omega) (I1.below ((Below.refl _ _).drew)) HOK.out).mono ?_; rintro e w2 ⟨v, rfl, hR⟩))
    have B2 : Below w1.heap.size w1 w2 := ((Below.refl w1.heap.size w1).drew).trans hR.below
    obtain ⟨g2, c2, rfl, hg1, hg2, hcell⟩ := hR.form (by omega)
    replace hg1 : w1.heap.size ≤ g2 := hg1
    have h2 := h1.fence B2
    have J2 := J1.below B2
    have k2 := k1.below h.lt B2
    clear c3 c4 h1 hw1 hR
    by_cases hfull : (size : Int) - used < (l.length : Int) + 1
    · have hq := HQ.out
      rw [if_pos (by omega)] at hq
      simp only [Prod.mk.injEq] at hq
      obtain ⟨rfl, ⟨rfl, rfl, rfl, rfl⟩, rfl, rfl⟩ := hq
      go_wp2_with (go_at_call 18; refine (room_any J2 hsz hu).mono ?_; rintro e w3 ⟨rfl, rfl⟩)
      go_ret
      exact ⟨rfl, ⟨pv, (h2.weaken (fun k hk => .inl hk)).below ((Below.refl _ _).drew)⟩, J2.below ((Below.refl _ _).drew), (k2.below h.lt ((Below.refl _ _).drew)).mono (fun k hk => .inl hk)⟩
    · have hq := HQ.out
      rw [if_neg (by omega)] at hq
      obtain ⟨L, hL⟩ : ∃ L, txS ep (num + 1) l z = L := ⟨_, rfl⟩
      have hLl : L.length = l.length + 1 := by rw [← hL, txS_length]
      have hLok : ∀ s ∈ L, s.ok := by rw [← hL]; exact txS_ok HOK.out (by omega) hep (by omega) hzs
      rw [hL] at hq hcell
      replace HQ := Lib.hid hq
      have HLL := Lib.hid hLl
      obtain ⟨K2, hKj, hKg, hKK, h3⟩ : ∃ K2 : Nat → Prop, K2 j ∧ K2 g2 ∧ (∀ k, K k ∨ k = j → K2 k) ∧ Disk K2 w2.drew d sb S pv P fuse down ops :=
        ⟨_, .inl (.inr rfl), .inr ⟨hg1, hg2⟩, fun k hk => .inl hk, h2.below ((Below.refl _ _).drew)⟩
      have J3 : Jour w2.drew j d size used ep num := J2.below ((Below.refl _ _).drew)
      have k3 := k2.below h.lt ((Below.refl w2.heap.size w2).drew)
      replace hcell : ∀ i u, (flatS L)[i]? = some u → w2.drew.cell? ⟨g2, i, none⟩ = some u := hcell
      have hlt3 : g2 < w2.drew.heap.size := hg2
      clear hq hL h2 k2 hLl
      go_wp2_with (go_at_call 18; refine (room_any J2 hsz hu).mono ?_; rintro e w3 ⟨rfl, rfl⟩)
      generalize w2.drew = w3 at h3 J3 k3 hcell hlt3 ⊢
      clear J2 hg1 hg2 B2
      go_loopw [34] (fun i wr => ∃ k : Nat, k ≤ l.length + 1 ∧ i = .int .i64 k ∧ ∃ (pv1 : Value) (P1 : List (Int × ByteArray)) (f1 : Int) (d1 : Bool) (o1 : Int), Disk K2 wr d sb S pv1 P1 f1 d1 o1 ∧ Keep K2 w3 wr ∧ Hid (wrsF S.length ((L.take k).map Sct.bytes) (1 + used) (P, fuse, down, ops) = (0, (P1, f1, d1, o1))) ∧ P1.length ≤ P.length + k ∧ f1 ≤ fuse ∧ 0 ≤ o1 ∧ o1 ≤ ops + k) (fun i _ => l.length + 1 - (intOf i).toNat)
      case atStart => exact ⟨0, Nat.zero_le _, rfl, pv, P, fuse, down, ops, h3, Keep.refl _, Lib.hid rfl, Nat.le_refl _, Int.le_refl _, ho, by omega⟩
      case round =>
        obtain ⟨k, hk, rfl, pv1, P1, f1, d1, o1, hD, hKe, hW, hb1, hb2, hb3, hb4⟩ := hrel
        have JR : Jour wr j d size used ep num := J3.keep hKj hKe
        by_cases hlt : k < l.length + 1
        · have hkL : k < L.length := by rw [HLL.out]; exact hlt
          obtain ⟨s, hs⟩ : ∃ s, L[k] = s := ⟨_, rfl⟩
          have hso : s.ok := by rw [← hs]; exact hLok _ (List.getElem_mem hkL)
          have hget : ∀ i, i < 6 → ∀ u, s.cells[i]? = some u → wr.cell? ⟨g2, k * 6 + i, none⟩ = some u := fun i hi u hu =>
            (World.cell?_of_block (a := ⟨g2, k * 6 + i, none⟩) (hKe.block g2 hKg)).trans (hcell _ u (by rw [flatS_get L k i hkL hi, hs]; exact hu))
          have hsn : (L.take (k + 1)).map Sct.bytes = (L.take k).map Sct.bytes ++ [s.bytes] := by
            rw [List.take_add_one, List.getElem?_eq_getElem hkL, hs]; simp
          have hstep := wrsF_snoc S.length s.bytes _ _ _ _ hW.out
          rw [← hsn, List.length_map, List.length_take, Nat.min_eq_left (by omega), show ((1 + used + k : Nat) : Int) = 1 + (used : Int) + (k : Int) by omega] at hstep
          obtain ⟨sk, se, sn, sa, sm, sp⟩ := s
          obtain ⟨y1, P2, f2, d2, o2, hy1⟩ : ∃ y1 P2 f2 d2 o2, wrF S.length P1 f1 d1 o1 (1 + (used : Int) + (k : Int)) (sealB sk se sn sa sm sp) = (y1, P2, f2, d2, o2) := ⟨_, _, _, _, _, rfl⟩
          have hstep2 : wrsF S.length ((L.take (k + 1)).map Sct.bytes) (1 + used) (P, fuse, down, ops) = (y1, P2, f2, d2, o2) := hstep.trans hy1
          have hbd := wrF_bounds hy1
          have HS2 := Lib.hid hstep2
          have HY1 := Lib.hid hy1
          have HSO := Lib.hid hso
          have q0 := hget 0 (by omega) _ rfl
          have q1 := hget 1 (by omega) _ rfl
          have q2 := hget 2 (by omega) _ rfl
          have q3 := hget 3 (by omega) _ rfl
          have q4 := hget 4 (by omega) _ rfl
          have q5 := hget 5 (by omega) _ rfl
          rw [Nat.add_zero] at q0
          simp only at q0 q1 q2 q3 q4 q5
          clear hget hstep hstep2 hy1 hso hs hsn
          go_wp2_with fail
          have hz1 := hD.below ((Below.refl wr.heap.size wr).alloc (Nat.le_refl _) (.cells #[.int .i64 (sk : Int), .int .u64 (se : Int), .int .u64 (sn : Int), .int .i64 (sa : Int), .int .i64 (sm : Int), .string sp] 70))
          have kz := hKe.below h3.lt ((Below.refl wr.heap.size wr).alloc (Nat.le_refl _) (.cells #[.int .i64 (sk : Int), .int .u64 (se : Int), .int .u64 (sn : Int), .int .i64 (sa : Int), .int .i64 (sm : Int), .string sp] 70))
          have JZ := JR.below ((Below.refl wr.heap.size wr).alloc (Nat.le_refl _) (.cells #[.int .i64 (sk : Int), .int .u64 (se : Int), .int .u64 (sn : Int), .int .i64 (sa : Int), .int .i64 (sm : Int), .string sp] 70))
          have SZ := (Sec.new wr sk se sn sa sm sp 70).1
          generalize wr.alloc (.cells #[.int .i64 (sk : Int), .int .u64 (se : Int), .int .u64 (sn : Int), .int .i64 (sa : Int), .int .i64 (sm : Int), .string sp] 70) = wz at hz1 kz JZ SZ ⊢
          have hz2 := hz1.below ((Below.refl wz.heap.size wz).drew)
          have kz2 := kz.below h3.lt ((Below.refl wz.heap.size wz).drew)
          have a0 := JZ.c0
          have a2 := JZ.c2
          obtain ⟨s0, s1, s2, s3, s4, s5⟩ := SZ
          clear q0 q1 q2 q3 q4 q5
          go_still_tail 12, (by kernel_rfl)
          change wpList _ _ _ _ _ wz.drew
          generalize wz.drew = wd at hz2 kz2 ⊢
          go_wp2_with fail
          refine (jwrite_any hz2 _ sk se sn sa sm sp HSO.out.1 HSO.out.2.1 HSO.out.2.2 (by omega) (by omega) hb3 (by omega) y1 P2 f2 d2 o2 HY1.out).mono ?_
          rintro x w5 ⟨rfl, ⟨pv2, hD2⟩, hK5⟩
          replace kz2 := kz2.trans hK5
          clear hK5 hz2 hz1 kz JZ s0 s1 s2 s3 s4 s5 a0 a2 JR hKe hD
          by_cases hy0 : y1 = 0
          · subst hy0
            go_wp2_with fail
            go_roundw
            case rel => exact ⟨k + 1, by omega, by go_num, pv2, P2, f2, d2, o2, hD2, kz2, HS2, by omega, by omega, by omega, by omega⟩
            case measure => simp [intOf]; omega
          · have hne : (y1 != 0) = true := by rw [bne_iff_ne]; exact hy0
            have hq := HQ.out
            have hall := wrsF_stop S.length ((L.drop (k + 1)).map Sct.bytes) _ _ _ _ _ HS2.out hy0
            rw [← List.map_append, List.take_append_drop] at hall
            rw [hall, if_neg hy0] at hq
            simp only [Prod.mk.injEq] at hq
            obtain ⟨rfl, ⟨rfl, rfl, rfl, rfl⟩, rfl, rfl⟩ := hq
            go_wp2_with fail
            go_ret
            exact ⟨rfl, ⟨pv2, hD2.weaken hKK⟩, J3.keep hKj kz2, (k3.trans (kz2.mono hKK)).mono (fun k hk => .inl hk)⟩
        · obtain rfl : k = l.length + 1 := by omega
          have hq := HQ.out
          have hw := hW.out
          rw [List.take_of_length_le (by rw [HLL.out]; exact Nat.le_refl _)] at hw
          rw [hw, if_pos rfl] at hq
          simp only [Prod.mk.injEq] at hq
          obtain ⟨rfl, ⟨rfl, rfl, rfl, rfl⟩, rfl, rfl⟩ := hq
          have a2 := JR.c2
          have e2 := JR.f2
          have hw1 : IntKind.u64.wrap ((num : Int) + 1) = (num : Int) + 1 := IntWalk.u64_in _ ⟨by omega, by omega⟩
          have a4 : (wr.setCell ⟨j, 2, none⟩ (.int .i64 ((used : Int) + ((l.length : Int) + 1)))).cell? ⟨j, 4, none⟩ = some (.int .u64 (num : Int)) := (other _ _ _ _ _ (by omega)).trans JR.c4
          have e4 : (wr.setCell ⟨j, 2, none⟩ (.int .i64 ((used : Int) + ((l.length : Int) + 1)))).frozen? ⟨j, 4, none⟩ = false := by simpa using JR.f4
          go_wp2_with fail
          go_ret
          have hadv := JR.advance (used + (l.length + 1)) (num + 1)
          rw [show ((used + (l.length + 1) : Nat) : Int) = (used : Int) + ((l.length : Int) + 1) by omega, show ((num + 1 : Nat) : Int) = (num : Int) + 1 by omega] at hadv
          exact ⟨rfl, ⟨pv1, ((hD.otherCell hKj 2 _).otherCell hKj 4 _).weaken hKK⟩, hadv, (((k3.trans (hKe.mono hKK)).mono (fun k hk => .inl hk)).setCell hj _).setCell hj _⟩
  · have hq := HQ.out
    rw [if_pos hok] at hq
    simp only [Prod.mk.injEq] at hq
    obtain ⟨rfl, ⟨rfl, rfl, rfl, rfl⟩, rfl, rfl⟩ := hq
    go_wp2_with fail
    go_ret
    exact ⟨rfl, ⟨pv, h1⟩, J1, k1.mono (fun k hk => .inl hk)⟩
theorem append_bad (g c : Nat) (l : List (Int × ByteArray)) (hl : 0 < l.length) (hn : l.length ≤ 2000000) (hI : IRow w g l) (hwf : ∀ x ∈ l, (Lit.int .i64 x.1).wf = true) (hno : ¬ okI l) :
    Calls Try.prog 8 #[.pointer (some ⟨j, 0, none⟩), .slice (some ⟨g, 0, none⟩) l.length c] w fun e w' => e = .returned (.int .i64 18) ∧ Below w.heap.size w w' := by
  have HNO := Lib.hid hno
  clear hno
  go_enter Try.func8, Try.ntmps8
  go_wp2_with fail
  refine (check_row g c l _ hl (by omega) hI.1 hI.2 hwf).mono ?_
  rintro e w1 ⟨⟨y0, rfl, hy⟩, B1⟩
  obtain rfl : y0 = 18 := by
    rcases hy with ⟨h, _⟩ | ⟨_, h⟩
    · exact absurd h HNO.out
    · exact h
  clear hy
  go_wp2_with fail
  go_ret
  exact ⟨rfl, B1⟩
end
end Go.Proofs.Ytbhebkjadgajeaa
