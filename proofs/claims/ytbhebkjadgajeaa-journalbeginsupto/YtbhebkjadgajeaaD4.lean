/- Contracts: settle, Flush, Up. -/
import Derived.Test.YtbhebkjadgajeaaD3
namespace Go.Proofs.Ytbhebkjadgajeaa
open Go.RowKit
/-- The sectors behind the first k writes, of which q tells those that are kept; how many. -/
def appl (S : List ByteArray) (P : List (Int × ByteArray)) (q : Nat → Bool) : Nat → List ByteArray
  | 0 => S
  | k + 1 => if q k then (appl S P q k).set (P.getD k (0, ByteArray.empty)).1.toNat (P.getD k (0, ByteArray.empty)).2 else appl S P q k
def cntq (q : Nat → Bool) : Nat → Nat
  | 0 => 0
  | k + 1 => cntq q k + (if q k then 1 else 0)
theorem appl_length (S : List ByteArray) (P : List (Int × ByteArray)) (q : Nat → Bool) (k : Nat) : (appl S P q k).length = S.length := by
  induction k with
  | zero => rfl
  | succ k ih => unfold appl; split <;> simp [ih]
theorem cntq_le (q : Nat → Bool) (k : Nat) : cntq q k ≤ k := by
  induction k with
  | zero => exact Nat.le_refl _
  | succ k ih => unfold cntq; split <;> omega
theorem appl_yes {S : List ByteArray} {P : List (Int × ByteArray)} {q : Nat → Bool} {k : Nat} {a : Nat} {t : ByteArray} (hq : q k = true) (hk : k < P.length) (ha : P[k] = ((a : Int), t)) : appl S P q (k + 1) = (appl S P q k).set a t := by
  show (if _ then _ else _) = _
  rw [if_pos hq, List.getD_eq_getElem?_getD, List.getElem?_eq_getElem hk, Option.getD_some, ha]; rfl
theorem appl_no {S : List ByteArray} {P : List (Int × ByteArray)} {q : Nat → Bool} {k : Nat} (hq : q k = false) : appl S P q (k + 1) = appl S P q k := by
  show (if _ then _ else _) = _
  rw [if_neg (by rw [hq]; simp)]
theorem cntq_yes {q : Nat → Bool} {k : Nat} (hq : q k = true) : cntq q (k + 1) = cntq q k + 1 := by
  show _ + (if _ then _ else _) = _; rw [if_pos hq]
theorem cntq_no {q : Nat → Bool} {k : Nat} (hq : q k = false) : cntq q (k + 1) = cntq q k := by
  show _ + (if _ then _ else _) = _; rw [if_neg (by rw [hq]; simp)]; rfl
/-- A slice of bools in blocks of K. -/
def Bools (K : Nat → Prop) (w : World) (a : Option Addr) (n : Nat) (ks : List Bool) : Prop :=
  ks.length = n ∧ (n = 0 ∨ ∃ b off, a = some ⟨b, off, none⟩ ∧ K b ∧ ∀ j (hj : j < ks.length), w.cell? ⟨b, off + j, none⟩ = some (.bool ks[j]))
theorem Bools.keep {K : Nat → Prop} {w w1 : World} {a : Option Addr} {n : Nat} {ks : List Bool} (h : Bools K w a n ks) (hk : Keep K w w1) : Bools K w1 a n ks := by
  refine ⟨h.1, ?_⟩
  rcases h.2 with h0 | ⟨b, off, e, hb, hc⟩
  · exact .inl h0
  · exact .inr ⟨b, off, e, hb, fun j hj => (World.cell?_of_block (a := ⟨b, off + j, none⟩) (hk.block b hb)).trans (hc j hj)⟩
theorem all_any (i : Int) (w : World) : Calls Try.prog 30 #[.int .i64 i] w fun e w' => e = .returned (.bool true) ∧ w = w' := by
  go_enter Try.func30, Try.ntmps30
  go_wp2
  go_ret
  exact ⟨rfl, rfl⟩
/-- Which writes are kept. -/
def keptQ (ks : List Bool) (k : Nat) : Bool := ks.getD k false
theorem some_any {K : Nat → Prop} {w : World} {a : Option Addr} {n cap kb : Nat} {ks : List Bool} (hB : Bools K w a n ks) (hc : w.cell? ⟨kb, 0, none⟩ = some (.slice a n cap)) (i : Nat) :
    Calls Try.prog 31 #[.int .i64 (i : Int), .pointer (some ⟨kb, 0, none⟩)] w fun e w' => e = .returned (.bool (keptQ ks i)) ∧ w = w' := by
  by_cases hi : i < n
  · rcases hB.2 with h0 | ⟨b, off, rfl, hb, hj⟩
    · omega
    · have hil : i < ks.length := by rw [hB.1]; exact hi
      have hcell := hj i hil
      have hq := Lib.hid (show keptQ ks i = ks[i] by unfold keptQ; rw [List.getD_eq_getElem?_getD, List.getElem?_eq_getElem hil]; rfl)
      generalize ks[i] = v at hcell hq
      clear hj hil
      go_enter Try.func31, Try.ntmps31
      go_wp2
      go_ret
      exact ⟨ret_bool (by first | exact hq.out.symm | (rw [hq.out]; simp)), rfl⟩
  · have hq := Lib.hid (show keptQ ks i = false by unfold keptQ; rw [List.getD_eq_getElem?_getD, List.getElem?_eq_none (by rw [hB.1]; omega)]; rfl)
    go_enter Try.func31, Try.ntmps31
    go_wp2
    go_ret
    exact ⟨ret_bool (by rw [hq.out]), rfl⟩
/-- The writes are to sectors that there are. -/
def Fits (P : List (Int × ByteArray)) (n : Nat) : Prop := ∀ j (hj : j < P.length), ∃ a : Nat, a < n ∧ P[j].1 = (a : Int)
section
variable {K : Nat → Prop} {w w1 : World} {d sb : Nat} {S : List ByteArray} {pv : Value} {P : List (Int × ByteArray)} {fuse : Int} {down : Bool} {ops : Int}
theorem Disk.pcells (h : Disk K w d sb S pv P fuse down ops) {g cap : Nat} (hv : pv = .slice (some ⟨g, 0, none⟩) P.length cap) (j : Nat) (hj : j < P.length) : w.cell? ⟨g, j * 2, none⟩ = some (.int .i64 P[j].1) ∧ w.cell? ⟨g, j * 2 + 1, none⟩ = some (.string P[j].2) := by
  have hc := h.pend.cells (g := g) (by rw [hv]; rfl)
  have ad : ∀ x, (⟨g, 0, none⟩ : Addr).add x = ⟨g, x, none⟩ := fun x => by unfold Addr.add; split <;> simp_all
  obtain ⟨h1, h2⟩ := flat_get P j hj
  have q1 := hc _ _ h1
  have q2 := hc _ _ h2
  rw [ad, Nat.mul_comm 2 j] at q1 q2
  exact ⟨q1, q2⟩
set_option maxHeartbeats 1000000 in
theorem settle_all (h : Disk K w d sb S pv P fuse down ops) (hF : Fits P S.length) (hP : P.length ≤ 1000000) :
    Calls Try.prog 29 #[.pointer (some ⟨d, 0, none⟩), .func (.func 30) #[] #[]] w fun e w' => e = .returned (.int .i64 (cntq (fun _ => true) P.length : Nat)) ∧ Disk K w' d sb (appl S P (fun _ => true) P.length) (.slice none 0 0) [] fuse down ops ∧ Keep K w w' := by
  obtain ⟨pa, cap, hpv⟩ := h.pvForm
  have c1 := h.c1
  rw [hpv] at c1
  have HV := Lib.hid hpv
  have HF := Lib.hid hF
  clear hF hpv
  go_enter Try.func29, Try.ntmps29
  go_wp2_with fail
  go_loopw [5, 13] (fun n i wx => ∃ k : Nat, k ≤ P.length ∧ Disk K wx d sb (appl S P (fun _ => true) k) pv P fuse down ops ∧ Keep K w wx ∧ n = .int .i64 (cntq (fun _ => true) k : Nat) ∧ i = .int .i64 (k : Int)) (fun _ i _ => P.length - (intOf i).toNat)
  case atStart => exact ⟨0, Nat.zero_le _, h, Keep.refl _, rfl, rfl⟩
  case round =>
    obtain ⟨k, hk, hD, hK, rfl, rfl⟩ := hrel
    by_cases hlt : k < P.length
    · obtain ⟨g, rfl⟩ : ∃ g, pa = some ⟨g, 0, none⟩ := by
        rcases hD.pend.2 with ⟨e, hn⟩ | ⟨g, cap', cur, e, _⟩
        · omega
        · rw [HV.out] at e; injection e with e1 _ _; exact ⟨g, e1⟩
      obtain ⟨p0, p1⟩ := hD.pcells HV.out k hlt
      obtain ⟨A, hA, hA2⟩ := HF.out k hlt
      obtain ⟨T, hT⟩ : ∃ T, P[k].2 = T := ⟨_, rfl⟩
      rw [hA2] at p0
      rw [hT] at p1
      have HE := Lib.hid (show P[k] = ((A : Int), T) by rw [← hA2, ← hT])
      clear hA2 hT
      have hcn := cntq_le (fun _ => true) k
      have hal : A < (appl S P (fun _ => true) k).length := by rw [appl_length]; exact hA
      go_wp2_with fail
      refine (all_any _ _).mono ?_
      rintro e w' ⟨rfl, rfl⟩
      go_wp2_with fail
      have hE := hD.below ((Below.refl wr.heap.size wr).alloc (Nat.le_refl _) (.cells #[.int .i64 (A : Int), .string T] 92))
      have hK2 := hK.below h.lt ((Below.refl wr.heap.size wr).alloc (Nat.le_refl _) (.cells #[.int .i64 (A : Int), .string T] 92))
      obtain ⟨b0, b1⟩ : (wr.alloc (.cells #[.int .i64 (A : Int), .string T] 92)).cell? ⟨wr.heap.size, 0, none⟩ = some (.int .i64 (A : Int)) ∧ (wr.alloc (.cells #[.int .i64 (A : Int), .string T] 92)).cell? ⟨wr.heap.size, 1, none⟩ = some (.string T) := ⟨by simp [go_sem], by simp [go_sem]⟩
      generalize wr.alloc (.cells #[.int .i64 (A : Int), .string T] 92) = wz at hE hK2 b0 b1 ⊢
      obtain ⟨sc0, x0⟩ := hE.c0
      obtain ⟨x1, x2⟩ := hE.row A hal
      have hE' := hE.put A T
      have hK3 := hK2.setCell (o := A) h.ns (.string T)
      generalize (appl S P (fun _ => true) k)[A] = old at x1
      go_region
      go_wp2_with fail
      go_roundw
      case rel => exact ⟨k + 1, by omega, by rw [appl_yes rfl hlt HE.out]; exact hE'.below ((Below.refl _ _).drew), hK3.below h.lt ((Below.refl _ _).drew), by rw [cntq_yes rfl]; go_num, by go_num⟩
      case measure => simp [intOf]; omega
    · obtain rfl : k = P.length := by omega
      have d1 := hD.c1
      have d2 := hD.f1
      go_wp2_with fail
      go_ret
      exact ⟨rfl, hD.clear, hK.setCell h.nd _⟩
set_option maxHeartbeats 1000000 in
theorem settle_some (h : Disk K w d sb S pv P fuse down ops) (hF : Fits P S.length) (hP : P.length ≤ 1000000) {ka : Option Addr} {kn kc kb : Nat} {ks : List Bool} (hB : Bools K w ka kn ks) (hc : w.cell? ⟨kb, 0, none⟩ = some (.slice ka kn kc)) (hkb : K kb) :
    Calls Try.prog 29 #[.pointer (some ⟨d, 0, none⟩), .func (.func 31) #[] #[.pointer (some ⟨kb, 0, none⟩)]] w fun e w' => e = .returned (.int .i64 (cntq (keptQ ks) P.length : Nat)) ∧ Disk K w' d sb (appl S P (keptQ ks) P.length) (.slice none 0 0) [] fuse down ops ∧ Keep K w w' := by
  obtain ⟨pa, cap, hpv⟩ := h.pvForm
  have c1 := h.c1
  rw [hpv] at c1
  have HV := Lib.hid hpv
  have HF := Lib.hid hF
  clear hF hpv
  go_enter Try.func29, Try.ntmps29
  go_wp2_with fail
  go_loopw [5, 13] (fun n i wx => ∃ k : Nat, k ≤ P.length ∧ Disk K wx d sb (appl S P (keptQ ks) k) pv P fuse down ops ∧ Keep K w wx ∧ n = .int .i64 (cntq (keptQ ks) k : Nat) ∧ i = .int .i64 (k : Int)) (fun _ i _ => P.length - (intOf i).toNat)
  case atStart => exact ⟨0, Nat.zero_le _, h, Keep.refl _, rfl, rfl⟩
  case round =>
    obtain ⟨k, hk, hD, hK, rfl, rfl⟩ := hrel
    by_cases hlt : k < P.length
    · obtain ⟨g, rfl⟩ : ∃ g, pa = some ⟨g, 0, none⟩ := by
        rcases hD.pend.2 with ⟨e, hn⟩ | ⟨g, cap', cur, e, _⟩
        · omega
        · rw [HV.out] at e; injection e with e1 _ _; exact ⟨g, e1⟩
      obtain ⟨p0, p1⟩ := hD.pcells HV.out k hlt
      obtain ⟨A, hA, hA2⟩ := HF.out k hlt
      obtain ⟨T, hT⟩ : ∃ T, P[k].2 = T := ⟨_, rfl⟩
      rw [hA2] at p0
      rw [hT] at p1
      have HE := Lib.hid (show P[k] = ((A : Int), T) by rw [← hA2, ← hT])
      clear hA2 hT
      have hcn := cntq_le (keptQ ks) k
      have hal : A < (appl S P (keptQ ks) k).length := by rw [appl_length]; exact hA
      go_wp2_with fail
      skip
      cases hq : (keptQ ks) k with
      | true =>
        have hKz := hK.below h.lt ((Below.refl wr.heap.size wr).alloc (Nat.le_refl _) (.cells #[.int .i64 (A : Int), .string T] 92))
        have nk := some_any (hB.keep hKz) ((World.cell?_of_block (a := ⟨kb, 0, none⟩) (hKz.block kb hkb)).trans hc) k
        rw [hq] at nk
        have NK := Lib.hid nk
        have HQ := Lib.hid hq
        clear nk hq hKz
        refine NK.out.mono ?_
        rintro e w' ⟨rfl, rfl⟩
        have hq := HQ.out
        clear NK HQ
        go_wp2_with fail
        have hE := hD.below ((Below.refl wr.heap.size wr).alloc (Nat.le_refl _) (.cells #[.int .i64 (A : Int), .string T] 92))
        have hK2 := hK.below h.lt ((Below.refl wr.heap.size wr).alloc (Nat.le_refl _) (.cells #[.int .i64 (A : Int), .string T] 92))
        obtain ⟨b0, b1⟩ : (wr.alloc (.cells #[.int .i64 (A : Int), .string T] 92)).cell? ⟨wr.heap.size, 0, none⟩ = some (.int .i64 (A : Int)) ∧ (wr.alloc (.cells #[.int .i64 (A : Int), .string T] 92)).cell? ⟨wr.heap.size, 1, none⟩ = some (.string T) := ⟨by simp [go_sem], by simp [go_sem]⟩
        generalize wr.alloc (.cells #[.int .i64 (A : Int), .string T] 92) = wz at hE hK2 b0 b1 ⊢
        obtain ⟨sc0, x0⟩ := hE.c0
        obtain ⟨x1, x2⟩ := hE.row A hal
        have hE' := hE.put A T
        have hK3 := hK2.setCell (o := A) h.ns (.string T)
        generalize (appl S P (keptQ ks) k)[A] = old at x1
        go_region
        go_wp2_with fail
        go_roundw
        case rel => exact ⟨k + 1, by omega, by rw [appl_yes hq hlt HE.out]; exact hE'.below ((Below.refl _ _).drew), hK3.below h.lt ((Below.refl _ _).drew), by rw [cntq_yes hq]; go_num, by go_num⟩
        case measure => simp [intOf]; omega
      | false =>
        have hKz := hK.below h.lt ((Below.refl wr.heap.size wr).alloc (Nat.le_refl _) (.cells #[.int .i64 (A : Int), .string T] 92))
        have nk := some_any (hB.keep hKz) ((World.cell?_of_block (a := ⟨kb, 0, none⟩) (hKz.block kb hkb)).trans hc) k
        rw [hq] at nk
        have NK := Lib.hid nk
        have HQ := Lib.hid hq
        clear nk hq hKz
        refine NK.out.mono ?_
        rintro e w' ⟨rfl, rfl⟩
        have hq := HQ.out
        clear NK HQ
        go_wp2_with fail
        have hE := hD.below ((Below.refl wr.heap.size wr).alloc (Nat.le_refl _) (.cells #[.int .i64 (A : Int), .string T] 92))
        have hK2 := hK.below h.lt ((Below.refl wr.heap.size wr).alloc (Nat.le_refl _) (.cells #[.int .i64 (A : Int), .string T] 92))
        go_roundw
        case rel => exact ⟨k + 1, by omega, by rw [appl_no hq]; exact hE, hK2, by rw [cntq_no hq], by go_num⟩
        case measure => simp [intOf]; omega
    · obtain rfl : k = P.length := by omega
      have d1 := hD.c1
      have d2 := hD.f1
      go_wp2_with fail
      go_ret
      exact ⟨rfl, hD.clear, hK.setCell h.nd _⟩
theorem flush_nil (w : World) : Calls Try.prog 11 #[.pointer none] w fun e w' => e = .returned (.int .i64 18) ∧ w = w' := by
  go_enter Try.func11, Try.ntmps11
  go_wp2
  go_ret
  exact ⟨rfl, rfl⟩
theorem flush_ok (h : Disk K w d sb S pv P fuse down ops) (hF : Fits P S.length) (hP : P.length ≤ 1000000) (hf2 : fuse ≤ 9223372036854775807) (ho : 0 ≤ ops) (ho2 : ops < 4611686018427387904) (fuse' ops' : Int) (down' : Bool) (hop : opF fuse down ops = (0, fuse', down', ops')) :
    Calls Try.prog 11 #[.pointer (some ⟨d, 0, none⟩)] w fun e w' => e = .returned (.int .i64 0) ∧ Disk K w' d sb (appl S P (fun _ => true) P.length) (.slice none 0 0) [] fuse' down' ops' ∧ Keep K w w' := by
  have n1 := operate_any h hf2 ho ho2
  rw [hop] at n1
  have N1 := Lib.hid n1
  have HF := Lib.hid hF
  clear n1 hop hF
  go_enter Try.func11, Try.ntmps11
  go_wp2_with fail
  refine N1.out.mono ?_
  rintro e w1 ⟨rfl, hD, hK⟩
  go_wp2_with fail
  refine (settle_all hD HF.out hP).mono ?_
  rintro e w2 ⟨rfl, hE, hK2⟩
  go_wp2_with fail
  go_ret
  exact ⟨rfl, hE, hK.trans hK2⟩
theorem flush_down (h : Disk K w d sb S pv P fuse down ops) (hf2 : fuse ≤ 9223372036854775807) (ho : 0 ≤ ops) (ho2 : ops < 4611686018427387904) (fuse' ops' : Int) (down' : Bool) (hop : opF fuse down ops = (17, fuse', down', ops')) :
    Calls Try.prog 11 #[.pointer (some ⟨d, 0, none⟩)] w fun e w' => e = .returned (.int .i64 17) ∧ Disk K w' d sb S pv P fuse' down' ops' ∧ Keep K w w' := by
  have n1 := operate_any h hf2 ho ho2
  rw [hop] at n1
  have N1 := Lib.hid n1
  clear n1 hop
  go_enter Try.func11, Try.ntmps11
  go_wp2_with fail
  refine N1.out.mono ?_
  rintro e w1 ⟨rfl, hD, hK⟩
  go_wp2_with fail
  go_ret
  exact ⟨rfl, hD, hK⟩
theorem up_nil (a : Option Addr) (n c : Nat) (w : World) : Calls Try.prog 14 #[.pointer none, .slice a n c] w fun e w' => e = .returned (.int .i64 0) ∧ Below w.heap.size w w' := by
  go_enter Try.func14, Try.ntmps14
  go_wp2
  go_ret
  exact ⟨rfl, (Below.refl _ _).alloc (Nat.le_refl _) _⟩
/-- A block more is kept. -/
theorem Disk.guard (h : Disk K w d sb S pv P fuse down ops) (o : Obj) : Disk (fun k => K k ∨ k = w.heap.size) (w.alloc o) d sb S pv P fuse down ops := by
  have g := h.below ((Below.refl w.heap.size w).alloc (Nat.le_refl _) o)
  refine ⟨g.c0, g.c1, g.c2, g.c3, g.c4, g.f1, g.f2, g.f3, g.f4, g.row, g.pend, ?_, ?_, ?_, g.ne, g.slt, ?_⟩
  · rintro (hk | hk)
    · exact h.nd hk
    · have := h.dlt; omega
  · rintro (hk | hk)
    · exact h.ns hk
    · have := h.slt; omega
  · intro k hk
    refine ⟨?_, (h.np k hk).2⟩
    rintro (hk2 | hk2)
    · exact (h.np k hk).1 hk2
    · have := (h.pend.lt k hk).2; omega
  · rintro k (hk | hk)
    · have := h.lt k hk; simp; omega
    · simp; omega
theorem Disk.weaken {L : Nat → Prop} (h : Disk K w d sb S pv P fuse down ops) (hl : ∀ k, L k → K k) : Disk L w d sb S pv P fuse down ops :=
  ⟨h.c0, h.c1, h.c2, h.c3, h.c4, h.f1, h.f2, h.f3, h.f4, h.row, h.pend, fun hk => h.nd (hl _ hk), fun hk => h.ns (hl _ hk), fun k hk => ⟨fun hk2 => (h.np k hk).1 (hl _ hk2), (h.np k hk).2⟩, h.ne, h.slt, fun k hk => h.lt k (hl k hk)⟩
theorem Bools.guard {a : Option Addr} {n : Nat} {ks : List Bool} (h : Bools K w a n ks) (hl : ∀ k, K k → k < w.heap.size) (o : Obj) {L : Nat → Prop} (hL : ∀ k, K k → L k) : Bools L (w.alloc o) a n ks := by
  refine ⟨h.1, ?_⟩
  rcases h.2 with h0 | ⟨b, off, e, hb, hc⟩
  · exact .inl h0
  · exact .inr ⟨b, off, e, hL b hb, fun j hj => (World.cell?_of_block (a := ⟨b, off + j, none⟩) (Below.heap_alloc w o b (hl b hb))).trans (hc j hj)⟩
set_option maxHeartbeats 400000 in
theorem up_any (h : Disk K w d sb S pv P fuse down ops) (hF : Fits P S.length) (hP : P.length ≤ 1000000) {ka : Option Addr} {kn kc : Nat} {ks : List Bool} (hB : Bools K w ka kn ks) :
    Calls Try.prog 14 #[.pointer (some ⟨d, 0, none⟩), .slice ka kn kc] w fun e w' => e = .returned (.int .i64 (cntq (keptQ ks) P.length : Nat)) ∧ Disk K w' d sb (appl S P (keptQ ks) P.length) (.slice none 0 0) [] 0 false ops ∧ Keep K w w' := by
  have hG := h.guard (.cells #[.slice ka kn kc] 23)
  have hBg := hB.guard h.lt (.cells #[.slice ka kn kc] 23) (L := fun k => K k ∨ k = w.heap.size) (fun k hk => .inl hk)
  have hcb : (w.alloc (.cells #[.slice ka kn kc] 23)).cell? ⟨w.heap.size, 0, none⟩ = some (.slice ka kn kc) := by simp [go_sem]
  have hKa : Keep (fun k => K k ∨ k = w.heap.size) (w.alloc (.cells #[.slice ka kn kc] 23)) (w.alloc (.cells #[.slice ka kn kc] 23)) := Keep.refl _
  have hK0 : Keep K w (w.alloc (.cells #[.slice ka kn kc] 23)) := (Keep.refl w).below h.lt ((Below.refl w.heap.size w).alloc (Nat.le_refl _) _)
  have HF := Lib.hid hF
  clear hF
  go_enter Try.func14, Try.ntmps14
  have g3 := hG.c3
  have e3 := hG.f3
  have g2 := (hG.set3 false).c2
  have e2 := (hG.set3 false).f2
  have hE := (hG.set3 false).set2 0
  have hK1 := (hKa.setCell (o := 3) hG.nd (.bool false)).setCell (o := 2) hG.nd (.int .i64 0)
  go_wp2_with fail
  refine (settle_some hE HF.out hP (hBg.keep hK1) ((World.cell?_of_block (a := ⟨w.heap.size, 0, none⟩) (hK1.block w.heap.size (.inr rfl))).trans hcb) (.inr rfl)).mono ?_
  rintro e w2 ⟨rfl, hE2, hK2⟩
  go_wp2_with fail
  go_ret
  exact ⟨rfl, hE2.weaken (fun k hk => .inl hk), hK0.trans ((hK1.trans hK2).mono (fun k hk => .inl hk))⟩
end
end Go.Proofs.Ytbhebkjadgajeaa
