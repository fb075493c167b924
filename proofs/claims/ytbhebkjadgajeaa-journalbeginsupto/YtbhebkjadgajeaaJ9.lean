/- Contracts: pages of one byte, images of puts, images handed over. -/
import Derived.Test.YtbhebkjadgajeaaJ8
namespace Go.Proofs.Ytbhebkjadgajeaa
open Go.RowKit
set_option maxRecDepth 100000 in
set_option maxHeartbeats 400000 in
theorem page6_any (c : UInt8) (w : World) : Calls Try.prog 21 #[.int .u8 (c.toNat : Int)] w fun e w' => e = .returned (.string (bs (List.replicate 480 c))) ∧ Below w.heap.size w w' := by
  have km : (Instr.makeSlice 78 (.int .i64 480) (.int .i64 480)).run Try.prog w = .ok (.slice (some ⟨w.heap.size, 0, none⟩) 480 480) (w.alloc (.cells (Array.replicate 480 (.int .u8 0)) 5)) := run_make5 w 480 (by omega)
  have hz := BRow.zeros w 480
  generalize Array.replicate 480 (Value.int .u8 0) = C at km hz
  go_enter Try.func21, Try.ntmps21
  go_wp2
  clear km
  go_loopw [8] (fun i wx => ∃ (k : Nat) (l : List UInt8), k ≤ 480 ∧ Hid (l = List.replicate k c ++ List.replicate (480 - k) 0) ∧ BRow wx w.heap.size l ∧ Below w.heap.size w wx ∧ w.heap.size < wx.heap.size ∧ i = .int .i64 (k : Int)) (fun i _ => 480 - (intOf i).toNat)
  case atStart => exact ⟨0, _, by omega, Lib.hid rfl, hz, (Below.refl _ _).alloc (Nat.le_refl _) _, by simp, rfl⟩
  case round =>
    obtain ⟨k, l, hk, HL, HB, HW, hsz, rfl⟩ := hrel
    have hll : l.length = 480 := by rw [HL.out]; simp; omega
    by_cases hlt : k < 480
    · obtain ⟨d, hcell, hfz⟩ : ∃ d : UInt8, wr.cell? ⟨w.heap.size, k, none⟩ = some (.int .u8 (d.toNat : Int)) ∧ wr.frozen? ⟨w.heap.size, k, none⟩ = false := ⟨_, HB k (by omega)⟩
      have HLL := Lib.hid hll
      clear hll
      go_wp2
      go_roundw
      case rel =>
        refine ⟨k + 1, l.set k c, by omega, Lib.hid ?_, HB.set k _, ?_, ?_, by go_num⟩
        · rw [HL.out, fill_one 480 k c hlt]
        · exact HW.setCell (p := ⟨w.heap.size, k, none⟩) (Nat.le_refl _) _
        · simpa using hsz
      case measure => simp [intOf]; omega
    · obtain rfl : k = 480 := by omega
      have hl : l = List.replicate 480 c := by rw [HL.out]; simp
      subst hl
      have kb := toStr' wr w.heap.size 480 480 _ HB hll
      clear hll HL
      go_wp2
      go_ret
      exact ⟨rfl, HW⟩
/-- A page of one byte. -/
def pageB (c : UInt8) : ByteArray := bs (List.replicate 480 c)
theorem pageB_size (c : UInt8) : (pageB c).size = 480 := rep_size 480 c
theorem page_any (c : UInt8) (w : World) : Calls Try.prog 21 #[.int .u8 (c.toNat : Int)] w fun e w' => e = .returned (.string (pageB c)) ∧ Below w.heap.size w w' := page6_any c w
theorem page_lit (C : Int) (c : UInt8) (hC : C = (c.toNat : Int)) (t : ByteArray) (ht : pageB c = t) (w : World) : Calls Try.prog 21 #[.int .u8 C] w fun e w' => e = .returned (.string t) ∧ Below w.heap.size w w' := by
  subst hC ht; exact page_any c w
/-- A put. -/
structure PutR where
  page : Int
  byte : UInt8
  short : Bool
instance : Inhabited PutR := ⟨⟨0, 0, false⟩⟩
/-- .. and its text. -/
def PutR.text (p : PutR) : ByteArray := if p.short then (pageB p.byte).extract 1 (pageB p.byte).size else pageB p.byte
def PutR.img (p : PutR) : Int × ByteArray := (p.page, p.text)
theorem PutR.text_size (p : PutR) : p.text.size ≤ 480 := by
  unfold PutR.text
  split
  · rw [ByteArray.size_extract, pageB_size]; omega
  · rw [pageB_size]; exact Nat.le_refl _
/-- Puts in memory. -/
def Puts (w : World) (a : Option Addr) (n : Nat) (l : List PutR) : Prop :=
  l.length = n ∧ (n = 0 ∨ ∃ b off, a = some ⟨b, off, none⟩ ∧ b < w.heap.size ∧ ∀ j (hj : j < l.length), w.cell? ⟨b, off + j * 3, none⟩ = some (.int .i64 l[j].page) ∧ w.cell? ⟨b, off + j * 3 + 1, none⟩ = some (.int .u8 (l[j].byte.toNat : Int)) ∧ w.cell? ⟨b, off + j * 3 + 2, none⟩ = some (.bool l[j].short))
theorem Puts.below {w w1 : World} {a : Option Addr} {n : Nat} {l : List PutR} (h : Puts w a n l) (B : Below w.heap.size w w1) : Puts w1 a n l :=
  ⟨h.1, h.2.imp id fun ⟨b, off, e, hb, hj⟩ => ⟨b, off, e, Nat.lt_of_lt_of_le hb B.size, fun j hj' => ⟨(B.cell (p := ⟨b, off + j * 3, none⟩) hb).trans (hj j hj').1, (B.cell (p := ⟨b, off + j * 3 + 1, none⟩) hb).trans (hj j hj').2.1, (B.cell (p := ⟨b, off + j * 3 + 2, none⟩) hb).trans (hj j hj').2.2⟩⟩⟩
theorem info72 : (Try.prog.info? 72).map (fun i => (i.zero, i.size, i.bytes)) = some (some (.agg #[.int .i64 0, .string ⟨#[]⟩]), 2, 24) := by kernel_rfl
theorem two_cells (w : World) (x : Int) (t : ByteArray) (T : TypeId) : ∀ j u, [Value.int .i64 x, Value.string t][j]? = some u → (w.alloc (.cells #[.int .i64 x, .string t] T)).cell? ((⟨w.heap.size, 0, none⟩ : Addr).add j) = some u := by
  intro j u hj
  match j, hj with
  | 0, hj => simp at hj; subst hj; simp [Addr.add]
  | 1, hj => simp at hj; subst hj; simp [Addr.add]
theorem two_one (x : Int) (t : ByteArray) : ∀ u ∈ [Value.int .i64 x, Value.string t], u.oneCell' = true := by
  intro u hu; simp at hu; rcases hu with rfl | rfl <;> rfl
theorem map_take_succ {α β : Type} (f : α → β) (l : List α) (k : Nat) (hk : k < l.length) : (l.take (k + 1)).map f = (l.take k).map f ++ [f l[k]] := by
  rw [List.take_add_one, List.getElem?_eq_getElem hk, List.map_append]; rfl
/-- The images of the first puts. -/
def imgsTo (l : List PutR) (k : Nat) : Tx := (l.take k).map PutR.img
theorem imgsTo_succ (l : List PutR) (k : Nat) (hk : k < l.length) : imgsTo l (k + 1) = imgsTo l k ++ [PutR.img l[k]] := map_take_succ PutR.img l k hk
set_option maxRecDepth 100000 in
set_option maxHeartbeats 2000000 in
theorem images_any (a : Option Addr) (n c : Nat) (l : List PutR) (w : World) (hn : n ≤ 2000000) (hP : Puts w a n l) :
    Calls Try.prog 10 #[.slice a n c] w fun e w' => ∃ v, e = .returned v ∧ RowOf w 72 2 v l.length (flat (l.map PutR.img)) w' := by
  obtain ⟨hl, hP⟩ := hP
  obtain ⟨i0, hi0, hz0, hz1, hz2⟩ := info_parts info72
  go_enter Try.func10, Try.ntmps10
  go_wp2_with fail
  go_loopw [3, 9] (fun v i wr => ∃ k : Nat, k ≤ n ∧ i = .int .i64 k ∧ RowOf w 72 2 v k (flat (imgsTo l k)) wr) (fun _ i _ => n - (intOf i).toNat)
  case atStart => exact ⟨0, Nat.zero_le _, rfl, RowOf.start _ _ _⟩
  case round =>
    obtain ⟨k, hk, rfl, hR⟩ := hrel
    by_cases hlt : k < n
    · obtain ⟨b, off, rfl, hb, hj⟩ : ∃ b off, a = some ⟨b, off, none⟩ ∧ b < w.heap.size ∧ ∀ j (hj : j < l.length), w.cell? ⟨b, off + j * 3, none⟩ = some (.int .i64 l[j].page) ∧ w.cell? ⟨b, off + j * 3 + 1, none⟩ = some (.int .u8 (l[j].byte.toNat : Int)) ∧ w.cell? ⟨b, off + j * 3 + 2, none⟩ = some (.bool l[j].short) := by
        rcases hP with h0 | h
        · omega
        · exact h
      have hkl : k < l.length := by omega
      have hst := imgsTo_succ l k hkl
      obtain ⟨p, hp⟩ : ∃ p, l[k] = p := ⟨_, rfl⟩
      have q := hj k hkl
      rw [hp] at q hst
      obtain ⟨pg, by', sh⟩ := p
      have q0 := (hR.below.cell (p := ⟨b, off + k * 3, none⟩) hb).trans q.1
      have q1 := (hR.below.cell (p := ⟨b, off + k * 3 + 1, none⟩) hb).trans q.2.1
      have q2 := (hR.below.cell (p := ⟨b, off + k * 3 + 2, none⟩) hb).trans q.2.2
      simp only at q0 q1 q2
      have HST := Lib.hid hst
      clear hst hp q hj hP
      obtain ⟨t, ht⟩ : ∃ t, pageB by' = t := ⟨_, rfl⟩
      have hts : t.size = 480 := by rw [← ht]; exact pageB_size by'
      have hts2 : (t.size : Int) = 480 := by omega
      have n1 := Lib.hid (fun w => page_lit (by'.toNat : Int) by' rfl t ht w)
      have HT := Lib.hid ht
      clear ht
      go_wp2_with fail
      have hR1 := hR.later ((Below.refl wr.heap.size wr).alloc (Nat.le_refl _) (.cells #[.int .i64 pg, .int .u8 (by'.toNat : Int), .bool sh] 51))
      have z0 : (wr.alloc (.cells #[.int .i64 pg, .int .u8 (by'.toNat : Int), .bool sh] 51)).cell? ⟨wr.heap.size, 0, none⟩ = some (.int .i64 pg) := by simp [go_sem]
      have z2 : (wr.alloc (.cells #[.int .i64 pg, .int .u8 (by'.toNat : Int), .bool sh] 51)).cell? ⟨wr.heap.size, 2, none⟩ = some (.bool sh) := by simp [go_sem]
      have zl : wr.heap.size < (wr.alloc (.cells #[.int .i64 pg, .int .u8 (by'.toNat : Int), .bool sh] 51)).heap.size := by simp
      refine (n1.out _).mono ?_
      rintro e w1 ⟨rfl, hB⟩
      replace hR1 := hR1.later hB
      replace z0 := (hB.cell (p := ⟨wr.heap.size, 0, none⟩) zl).trans z0
      replace z2 := (hB.cell (p := ⟨wr.heap.size, 2, none⟩) zl).trans z2
      clear hB zl q0 q1 q2 n1
      cases sh with
      | true =>
        obtain ⟨u, hu⟩ : ∃ u, t.extract 1 480 = u := ⟨_, rfl⟩
        have himg : PutR.img ⟨pg, by', true⟩ = (pg, u) := by unfold PutR.img PutR.text; simp only [if_true, HT.out, hts, hu]
        have HI := Lib.hid himg
        have HU := Lib.hid hu
        clear himg
        go_wp2_with (at_builtin; refine wpList_append_own _ rfl _ _ 37 rfl w.heap.size 72 i0 (.agg #[.int .i64 0, .string ⟨#[]⟩]) 2 24 Try.underlying37 hi0 hz0 hz1 hz2 rfl (by decide) _ _ _ rfl (hR1.own.alloc _) ⟨w1.heap.size, 0, none⟩ 1 1 [.int .i64 pg, .string u] rfl ?d1 ?d2 ?d3 ?d4 ?d5 ?d6 ?_)
        case d1 => rfl
        case d2 => exact two_cells w1 pg u 72
        case d3 => exact two_one pg u
        case d4 => unfold maxLen; omega
        case d5 => omega
        case d6 => have := hR1.below.size; simp; omega
        intro v2 w2 hown2 hgrow2 hnil2
        have hR2 := hR1.snoc hown2 hgrow2
        go_wp2_with fail
        go_roundw
        case rel => exact ⟨k + 1, by omega, by go_num, by rw [HST.out, HI.out, flat_snoc]; exact hR2⟩
        case measure => simp [intOf]; omega
      | false =>
        have himg : PutR.img ⟨pg, by', false⟩ = (pg, t) := by unfold PutR.img PutR.text; simp only [HT.out]; rfl
        have HI := Lib.hid himg
        clear himg
        go_wp2_with (at_builtin; refine wpList_append_own _ rfl _ _ 37 rfl w.heap.size 72 i0 (.agg #[.int .i64 0, .string ⟨#[]⟩]) 2 24 Try.underlying37 hi0 hz0 hz1 hz2 rfl (by decide) _ _ _ rfl (hR1.own.alloc _) ⟨w1.heap.size, 0, none⟩ 1 1 [.int .i64 pg, .string t] rfl ?d1 ?d2 ?d3 ?d4 ?d5 ?d6 ?_)
        case d1 => rfl
        case d2 => exact two_cells w1 pg t 72
        case d3 => exact two_one pg t
        case d4 => unfold maxLen; omega
        case d5 => omega
        case d6 => have := hR1.below.size; simp; omega
        intro v2 w2 hown2 hgrow2 hnil2
        have hR2 := hR1.snoc hown2 hgrow2
        go_wp2_with fail
        go_roundw
        case rel => exact ⟨k + 1, by omega, by go_num, by rw [HST.out, HI.out, flat_snoc]; exact hR2⟩
        case measure => simp [intOf]; omega
    · obtain rfl : k = l.length := by omega
      unfold imgsTo at hR
      rw [List.take_length] at hR
      go_wp2_with fail
      go_ret
      exact ⟨_, rfl, hR⟩
/-- A slice of images, as it reads. -/
def Sl (w : World) (v : Value) (l : Tx) : Prop := (∃ a c, v = .slice a l.length c) ∧ (0 < l.length → ∃ g c, v = .slice (some ⟨g, 0, none⟩) l.length c ∧ IRow w g l)
theorem Sl.below {w w1 : World} {v : Value} {l : Tx} (h : Sl w v l) (B : Below w.heap.size w w1) : Sl w1 v l :=
  ⟨h.1, fun h0 => by obtain ⟨g, c, e, hI⟩ := h.2 h0; exact ⟨g, c, e, hI.below B⟩⟩
theorem RowOf.sl {w0 wr : World} {T : Nat} {v : Value} {l : Tx} (h : RowOf w0 T 2 v l.length (flat l) wr) : Sl wr v l := by
  refine ⟨h.form0, fun h0 => ?_⟩
  obtain ⟨g, c, rfl, _, h2, h3⟩ := h.form h0
  refine ⟨g, c, rfl, h2, fun j hj => ?_⟩
  have := flat_get l j hj
  rw [Nat.mul_comm] at this
  exact ⟨h3 _ _ this.1, h3 _ _ this.2⟩
set_option maxRecDepth 100000 in
set_option maxHeartbeats 2000000 in
theorem ours_any (v : Value) (l : Tx) (w : World) (hn : l.length ≤ 2000000) (hS : Sl w v l) :
    Calls Try.prog 9 #[v] w fun e w' => ∃ v', e = .returned v' ∧ RowOf w 57 2 v' l.length (flat l) w' := by
  obtain ⟨⟨a, c, rfl⟩, hS⟩ := hS
  obtain ⟨i0, hi0, hz0, hz1, hz2⟩ := info_parts info57
  go_enter Try.func9, Try.ntmps9
  go_wp2_with fail
  go_loopw [3, 8] (fun v i wr => ∃ k : Nat, k ≤ l.length ∧ i = .int .i64 k ∧ RowOf w 57 2 v k (flat (l.take k)) wr) (fun _ i _ => l.length - (intOf i).toNat)
  case atStart => exact ⟨0, Nat.zero_le _, rfl, RowOf.start _ _ _⟩
  case round =>
    obtain ⟨k, hk, rfl, hR⟩ := hrel
    by_cases hlt : k < l.length
    · obtain ⟨g, c2, he, hI⟩ := hS (by omega)
      simp only [Value.slice.injEq, true_and] at he
      obtain ⟨rfl, rfl⟩ := he
      have hst := map_take_succ id l k hlt
      simp only [List.map_id_fun, id_eq] at hst
      obtain ⟨x, hx⟩ : ∃ x, l[k] = x := ⟨_, rfl⟩
      have q := hI.2 k hlt
      rw [hx] at q hst
      obtain ⟨pg, t⟩ := x
      have q0 := (hR.below.cell (p := ⟨g, k * 2, none⟩) hI.1).trans q.1
      have q1 := (hR.below.cell (p := ⟨g, k * 2 + 1, none⟩) hI.1).trans q.2
      simp only at q0 q1
      have HST := Lib.hid hst
      clear hst hx q hS
      have hR1 := hR.later ((Below.refl wr.heap.size wr).alloc (Nat.le_refl _) (.cells #[.int .i64 pg, .string t] 72))
      go_wp2_with (at_builtin; refine wpList_append_own _ rfl _ _ 35 rfl w.heap.size 57 i0 (.agg #[.int .i64 0, .string ⟨#[]⟩]) 2 24 Try.underlying35 hi0 hz0 hz1 hz2 rfl (by decide) _ _ _ rfl (hR1.own.alloc _) ⟨wr.heap.size + 1, 0, none⟩ 1 1 [.int .i64 pg, .string t] rfl ?d1 ?d2 ?d3 ?d4 ?d5 ?d6 ?_)
      case d1 => rfl
      case d2 => have := two_cells (wr.alloc (.cells #[.int .i64 pg, .string t] 72)) pg t 57; simpa using this
      case d3 => exact two_one pg t
      case d4 => unfold maxLen; omega
      case d5 => omega
      case d6 => have := hR1.below.size; simp at this ⊢; omega
      intro v2 w2 hown2 hgrow2 hnil2
      have hR2 := hR1.snoc hown2 hgrow2
      go_wp2_with fail
      go_roundw
      case rel => exact ⟨k + 1, by omega, by go_num, by rw [HST.out, flat_snoc]; exact hR2⟩
      case measure => simp [intOf]; omega
    · obtain rfl : k = l.length := by omega
      rw [List.take_length] at hR
      go_wp2_with fail
      go_ret
      exact ⟨_, rfl, hR⟩
theorem nodup_bound : ∀ (n : Nat) (l : List Nat), l.Nodup → (∀ x ∈ l, x < n) → l.length ≤ n
  | 0, l, _, h => by
    cases l with
    | nil => simp
    | cons a r => exact absurd (h a (List.mem_cons_self ..)) (by omega)
  | n + 1, l, hn, h => by
    have h1 := nodup_bound n (l.erase n) (hn.erase n) (fun x hx => by
      have hx2 := (hn.mem_erase_iff).1 hx
      have := h x hx2.2
      have := hx2.1
      omega)
    have h2 : l.length ≤ (l.erase n).length + 1 := by
      rw [List.length_erase]
      split <;> omega
    omega
theorem okI_len {l : Tx} (h : okI l) : l.length ≤ 3840 := by
  have h1 : (l.map fun x => x.1.toNat).Nodup := by
    have h2 := h.2.2
    rw [List.Nodup, List.pairwise_iff_getElem] at h2 ⊢
    intro i k hi hk hik
    simp only [List.length_map] at hi hk
    have := h2 i k (by simpa using hi) (by simpa using hk) hik
    simp only [List.getElem_map] at this ⊢
    have a1 := (h.2.1 _ (List.getElem_mem hi)).1
    have a2 := (h.2.1 _ (List.getElem_mem hk)).1
    omega
  have h3 := nodup_bound 3840 _ h1 (fun x hx => by
    obtain ⟨y, hy, rfl⟩ := List.mem_map.1 hx
    have := h.2.1 y hy
    have a1 := this.1
    have a2 := this.2.1
    omega)
  simpa using h3
section
variable {K : Nat → Prop} {w w1 : World} {d sb : Nat} {S : List ByteArray} {pv : Value} {P : List (Int × ByteArray)} {fuse : Int} {down : Bool} {ops : Int} {j size used ep num : Nat}
/-- Append, whatever the images. -/
theorem append_any (h : Disk (fun k => K k ∨ k = j) w d sb S pv P fuse down ops) (J : Jour w j d size used ep num) (hj : ¬ K j) (hsz : size ≤ 1024) (hu : used ≤ size) (hnum : num ≤ 1000000) (hep : ep < 18446744073709551616) (v : Value) (l : Tx) (hS : Sl w v l) (hn : l.length ≤ 2000000) (hwf : ∀ x ∈ l, (Lit.int .i64 x.1).wf = true)
    (hP : P.length ≤ 900000) (hf : fuse ≤ 9223372036854775807) (ho : 0 ≤ ops) (ho2 : ops < 2305843009213693952) (y : Int) (P' : List (Int × ByteArray)) (f' : Int) (d' : Bool) (o' : Int) (used' num' : Nat) (hq : apF S.length size used ep num l z480 (P, fuse, down, ops) = (y, (P', f', d', o'), used', num')) :
    Calls Try.prog 8 #[.pointer (some ⟨j, 0, none⟩), v] w fun e w' => e = .returned (.int .i64 y) ∧ (∃ pv', Disk (fun k => K k ∨ k = j) w' d sb S pv' P' f' d' o') ∧ Jour w' j d size used' ep num' ∧ Keep K w w' := by
  by_cases hok : okI l
  · have hl := okI_len hok
    have h0 : 0 < l.length := List.length_pos_iff.2 hok.1
    obtain ⟨g, c, rfl, hI⟩ := hS.2 h0
    exact append_row h J hj hsz hu hnum hep g c l h0 (by omega) hI hwf z480 rfl (by omega) hf ho (by omega) y P' f' d' o' used' num' hq
  · unfold apF at hq
    rw [if_pos hok] at hq
    simp only [Prod.mk.injEq] at hq
    obtain ⟨rfl, ⟨rfl, rfl, rfl, rfl⟩, rfl, rfl⟩ := hq
    by_cases h0 : 0 < l.length
    · obtain ⟨g, c, rfl, hI⟩ := hS.2 h0
      exact (append_bad g c l h0 hn hI hwf hok).mono fun e w' ⟨he, B⟩ => ⟨he, ⟨pv, h.below B⟩, J.below B, ((Keep.refl w).below h.lt B).mono (fun k hk => .inl hk)⟩
    · obtain ⟨⟨a, c, rfl⟩, _⟩ := hS
      have h00 : l.length = 0 := by omega
      rw [h00]
      exact (append_empty a c w).mono fun e w' ⟨he, hw⟩ => ⟨he, hw ▸ ⟨pv, h⟩, hw ▸ J, hw ▸ Keep.refl w⟩
end
end Go.Proofs.Ytbhebkjadgajeaa
