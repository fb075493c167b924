/- Contract: the sectors of a transaction. -/
import Derived.Test.YtbhebkjadgajeaaJ2
namespace Go.Proofs.Ytbhebkjadgajeaa
open Go.RowKit
/-- What a sector says. -/
structure Sct where
  k : Nat
  e : Nat
  n : Nat
  a : Nat
  m : Nat
  p : ByteArray
  deriving DecidableEq
def Sct.cells (s : Sct) : List Value := [.int .i64 (s.k : Int), .int .u64 (s.e : Int), .int .u64 (s.n : Int), .int .i64 (s.a : Int), .int .i64 (s.m : Int), .string s.p]
def Sct.val (s : Sct) : Value := .agg #[.int .i64 (s.k : Int), .int .u64 (s.e : Int), .int .u64 (s.n : Int), .int .i64 (s.a : Int), .int .i64 (s.m : Int), .string s.p]
def flatS (L : List Sct) : List Value := L.flatMap Sct.cells
theorem flatS_length (L : List Sct) : (flatS L).length = L.length * 6 := by
  induction L with
  | nil => rfl
  | cons a l ih => simp [flatS, Sct.cells] at *; omega
theorem flatS_snoc (L : List Sct) (s : Sct) : flatS (L ++ [s]) = flatS L ++ s.cells := by simp [flatS]
theorem flatS_get (L : List Sct) (j i : Nat) (h : j < L.length) (hi : i < 6) : (flatS L)[j * 6 + i]? = (L[j].cells)[i]? := by
  induction L generalizing j with
  | nil => simp at h
  | cons a l ih =>
    cases j with
    | zero => simp only [flatS, List.flatMap_cons, Nat.zero_mul, Nat.zero_add, List.getElem_cons_zero]; rw [List.getElem?_append_left (by simpa [Sct.cells] using hi)]
    | succ j =>
      have := ih j (by simpa using h)
      rw [show (j + 1) * 6 + i = j * 6 + i + 6 by omega]
      simp only [flatS, List.flatMap_cons, List.getElem_cons_succ] at *
      rw [List.getElem?_append_right (by simp [Sct.cells])]
      simpa [Sct.cells] using this
theorem secC_one (s : Sct) : ∀ u ∈ s.cells, u.oneCell' = true := by
  intro u hu
  simp [Sct.cells] at hu
  rcases hu with rfl | rfl | rfl | rfl | rfl | rfl <;> rfl
/-- A row that a call builds, in blocks that are new since w0. -/
structure RowOf (w0 : World) (T sz : Nat) (v : Value) (n : Nat) (xs : List Value) (wx : World) : Prop where
  own : wx.ownsRow w0.heap.size T sz v n xs
  below : Below w0.heap.size w0 wx
section
variable {w0 wr w1 : World} {T sz n : Nat} {v v' : Value} {xs : List Value}
theorem own_below {b : Nat} (h : wr.ownsRow b T sz v n xs) (B : Below wr.heap.size wr w1) : w1.ownsRow b T sz v n xs := by
  refine ⟨h.1, ?_⟩
  rcases h.2 with hn | ⟨g, cap, cur, hv, h1, h2, h3⟩
  · exact .inl hn
  · exact .inr ⟨g, cap, cur, hv, h1, (B.block g (Array.getElem?_eq_some_iff.1 h2).1).trans h2, h3⟩
theorem RowOf.start (w : World) (T sz : Nat) : RowOf w T sz (.slice none 0 0) 0 [] w := ⟨World.ownsRow_nil _ _ _ _, Below.refl _ _⟩
theorem RowOf.later (h : RowOf w0 T sz v n xs wr) (B : Below wr.heap.size wr w1) : RowOf w0 T sz v n xs w1 := ⟨own_below h.own B, below_to h.below B⟩
theorem RowOf.snoc {m : Nat} {ys : List Value} {o : Obj} (h : RowOf w0 T sz v n xs wr) (hown : w1.ownsRow w0.heap.size T sz v' (n + m) (xs ++ ys)) (hg : (wr.alloc o).grownBy w1 v.ownBlock) : RowOf w0 T sz v' (n + m) (xs ++ ys) w1 :=
  ⟨hown, (h.below.alloc h.below.size o).grown hg (by have := h.below.size; simp; omega) (fun j hj => (h.own.lt j hj).1)⟩
theorem RowOf.form (h : RowOf w0 T sz v n xs wr) (hn : 0 < n) : ∃ g c, v = .slice (some ⟨g, 0, none⟩) n c ∧ w0.heap.size ≤ g ∧ g < wr.heap.size ∧ ∀ j u, xs[j]? = some u → wr.cell? ⟨g, j, none⟩ = some u := by
  have hc := @World.ownsRow.cells _ _ _ _ _ _ _ h.own
  rcases h.own.2 with ⟨_, h0⟩ | ⟨g, cap, cur, rfl, hb, hg, _⟩
  · omega
  · exact ⟨g, cap, rfl, hb, (Array.getElem?_eq_some_iff.1 hg).1, fun j u hu => by rw [← add_nil]; exact hc rfl j u hu⟩
theorem RowOf.form0 (h : RowOf w0 T sz v n xs wr) : ∃ a c, v = .slice a n c := by
  rcases h.own.2 with ⟨rfl, hn⟩ | ⟨g, cap, cur, rfl, _⟩
  · exact ⟨none, 0, by rw [hn]⟩
  · exact ⟨_, _, rfl⟩
end
/-- The sector of an image. -/
def imS (e n i : Nat) (x : Int × ByteArray) : Sct := ⟨2, e, n, x.1.toNat, i, x.2⟩
/-- The sector that ends a transaction. -/
def coS (e n i : Nat) (z : ByteArray) : Sct := ⟨3, e, n, 0, i, z⟩
def imgsS (e n : Nat) (l : List (Int × ByteArray)) : List Sct := l.mapIdx (imS e n)
/-- The sectors of a transaction. -/
def txS (e n : Nat) (l : List (Int × ByteArray)) (z : ByteArray) : List Sct := imgsS e n l ++ [coS e n l.length z]
theorem imgsS_length (e n : Nat) (l : List (Int × ByteArray)) : (imgsS e n l).length = l.length := by simp [imgsS]
theorem txS_length (e n : Nat) (l : List (Int × ByteArray)) (z : ByteArray) : (txS e n l z).length = l.length + 1 := by simp [txS, imgsS_length]
theorem imgsS_take (e n : Nat) (l : List (Int × ByteArray)) (k : Nat) (hk : k < l.length) : imgsS e n (l.take (k + 1)) = imgsS e n (l.take k) ++ [imS e n k l[k]] := by
  unfold imgsS
  rw [List.take_add_one, List.getElem?_eq_getElem hk]
  simp only [Option.toList_some]
  rw [List.mapIdx_concat, List.length_take, Nat.min_eq_left (by omega)]
theorem info70 : (Try.prog.info? 70).map (fun i => (i.zero, i.size, i.bytes)) = some (some (.agg #[.int .i64 0, .int .u64 0, .int .u64 0, .int .i64 0, .int .i64 0, .string ⟨#[]⟩]), 6, 56) := by kernel_rfl
theorem six_cells (w : World) (s : Sct) (T : TypeId) : ∀ j u, s.cells[j]? = some u → (w.alloc (.cells s.cells.toArray T)).cell? ((⟨w.heap.size, 0, none⟩ : Addr).add j) = some u := by
  intro j u hj
  have hl : j < 6 := by have := (List.getElem?_eq_some_iff.1 hj).1; simpa [Sct.cells] using this
  rw [add_nil]
  simpa [go_sem] using hj
set_option maxRecDepth 100000 in
set_option maxHeartbeats 2000000 in
theorem transaction_any (e n g c : Nat) (l : List (Int × ByteArray)) (z : ByteArray) (hz : bs (List.replicate 480 0) = z) (w : World) (hn : l.length ≤ 1000000) (hg : g < w.heap.size) (hc : ∀ j (hj : j < l.length), w.cell? ⟨g, j * 2, none⟩ = some (.int .i64 l[j].1) ∧ w.cell? ⟨g, j * 2 + 1, none⟩ = some (.string l[j].2)) (hp : ∀ x ∈ l, 0 ≤ x.1) :
    Calls Try.prog 26 #[.int .u64 (e : Int), .int .u64 (n : Int), .slice (some ⟨g, 0, none⟩) l.length c] w fun x w' => ∃ v, x = .returned v ∧ RowOf w 70 6 v (l.length + 1) (flatS (txS e n l z)) w' := by
  obtain ⟨i0, hi0, hz0, hz1, hz2⟩ := info_parts info70
  have nc := Lib.hid (fun i w => commit_any e n i z hz w)
  clear hz
  go_enter Try.func26, Try.ntmps26
  go_wp2
  go_loopw [7, 12] (fun v i wr => ∃ k : Nat, k ≤ l.length ∧ i = .int .i64 k ∧ RowOf w 70 6 v k (flatS (imgsS e n (l.take k))) wr) (fun _ i _ => l.length - (intOf i).toNat)
  case atStart => exact ⟨0, Nat.zero_le _, rfl, RowOf.start _ _ _⟩
  case round =>
    obtain ⟨k, hk, rfl, hR⟩ := hrel
    by_cases hlt : k < l.length
    · obtain ⟨pg, hpg⟩ : ∃ pg, l[k].1 = pg := ⟨_, rfl⟩
      obtain ⟨t, ht⟩ : ∃ t, l[k].2 = t := ⟨_, rfl⟩
      obtain ⟨a, ha⟩ : ∃ a : Nat, pg = a := ⟨pg.toNat, by have := hp _ (List.getElem_mem hlt); omega⟩
      have hs : imS e n k l[k] = ⟨2, e, n, a, k, t⟩ := by unfold imS; rw [hpg, ht, ha]; simp
      subst ha
      have cp : wr.cell? ⟨g, k * 2, none⟩ = some (.int .i64 (a : Int)) := by rw [← hpg]; exact (hR.below.cell (p := ⟨g, k * 2, none⟩) hg).trans (hc k hlt).1
      have ct : wr.cell? ⟨g, k * 2 + 1, none⟩ = some (.string t) := by rw [← ht]; exact (hR.below.cell (p := ⟨g, k * 2 + 1, none⟩) hg).trans (hc k hlt).2
      have HS := Lib.hid hs
      have HK := Lib.hid (imgsS_take e n l k hlt)
      clear hpg ht hs
      go_wp2_with fail
      have hR1 := hR.later ((Below.refl wr.heap.size wr).alloc (Nat.le_refl _) (.cells #[.int .i64 (a : Int), .string t] 57))
      refine (image_any e n (k : Int) (a : Int) t _).mono ?_
      rintro x w1 ⟨rfl, hb⟩
      replace hR1 := hR1.later hb
      clear hb
      go_wp2_with (at_builtin; refine wpList_append_own _ rfl _ _ 67 rfl w.heap.size 70 i0 (.agg #[.int .i64 0, .int .u64 0, .int .u64 0, .int .i64 0, .int .i64 0, .string ⟨#[]⟩]) 6 56 Try.underlying67 hi0 hz0 hz1 hz2 rfl (by decide) _ _ _ rfl (hR1.own.alloc _) ⟨w1.heap.size, 0, none⟩ 1 1 (Sct.cells ⟨2, e, n, a, k, t⟩) rfl ?d1 ?d2 ?d3 ?d4 ?d5 ?d6 ?_)
      case d1 => rfl
      case d2 => exact six_cells w1 ⟨2, e, n, a, k, t⟩ 70
      case d3 => exact secC_one _
      case d4 => unfold maxLen; omega
      case d5 => omega
      case d6 => have := hR1.below.size; simp; omega
      intro v2 w2 hown2 hgrow2 hnil2
      have hR2 := hR1.snoc hown2 hgrow2
      go_wp2_with fail
      go_roundw
      case rel => exact ⟨k + 1, by omega, by go_num, by rw [HK.out, flatS_snoc, HS.out]; exact hR2⟩
      case measure => simp [intOf]; omega
    · obtain rfl : k = l.length := by omega
      rw [List.take_length] at hR
      go_wp2_with fail
      refine (nc.out _ _).mono ?_
      rintro x w1 ⟨rfl, hb⟩
      have hR1 := hR.later hb
      clear hb
      go_wp2_with (at_builtin; refine wpList_append_own _ rfl _ _ 67 rfl w.heap.size 70 i0 (.agg #[.int .i64 0, .int .u64 0, .int .u64 0, .int .i64 0, .int .i64 0, .string ⟨#[]⟩]) 6 56 Try.underlying67 hi0 hz0 hz1 hz2 rfl (by decide) _ _ _ rfl (hR1.own.alloc _) ⟨w1.heap.size, 0, none⟩ 1 1 (Sct.cells ⟨3, e, n, 0, l.length, z⟩) rfl ?d1 ?d2 ?d3 ?d4 ?d5 ?d6 ?_)
      case d1 => rfl
      case d2 => exact six_cells w1 ⟨3, e, n, 0, l.length, z⟩ 70
      case d3 => exact secC_one _
      case d4 => unfold maxLen; omega
      case d5 => omega
      case d6 => have := hR1.below.size; simp; omega
      intro v2 w2 hown2 hgrow2 hnil2
      have hR2 := hR1.snoc hown2 hgrow2
      go_wp2_with fail
      go_ret
      exact ⟨_, rfl, by unfold txS; rw [flatS_snoc]; exact hR2⟩
end Go.Proofs.Ytbhebkjadgajeaa
