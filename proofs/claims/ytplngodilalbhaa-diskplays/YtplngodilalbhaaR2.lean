/- The reference's disk: settle. -/
import Derived.Test.YtplngodilalbhaaR1
namespace Go.Proofs.Ytplngodilalbhaa
open Go.RowKit Go.Shelf
/-- Writes in memory. -/
def WrRow (w : World) (g : Nat) (L : List (Int × ByteArray)) : Prop := ∀ j (hj : j < L.length), w.cell? ⟨g, j * 2, none⟩ = some (.int .i64 L[j].1) ∧ w.cell? ⟨g, j * 2 + 1, none⟩ = some (.string L[j].2)
theorem WrRow.block {w w1 : World} {g : Nat} {L : List (Int × ByteArray)} (h : WrRow w g L) (hb : w1.heap[g]? = w.heap[g]?) : WrRow w1 g L := fun j hj => ⟨(World.cell?_of_block (a := ⟨g, j * 2, none⟩) hb).trans (h j hj).1, (World.cell?_of_block (a := ⟨g, j * 2 + 1, none⟩) hb).trans (h j hj).2⟩
theorem WrRow.of_own {w : World} {b g n cap : Nat} {L : List (Int × ByteArray)} {t : TypeId} (h : w.ownsRow b t 2 (.slice (some ⟨g, 0, none⟩) n cap) n (flat L)) : WrRow w g L := by
  intro j hj
  have hc := h.cells (g := g) rfl
  obtain ⟨h1, h2⟩ := flat_get L j hj
  have q1 := hc _ _ h1
  have q2 := hc _ _ h2
  rw [add_nil, Nat.mul_comm 2 j] at q1 q2
  exact ⟨q1, q2⟩
/-- A slice of writes, below block B. -/
def WrsAt (B : Nat) (w : World) (a : Option Addr) (n : Nat) (L : List (Int × ByteArray)) : Prop := n = L.length ∧ (L = [] ∨ ∃ g, a = some ⟨g, 0, none⟩ ∧ g < B ∧ WrRow w g L)
/-- A row of strings that can be written. -/
def SRow (w : World) (g : Nat) (S : List ByteArray) : Prop := ∀ j (hj : j < S.length), w.cell? ⟨g, j, none⟩ = some (.string S[j]) ∧ w.frozen? ⟨g, j, none⟩ = false
theorem SRow.of_own {w : World} {b g cap n : Nat} {S : List ByteArray} (h : w.ownsRow b 9 1 (.slice (some ⟨g, 0, none⟩) n cap) n (S.map Value.string)) : SRow w g S := by
  intro j hj
  refine ⟨StrRow.of_own h j hj, ?_⟩
  rcases h.2 with ⟨hv, _⟩ | ⟨g', cp, cur, hv, hgb, hgc, _⟩
  · cases hv
  obtain rfl : g = g' := by injection hv with e1 _ e3; injection e1 with e2; injection e2 with e4
  unfold World.frozen?
  simp only [hgc]
  simp
theorem SRow.put {w : World} {g : Nat} {S : List ByteArray} (h : SRow w g S) (i : Nat) (t : ByteArray) : SRow (w.setCell ⟨g, i, none⟩ (.string t)) g (S.set i t) := by
  intro j hj
  have hj' : j < S.length := by simpa using hj
  obtain ⟨h1, h2⟩ := h j hj'
  constructor
  · by_cases hij : i = j
    · subst hij
      rw [List.getElem_set_self]
      exact World.cell?_setCell_same _ _ _ h1
    · rw [List.getElem_set_ne hij, World.cell?_setCell_other _ _ _ _ (fun e => hij (by injection e))]
      exact h1
  · rw [World.frozen?_setCell]; exact h2
theorem SRow.drew {w : World} {g : Nat} {S : List ByteArray} (h : SRow w g S) : SRow w.drew g S := h
theorem made2 (w : World) (o1 o2 : Obj) (t : TypeId) (size : Nat) : (((w.alloc o1).alloc o2).alloc (.cells #[] t)).ownsRow (w.heap.size + 2) t size (.slice (some ⟨w.heap.size + 1 + 1, 0, none⟩) 0 0) 0 [] := by
  have h := World.ownsRow_made (e := t) (size := size) (base := w.heap.size + 2) ((w.alloc o1).alloc o2) #[] 0 (by simp) (Nat.zero_le _) (by simp)
  simpa using h
theorem grown2 {w : World} {o1 o2 o3 : Obj} {w1 : World} (h : (((w.alloc o1).alloc o2).alloc o3).grownBy w1 (some (w.heap.size + 1 + 1))) : Below (w.heap.size + 2) ((w.alloc o1).alloc o2) w1 := by
  refine ⟨h.os, h.tape, h.output, by have := h.size; simp at this ⊢; omega, fun k hk => ?_⟩
  exact (h.block k (by simp; omega) (by simp; omega)).trans (Below.heap_alloc _ _ k (by simp; omega))
section
variable (w : World) (v0 v1 v2 v3 v4 : Value) (t : TypeId) (o : Obj)
theorem boxA0 : ((w.alloc (.cells #[v0, v1, v2, v3, v4] t)).alloc o).cell? ⟨w.heap.size, 0, none⟩ = some v0 := by simp [go_sem]
theorem boxA1 : ((w.alloc (.cells #[v0, v1, v2, v3, v4] t)).alloc o).cell? ⟨w.heap.size, 1, none⟩ = some v1 := by simp [go_sem]
theorem boxA2 : ((w.alloc (.cells #[v0, v1, v2, v3, v4] t)).alloc o).cell? ⟨w.heap.size, 2, none⟩ = some v2 := by simp [go_sem]
theorem boxA3 : ((w.alloc (.cells #[v0, v1, v2, v3, v4] t)).alloc o).cell? ⟨w.heap.size, 3, none⟩ = some v3 := by simp [go_sem]
theorem boxA4 : ((w.alloc (.cells #[v0, v1, v2, v3, v4] t)).alloc o).cell? ⟨w.heap.size, 4, none⟩ = some v4 := by simp [go_sem]
/-- A block of five cells that can be written. -/
structure Five (w : World) (b : Nat) (v0 v1 v2 v3 v4 : Value) : Prop where
  c0 : w.cell? ⟨b, 0, none⟩ = some v0
  c1 : w.cell? ⟨b, 1, none⟩ = some v1
  c2 : w.cell? ⟨b, 2, none⟩ = some v2
  c3 : w.cell? ⟨b, 3, none⟩ = some v3
  c4 : w.cell? ⟨b, 4, none⟩ = some v4
  f0 : w.frozen? ⟨b, 0, none⟩ = false
  f1 : w.frozen? ⟨b, 1, none⟩ = false
  f2 : w.frozen? ⟨b, 2, none⟩ = false
  f3 : w.frozen? ⟨b, 3, none⟩ = false
  f4 : w.frozen? ⟨b, 4, none⟩ = false
theorem Five.new : Five (w.alloc (.cells #[v0, v1, v2, v3, v4] t)) w.heap.size v0 v1 v2 v3 v4 := by
  constructor <;> simp [go_sem]
variable {w} {v0 v1 v2 v3 v4}
theorem Five.lt {b : Nat} (h : Five w b v0 v1 v2 v3 v4) : b < w.heap.size := World.block_lt_of_cell? w _ h.c0
theorem Five.block {w1 : World} {b : Nat} (h : Five w b v0 v1 v2 v3 v4) (hb : w1.heap[b]? = w.heap[b]?) : Five w1 b v0 v1 v2 v3 v4 :=
  ⟨(World.cell?_of_block (a := ⟨b, 0, none⟩) hb).trans h.c0, (World.cell?_of_block (a := ⟨b, 1, none⟩) hb).trans h.c1, (World.cell?_of_block (a := ⟨b, 2, none⟩) hb).trans h.c2, (World.cell?_of_block (a := ⟨b, 3, none⟩) hb).trans h.c3, (World.cell?_of_block (a := ⟨b, 4, none⟩) hb).trans h.c4,
    (World.frozen?_of_block (a := ⟨b, 0, none⟩) hb).trans h.f0, (World.frozen?_of_block (a := ⟨b, 1, none⟩) hb).trans h.f1, (World.frozen?_of_block (a := ⟨b, 2, none⟩) hb).trans h.f2, (World.frozen?_of_block (a := ⟨b, 3, none⟩) hb).trans h.f3, (World.frozen?_of_block (a := ⟨b, 4, none⟩) hb).trans h.f4⟩
theorem Five.alloc {b : Nat} (h : Five w b v0 v1 v2 v3 v4) (o : Obj) : Five (w.alloc o) b v0 v1 v2 v3 v4 := h.block (Below.heap_alloc w o b h.lt)
theorem Five.below {w1 : World} {b n : Nat} (h : Five w b v0 v1 v2 v3 v4) (B : Below n w w1) (hb : b < n) : Five w1 b v0 v1 v2 v3 v4 := h.block (B.block b hb)
end
theorem StrRow.set {w : World} {g b o : Nat} {v : Value} {S : List ByteArray} (h : StrRow w g S) (hb : g ≠ b) : StrRow (w.setCell ⟨b, o, none⟩ v) g S := fun j hj => (World.cell?_setCell_other _ _ _ _ (fun e => by injection e with e1 _ _; exact hb e1.symm)).trans (h j hj)
/-- What settle gives. -/
def SetRet (S : List ByteArray) (arm : Int) (dead : Bool) (ops : Int) (w : World) (e : Ending) (w' : World) : Prop :=
  ∃ g cap, e = .returned (.agg #[.slice (some ⟨g, 0, none⟩) S.length cap, .slice none 0 0, .int .i64 arm, .bool dead, .int .i64 ops]) ∧ w.heap.size ≤ g ∧ g < w'.heap.size ∧ StrRow w' g S ∧ Below w.heap.size w w'
set_option maxRecDepth 100000 in
set_option maxHeartbeats 2000000 in
theorem rsettle_any (b sc : Nat) (S : List ByteArray) (wa : Option Addr) (wn wc : Nat) (arm : Int) (dead : Bool) (ops : Int) (la : Option Addr) (ln lc : Nat) (L : List (Int × ByteArray)) (w : World)
    (hS : StrRow w b S) (hSn : S.length ≤ 1000000) (hL : WrsAt w.heap.size w la ln L) (hF : Fits L S.length) (hLn : L.length ≤ 1000000) (S' : List ByteArray) (hS' : appl S L (fun _ => true) L.length = S') :
    Calls Try.prog 80 #[.agg #[.slice (some ⟨b, 0, none⟩) S.length sc, .slice wa wn wc, .int .i64 arm, .bool dead, .int .i64 ops], .slice la ln lc] w (SetRet S' arm dead ops w) := by
  obtain ⟨rfl, hL⟩ := hL
  have HF := Lib.hid hF
  have HL := Lib.hid hL
  have HS := Lib.hid hS
  have HS' := Lib.hid hS'
  obtain ⟨i0, hi0, hz0, hz1, hz2⟩ := info_parts info9
  clear hF hL hS hS'
  go_enter Try.func80, Try.ntmps80
  go_wp2_with (at_builtin; go_loud (refine wpList_append_own _ rfl _ _ 49 rfl (w.heap.size + 2) 9 i0 (.string ⟨#[]⟩) 1 16 Try.underlying49 hi0 hz0 hz1 hz2 rfl (by decide) _ _ _ rfl (made2 w _ _ 9 1) ⟨b, 0, none⟩ S.length sc (S.map Value.string) rfl ?c1 ?c2 ?c3 ?c4 ?c5 ?c6 ?_))
  case c1 => simp
  case c2 =>
    intro j u hj
    rw [List.getElem?_map] at hj
    obtain ⟨z, hz, rfl⟩ := Option.map_eq_some_iff.1 hj
    obtain ⟨hj', rfl⟩ := List.getElem?_eq_some_iff.1 hz
    rw [add_nil]
    exact Lib.cell?_alloc_some _ (Lib.cell?_alloc_some _ (Lib.cell?_alloc_some _ (HS.out j hj')))
  case c3 => intro u hu; obtain ⟨z, _, rfl⟩ := List.mem_map.1 hu; rfl
  case c4 => unfold maxLen; omega
  case c5 => omega
  case c6 => simp
  intro v' w1 hown hgrow hnil
  obtain ⟨g, cap, rfl⟩ : ∃ g cap, v' = .slice (some ⟨g, 0, none⟩) S.length cap := by
    rcases hown.2 with ⟨rfl, _⟩ | ⟨g, cap, cur, rfl, _⟩
    · exact (hnil rfl).elim
    · exact ⟨g, cap, rfl⟩
  have hg2 : w.heap.size + 2 ≤ g ∧ g < w1.heap.size := hown.lt g rfl
  have hg1 := hg2.2
  replace hg2 := hg2.1
  have hR := SRow.of_own hown
  have B1 := grown2 hgrow
  have hB0 : Below w.heap.size w w1 := (((Below.refl _ w).alloc (Nat.le_refl _) _).alloc (by simp) _).trans (B1.mono (by omega))
  have F1 := ((Five.new w _ _ _ _ _ 52).alloc _).below B1 (by omega)
  have F2 := (Five.new (w.alloc (.cells #[.slice (some ⟨b, 0, none⟩) S.length sc, .slice wa wn wc, .int .i64 arm, .bool dead, .int .i64 ops] 52)) (.slice none 0 0) (.slice none 0 0) (.int .i64 0) (.bool false) (.int .i64 0) 52).below B1 (by simp)
  have hwb : (w.alloc (.cells #[.slice (some ⟨b, 0, none⟩) S.length sc, .slice wa wn wc, .int .i64 arm, .bool dead, .int .i64 ops] 52)).heap.size = w.heap.size + 1 := by simp
  rw [hwb] at F2
  clear hwb hgrow hnil hown hi0 hz0 hz1 hz2 i0
  go_wp2_with fail
  go_loopw [6] (fun i wx => ∃ k : Nat, k ≤ L.length ∧ SRow wx g (appl S L (fun _ => true) k) ∧ Below (w.heap.size + 2) w1 wx ∧ w1.heap.size ≤ wx.heap.size ∧ i = .int .i64 (k : Int)) (fun i _ => L.length - (intOf i).toNat)
  case atStart => exact ⟨0, Nat.zero_le _, hR, Below.refl _ _, Nat.le_refl _, rfl⟩
  case round =>
    obtain ⟨k, hk, hRk, Bk, hsz, rfl⟩ := hrel
    by_cases hlt : k < L.length
    · obtain ⟨gl, rfl, hgl, hW⟩ : ∃ gl, la = some ⟨gl, 0, none⟩ ∧ gl < w.heap.size ∧ WrRow w gl L := by
        rcases HL.out with rfl | h
        · simp at hlt
        · exact h
      obtain ⟨p0, p1⟩ := (hW.block (((hB0.trans (Bk.mono (by omega))).block gl hgl))) k hlt
      obtain ⟨A, hA, hA2⟩ := HF.out k hlt
      obtain ⟨T, hT⟩ : ∃ T, L[k].2 = T := ⟨_, rfl⟩
      rw [hA2] at p0
      rw [hT] at p1
      have HE := Lib.hid (show L[k] = ((A : Int), T) by rw [← hA2, ← hT])
      clear hA2 hT hW
      have hal : A < (appl S L (fun _ => true) k).length := by rw [appl_length]; exact hA
      obtain ⟨x1, x2⟩ := hRk A hal
      have hR' := hRk.put A T
      generalize (appl S L (fun _ => true) k)[A] = old at x1
      go_wp2_with fail
      go_region
      go_wp2_with fail
      go_roundw
      case rel => exact ⟨k + 1, by omega, by rw [appl_yes rfl hlt HE.out]; exact hR'.drew, (Bk.setCell (p := ⟨g, A, none⟩) hg2 _).drew, by simpa using hsz, by go_num⟩
      case measure => simp [intOf]; omega
    · obtain rfl : k = L.length := by omega
      have hRe : SRow wr g S' := by rw [← HS'.out]; exact hRk
      have hSl : S'.length = S.length := by rw [← HS'.out, appl_length]
      have HSl := Lib.hid hSl
      have G1 := F1.below Bk (by omega)
      have G2 := F2.below Bk (by omega)
      have hBw : Below w.heap.size w wr := hB0.trans (Bk.mono (by omega))
      clear hRk F1 F2 hB0 hR hSl
      obtain ⟨c0, c1, c2, c3, c4, f0, f1, f2, f3, f4⟩ := G1
      obtain ⟨d0, d1, d2, d3, d4, e0, e1, e2, e3, e4⟩ := G2
      have hgs : g < wr.heap.size := by omega
      go_wp2_with fail
      refine bodyPost_ret (v := .agg #[.slice (some ⟨g, 0, none⟩) S.length cap, .slice none 0 0, .int .i64 arm, .bool dead, .int .i64 ops]) (by simp [results, Try.results80, go_sem, d0, d1, d2, d3, d4]) rfl ?_
      refine ⟨g, cap, by rw [HSl.out], by omega, by simpa using hgs, ?_, ?_⟩
      · iterate 7 refine StrRow.set ?_ (by omega)
        exact fun j hj => (hRe j hj).1
      · iterate 7 refine Below.setCell ?_ (by simp) _
        exact hBw
end Go.Proofs.Ytplngodilalbhaa
