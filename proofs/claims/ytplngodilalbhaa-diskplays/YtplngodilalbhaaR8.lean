/- The reference's disk: step, Read. The reference's disk: settle. The reference's disk: Write. The reference's disk: Write. The reference's disk: Write that succeeds. The reference's disk: Flush, Read; Same. The reference's disk: New, Up. The reference's disk: Up. -/
import Derived.Test.YtplngodilalbhaaDA
import Derived.Deep.RegionHeld3
import Derived.BigQuiet
import Derived.Deep.QuietTactic
import Derived.Laws.AppendOwnNone
namespace Go.Proofs.Ytplngodilalbhaa
open Go.RowKit Go.Shelf
/-- What the reference's step answers, and what it leaves. -/
def opR (arm : Int) (dead : Bool) (ops : Int) : Bool × Int × Bool × Int :=
  if dead = true ∨ arm = 1 then (false, 0, true, ops) else (true, if 0 < arm then arm - 1 else arm, false, ops + 1)
/-- The reference's disk and a bool. -/
def rdB (sa : Option Addr) (sn sc : Nat) (wa : Option Addr) (wn wc : Nat) (arm : Int) (dead : Bool) (ops : Int) (b : Bool) (w : World) (e : Ending) (w' : World) : Prop :=
  e = .returned (.tuple #[.agg #[.slice sa sn sc, .slice wa wn wc, .int .i64 arm, .bool dead, .int .i64 ops], .bool b]) ∧ Below w.heap.size w w'
set_option maxHeartbeats 1000000 in
theorem rstep_any (sa : Option Addr) (sn sc : Nat) (wa : Option Addr) (wn wc : Nat) (arm : Int) (dead : Bool) (ops : Int) (w : World) (hf2 : arm ≤ 9223372036854775807) (ho : 0 ≤ ops) (ho2 : ops < 4611686018427387904) (b : Bool) (arm' : Int) (dead' : Bool) (ops' : Int) (hq : opR arm dead ops = (b, arm', dead', ops')) :
    Calls Try.prog 79 #[.agg #[.slice sa sn sc, .slice wa wn wc, .int .i64 arm, .bool dead, .int .i64 ops]] w (rdB sa sn sc wa wn wc arm' dead' ops' b w) := by
  unfold opR at hq
  cases dead with
  | true =>
    rw [if_pos (.inl rfl)] at hq
    simp only [Prod.mk.injEq] at hq
    obtain ⟨rfl, rfl, rfl, rfl⟩ := hq
    go_enter Try.func79, Try.ntmps79
    go_wp2
    refine bodyPost_ret (v := .tuple #[.agg #[.slice sa sn sc, .slice wa wn wc, .int .i64 0, .bool true, .int .i64 ops], .bool false]) (by simp [results, Try.results79, go_sem]) rfl ⟨rfl, ?_⟩
    repeat (first | exact ((Below.refl _ w).alloc (Nat.le_refl _) _).alloc (by simp) _ | refine Below.setCell ?_ (by simp) _)
  | false =>
    by_cases h1 : arm = 1
    · rw [if_pos (.inr h1)] at hq
      simp only [Prod.mk.injEq] at hq
      obtain ⟨rfl, rfl, rfl, rfl⟩ := hq
      subst h1
      go_enter Try.func79, Try.ntmps79
      go_wp2
      refine bodyPost_ret (v := .tuple #[.agg #[.slice sa sn sc, .slice wa wn wc, .int .i64 0, .bool true, .int .i64 ops], .bool false]) (by simp [results, Try.results79, go_sem]) rfl ⟨rfl, ?_⟩
      repeat (first | exact ((Below.refl _ w).alloc (Nat.le_refl _) _).alloc (by simp) _ | refine Below.setCell ?_ (by simp) _)
    · rw [if_neg (by simp [h1])] at hq
      simp only [Prod.mk.injEq] at hq
      obtain ⟨rfl, rfl, rfl, rfl⟩ := hq
      have hd : (arm == 1) = false := by rw [beq_eq_false_iff_ne]; exact h1
      clear h1
      by_cases h2 : 0 < arm
      · go_enter Try.func79, Try.ntmps79
        go_wp2
        refine bodyPost_ret (v := .tuple #[.agg #[.slice sa sn sc, .slice wa wn wc, .int .i64 (arm - 1), .bool false, .int .i64 (ops + 1)], .bool true]) (by simp [results, Try.results79, go_sem]) rfl ⟨rfl, ?_⟩
        repeat (first | exact ((Below.refl _ w).alloc (Nat.le_refl _) _).alloc (by simp) _ | refine Below.setCell ?_ (by simp) _)
      · go_enter Try.func79, Try.ntmps79
        go_wp2
        refine bodyPost_ret (v := .tuple #[.agg #[.slice sa sn sc, .slice wa wn wc, .int .i64 arm, .bool false, .int .i64 (ops + 1)], .bool true]) (by simp [results, Try.results79, go_sem]) rfl ⟨rfl, ?_⟩
        repeat (first | exact ((Below.refl _ w).alloc (Nat.le_refl _) _).alloc (by simp) _ | refine Below.setCell ?_ (by simp) _)
end Go.Proofs.Ytplngodilalbhaa
namespace Go.Proofs.Ytplngodilalbhaa
open Go.RowKit Go.Shelf
/-- Writes in memory. -/
def WrRow (w : World) (g : Nat) (L : List (Int × ByteArray)) : Prop := ∀ j (hj : j < L.length), w.cell? ⟨g, j * 2, none⟩ = some (.int .i64 L[j].1) ∧ w.cell? ⟨g, j * 2 + 1, none⟩ = some (.string L[j].2)
theorem WrRow.block {w w1 : World} {g : Nat} {L : List (Int × ByteArray)} (h : WrRow w g L) (hb : w1.heap[g]? = w.heap[g]?) : WrRow w1 g L := fun j hj => ⟨(World.cell?_of_block (a := ⟨g, j * 2, none⟩) hb).trans (h j hj).1, (World.cell?_of_block (a := ⟨g, j * 2 + 1, none⟩) hb).trans (h j hj).2⟩
theorem WrRow.of_own {w : World} {b g n cap : Nat} {L : List (Int × ByteArray)} {t : TypeId} (h : w.ownsRow b t 2 (.slice (some ⟨g, 0, none⟩) n cap) n (flat L)) : WrRow w g L := by
  intro j hj
  have hc := h.cells (g := g) rfl
  obtain ⟨h1, h2⟩ := flat_get L j hj
  have q1 := hc _ _ h1
  have q2 := hc _ _ h2
  rw [add_nil, Nat.mul_comm 2 j] at q1 q2
  exact ⟨q1, q2⟩
/-- A slice of writes, below block B. -/
def WrsAt (B : Nat) (w : World) (a : Option Addr) (n : Nat) (L : List (Int × ByteArray)) : Prop := n = L.length ∧ (L = [] ∨ ∃ g, a = some ⟨g, 0, none⟩ ∧ g < B ∧ WrRow w g L)
/-- A row of strings that can be written. -/
def SRow (w : World) (g : Nat) (S : List ByteArray) : Prop := ∀ j (hj : j < S.length), w.cell? ⟨g, j, none⟩ = some (.string S[j]) ∧ w.frozen? ⟨g, j, none⟩ = false
theorem SRow.of_own {w : World} {b g cap n : Nat} {S : List ByteArray} (h : w.ownsRow b 9 1 (.slice (some ⟨g, 0, none⟩) n cap) n (S.map Value.string)) : SRow w g S := by
  intro j hj
  refine ⟨StrRow.of_own h j hj, ?_⟩
  rcases h.2 with ⟨hv, _⟩ | ⟨g', cp, cur, hv, hgb, hgc, _⟩
  · cases hv
  obtain rfl : g = g' := by injection hv with e1 _ e3; injection e1 with e2; injection e2 with e4
  unfold World.frozen?
  simp only [hgc]
  simp
theorem SRow.put {w : World} {g : Nat} {S : List ByteArray} (h : SRow w g S) (i : Nat) (t : ByteArray) : SRow (w.setCell ⟨g, i, none⟩ (.string t)) g (S.set i t) := by
  intro j hj
  have hj' : j < S.length := by simpa using hj
  obtain ⟨h1, h2⟩ := h j hj'
  constructor
  · by_cases hij : i = j
    · subst hij
      rw [List.getElem_set_self]
      exact World.cell?_setCell_same _ _ _ h1
    · rw [List.getElem_set_ne hij, World.cell?_setCell_other _ _ _ _ (fun e => hij (by injection e))]
      exact h1
  · rw [World.frozen?_setCell]; exact h2
theorem SRow.drew {w : World} {g : Nat} {S : List ByteArray} (h : SRow w g S) : SRow w.drew g S := h
theorem made2 (w : World) (o1 o2 : Obj) (t : TypeId) (size : Nat) : (((w.alloc o1).alloc o2).alloc (.cells #[] t)).ownsRow (w.heap.size + 2) t size (.slice (some ⟨w.heap.size + 1 + 1, 0, none⟩) 0 0) 0 [] := by
  have h := World.ownsRow_made (e := t) (size := size) (base := w.heap.size + 2) ((w.alloc o1).alloc o2) #[] 0 (by simp) (Nat.zero_le _) (by simp)
  simpa using h
theorem grown2 {w : World} {o1 o2 o3 : Obj} {w1 : World} (h : (((w.alloc o1).alloc o2).alloc o3).grownBy w1 (some (w.heap.size + 1 + 1))) : Below (w.heap.size + 2) ((w.alloc o1).alloc o2) w1 := by
  refine ⟨h.os, h.tape, h.output, by have := h.size; simp at this ⊢; omega, fun k hk => ?_⟩
  exact (h.block k (by simp; omega) (by simp; omega)).trans (Below.heap_alloc _ _ k (by simp; omega))
section
variable (w : World) (v0 v1 v2 v3 v4 : Value) (t : TypeId) (o : Obj)
theorem boxA0 : ((w.alloc (.cells #[v0, v1, v2, v3, v4] t)).alloc o).cell? ⟨w.heap.size, 0, none⟩ = some v0 := by simp [go_sem]
theorem boxA1 : ((w.alloc (.cells #[v0, v1, v2, v3, v4] t)).alloc o).cell? ⟨w.heap.size, 1, none⟩ = some v1 := by simp [go_sem]
theorem boxA2 : ((w.alloc (.cells #[v0, v1, v2, v3, v4] t)).alloc o).cell? ⟨w.heap.size, 2, none⟩ = some v2 := by simp [go_sem]
theorem boxA3 : ((w.alloc (.cells #[v0, v1, v2, v3, v4] t)).alloc o).cell? ⟨w.heap.size, 3, none⟩ = some v3 := by simp [go_sem]
theorem boxA4 : ((w.alloc (.cells #[v0, v1, v2, v3, v4] t)).alloc o).cell? ⟨w.heap.size, 4, none⟩ = some v4 := by simp [go_sem]
/-- A block of five cells that can be written. -/
structure Five (w : World) (b : Nat) (v0 v1 v2 v3 v4 : Value) : Prop where
  c0 : w.cell? ⟨b, 0, none⟩ = some v0
  c1 : w.cell? ⟨b, 1, none⟩ = some v1
  c2 : w.cell? ⟨b, 2, none⟩ = some v2
  c3 : w.cell? ⟨b, 3, none⟩ = some v3
  c4 : w.cell? ⟨b, 4, none⟩ = some v4
  f0 : w.frozen? ⟨b, 0, none⟩ = false
  f1 : w.frozen? ⟨b, 1, none⟩ = false
  f2 : w.frozen? ⟨b, 2, none⟩ = false
  f3 : w.frozen? ⟨b, 3, none⟩ = false
  f4 : w.frozen? ⟨b, 4, none⟩ = false
theorem Five.new : Five (w.alloc (.cells #[v0, v1, v2, v3, v4] t)) w.heap.size v0 v1 v2 v3 v4 := by
  constructor <;> simp [go_sem]
variable {w} {v0 v1 v2 v3 v4}
theorem Five.lt {b : Nat} (h : Five w b v0 v1 v2 v3 v4) : b < w.heap.size := World.block_lt_of_cell? w _ h.c0
theorem Five.block {w1 : World} {b : Nat} (h : Five w b v0 v1 v2 v3 v4) (hb : w1.heap[b]? = w.heap[b]?) : Five w1 b v0 v1 v2 v3 v4 :=
  ⟨(World.cell?_of_block (a := ⟨b, 0, none⟩) hb).trans h.c0, (World.cell?_of_block (a := ⟨b, 1, none⟩) hb).trans h.c1, (World.cell?_of_block (a := ⟨b, 2, none⟩) hb).trans h.c2, (World.cell?_of_block (a := ⟨b, 3, none⟩) hb).trans h.c3, (World.cell?_of_block (a := ⟨b, 4, none⟩) hb).trans h.c4,
    (World.frozen?_of_block (a := ⟨b, 0, none⟩) hb).trans h.f0, (World.frozen?_of_block (a := ⟨b, 1, none⟩) hb).trans h.f1, (World.frozen?_of_block (a := ⟨b, 2, none⟩) hb).trans h.f2, (World.frozen?_of_block (a := ⟨b, 3, none⟩) hb).trans h.f3, (World.frozen?_of_block (a := ⟨b, 4, none⟩) hb).trans h.f4⟩
theorem Five.alloc {b : Nat} (h : Five w b v0 v1 v2 v3 v4) (o : Obj) : Five (w.alloc o) b v0 v1 v2 v3 v4 := h.block (Below.heap_alloc w o b h.lt)
theorem Five.below {w1 : World} {b n : Nat} (h : Five w b v0 v1 v2 v3 v4) (B : Below n w w1) (hb : b < n) : Five w1 b v0 v1 v2 v3 v4 := h.block (B.block b hb)
end
theorem StrRow.set {w : World} {g b o : Nat} {v : Value} {S : List ByteArray} (h : StrRow w g S) (hb : g ≠ b) : StrRow (w.setCell ⟨b, o, none⟩ v) g S := fun j hj => (World.cell?_setCell_other _ _ _ _ (fun e => by injection e with e1 _ _; exact hb e1.symm)).trans (h j hj)
/-- What settle gives. -/
def SetRet (S : List ByteArray) (arm : Int) (dead : Bool) (ops : Int) (w : World) (e : Ending) (w' : World) : Prop :=
  ∃ g cap, e = .returned (.agg #[.slice (some ⟨g, 0, none⟩) S.length cap, .slice none 0 0, .int .i64 arm, .bool dead, .int .i64 ops]) ∧ w.heap.size ≤ g ∧ g < w'.heap.size ∧ StrRow w' g S ∧ Below w.heap.size w w'
set_option maxRecDepth 100000 in
set_option maxHeartbeats 2000000 in
theorem rsettle_any (b sc : Nat) (S : List ByteArray) (wa : Option Addr) (wn wc : Nat) (arm : Int) (dead : Bool) (ops : Int) (la : Option Addr) (ln lc : Nat) (L : List (Int × ByteArray)) (w : World)
    (hS : StrRow w b S) (hSn : S.length ≤ 1000000) (hL : WrsAt w.heap.size w la ln L) (hF : Fits L S.length) (hLn : L.length ≤ 1000000) (S' : List ByteArray) (hS' : appl S L (fun _ => true) L.length = S') :
    Calls Try.prog 80 #[.agg #[.slice (some ⟨b, 0, none⟩) S.length sc, .slice wa wn wc, .int .i64 arm, .bool dead, .int .i64 ops], .slice la ln lc] w (SetRet S' arm dead ops w) := by
  obtain ⟨rfl, hL⟩ := hL
  have HF := Lib.hid hF
  have HL := Lib.hid hL
  have HS := Lib.hid hS
  have HS' := Lib.hid hS'
  obtain ⟨i0, hi0, hz0, hz1, hz2⟩ := info_parts info9
  clear hF hL hS hS'
  go_enter Try.func80, Try.ntmps80
  go_wp2_with (at_builtin; go_loud (refine wpList_append_own _ rfl _ _ 49 rfl (w.heap.size + 2) 9 i0 (.string ⟨#[]⟩) 1 16 Try.underlying49 hi0 hz0 hz1 hz2 rfl (by decide) _ _ _ rfl (made2 w _ _ 9 1) ⟨b, 0, none⟩ S.length sc (S.map Value.string) rfl ?c1 ?c2 ?c3 ?c4 ?c5 ?c6 ?_))
  case c1 => simp
  case c2 =>
    intro j u hj
    rw [List.getElem?_map] at hj
    obtain ⟨z, hz, rfl⟩ := Option.map_eq_some_iff.1 hj
    obtain ⟨hj', rfl⟩ := List.getElem?_eq_some_iff.1 hz
    rw [add_nil]
    exact Lib.cell?_alloc_some _ (Lib.cell?_alloc_some _ (Lib.cell?_alloc_some _ (HS.out j hj')))
  case c3 => intro u hu; obtain ⟨z, _, rfl⟩ := List.mem_map.1 hu; rfl
  case c4 => unfold maxLen; omega
  case c5 => omega
  case c6 => simp
  intro v' w1 hown hgrow hnil
  obtain ⟨g, cap, rfl⟩ : ∃ g cap, v' = .slice (some ⟨g, 0, none⟩) S.length cap := by
    rcases hown.2 with ⟨rfl, _⟩ | ⟨g, cap, cur, rfl, _⟩
    · exact (hnil rfl).elim
    · exact ⟨g, cap, rfl⟩
  have hg2 : w.heap.size + 2 ≤ g ∧ g < w1.heap.size := hown.lt g rfl
  have hg1 := hg2.2
  replace hg2 := hg2.1
  have hR := SRow.of_own hown
  have B1 := grown2 hgrow
  have hB0 : Below w.heap.size w w1 := (((Below.refl _ w).alloc (Nat.le_refl _) _).alloc (by simp) _).trans (B1.mono (by omega))
  have F1 := ((Five.new w _ _ _ _ _ 52).alloc _).below B1 (by omega)
  have F2 := (Five.new (w.alloc (.cells #[.slice (some ⟨b, 0, none⟩) S.length sc, .slice wa wn wc, .int .i64 arm, .bool dead, .int .i64 ops] 52)) (.slice none 0 0) (.slice none 0 0) (.int .i64 0) (.bool false) (.int .i64 0) 52).below B1 (by simp)
  have hwb : (w.alloc (.cells #[.slice (some ⟨b, 0, none⟩) S.length sc, .slice wa wn wc, .int .i64 arm, .bool dead, .int .i64 ops] 52)).heap.size = w.heap.size + 1 := by simp
  rw [hwb] at F2
  clear hwb hgrow hnil hown hi0 hz0 hz1 hz2 i0
  go_wp2_with fail
  go_loopw [6] (fun i wx => ∃ k : Nat, k ≤ L.length ∧ SRow wx g (appl S L (fun _ => true) k) ∧ Below (w.heap.size + 2) w1 wx ∧ w1.heap.size ≤ wx.heap.size ∧ i = .int .i64 (k : Int)) (fun i _ => L.length - (intOf i).toNat)
  case atStart => exact ⟨0, Nat.zero_le _, hR, Below.refl _ _, Nat.le_refl _, rfl⟩
  case round =>
    obtain ⟨k, hk, hRk, Bk, hsz, rfl⟩ := hrel
    by_cases hlt : k < L.length
    · obtain ⟨gl, rfl, hgl, hW⟩ : ∃ gl, la = some ⟨gl, 0, none⟩ ∧ gl < w.heap.size ∧ WrRow w gl L := by
        rcases HL.out with rfl | h
        · simp at hlt
        · exact h
      obtain ⟨p0, p1⟩ := (hW.block (((hB0.trans (Bk.mono (by omega))).block gl hgl))) k hlt
      obtain ⟨A, hA, hA2⟩ := HF.out k hlt
      obtain ⟨T, hT⟩ : ∃ T, L[k].2 = T := ⟨_, rfl⟩
      rw [hA2] at p0
      rw [hT] at p1
      have HE := Lib.hid (show L[k] = ((A : Int), T) by rw [← hA2, ← hT])
      clear hA2 hT hW
      have hal : A < (appl S L (fun _ => true) k).length := by rw [appl_length]; exact hA
      obtain ⟨x1, x2⟩ := hRk A hal
      have hR' := hRk.put A T
      generalize (appl S L (fun _ => true) k)[A] = old at x1
      go_wp2_with fail
      go_region
      go_wp2_with fail
      go_roundw
      case rel => exact ⟨k + 1, by omega, by rw [appl_yes rfl hlt HE.out]; exact hR'.drew, (Bk.setCell (p := ⟨g, A, none⟩) hg2 _).drew, by simpa using hsz, by go_num⟩
      case measure => simp [intOf]; omega
    · obtain rfl : k = L.length := by omega
      have hRe : SRow wr g S' := by rw [← HS'.out]; exact hRk
      have hSl : S'.length = S.length := by rw [← HS'.out, appl_length]
      have HSl := Lib.hid hSl
      have G1 := F1.below Bk (by omega)
      have G2 := F2.below Bk (by omega)
      have hBw : Below w.heap.size w wr := hB0.trans (Bk.mono (by omega))
      clear hRk F1 F2 hB0 hR hSl
      obtain ⟨c0, c1, c2, c3, c4, f0, f1, f2, f3, f4⟩ := G1
      obtain ⟨d0, d1, d2, d3, d4, e0, e1, e2, e3, e4⟩ := G2
      have hgs : g < wr.heap.size := by omega
      go_wp2_with fail
      refine bodyPost_ret (v := .agg #[.slice (some ⟨g, 0, none⟩) S.length cap, .slice none 0 0, .int .i64 arm, .bool dead, .int .i64 ops]) (by simp [results, Try.results80, go_sem, d0, d1, d2, d3, d4]) rfl ?_
      refine ⟨g, cap, by rw [HSl.out], by omega, by simpa using hgs, ?_, ?_⟩
      · iterate 7 refine StrRow.set ?_ (by omega)
        exact fun j hj => (hRe j hj).1
      · iterate 7 refine Below.setCell ?_ (by simp) _
        exact hBw
end Go.Proofs.Ytplngodilalbhaa
namespace Go.Proofs.Ytplngodilalbhaa
open Go.RowKit Go.Shelf
/-- K, and what has come since. -/
def fenceK (K : Nat → Prop) (w w' : World) : Nat → Prop := fun k => K k ∨ w.heap.size ≤ k ∧ k < w'.heap.size
/-- The reference's disk in memory: its sectors and its writes. -/
structure Ref (K : Nat → Prop) (w : World) (sa : Option Addr) (sn : Nat) (wa : Option Addr) (wn wc : Nat) (S : List ByteArray) (W : List (Int × ByteArray)) : Prop where
  sn : sn = S.length
  s : ∃ b, sa = some ⟨b, 0, none⟩ ∧ K b ∧ StrRow w b S
  wn : wn = W.length
  ws : wa = none ∧ wc = 0 ∧ W = [] ∨ ∃ g, wa = some ⟨g, 0, none⟩ ∧ K g ∧ WrRow w g W
section
variable {K : Nat → Prop} {w w1 : World} {sa wa : Option Addr} {sn wn wc : Nat} {S : List ByteArray} {W : List (Int × ByteArray)}
theorem Ref.keep (h : Ref K w sa sn wa wn wc S W) (hk : ∀ k, K k → w1.heap[k]? = w.heap[k]?) : Ref K w1 sa sn wa wn wc S W := by
  obtain ⟨b, e, hb, hr⟩ := h.s
  refine ⟨h.sn, ⟨b, e, hb, hr.block (hk b hb)⟩, h.wn, ?_⟩
  rcases h.ws with h0 | ⟨g, e, hg, hr⟩
  · exact .inl h0
  · exact .inr ⟨g, e, hg, hr.block (hk g hg)⟩
theorem Ref.wider {L : Nat → Prop} (h : Ref K w sa sn wa wn wc S W) (hl : ∀ k, K k → L k) : Ref L w sa sn wa wn wc S W := by
  obtain ⟨b, e, hb, hr⟩ := h.s
  refine ⟨h.sn, ⟨b, e, hl b hb, hr⟩, h.wn, ?_⟩
  rcases h.ws with h0 | ⟨g, e, hg, hr⟩
  · exact .inl h0
  · exact .inr ⟨g, e, hl g hg, hr⟩
end
/-- The reference's disk and a number. -/
def RdRet (K : Nat → Prop) (S : List ByteArray) (W : List (Int × ByteArray)) (arm : Int) (dead : Bool) (ops : Int) (y : Int) (w : World) (e : Ending) (w' : World) : Prop :=
  ∃ sa sn sc wa wn wc, e = .returned (.tuple #[.agg #[.slice sa sn sc, .slice wa wn wc, .int .i64 arm, .bool dead, .int .i64 ops], .int .i64 y]) ∧ Ref (fenceK K w w') w' sa sn wa wn wc S W ∧ Below w.heap.size w w'
section
variable {w : World} {b : Nat} {v0 v1 v2 v3 v4 : Value}
/-- Five cells written anew. -/
def put5 (w : World) (b : Nat) (u0 u1 u2 u3 u4 : Value) : World := ((((w.setCell ⟨b, 0, none⟩ u0).setCell ⟨b, 1, none⟩ u1).setCell ⟨b, 2, none⟩ u2).setCell ⟨b, 3, none⟩ u3).setCell ⟨b, 4, none⟩ u4
theorem Five.put (h : Five w b v0 v1 v2 v3 v4) (u0 u1 u2 u3 u4 : Value) : Five (put5 w b u0 u1 u2 u3 u4) b u0 u1 u2 u3 u4 := by
  obtain ⟨c0, c1, c2, c3, c4, f0, f1, f2, f3, f4⟩ := h
  unfold put5
  constructor
  · rw [other _ _ _ _ _ (by omega), other _ _ _ _ _ (by omega), other _ _ _ _ _ (by omega), other _ _ _ _ _ (by omega)]; exact World.cell?_setCell_same _ _ _ c0
  · rw [other _ _ _ _ _ (by omega), other _ _ _ _ _ (by omega), other _ _ _ _ _ (by omega)]; exact World.cell?_setCell_same' _ _ _ (by rw [other _ _ _ _ _ (by omega), c1]; rfl)
  · rw [other _ _ _ _ _ (by omega), other _ _ _ _ _ (by omega)]; exact World.cell?_setCell_same' _ _ _ (by rw [other _ _ _ _ _ (by omega), other _ _ _ _ _ (by omega), c2]; rfl)
  · rw [other _ _ _ _ _ (by omega)]; exact World.cell?_setCell_same' _ _ _ (by rw [other _ _ _ _ _ (by omega), other _ _ _ _ _ (by omega), other _ _ _ _ _ (by omega), c3]; rfl)
  · exact World.cell?_setCell_same' _ _ _ (by rw [other _ _ _ _ _ (by omega), other _ _ _ _ _ (by omega), other _ _ _ _ _ (by omega), other _ _ _ _ _ (by omega), c4]; rfl)
  all_goals simp only [World.frozen?_setCell]; assumption
theorem put5_block (w : World) (b : Nat) (u0 u1 u2 u3 u4 : Value) (k : Nat) (h : k ≠ b) : (put5 w b u0 u1 u2 u3 u4).heap[k]? = w.heap[k]? := by
  unfold put5
  rw [Below.heap_setCell _ ⟨b, 4, none⟩ _ _ h, Below.heap_setCell _ ⟨b, 3, none⟩ _ _ h, Below.heap_setCell _ ⟨b, 2, none⟩ _ _ h, Below.heap_setCell _ ⟨b, 1, none⟩ _ _ h, Below.heap_setCell _ ⟨b, 0, none⟩ _ _ h]
theorem put5_size (w : World) (b : Nat) (u0 u1 u2 u3 u4 : Value) : (put5 w b u0 u1 u2 u3 u4).heap.size = w.heap.size := by simp [put5]
theorem put5_below {n : Nat} {w0 : World} (h : Below n w0 w) (hb : n ≤ b) (u0 u1 u2 u3 u4 : Value) : Below n w0 (put5 w b u0 u1 u2 u3 u4) := by
  unfold put5
  iterate 5 refine Below.setCell ?_ hb _
  exact h
end
end Go.Proofs.Ytplngodilalbhaa
namespace Go.Proofs.Ytplngodilalbhaa
open Go.RowKit Go.Shelf
theorem info102 : (Try.prog.info? 102).map (fun i => (i.zero, i.size, i.bytes)) = some (some (.agg #[.int .i64 0, .string ⟨#[]⟩]), 2, 24) := by kernel_rfl
section
variable {K : Nat → Prop} {sa wa : Option Addr} {sn wn wc : Nat} {S : List ByteArray} {W : List (Int × ByteArray)}
theorem rd_of {w w' : World} {y : Int} (sc : Nat) (arm : Int) (dead : Bool) (ops : Int) (h : Ref K w sa sn wa wn wc S W) (hK : ∀ k, K k → k < w.heap.size) (B : Below w.heap.size w w') :
    RdRet K S W arm dead ops y w (.returned (.tuple #[.agg #[.slice sa sn sc, .slice wa wn wc, .int .i64 arm, .bool dead, .int .i64 ops], .int .i64 y])) w' :=
  ⟨_, _, _, _, _, _, rfl, (h.keep (fun k hk => B.block k (hK k hk))).wider (fun _ hk => .inl hk), B⟩
set_option maxRecDepth 100000 in
set_option maxHeartbeats 1000000 in
theorem rwrite_bad (sc : Nat) (arm : Int) (dead : Bool) (ops : Int) (i : Int) (s : ByteArray) (w : World) (h : Ref K w sa sn wa wn wc S W) (hK : ∀ k, K k → k < w.heap.size) (hi : i < 0 ∨ (S.length : Int) ≤ i ∨ s.size ≠ 512) :
    Calls Try.prog 57 #[.agg #[.slice sa sn sc, .slice wa wn wc, .int .i64 arm, .bool dead, .int .i64 ops], .int .i64 i, .string s] w (RdRet K S W arm dead ops 18 w) := by
  have hn := h.sn
  have hc : (i < 0) ∨ (0 ≤ i ∧ (sn : Int) ≤ i) ∨ (0 ≤ i ∧ i < (sn : Int) ∧ s.size ≠ 512) := by omega
  have fin := fun w' B => rd_of (y := 18) sc arm dead ops h hK (w' := w') B
  have FIN := Lib.hid fin
  clear fin h hi hn
  rcases hc with h1 | ⟨h1, h2⟩ | ⟨h1, h2, h3⟩
  · go_enter Try.func57, Try.ntmps57
    go_wp2
    refine bodyPost_ret (v := .tuple #[.agg #[.slice sa sn sc, .slice wa wn wc, .int .i64 arm, .bool dead, .int .i64 ops], .int .i64 18]) (by simp [results, Try.results57, go_sem]) rfl (FIN.out _ ?_)
    repeat (first | exact ((Below.refl _ w).alloc (Nat.le_refl _) _).alloc (by simp) _ | refine Below.setCell ?_ (by simp) _)
  · go_enter Try.func57, Try.ntmps57
    go_wp2
    refine bodyPost_ret (v := .tuple #[.agg #[.slice sa sn sc, .slice wa wn wc, .int .i64 arm, .bool dead, .int .i64 ops], .int .i64 18]) (by simp [results, Try.results57, go_sem]) rfl (FIN.out _ ?_)
    repeat (first | exact ((Below.refl _ w).alloc (Nat.le_refl _) _).alloc (by simp) _ | refine Below.setCell ?_ (by simp) _)
  · have hs : ((s.size : Int) == 512) = false := by rw [beq_eq_false_iff_ne]; omega
    have hs' : ((s.size : Int) != 512) = true := by rw [bne_iff_ne]; omega
    clear h3
    go_enter Try.func57, Try.ntmps57
    go_wp2
    refine bodyPost_ret (v := .tuple #[.agg #[.slice sa sn sc, .slice wa wn wc, .int .i64 arm, .bool dead, .int .i64 ops], .int .i64 18]) (by simp [results, Try.results57, go_sem]) rfl (FIN.out _ ?_)
    repeat (first | exact ((Below.refl _ w).alloc (Nat.le_refl _) _).alloc (by simp) _ | refine Below.setCell ?_ (by simp) _)
set_option maxRecDepth 100000 in
set_option maxHeartbeats 1000000 in
theorem rwrite_down (sc : Nat) (arm : Int) (dead : Bool) (ops : Int) (i : Int) (s : ByteArray) (w : World) (h : Ref K w sa sn wa wn wc S W) (hK : ∀ k, K k → k < w.heap.size) (h1 : 0 ≤ i) (h2 : i < S.length) (h3 : s.size = 512)
    (hf2 : arm ≤ 9223372036854775807) (ho : 0 ≤ ops) (ho2 : ops < 4611686018427387904) (arm' : Int) (dead' : Bool) (ops' : Int) (hq : opR arm dead ops = (false, arm', dead', ops')) :
    Calls Try.prog 57 #[.agg #[.slice sa sn sc, .slice wa wn wc, .int .i64 arm, .bool dead, .int .i64 ops], .int .i64 i, .string s] w (RdRet K S W arm' dead' ops' 17 w) := by
  have hn := h.sn
  have h2' : i < (sn : Int) := by omega
  have hs : ((s.size : Int) == 512) = true := by rw [beq_iff_eq]; omega
  have hs' : ((s.size : Int) != 512) = false := by rw [bne_eq_false_iff_eq]; omega
  have n1 := Lib.hid (fun w => rstep_any sa sn sc wa wn wc arm dead ops w hf2 ho ho2 _ _ _ _ hq)
  have H := Lib.hid h
  clear h hn h3 hq h2
  go_enter Try.func57, Try.ntmps57
  go_wp2_with fail
  refine (n1.out _).mono ?_
  rintro e w1 ⟨rfl, B⟩
  have F1 := ((Five.new w (.slice sa sn sc) (.slice wa wn wc) (.int .i64 arm) (.bool dead) (.int .i64 ops) 52).alloc (.cells #[.slice none 0 0, .slice none 0 0, .int .i64 0, .bool false, .int .i64 0] 52)).below B (by simp; omega)
  have F2 := (Five.new (w.alloc (.cells #[.slice sa sn sc, .slice wa wn wc, .int .i64 arm, .bool dead, .int .i64 ops] 52)) (.slice none 0 0) (.slice none 0 0) (.int .i64 0) (.bool false) (.int .i64 0) 52).below B (by simp)
  have hwb : (w.alloc (.cells #[.slice sa sn sc, .slice wa wn wc, .int .i64 arm, .bool dead, .int .i64 ops] 52)).heap.size = w.heap.size + 1 := by simp
  rw [hwb] at F2
  have B' := below_to (((Below.refl _ w).alloc (Nat.le_refl _) (.cells #[.slice sa sn sc, .slice wa wn wc, .int .i64 arm, .bool dead, .int .i64 ops] 52)).alloc (by simp) (.cells #[.slice none 0 0, .slice none 0 0, .int .i64 0, .bool false, .int .i64 0] 52)) B
  clear hwb B
  have G1 := F1.put (.slice sa sn sc) (.slice wa wn wc) (.int .i64 arm') (.bool dead') (.int .i64 ops')
  have G2 := F2.block (put5_block w1 w.heap.size (.slice sa sn sc) (.slice wa wn wc) (.int .i64 arm') (.bool dead') (.int .i64 ops') (w.heap.size + 1) (by omega))
  have B2 := put5_below (b := w.heap.size) B' (Nat.le_refl _) (.slice sa sn sc) (.slice wa wn wc) (.int .i64 arm') (.bool dead') (.int .i64 ops')
  obtain ⟨c0, c1, c2, c3, c4, f0, f1, f2, f3, f4⟩ := F1
  go_upto_region 5 with (fail)
  unfold put5 at G1 G2 B2
  generalize ((((w1.setCell ⟨w.heap.size, 0, none⟩ (.slice sa sn sc)).setCell ⟨w.heap.size, 1, none⟩ (.slice wa wn wc)).setCell ⟨w.heap.size, 2, none⟩ (.int .i64 arm')).setCell ⟨w.heap.size, 3, none⟩ (.bool dead')).setCell ⟨w.heap.size, 4, none⟩ (.int .i64 ops') = w2 at G1 G2 B2 ⊢
  clear c0 c1 c2 c3 c4 f0 f1 f2 f3 f4 F2 B' n1
  obtain ⟨c0, c1, c2, c3, c4, f0, f1, f2, f3, f4⟩ := G1
  obtain ⟨d0, d1, d2, d3, d4, e0, e1, e2, e3, e4⟩ := G2
  go_wp2_with fail
  refine bodyPost_ret (v := .tuple #[.agg #[.slice sa sn sc, .slice wa wn wc, .int .i64 arm', .bool dead', .int .i64 ops'], .int .i64 17]) (by simp [results, Try.results57, go_sem, d0, d1, d2, d3, d4]) rfl (rd_of sc arm' dead' ops' H.out hK ?_)
  iterate 5 refine Below.setCell ?_ (by simp) _
  exact B2
end
end Go.Proofs.Ytplngodilalbhaa
namespace Go.Proofs.Ytplngodilalbhaa
open Go.RowKit Go.Shelf
section
variable {K : Nat → Prop} {sa wa : Option Addr} {sn wn wc : Nat} {S : List ByteArray} {W : List (Int × ByteArray)}
theorem made0 (w : World) (t : TypeId) (size : Nat) : (w.alloc (.cells #[] t)).ownsRow w.heap.size t size (.slice (some ⟨w.heap.size, 0, none⟩) 0 0) 0 [] :=
  World.ownsRow_made w #[] 0 (Nat.le_refl _) (Nat.zero_le _) (by simp)
theorem grown0 {w w1 : World} {o : Obj} (h : (w.alloc o).grownBy w1 (some w.heap.size)) : Below w.heap.size w w1 := by
  refine ⟨h.os, h.tape, h.output, by have := h.size; simp at this; omega, fun k hk => ?_⟩
  exact (h.block k (by simp; omega) (by simp; omega)).trans (Below.heap_alloc _ _ k hk)
theorem heap_set (w : World) (b o : Nat) (v : Value) (k : Nat) (h : k ≠ b) : (w.setCell ⟨b, o, none⟩ v).heap[k]? = w.heap[k]? := Below.heap_setCell w ⟨b, o, none⟩ v k h
theorem WrRow.cells {w : World} {g : Nat} {L : List (Int × ByteArray)} (h : WrRow w g L) (j : Nat) (u : Value) (hj : (flat L)[j]? = some u) : w.cell? ⟨g, j, none⟩ = some u := by
  have hl : j < L.length * 2 := by rw [← flat_length]; exact (List.getElem?_eq_some_iff.1 hj).1
  rcases Nat.mod_two_eq_zero_or_one j with hm | hm
  · obtain ⟨q, rfl⟩ : ∃ q, j = 2 * q := ⟨j / 2, by omega⟩
    rw [(flat_get L q (by omega)).1] at hj
    rw [Nat.mul_comm 2 q, (h q (by omega)).1, hj]
  · obtain ⟨q, rfl⟩ : ∃ q, j = 2 * q + 1 := ⟨j / 2, by omega⟩
    rw [(flat_get L q (by omega)).2] at hj
    rw [Nat.mul_comm 2 q, (h q (by omega)).2, hj]
theorem rd_app {w w5 : World} {W' : List (Int × ByteArray)} {g n : Nat} (h : Ref K w sa sn wa wn wc S W) (hK : ∀ k, K k → k < w.heap.size) (hg : w.heap.size ≤ g) (hg' : g < w5.heap.size) (W5 : WrRow w5 g W') (hl : n = W'.length) {sc cap : Nat} {arm : Int} {dead : Bool} {ops y : Int} {w' : World}
    (B : Below w.heap.size w w') (hs : w5.heap.size ≤ w'.heap.size) (hb : w'.heap[g]? = w5.heap[g]?) :
    RdRet K S W' arm dead ops y w (.returned (.tuple #[.agg #[.slice sa sn sc, .slice (some ⟨g, 0, none⟩) n cap, .int .i64 arm, .bool dead, .int .i64 ops], .int .i64 y])) w' := by
  obtain ⟨b, e, hb', hr⟩ := (h.keep (fun k hk => B.block k (hK k hk))).s
  exact ⟨_, _, _, _, _, _, rfl, ⟨h.sn, ⟨b, e, .inl hb', hr⟩, hl, .inr ⟨g, rfl, .inr ⟨hg, by omega⟩, W5.block hb⟩⟩, B⟩
/-- Behind an append to a row of one's own: all that lay below its base. -/
theorem grownB {w w1 : World} {b : Nat} {v : Value} (h : w.grownBy w1 v.ownBlock) (hv : ∀ k, v.ownBlock = some k → b ≤ k) (hb : b ≤ w.heap.size) : Below b w w1 := by
  refine ⟨h.os, h.tape, h.output, h.size, fun k hk => h.block k (by omega) (fun e => ?_)⟩
  have := hv k e.symm
  omega
set_option maxRecDepth 100000 in
set_option maxHeartbeats 2000000 in
theorem rwrite_ok (sc : Nat) (arm : Int) (dead : Bool) (ops : Int) (i : Int) (s : ByteArray) (w : World) (h : Ref K w sa sn wa wn wc S W) (hK : ∀ k, K k → k < w.heap.size) (h1 : 0 ≤ i) (h2 : i < S.length) (h3 : s.size = 512) (hW : W.length ≤ 1000000)
    (hf2 : arm ≤ 9223372036854775807) (ho : 0 ≤ ops) (ho2 : ops < 4611686018427387904) (arm' : Int) (dead' : Bool) (ops' : Int) (hq : opR arm dead ops = (true, arm', dead', ops')) :
    Calls Try.prog 57 #[.agg #[.slice sa sn sc, .slice wa wn wc, .int .i64 arm, .bool dead, .int .i64 ops], .int .i64 i, .string s] w (RdRet K S (W ++ [(i, s)]) arm' dead' ops' 0 w) := by
  have hn := h.sn
  have hwn := h.wn
  have h2' : i < (sn : Int) := by omega
  have hs : ((s.size : Int) == 512) = true := by rw [beq_iff_eq]; omega
  have hs' : ((s.size : Int) != 512) = false := by rw [bne_eq_false_iff_eq]; omega
  have n1 := Lib.hid (fun w => rstep_any sa sn sc wa wn wc arm dead ops w hf2 ho ho2 _ _ _ _ hq)
  have H := Lib.hid h
  have HWN := Lib.hid hwn
  obtain ⟨i0, hi0, hz0, hz1, hz2⟩ := info_parts info102
  clear h hn hwn h3 hq h2
  go_enter Try.func57, Try.ntmps57
  go_wp2_with fail
  refine (n1.out _).mono ?_
  rintro e w1 ⟨rfl, B⟩
  have F1 := ((Five.new w (.slice sa sn sc) (.slice wa wn wc) (.int .i64 arm) (.bool dead) (.int .i64 ops) 52).alloc (.cells #[.slice none 0 0, .slice none 0 0, .int .i64 0, .bool false, .int .i64 0] 52)).below B (by simp; omega)
  have F2 := (Five.new (w.alloc (.cells #[.slice sa sn sc, .slice wa wn wc, .int .i64 arm, .bool dead, .int .i64 ops] 52)) (.slice none 0 0) (.slice none 0 0) (.int .i64 0) (.bool false) (.int .i64 0) 52).below B (by simp)
  have hwb : (w.alloc (.cells #[.slice sa sn sc, .slice wa wn wc, .int .i64 arm, .bool dead, .int .i64 ops] 52)).heap.size = w.heap.size + 1 := by simp
  rw [hwb] at F2
  have B' := below_to (((Below.refl _ w).alloc (Nat.le_refl _) (.cells #[.slice sa sn sc, .slice wa wn wc, .int .i64 arm, .bool dead, .int .i64 ops] 52)).alloc (by simp) (.cells #[.slice none 0 0, .slice none 0 0, .int .i64 0, .bool false, .int .i64 0] 52)) B
  clear hwb B
  have G1 := F1.put (.slice sa sn sc) (.slice wa wn wc) (.int .i64 arm') (.bool dead') (.int .i64 ops')
  have G2 := F2.block (put5_block w1 w.heap.size (.slice sa sn sc) (.slice wa wn wc) (.int .i64 arm') (.bool dead') (.int .i64 ops') (w.heap.size + 1) (by omega))
  have B2 := put5_below (b := w.heap.size) B' (Nat.le_refl _) (.slice sa sn sc) (.slice wa wn wc) (.int .i64 arm') (.bool dead') (.int .i64 ops')
  obtain ⟨c0, c1, c2, c3, c4, f0, f1, f2, f3, f4⟩ := F1
  go_upto_region 6 with (fail)
  unfold put5 at G1 G2 B2
  generalize ((((w1.setCell ⟨w.heap.size, 0, none⟩ (.slice sa sn sc)).setCell ⟨w.heap.size, 1, none⟩ (.slice wa wn wc)).setCell ⟨w.heap.size, 2, none⟩ (.int .i64 arm')).setCell ⟨w.heap.size, 3, none⟩ (.bool dead')).setCell ⟨w.heap.size, 4, none⟩ (.int .i64 ops') = w2 at G1 G2 B2 ⊢
  clear c0 c1 c2 c3 c4 f0 f1 f2 f3 f4 F2 B' n1
  have hsz2 : w.heap.size + 1 < w2.heap.size := G2.lt
  have R2 := H.out.keep (fun k hk => B2.block k (hK k hk))
  have g1 := G1.c1
  rcases R2.ws with ⟨rfl, rfl, hWe⟩ | ⟨g, rfl, hg, hrow⟩
  · obtain rfl : wn = 0 := by rw [HWN.out, hWe]; rfl
    have gA := (G1.alloc (.cells #[] 102)).c1
    have hown := made0 w2 102 2
    have B3 := (Below.refl w2.heap.size w2).alloc (Nat.le_refl _) (.cells #[] 102)
    have HWE := Lib.hid hWe
    clear hWe
    go_wp2_with (at_builtin; first | (refine wpList_append_own_none rfl _ _ 50 rfl w2.heap.size 102 i0 2 Try.underlying50 hi0 _ _ _ rfl (made0 w2 102 2) rfl ?_) | (refine wpList_append_own _ rfl _ _ 50 rfl w2.heap.size 102 i0 (.agg #[.int .i64 0, .string ⟨#[]⟩]) 2 24 Try.underlying50 hi0 hz0 hz1 hz2 rfl (by decide) _ _ _ rfl (hown.alloc _) ⟨w2.heap.size + 1, 0, none⟩ 1 1 [.int .i64 i, .string s] rfl ?d1 ?d2 ?d3 ?d4 ?d5 ?d6 ?_))
    case d1 => rfl
    case d2 =>
      intro j u hj
      match j, hj with
      | 0, hj => simp at hj; subst hj; simp [Addr.add]
      | 1, hj => simp at hj; subst hj; simp [Addr.add]
    case d3 => intro u hu; simp at hu; rcases hu with rfl | rfl <;> rfl
    case d4 => unfold maxLen; omega
    case d5 => omega
    case d6 => have := B3.size; simp at this ⊢; omega
    intro v2 w5 hown5 hgrow5 hnil5
    have B5 : Below w2.heap.size w2 w5 := (B3.alloc B3.size _).trans (grownB hgrow5 (fun k hk => (hown.lt k hk).1) (by have := B3.size; simp at this ⊢; omega))
    have hrow5 : w5.ownsRow w2.heap.size 102 2 v2 (0 + 1) (flat (W ++ [(i, s)])) := by rw [flat_snoc, HWE.out]; exact hown5
    obtain ⟨g2, cap2, rfl⟩ : ∃ g2 cap2, v2 = .slice (some ⟨g2, 0, none⟩) (0 + 1) cap2 := by
      rcases hown5.2 with ⟨rfl, _⟩ | ⟨g, cap, cur, rfl, _⟩
      · exact (hnil5 rfl).elim
      · exact ⟨g, cap, rfl⟩
    have hg2 : w2.heap.size ≤ g2 ∧ g2 < w5.heap.size := hown5.lt g2 rfl
    have W5 := WrRow.of_own hrow5
    have hgw : w.heap.size ≤ g2 := by omega
    have hnl : 0 + 1 = (W ++ [(i, s)]).length := by rw [HWE.out]; rfl
    have HX := Lib.hid (fun (w' : World) (B : Below w.heap.size w w') (hs : w5.heap.size ≤ w'.heap.size) (hb : w'.heap[g2]? = w5.heap[g2]?) => rd_app (K := K) (y := 0) (sc := sc) (cap := cap2) (arm := arm') (dead := dead') (ops := ops') H.out hK hgw hg2.2 W5 hnl B hs hb)
    have Q1 := G1.below B5 (by omega)
    have Q2 := G2.below B5 (by omega)
    have hB5 := B2.trans (B5.mono (by omega))
    clear hrow5 hown5 hgrow5 hnil5 hown B3 B5 W5 G1 G2 B2 R2 hnl gA
    obtain ⟨c0, c1, c2, c3, c4, f0, f1, f2, f3, f4⟩ := Q1
    obtain ⟨d0, d1, d2, d3, d4, e0, e1, e2, e3, e4⟩ := Q2
    go_wp2_with fail
    refine bodyPost_ret (v := .tuple #[.agg #[.slice sa sn sc, .slice (some ⟨g2, 0, none⟩) (0 + 1) cap2, .int .i64 arm', .bool dead', .int .i64 ops'], .int .i64 0]) (by simp [results, Try.results57, go_sem, d0, d1, d2, d3, d4]) rfl ?_
    refine HX.out _ ?_ ?_ ?_
    · iterate 6 refine Below.setCell ?_ (by simp) _
      exact hB5
    · simp
    · iterate 6 refine (heap_set _ _ _ _ _ (by omega)).trans ?_
      rfl
  · have hwn := HWN.out
    subst hwn
    have gA := (G1.alloc (.cells #[] 102)).c1
    go_wp2_with (at_builtin; refine wpList_append_own _ rfl _ _ 50 rfl w2.heap.size 102 i0 (.agg #[.int .i64 0, .string ⟨#[]⟩]) 2 24 Try.underlying50 hi0 hz0 hz1 hz2 rfl (by decide) _ _ _ rfl (made0 w2 102 2) ⟨g, 0, none⟩ W.length wc (flat W) rfl ?c1 ?c2 ?c3 ?c4 ?c5 ?c6 ?_)
    case c1 => exact flat_length W
    case c2 =>
      intro j u hj
      exact Lib.cell?_alloc_some _ (hrow.cells j u hj)
    case c3 => exact flat_one W
    case c4 => unfold maxLen; omega
    case c5 => omega
    intro v1 w3 hown hgrow hnil
    have B3 := grown0 hgrow
    clear gA hnil hgrow
    go_wp2_with (at_builtin; refine wpList_append_own _ rfl _ _ 50 rfl w2.heap.size 102 i0 (.agg #[.int .i64 0, .string ⟨#[]⟩]) 2 24 Try.underlying50 hi0 hz0 hz1 hz2 rfl (by decide) _ _ _ rfl (hown.alloc _) ⟨w3.heap.size, 0, none⟩ 1 1 [.int .i64 i, .string s] rfl ?d1 ?d2 ?d3 ?d4 ?d5 ?d6 ?_)
    case d1 => rfl
    case d2 =>
      intro j u hj
      match j, hj with
      | 0, hj => simp at hj; subst hj; simp [Addr.add]
      | 1, hj => simp at hj; subst hj; simp [Addr.add]
    case d3 => intro u hu; simp at hu; rcases hu with rfl | rfl <;> rfl
    case d4 => unfold maxLen; omega
    case d5 => omega
    case d6 => have := B3.size; simp at this ⊢; omega
    intro v2 w5 hown5 hgrow5 hnil5
    have B5 : Below w2.heap.size w2 w5 := (B3.alloc B3.size _).trans (grownB hgrow5 (fun k hk => (hown.lt k hk).1) (by have := B3.size; simp at this ⊢; omega))
    have hrow5 : w5.ownsRow w2.heap.size 102 2 v2 (W.length + 1) (flat (W ++ [(i, s)])) := by rw [flat_snoc]; exact hown5
    obtain ⟨g2, cap2, rfl⟩ : ∃ g2 cap2, v2 = .slice (some ⟨g2, 0, none⟩) (W.length + 1) cap2 := by
      rcases hown5.2 with ⟨rfl, _⟩ | ⟨g, cap, cur, rfl, _⟩
      · exact (hnil5 rfl).elim
      · exact ⟨g, cap, rfl⟩
    have hg2 : w2.heap.size ≤ g2 ∧ g2 < w5.heap.size := hown5.lt g2 rfl
    have W5 := WrRow.of_own hrow5
    have hgw : w.heap.size ≤ g2 := by omega
    have hnl : W.length + 1 = (W ++ [(i, s)]).length := by simp
    have HX := Lib.hid (fun (w' : World) (B : Below w.heap.size w w') (hs : w5.heap.size ≤ w'.heap.size) (hb : w'.heap[g2]? = w5.heap[g2]?) => rd_app (K := K) (y := 0) (sc := sc) (cap := cap2) (arm := arm') (dead := dead') (ops := ops') H.out hK hgw hg2.2 W5 hnl B hs hb)
    have Q1 := G1.below B5 (by omega)
    have Q2 := G2.below B5 (by omega)
    have hB5 := B2.trans (B5.mono (by omega))
    clear hrow5 hown5 hgrow5 hnil5 hown B3 B5 W5 G1 G2 B2 R2 hnl
    obtain ⟨c0, c1, c2, c3, c4, f0, f1, f2, f3, f4⟩ := Q1
    obtain ⟨d0, d1, d2, d3, d4, e0, e1, e2, e3, e4⟩ := Q2
    go_wp2_with fail
    refine bodyPost_ret (v := .tuple #[.agg #[.slice sa sn sc, .slice (some ⟨g2, 0, none⟩) (W.length + 1) cap2, .int .i64 arm', .bool dead', .int .i64 ops'], .int .i64 0]) (by simp [results, Try.results57, go_sem, d0, d1, d2, d3, d4]) rfl ?_
    refine HX.out _ ?_ ?_ ?_
    · iterate 6 refine Below.setCell ?_ (by simp) _
      exact hB5
    · simp
    · iterate 6 refine (heap_set _ _ _ _ _ (by omega)).trans ?_
      rfl
end
end Go.Proofs.Ytplngodilalbhaa
namespace Go.Proofs.Ytplngodilalbhaa
open Go.RowKit Go.Shelf
section
variable {K : Nat → Prop} {sa wa : Option Addr} {sn wn wc : Nat} {S : List ByteArray} {W : List (Int × ByteArray)}
set_option maxRecDepth 100000 in
set_option maxHeartbeats 1000000 in
theorem rflush_down (sc : Nat) (arm : Int) (dead : Bool) (ops : Int) (w : World) (h : Ref K w sa sn wa wn wc S W) (hK : ∀ k, K k → k < w.heap.size)
    (hf2 : arm ≤ 9223372036854775807) (ho : 0 ≤ ops) (ho2 : ops < 4611686018427387904) (arm' : Int) (dead' : Bool) (ops' : Int) (hq : opR arm dead ops = (false, arm', dead', ops')) :
    Calls Try.prog 58 #[.agg #[.slice sa sn sc, .slice wa wn wc, .int .i64 arm, .bool dead, .int .i64 ops]] w (RdRet K S W arm' dead' ops' 17 w) := by
  have n1 := Lib.hid (fun w => rstep_any sa sn sc wa wn wc arm dead ops w hf2 ho ho2 _ _ _ _ hq)
  have H := Lib.hid h
  clear h hq
  go_enter Try.func58, Try.ntmps58
  go_wp2_with fail
  refine (n1.out _).mono ?_
  rintro e w1 ⟨rfl, B⟩
  have F1 := ((Five.new w (.slice sa sn sc) (.slice wa wn wc) (.int .i64 arm) (.bool dead) (.int .i64 ops) 52).alloc (.cells #[.slice none 0 0, .slice none 0 0, .int .i64 0, .bool false, .int .i64 0] 52)).below B (by simp; omega)
  have F2 := (Five.new (w.alloc (.cells #[.slice sa sn sc, .slice wa wn wc, .int .i64 arm, .bool dead, .int .i64 ops] 52)) (.slice none 0 0) (.slice none 0 0) (.int .i64 0) (.bool false) (.int .i64 0) 52).below B (by simp)
  have hwb : (w.alloc (.cells #[.slice sa sn sc, .slice wa wn wc, .int .i64 arm, .bool dead, .int .i64 ops] 52)).heap.size = w.heap.size + 1 := by simp
  rw [hwb] at F2
  have B' := below_to (((Below.refl _ w).alloc (Nat.le_refl _) (.cells #[.slice sa sn sc, .slice wa wn wc, .int .i64 arm, .bool dead, .int .i64 ops] 52)).alloc (by simp) (.cells #[.slice none 0 0, .slice none 0 0, .int .i64 0, .bool false, .int .i64 0] 52)) B
  clear hwb B
  have G1 := F1.put (.slice sa sn sc) (.slice wa wn wc) (.int .i64 arm') (.bool dead') (.int .i64 ops')
  have G2 := F2.block (put5_block w1 w.heap.size (.slice sa sn sc) (.slice wa wn wc) (.int .i64 arm') (.bool dead') (.int .i64 ops') (w.heap.size + 1) (by omega))
  have B2 := put5_below (b := w.heap.size) B' (Nat.le_refl _) (.slice sa sn sc) (.slice wa wn wc) (.int .i64 arm') (.bool dead') (.int .i64 ops')
  obtain ⟨c0, c1, c2, c3, c4, f0, f1, f2, f3, f4⟩ := F1
  go_upto_region 3 with (fail)
  unfold put5 at G1 G2 B2
  generalize ((((w1.setCell ⟨w.heap.size, 0, none⟩ (.slice sa sn sc)).setCell ⟨w.heap.size, 1, none⟩ (.slice wa wn wc)).setCell ⟨w.heap.size, 2, none⟩ (.int .i64 arm')).setCell ⟨w.heap.size, 3, none⟩ (.bool dead')).setCell ⟨w.heap.size, 4, none⟩ (.int .i64 ops') = w2 at G1 G2 B2 ⊢
  clear c0 c1 c2 c3 c4 f0 f1 f2 f3 f4 F2 B' n1
  obtain ⟨c0, c1, c2, c3, c4, f0, f1, f2, f3, f4⟩ := G1
  obtain ⟨d0, d1, d2, d3, d4, e0, e1, e2, e3, e4⟩ := G2
  go_wp2_with fail
  refine bodyPost_ret (v := .tuple #[.agg #[.slice sa sn sc, .slice wa wn wc, .int .i64 arm', .bool dead', .int .i64 ops'], .int .i64 17]) (by simp [results, Try.results58, go_sem, d0, d1, d2, d3, d4]) rfl (rd_of sc arm' dead' ops' H.out hK ?_)
  iterate 5 refine Below.setCell ?_ (by simp) _
  exact B2
theorem rd_set {w w5 : World} {S' : List ByteArray} {g n : Nat} (hg : w.heap.size ≤ g) (hg' : g < w5.heap.size) (S5 : StrRow w5 g S') (hl : n = S'.length) {sc : Nat} {arm : Int} {dead : Bool} {ops y : Int} {w' : World}
    (B : Below w.heap.size w w') (hs : w5.heap.size ≤ w'.heap.size) (hb : w'.heap[g]? = w5.heap[g]?) :
    RdRet K S' [] arm dead ops y w (.returned (.tuple #[.agg #[.slice (some ⟨g, 0, none⟩) n sc, .slice none 0 0, .int .i64 arm, .bool dead, .int .i64 ops], .int .i64 y])) w' :=
  ⟨_, _, _, _, _, _, rfl, ⟨hl, ⟨g, rfl, .inr ⟨hg, by omega⟩, S5.block hb⟩, rfl, .inl ⟨rfl, rfl, rfl⟩⟩, B⟩
theorem Ref.wrsAt {w : World} (h : Ref K w sa sn wa wn wc S W) (hK : ∀ k, K k → k < w.heap.size) : WrsAt w.heap.size w wa wn W := by
  refine ⟨h.wn, ?_⟩
  rcases h.ws with ⟨_, _, h0⟩ | ⟨g, e, hg, hr⟩
  · exact .inl h0
  · exact .inr ⟨g, e, hK g hg, hr⟩
theorem WrsAt.mono {w : World} {B B' : Nat} {a : Option Addr} {n : Nat} {L : List (Int × ByteArray)} (h : WrsAt B w a n L) (hB : B ≤ B') : WrsAt B' w a n L :=
  ⟨h.1, h.2.imp id fun ⟨g, e, hg, hr⟩ => ⟨g, e, by omega, hr⟩⟩
set_option maxRecDepth 100000 in
set_option maxHeartbeats 1000000 in
theorem rflush_ok (sc : Nat) (arm : Int) (dead : Bool) (ops : Int) (w : World) (h : Ref K w sa sn wa wn wc S W) (hK : ∀ k, K k → k < w.heap.size) (hSn : S.length ≤ 1000000) (hWn : W.length ≤ 1000000) (hF : Fits W S.length)
    (hf2 : arm ≤ 9223372036854775807) (ho : 0 ≤ ops) (ho2 : ops < 4611686018427387904) (arm' : Int) (dead' : Bool) (ops' : Int) (hq : opR arm dead ops = (true, arm', dead', ops')) (S' : List ByteArray) (hS' : appl S W (fun _ => true) W.length = S') :
    Calls Try.prog 58 #[.agg #[.slice sa sn sc, .slice wa wn wc, .int .i64 arm, .bool dead, .int .i64 ops]] w (RdRet K S' [] arm' dead' ops' 0 w) := by
  have n1 := Lib.hid (fun w => rstep_any sa sn sc wa wn wc arm dead ops w hf2 ho ho2 _ _ _ _ hq)
  have H := Lib.hid h
  have HF := Lib.hid hF
  have HS' := Lib.hid hS'
  clear h hq hF hS'
  go_enter Try.func58, Try.ntmps58
  go_wp2_with fail
  refine (n1.out _).mono ?_
  rintro e w1 ⟨rfl, B⟩
  have F1 := ((Five.new w (.slice sa sn sc) (.slice wa wn wc) (.int .i64 arm) (.bool dead) (.int .i64 ops) 52).alloc (.cells #[.slice none 0 0, .slice none 0 0, .int .i64 0, .bool false, .int .i64 0] 52)).below B (by simp; omega)
  have F2 := (Five.new (w.alloc (.cells #[.slice sa sn sc, .slice wa wn wc, .int .i64 arm, .bool dead, .int .i64 ops] 52)) (.slice none 0 0) (.slice none 0 0) (.int .i64 0) (.bool false) (.int .i64 0) 52).below B (by simp)
  have hwb : (w.alloc (.cells #[.slice sa sn sc, .slice wa wn wc, .int .i64 arm, .bool dead, .int .i64 ops] 52)).heap.size = w.heap.size + 1 := by simp
  rw [hwb] at F2
  have B' := below_to (((Below.refl _ w).alloc (Nat.le_refl _) (.cells #[.slice sa sn sc, .slice wa wn wc, .int .i64 arm, .bool dead, .int .i64 ops] 52)).alloc (by simp) (.cells #[.slice none 0 0, .slice none 0 0, .int .i64 0, .bool false, .int .i64 0] 52)) B
  clear hwb B
  have G1 := F1.put (.slice sa sn sc) (.slice wa wn wc) (.int .i64 arm') (.bool dead') (.int .i64 ops')
  have G2 := F2.block (put5_block w1 w.heap.size (.slice sa sn sc) (.slice wa wn wc) (.int .i64 arm') (.bool dead') (.int .i64 ops') (w.heap.size + 1) (by omega))
  have B2 := put5_below (b := w.heap.size) B' (Nat.le_refl _) (.slice sa sn sc) (.slice wa wn wc) (.int .i64 arm') (.bool dead') (.int .i64 ops')
  obtain ⟨c0, c1, c2, c3, c4, f0, f1, f2, f3, f4⟩ := F1
  go_upto_region 4 with (fail)
  unfold put5 at G1 G2 B2
  generalize ((((w1.setCell ⟨w.heap.size, 0, none⟩ (.slice sa sn sc)).setCell ⟨w.heap.size, 1, none⟩ (.slice wa wn wc)).setCell ⟨w.heap.size, 2, none⟩ (.int .i64 arm')).setCell ⟨w.heap.size, 3, none⟩ (.bool dead')).setCell ⟨w.heap.size, 4, none⟩ (.int .i64 ops') = w2 at G1 G2 B2 ⊢
  clear c0 c1 c2 c3 c4 f0 f1 f2 f3 f4 F2 B' n1
  obtain ⟨c0, c1, c2, c3, c4, f0, f1, f2, f3, f4⟩ := G1
  have hsz2 : w.heap.size + 1 < w2.heap.size := G2.lt
  have R2 := H.out.keep (fun k hk => B2.block k (hK k hk))
  have hWA := (R2.wrsAt (fun k hk => by have := hK k hk; omega))
  obtain ⟨b, hb1, hb2, hrow⟩ := R2.s
  have hsn := R2.sn
  subst hb1 hsn
  have HB := Lib.hid (rsettle_any b sc S wa wn wc arm' dead' ops' wa wn wc W w2 hrow hSn hWA HF.out hWn S' HS'.out)
  clear hWA hrow R2
  go_wp2_with fail
  refine HB.out.mono ?_
  rintro e w3 ⟨g, cap, rfl, hg1, hg2, hrow3, B3⟩
  have Q2 := G2.below B3 hsz2
  have hB3 := below_to B2 B3
  have hgw : w.heap.size ≤ g := by omega
  have HX := Lib.hid (fun (w' : World) (B : Below w.heap.size w w') (hs : w3.heap.size ≤ w'.heap.size) (hb : w'.heap[g]? = w3.heap[g]?) => rd_set (K := K) (y := 0) (sc := cap) (arm := arm') (dead := dead') (ops := ops') hgw hg2 hrow3 rfl B hs hb)
  clear G2 B2 B3 hrow3 HB c0 c1 c2 c3 c4 f0 f1 f2 f3 f4
  obtain ⟨d0, d1, d2, d3, d4, e0, e1, e2, e3, e4⟩ := Q2
  go_wp2_with fail
  refine bodyPost_ret (v := .tuple #[.agg #[.slice (some ⟨g, 0, none⟩) S'.length cap, .slice none 0 0, .int .i64 arm', .bool dead', .int .i64 ops'], .int .i64 0]) (by simp [results, Try.results58, go_sem, d0, d1, d2, d3, d4]) rfl ?_
  refine HX.out _ ?_ ?_ ?_
  · iterate 5 refine Below.setCell ?_ (by simp) _
    exact hB3
  · simp
  · iterate 5 refine (heap_set _ _ _ _ _ (by omega)).trans ?_
    rfl
end
theorem drewN_below (w : World) (j : Nat) : Below w.heap.size w (w.drewN j) := ⟨rfl, rfl, rfl, Nat.le_refl _, fun _ _ => rfl⟩
set_option maxHeartbeats 1000000 in
theorem same_any (a b n c1 c2 : Nat) (S : List ByteArray) (hn : n = S.length) (w : World) (h1 : StrRow w a S) (h2 : StrRow w b S) (hS : S.length ≤ 1000000) : Calls Try.prog 31 #[.slice (some ⟨a, 0, none⟩) n c1, .slice (some ⟨b, 0, none⟩) n c2] w fun e w' => e = .returned (.bool true) ∧ Below w.heap.size w w' := by
  subst hn
  have H1 := Lib.hid h1
  have H2 := Lib.hid h2
  clear h1 h2
  go_enter Try.func31, Try.ntmps31
  go_wp2_with fail
  go_loopw [5] (fun i wx => ∃ k j : Nat, k ≤ S.length ∧ wx = w.drewN j ∧ i = .int .i64 (k : Int)) (fun i _ => S.length - (intOf i).toNat)
  case atStart => exact ⟨0, 0, by omega, rfl, rfl⟩
  case round =>
    obtain ⟨k, j, hk, rfl, rfl⟩ := hrel
    by_cases hlt : k < S.length
    · have p := H1.out k hlt
      have q := H2.out k hlt
      generalize S[k] = T at p q
      go_wp2_with fail
      go_quiet (fail)
      go_wp2_with fail
      go_roundw
      case rel => exact ⟨k + 1, _, by omega, rfl, by go_num⟩
      case measure => simp [intOf]; omega
    · go_wp2_with fail
      go_ret
      exact ⟨rfl, drewN_below w j⟩
theorem readT_snoc (S : List ByteArray) (P : List (Int × ByteArray)) (i k : Nat) (hk : k < P.length) : readT S (P.take (k + 1)) i = if P[k].1 = (i : Int) then P[k].2 else readT S (P.take k) i := by
  unfold readT
  rw [List.take_succ_eq_append_getElem hk, List.foldl_append]
  rfl
section
variable {K : Nat → Prop} {sa wa : Option Addr} {sn wn wc : Nat} {S : List ByteArray} {W : List (Int × ByteArray)}
theorem rread_down (sc : Nat) (arm : Int) (ops : Int) (i : Int) (w : World) : Calls Try.prog 26 #[.agg #[.slice sa sn sc, .slice wa wn wc, .int .i64 arm, .bool true, .int .i64 ops], .int .i64 i] w fun e w' => e = .returned (.tuple #[.string ByteArray.empty, .int .i64 17]) ∧ Below w.heap.size w w' := by
  go_enter Try.func26, Try.ntmps26
  go_wp2
  go_ret2
  exact ⟨rfl, (Below.refl _ _).alloc (Nat.le_refl _) _⟩
theorem rread_out (sc : Nat) (arm : Int) (ops : Int) (i : Int) (w : World) (hi : i < 0 ∨ (sn : Int) ≤ i) : Calls Try.prog 26 #[.agg #[.slice sa sn sc, .slice wa wn wc, .int .i64 arm, .bool false, .int .i64 ops], .int .i64 i] w fun e w' => e = .returned (.tuple #[.string ByteArray.empty, .int .i64 18]) ∧ Below w.heap.size w w' := by
  by_cases h0 : i < 0
  · clear hi
    go_enter Try.func26, Try.ntmps26
    go_wp2
    go_ret2
    exact ⟨rfl, (Below.refl _ _).alloc (Nat.le_refl _) _⟩
  · have h1 : (sn : Int) ≤ i := by omega
    clear hi
    go_enter Try.func26, Try.ntmps26
    go_wp2
    go_ret2
    exact ⟨rfl, (Below.refl _ _).alloc (Nat.le_refl _) _⟩
set_option maxRecDepth 100000 in
set_option maxHeartbeats 1000000 in
theorem rread_ok (sc : Nat) (arm : Int) (ops : Int) (i : Nat) (w : World) (h : Ref K w sa sn wa wn wc S W) (hi : i < S.length) (hWn : W.length ≤ 1000000) (T : ByteArray) (hT : readT S W i = T) : Calls Try.prog 26 #[.agg #[.slice sa sn sc, .slice wa wn wc, .int .i64 arm, .bool false, .int .i64 ops], .int .i64 (i : Int)] w fun e w' => e = .returned (.tuple #[.string T, .int .i64 0]) ∧ Below w.heap.size w w' := by
  have HTT := Lib.hid hT
  clear hT
  obtain ⟨b, rfl, _, hrow⟩ := h.s
  have e1 := h.sn
  have e2 := h.wn
  subst e1 e2
  have H := Lib.hid h
  have s1 : (w.alloc (.cells #[.slice (some ⟨b, 0, none⟩) S.length sc, .slice wa W.length wc, .int .i64 arm, .bool false, .int .i64 ops] 52)).cell? ⟨b, i, none⟩ = some (.string S[i]) := Lib.cell?_alloc_some _ (hrow i hi)
  have HT := Lib.hid (show S[i] = readT S (W.take 0) i by unfold readT; rw [List.getD_eq_getElem?_getD, List.getElem?_eq_getElem hi]; rfl)
  generalize S[i] = t0 at s1 HT
  clear hrow h
  have F := Five.new w (.slice (some ⟨b, 0, none⟩) S.length sc) (.slice wa W.length wc) (.int .i64 arm) (.bool false) (.int .i64 ops) 52
  go_enter Try.func26, Try.ntmps26
  go_wp2_with fail
  have hB : Below w.heap.size w (w.alloc (.cells #[.slice (some ⟨b, 0, none⟩) S.length sc, .slice wa W.length wc, .int .i64 arm, .bool false, .int .i64 ops] 52)) := (Below.refl _ _).alloc (Nat.le_refl _) _
  have hws : ∀ k (hk : k < W.length), ∃ g, wa = some ⟨g, 0, none⟩ ∧ (w.alloc (.cells #[.slice (some ⟨b, 0, none⟩) S.length sc, .slice wa W.length wc, .int .i64 arm, .bool false, .int .i64 ops] 52)).cell? ⟨g, k * 2, none⟩ = some (.int .i64 W[k].1) ∧ (w.alloc (.cells #[.slice (some ⟨b, 0, none⟩) S.length sc, .slice wa W.length wc, .int .i64 arm, .bool false, .int .i64 ops] 52)).cell? ⟨g, k * 2 + 1, none⟩ = some (.string W[k].2) := by
    intro k hk
    rcases H.out.ws with ⟨_, _, h0⟩ | ⟨g, e, _, hr⟩
    · rw [h0] at hk; simp at hk
    · exact ⟨g, e, Lib.cell?_alloc_some _ (hr k hk).1, Lib.cell?_alloc_some _ (hr k hk).2⟩
  have HWS := Lib.hid hws
  generalize w.alloc (.cells #[.slice (some ⟨b, 0, none⟩) S.length sc, .slice wa W.length wc, .int .i64 arm, .bool false, .int .i64 ops] 52) = wz at *
  clear hws s1
  obtain ⟨c0, c1, c2, c3, c4, f0, f1, f2, f3, f4⟩ := F
  go_loop [6, 7] (fun s k => ∃ (j : Nat) (t : ByteArray), j ≤ W.length ∧ Hid (t = readT S (W.take j) i) ∧ s = .string t ∧ k = .int .i64 (j : Int)) (fun _ k => W.length - (intOf k).toNat)
  case atStart => exact ⟨0, t0, Nat.zero_le _, HT, rfl, rfl⟩
  case round =>
    clear HT
    obtain ⟨j, t, hj, HT, rfl, rfl⟩ := hrel
    by_cases hlt : j < W.length
    · obtain ⟨g, rfl, p0, p1⟩ := HWS.out j hlt
      have HS := Lib.hid (readT_snoc S W i j hlt)
      generalize W[j] = x at p0 p1 HS
      by_cases hx : x.1 = (i : Int)
      · have hb : (x.1 == (i : Int)) = true := by rw [hx]; simp
        have HX := Lib.hid hx
        clear hx
        go_wp2_with fail
        go_round
        case rel => exact ⟨j + 1, x.2, by omega, Lib.hid (by rw [HS.out, if_pos HX.out]), rfl, by go_num⟩
        case measure => simp [intOf]; omega
      · have hb : (x.1 == (i : Int)) = false := by rw [beq_eq_false_iff_ne]; exact hx
        have HX := Lib.hid hx
        clear hx
        go_wp2_with fail
        go_round
        case rel => exact ⟨j + 1, t, by omega, Lib.hid (by rw [HS.out, if_neg HX.out]; exact HT.out), rfl, by go_num⟩
        case measure => simp [intOf]; omega
    · have hT : t = T := by rw [← HTT.out, HT.out, List.take_of_length_le (by omega)]
      clear HT HTT
      subst hT
      go_wp2_with fail
      go_ret2
      exact ⟨rfl, hB⟩
end
end Go.Proofs.Ytplngodilalbhaa
namespace Go.Proofs.Ytplngodilalbhaa
open Go.RowKit Go.Shelf
/-- The writes that are kept. -/
def keptL (W : List (Int × ByteArray)) (q : Nat → Bool) : Nat → List (Int × ByteArray)
  | 0 => []
  | k + 1 => if q k then keptL W q k ++ [W.getD k (0, ByteArray.empty)] else keptL W q k
theorem keptL_yes {W : List (Int × ByteArray)} {q : Nat → Bool} {k : Nat} (hq : q k = true) (hk : k < W.length) : keptL W q (k + 1) = keptL W q k ++ [W[k]] := by
  conv => lhs; unfold keptL
  rw [if_pos hq, List.getD_eq_getElem?_getD, List.getElem?_eq_getElem hk]; rfl
theorem keptL_no {W : List (Int × ByteArray)} {q : Nat → Bool} {k : Nat} (hq : q k = false) : keptL W q (k + 1) = keptL W q k := by
  conv => lhs; unfold keptL
  rw [if_neg (by rw [hq]; decide)]
theorem keptL_length (W : List (Int × ByteArray)) (q : Nat → Bool) (k : Nat) : (keptL W q k).length = cntq q k := by
  induction k with
  | zero => rfl
  | succ k ih =>
    cases hq : q k with
    | true => unfold keptL; rw [if_pos hq, List.length_append, ih, cntq_yes hq]; rfl
    | false => rw [keptL_no hq, cntq_no hq, ih]
theorem appl_left {S : List ByteArray} {L M : List (Int × ByteArray)} (k : Nat) (hk : k ≤ L.length) : appl S (L ++ M) (fun _ => true) k = appl S L (fun _ => true) k := by
  induction k with
  | zero => rfl
  | succ k ih =>
    have hlt : k < L.length := by omega
    unfold appl
    rw [if_pos rfl, if_pos rfl, ih (by omega)]
    rw [List.getD_eq_getElem?_getD, List.getD_eq_getElem?_getD, List.getElem?_append_left hlt]
theorem appl_kept {S : List ByteArray} {W : List (Int × ByteArray)} {q : Nat → Bool} {k : Nat} (hF : Fits W S.length) (hk : k ≤ W.length) : appl S (keptL W q k) (fun _ => true) (keptL W q k).length = appl S W q k ∧ Fits (keptL W q k) S.length := by
  induction k with
  | zero => exact ⟨rfl, fun j hj => by simp [keptL] at hj⟩
  | succ k ih =>
    obtain ⟨i1, i2⟩ := ih (by omega)
    cases hq : q k with
    | false => rw [keptL_no hq, appl_no hq]; exact ⟨i1, i2⟩
    | true =>
      obtain ⟨a, ha, hp⟩ := hF k (by omega)
      have hP : W[k] = ((a : Int), W[k].2) := by rw [← hp]
      rw [keptL_yes hq (by omega), appl_yes hq (by omega) hP]
      constructor
      · rw [List.length_append]
        have hl : (keptL W q k).length < (keptL W q k ++ [W[k]]).length := by simp
        rw [show (keptL W q k).length + [W[k]].length = (keptL W q k).length + 1 from rfl, appl_yes (a := a) (t := W[k].2) rfl hl (by rw [List.getElem_append_right (Nat.le_refl _)]; simp only [Nat.sub_self, List.getElem_singleton]; exact hP), appl_left _ (Nat.le_refl _), i1]
      · intro j hj
        by_cases hlt : j < (keptL W q k).length
        · rw [List.getElem_append_left hlt]; exact i2 j hlt
        · rw [List.getElem_append_right (by omega)]
          simp only [List.getElem_singleton]
          exact ⟨a, ha, hp⟩
theorem rnew_bad (n : Int) (w : World) (h : n < 1 ∨ 4865 < n) : Calls Try.prog 24 #[.int .i64 n] w fun e w' => e = .returned (.tuple #[.agg #[.slice none 0 0, .slice none 0 0, .int .i64 0, .bool false, .int .i64 0], .bool false]) ∧ Below w.heap.size w w' := by
  by_cases h1 : n < 1
  · clear h
    go_enter Try.func24, Try.ntmps24
    go_wp2
    refine bodyPost_ret (v := .tuple #[.agg #[.slice none 0 0, .slice none 0 0, .int .i64 0, .bool false, .int .i64 0], .bool false]) (by simp [results, Try.results24, go_sem]) rfl ⟨rfl, ?_⟩
    repeat (first | exact ((Below.refl _ w).alloc (Nat.le_refl _) _) | refine Below.setCell ?_ (by simp) _)
  · have h2 : 4865 < n := by omega
    clear h
    go_enter Try.func24, Try.ntmps24
    go_wp2
    refine bodyPost_ret (v := .tuple #[.agg #[.slice none 0 0, .slice none 0 0, .int .i64 0, .bool false, .int .i64 0], .bool false]) (by simp [results, Try.results24, go_sem]) rfl ⟨rfl, ?_⟩
    repeat (first | exact ((Below.refl _ w).alloc (Nat.le_refl _) _) | refine Below.setCell ?_ (by simp) _)
theorem SRow.zeros (w : World) (n : Nat) : SRow (w.alloc (.cells (List.replicate n (.string ⟨#[]⟩)).toArray 9)) w.heap.size (List.replicate n ⟨#[]⟩) := by
  intro j hj
  have hj' : j < n := by simpa using hj
  have hg : (w.alloc (.cells (List.replicate n (Value.string ⟨#[]⟩)).toArray 9)).heap[w.heap.size]? = some (.cells (List.replicate n (.string ⟨#[]⟩)).toArray 9 (0, 0)) := by
    show (w.heap.push _)[w.heap.size]? = _
    simp
  constructor
  · rw [cell_of_row _ _ j _ _ _ hg]
    simp [hj']
  · unfold World.frozen?
    simp only [hg]
    simp
/-- What New gives. -/
def NewRet (S : List ByteArray) (w : World) (e : Ending) (w' : World) : Prop :=
  ∃ g, e = .returned (.tuple #[.agg #[.slice (some ⟨g, 0, none⟩) S.length S.length, .slice none 0 0, .int .i64 0, .bool false, .int .i64 0], .bool true]) ∧ w.heap.size ≤ g ∧ g < w'.heap.size ∧ StrRow w' g S ∧ Below w.heap.size w w'
theorem fill_strs (n k : Nat) (z y : ByteArray) (h : k < n) : (List.replicate k z ++ List.replicate (n - k) y).set k z = List.replicate (k + 1) z ++ List.replicate (n - (k + 1)) y := by
  rw [List.set_append_right _ _ (by simp), List.length_replicate, Nat.sub_self, show n - k = (n - (k + 1)) + 1 by omega, List.replicate_succ, List.set_cons_zero, List.replicate_succ', List.append_assoc]
  rfl
set_option maxRecDepth 100000 in
set_option maxHeartbeats 1000000 in
theorem rnew_ok (n : Nat) (w : World) (h1 : 1 ≤ n) (h2 : n ≤ 4865) (Z : ByteArray) (hZ : bs (List.replicate 512 0) = Z) : Calls Try.prog 24 #[.int .i64 (n : Int)] w (NewRet (List.replicate n Z) w) := by
  have n1 := Lib.hid (fun w => rzeros_lit 512 512 Z rfl hZ w (by omega) (by omega))
  have km := run_make9 (w.alloc (.cells #[.slice none 0 0, .slice none 0 0, .int .i64 0, .bool false, .int .i64 0] 52)) n (by omega)
  have hR0 := SRow.zeros (w.alloc (.cells #[.slice none 0 0, .slice none 0 0, .int .i64 0, .bool false, .int .i64 0] 52)) n
  have hS : (w.alloc (.cells #[.slice none 0 0, .slice none 0 0, .int .i64 0, .bool false, .int .i64 0] 52)).heap.size = w.heap.size + 1 := by simp
  rw [hS] at km hR0
  have FR := (Five.new w (.slice none 0 0) (.slice none 0 0) (.int .i64 0) (.bool false) (.int .i64 0) 52).alloc (.cells (List.replicate n (.string ⟨#[]⟩)).toArray 9)
  have hB0 : Below w.heap.size w ((w.alloc (.cells #[.slice none 0 0, .slice none 0 0, .int .i64 0, .bool false, .int .i64 0] 52)).alloc (.cells (List.replicate n (.string ⟨#[]⟩)).toArray 9)) := ((Below.refl _ w).alloc (Nat.le_refl _) _).alloc (by simp) _
  have hsz : ((w.alloc (.cells #[.slice none 0 0, .slice none 0 0, .int .i64 0, .bool false, .int .i64 0] 52)).alloc (.cells (List.replicate n (.string ⟨#[]⟩)).toArray 9)).heap.size = w.heap.size + 2 := by simp
  generalize (w.alloc (.cells #[.slice none 0 0, .slice none 0 0, .int .i64 0, .bool false, .int .i64 0] 52)).alloc (.cells (List.replicate n (.string ⟨#[]⟩)).toArray 9) = wa at km hR0 FR hB0 hsz
  have HSZ := Lib.hid hsz
  clear hZ hS hsz
  go_enter Try.func24, Try.ntmps24
  go_wp2_with fail
  refine (n1.out _).mono ?_
  rintro e w1 ⟨rfl, B⟩
  have hws : wa.heap.size = w.heap.size + 2 := HSZ.out
  have F1 := (Five.new wa (.slice (some ⟨w.heap.size + 1, 0, none⟩) n n) (.slice none 0 0) (.int .i64 0) (.bool false) (.int .i64 0) 52).below B (by simp)
  have F2 := (FR.alloc (.cells #[.slice (some ⟨w.heap.size + 1, 0, none⟩) n n, .slice none 0 0, .int .i64 0, .bool false, .int .i64 0] 52)).below B (by have := FR.lt; simp; omega)
  have hB1 := below_to (hB0.alloc hB0.size (.cells #[.slice (some ⟨w.heap.size + 1, 0, none⟩) n n, .slice none 0 0, .int .i64 0, .bool false, .int .i64 0] 52)) B
  have hR1 : SRow w1 (w.heap.size + 1) (List.replicate n ⟨#[]⟩) := fun j hj => by
    obtain ⟨q1, q2⟩ := hR0 j hj
    have hbk : w1.heap[w.heap.size + 1]? = wa.heap[w.heap.size + 1]? := (B.block (w.heap.size + 1) (by simp; omega)).trans (Below.heap_alloc wa _ _ (by omega))
    exact ⟨(World.cell?_of_block (a := ⟨w.heap.size + 1, j, none⟩) hbk).trans q1, (World.frozen?_of_block (a := ⟨w.heap.size + 1, j, none⟩) hbk).trans q2⟩
  have hsz1 : w.heap.size + 2 < w1.heap.size := by have := F1.lt; omega
  rw [hws] at F1 ⊢
  clear B hR0 FR hB0 km HSZ hws n1
  go_wp2_with fail
  go_loopw [6] (fun i wx => ∃ (k : Nat) (l : List ByteArray), k ≤ n ∧ Hid (l = List.replicate k Z ++ List.replicate (n - k) ⟨#[]⟩) ∧ SRow wx (w.heap.size + 1) l ∧ Five wx (w.heap.size + 2) (.slice (some ⟨w.heap.size + 1, 0, none⟩) n n) (.slice none 0 0) (.int .i64 0) (.bool false) (.int .i64 0) ∧ Five wx w.heap.size (.slice none 0 0) (.slice none 0 0) (.int .i64 0) (.bool false) (.int .i64 0) ∧ Below w.heap.size w wx ∧ i = .int .i64 (k : Int)) (fun i _ => n - (intOf i).toNat)
  case atStart => exact ⟨0, _, by omega, Lib.hid rfl, hR1, F1, F2, hB1, rfl⟩
  case round =>
    clear F1 F2 hB1 hR1
    obtain ⟨k, l, hk, HL, hR, F1, F2, hB, rfl⟩ := hrel
    have hll : l.length = n := by rw [HL.out]; simp; omega
    by_cases hlt : k < n
    · obtain ⟨x1, x2⟩ := hR k (by omega)
      have G1 := F1.block (heap_set wr (w.heap.size + 1) k (.string Z) (w.heap.size + 2) (by omega))
      have G2 := F2.block (heap_set wr (w.heap.size + 1) k (.string Z) w.heap.size (by omega))
      have hR' := hR.put k Z
      have hB' := hB.setCell (p := ⟨w.heap.size + 1, k, none⟩) (by simp) (.string Z)
      generalize l[k] = old at x1
      have c0 := F1.c0
      clear hll hR hB F2
      go_wp2_with fail
      go_roundw
      case rel => exact ⟨k + 1, l.set k Z, by omega, Lib.hid (by rw [HL.out, fill_strs n k _ _ hlt]), hR', G1, G2, hB', by go_num⟩
      case measure => simp [intOf]; omega
    · obtain rfl : k = n := by omega
      have hl : l = List.replicate k Z := by rw [HL.out]; simp
      subst hl
      have hlen : (List.replicate k Z).length = k := by simp
      have HX : Hid (∀ w' : World, Below w.heap.size w w' → wr.heap.size ≤ w'.heap.size → w'.heap[w.heap.size + 1]? = wr.heap[w.heap.size + 1]? → NewRet (List.replicate k Z) w (.returned (.tuple #[.agg #[.slice (some ⟨w.heap.size + 1, 0, none⟩) k k, .slice none 0 0, .int .i64 0, .bool false, .int .i64 0], .bool true])) w') := Lib.hid (fun w' B hs hb => ⟨w.heap.size + 1, by rw [hlen], by omega, by have := F1.lt; omega, (show StrRow wr (w.heap.size + 1) (List.replicate k Z) from fun j hj => (hR j hj).1).block hb, B⟩)
      clear hlen hll HL hR
      obtain ⟨c0, c1, c2, c3, c4, f0, f1, f2, f3, f4⟩ := F1
      obtain ⟨d0, d1, d2, d3, d4, e0, e1, e2, e3, e4⟩ := F2
      go_wp2_with fail
      refine bodyPost_ret (v := .tuple #[.agg #[.slice (some ⟨w.heap.size + 1, 0, none⟩) k k, .slice none 0 0, .int .i64 0, .bool false, .int .i64 0], .bool true]) (by simp [results, Try.results24, go_sem, d0, d1, d2, d3, d4]) rfl ?_
      refine HX.out _ ?_ ?_ ?_
      · iterate 5 refine Below.setCell ?_ (by simp) _
        exact hB
      · simp
      · iterate 5 refine (heap_set _ _ _ _ _ (by omega)).trans ?_
        rfl
end Go.Proofs.Ytplngodilalbhaa
namespace Go.Proofs.Ytplngodilalbhaa
open Go.RowKit Go.Shelf
section
variable {K : Nat → Prop} {sa wa : Option Addr} {sn wn wc : Nat} {S : List ByteArray} {W : List (Int × ByteArray)}
theorem flat_snoc' (L : List (Int × ByteArray)) (x : Int × ByteArray) : flat (L ++ [x]) = flat L ++ [.int .i64 x.1, .string x.2] := by simp [flat]
/-- How far the loop has come. -/
def UpAt (n0 : Nat) (wA : World) (W : List (Int × ByteArray)) (q : Nat → Bool) (k : Nat) (v : Value) (wx : World) : Prop :=
  wx.ownsRow n0 102 2 v (keptL W q k).length (flat (keptL W q k)) ∧ v ≠ .slice none 0 0 ∧ Below n0 wA wx
set_option maxRecDepth 100000 in
set_option maxHeartbeats 2000000 in
theorem rup_any (sc : Nat) (arm : Int) (dead : Bool) (ops : Int) (w : World) (h : Ref K w sa sn wa wn wc S W) (hK : ∀ k, K k → k < w.heap.size) (hSn : S.length ≤ 1000000) (hWn : W.length ≤ 1000000) (hF : Fits W S.length)
    {ka : Option Addr} {kn kc : Nat} {ks : List Bool} (hB : Bools K w ka kn ks) (S' : List ByteArray) (hS' : appl S W (keptQ ks) W.length = S') (y : Int) (hy : (cntq (keptQ ks) W.length : Int) = y) :
    Calls Try.prog 59 #[.agg #[.slice sa sn sc, .slice wa wn wc, .int .i64 arm, .bool dead, .int .i64 ops], .slice ka kn kc] w (RdRet K S' [] 0 false ops y w) := by
  obtain ⟨b, rfl, hbK, hrow⟩ := h.s
  have e1 := h.sn
  have e2 := h.wn
  subst e1 e2
  have hb := hK b hbK
  have H := Lib.hid h
  have HF := Lib.hid hF
  have HB := Lib.hid hB
  have HS' := Lib.hid hS'
  have HY := Lib.hid hy
  have HR := Lib.hid hrow
  obtain ⟨i0, hi0, hz0, hz1, hz2⟩ := info_parts info102
  clear h hF hB hS' hy hrow
  have F1 := (Five.new w (.slice (some ⟨b, 0, none⟩) S.length sc) (.slice wa W.length wc) (.int .i64 arm) (.bool dead) (.int .i64 ops) 52).alloc (.cells #[.slice none 0 0, .slice none 0 0, .int .i64 0, .bool false, .int .i64 0] 52)
  have F2 := Five.new (w.alloc (.cells #[.slice (some ⟨b, 0, none⟩) S.length sc, .slice wa W.length wc, .int .i64 arm, .bool dead, .int .i64 ops] 52)) (.slice none 0 0) (.slice none 0 0) (.int .i64 0) (.bool false) (.int .i64 0) 52
  have hwb : (w.alloc (.cells #[.slice (some ⟨b, 0, none⟩) S.length sc, .slice wa W.length wc, .int .i64 arm, .bool dead, .int .i64 ops] 52)).heap.size = w.heap.size + 1 := by simp
  rw [hwb] at F2
  have hB0 : Below w.heap.size w ((w.alloc (.cells #[.slice (some ⟨b, 0, none⟩) S.length sc, .slice wa W.length wc, .int .i64 arm, .bool dead, .int .i64 ops] 52)).alloc (.cells #[.slice none 0 0, .slice none 0 0, .int .i64 0, .bool false, .int .i64 0] 52)) := ((Below.refl _ w).alloc (Nat.le_refl _) _).alloc (by simp) _
  have hsz : ((w.alloc (.cells #[.slice (some ⟨b, 0, none⟩) S.length sc, .slice wa W.length wc, .int .i64 arm, .bool dead, .int .i64 ops] 52)).alloc (.cells #[.slice none 0 0, .slice none 0 0, .int .i64 0, .bool false, .int .i64 0] 52)).heap.size = w.heap.size + 2 := by simp
  have M0 := made2 w (.cells #[.slice (some ⟨b, 0, none⟩) S.length sc, .slice wa W.length wc, .int .i64 arm, .bool dead, .int .i64 ops] 52) (.cells #[.slice none 0 0, .slice none 0 0, .int .i64 0, .bool false, .int .i64 0] 52) 102 2
  go_enter Try.func59, Try.ntmps59
  go_wp2_with fail
  generalize (w.alloc (.cells #[.slice (some ⟨b, 0, none⟩) S.length sc, .slice wa W.length wc, .int .i64 arm, .bool dead, .int .i64 ops] 52)).alloc (.cells #[.slice none 0 0, .slice none 0 0, .int .i64 0, .bool false, .int .i64 0] 52) = wA at *
  clear hwb
  go_loopw [6, 7] (fun v i wx => ∃ k : Nat, k ≤ W.length ∧ UpAt (w.heap.size + 2) wA W (keptQ ks) k v wx ∧ i = .int .i64 (k : Int)) (fun _ i _ => W.length - (intOf i).toNat)
  case atStart => exact ⟨0, Nat.zero_le _, ⟨M0, by simp, (Below.refl _ _).alloc (by omega) _⟩, rfl⟩
  case round =>
    clear M0
    obtain ⟨k, hk, ⟨hown, hnil, hBx⟩, rfl⟩ := hrel
    have G1 := F1.below hBx (by omega)
    have G2 := F2.below hBx (by omega)
    have hBw : Below w.heap.size w wr := hB0.trans (hBx.mono (by omega))
    obtain ⟨g, cap, rfl⟩ : ∃ g cap, u6 = .slice (some ⟨g, 0, none⟩) (keptL W (keptQ ks) k).length cap := by
      rcases hown.2 with ⟨rfl, _⟩ | ⟨g, cap, cur, rfl, _⟩
      · exact (hnil rfl).elim
      · exact ⟨g, cap, rfl⟩
    have hkl : (keptL W (keptQ ks) k).length ≤ k := by rw [keptL_length]; exact cntq_le _ _
    by_cases hlt : k < W.length
    · obtain ⟨gw, rfl, hgw, hW⟩ : ∃ gw, wa = some ⟨gw, 0, none⟩ ∧ gw < w.heap.size ∧ WrRow w gw W := by
        rcases H.out.ws with ⟨_, _, h0⟩ | ⟨g, e, hg, hr⟩
        · rw [h0] at hlt; simp at hlt
        · exact ⟨g, e, hK g hg, hr⟩
      obtain ⟨p0, p1⟩ := (hW.block (hBw.block gw hgw)) k hlt
      have HKY := Lib.hid (fun (hq : keptQ ks k = true) => keptL_yes (W := W) hq hlt)
      generalize W[k] = x at p0 p1 HKY
      clear hW
      have hB := HB.out
      cases hq : keptQ ks k with
      | true =>
        have hkn : k < kn := by
          rcases Nat.lt_or_ge k kn with h | h
          · exact h
          · unfold keptQ at hq
            rw [List.getD_eq_getElem?_getD, List.getElem?_eq_none (by rw [hB.1]; exact h)] at hq
            simp at hq
        obtain ⟨bb, off, rfl, hbb, hj⟩ : ∃ bb off, ka = some ⟨bb, off, none⟩ ∧ K bb ∧ ∀ j (hj : j < ks.length), w.cell? ⟨bb, off + j, none⟩ = some (.bool ks[j]) := by
          rcases hB.2 with h0 | h
          · omega
          · exact h
        have hkl2 : k < ks.length := by rw [hB.1]; exact hkn
        have hcell := (hBw.cell (p := ⟨bb, off + k, none⟩) (hK bb hbb)).trans (hj k hkl2)
        have hv : ks[k] = true := by
          unfold keptQ at hq
          rw [List.getD_eq_getElem?_getD, List.getElem?_eq_getElem hkl2] at hq
          exact hq
        rw [hv] at hcell
        have HKS := Lib.hid (HKY.out hq)
        clear hv hq hj hB hkl2 HKY
        have c1 := G1.c1
        have HO := Lib.hid hown
        go_wp2_with (at_builtin; refine wpList_append_own _ rfl _ _ 50 rfl (w.heap.size + 2) 102 i0 (.agg #[.int .i64 0, .string ⟨#[]⟩]) 2 24 Try.underlying50 hi0 hz0 hz1 hz2 rfl (by decide) _ _ _ rfl (HO.out.alloc _) ⟨wr.heap.size, 0, none⟩ 1 1 [.int .i64 x.1, .string x.2] rfl ?d1 ?d2 ?d3 ?d4 ?d5 ?d6 ?_)
        case d1 => rfl
        case d2 =>
          intro j u hj
          match j, hj with
          | 0, hj => simp at hj; subst hj; simp [Addr.add]
          | 1, hj => simp at hj; subst hj; simp [Addr.add]
        case d3 => intro u hu; simp at hu; rcases hu with rfl | rfl <;> rfl
        case d4 => unfold maxLen; omega
        case d5 => omega
        case d6 => have := hBx.size; simp; omega
        intro v2 w5 hown5 hgrow5 hnil5
        have B5 : Below (w.heap.size + 2) wA w5 := (hBx.alloc (by have := hBx.size; omega) _).trans (grownB hgrow5 (fun k hk => (HO.out.lt k hk).1) (by have := hBx.size; simp; omega))
        go_wp2_with fail
        go_roundw
        case rel => exact ⟨k + 1, by omega, ⟨by rw [HKS.out, flat_snoc', List.length_append]; exact hown5, hnil5, B5⟩, by go_num⟩
        case measure => simp [intOf]; omega
      | false =>
        have HKS := Lib.hid (keptL_no (W := W) hq)
        have c1 := G1.c1
        by_cases hkn : k < kn
        · obtain ⟨bb, off, rfl, hbb, hj⟩ : ∃ bb off, ka = some ⟨bb, off, none⟩ ∧ K bb ∧ ∀ j (hj : j < ks.length), w.cell? ⟨bb, off + j, none⟩ = some (.bool ks[j]) := by
            rcases hB.2 with h0 | h
            · omega
            · exact h
          have hkl2 : k < ks.length := by rw [hB.1]; exact hkn
          have hcell := (hBw.cell (p := ⟨bb, off + k, none⟩) (hK bb hbb)).trans (hj k hkl2)
          have hv : ks[k] = false := by
            unfold keptQ at hq
            rw [List.getD_eq_getElem?_getD, List.getElem?_eq_getElem hkl2] at hq
            exact hq
          rw [hv] at hcell
          clear hv hq hj hB hkl2 HKY
          go_wp2_with fail
          go_roundw
          case rel => exact ⟨k + 1, by omega, ⟨by rw [HKS.out]; exact hown, hnil, hBx⟩, by go_num⟩
          case measure => simp [intOf]; omega
        · clear hq hB HKY
          go_wp2_with fail
          go_roundw
          case rel => exact ⟨k + 1, by omega, ⟨by rw [HKS.out]; exact hown, hnil, hBx⟩, by go_num⟩
          case measure => simp [intOf]; omega
    · obtain rfl : k = W.length := by omega
      obtain ⟨q1, q2⟩ := appl_kept (q := keptQ ks) HF.out (Nat.le_refl W.length)
      have hlen := keptL_length W (keptQ ks) W.length
      have hRow := WrRow.of_own hown
      have hrow2 := HR.out.block (hBw.block b hb)
      have hgl := (hown.lt g rfl)
      have HSET := Lib.hid (rsettle_any b sc S wa W.length wc arm dead ops (some ⟨g, 0, none⟩) _ cap (keptL W (keptQ ks) W.length) wr hrow2 hSn ⟨rfl, .inr ⟨g, rfl, hgl.2, hRow⟩⟩ q2 (by omega) S' (q1.trans HS'.out))
      have HL := Lib.hid (show ((keptL W (keptQ ks) W.length).length : Int) = y by rw [hlen]; exact HY.out)
      generalize (keptL W (keptQ ks) W.length).length = yn at HSET HL ⊢
      clear q1 q2 hlen hRow hrow2 hgl hown hkl
      obtain ⟨c0, c1, c2, c3, c4, f0, f1, f2, f3, f4⟩ := G1
      have hsz2 : w.heap.size + 1 < wr.heap.size := G2.lt
      go_wp2_with fail
      refine HSET.out.mono ?_
      rintro e w3 ⟨g3, cap3, rfl, hg1, hg2, hrow3, B3⟩
      have Q1 := (Five.mk c0 c1 c2 c3 c4 f0 f1 f2 f3 f4).below B3 (by omega)
      have Q2 := G2.below B3 hsz2
      have hB3 := below_to hBw B3
      have hgw : w.heap.size ≤ g3 := by omega
      have HX := Lib.hid (fun (w' : World) (B : Below w.heap.size w w') (hs : w3.heap.size ≤ w'.heap.size) (hb : w'.heap[g3]? = w3.heap[g3]?) => rd_set (K := K) (y := y) (sc := cap3) (arm := 0) (dead := false) (ops := ops) hgw hg2 hrow3 rfl B hs hb)
      clear G2 B3 hrow3 HSET c0 c1 c2 c3 c4 f0 f1 f2 f3 f4 hBx F1 F2 hB0
      have X1 := Q1.put (.slice (some ⟨g3, 0, none⟩) S'.length cap3) (.slice none 0 0) (.int .i64 arm) (.bool dead) (.int .i64 ops)
      have X2 := Q2.block (put5_block w3 w.heap.size (.slice (some ⟨g3, 0, none⟩) S'.length cap3) (.slice none 0 0) (.int .i64 arm) (.bool dead) (.int .i64 ops) (w.heap.size + 1) (by omega))
      have XB := put5_below (b := w.heap.size) hB3 (Nat.le_refl _) (.slice (some ⟨g3, 0, none⟩) S'.length cap3) (.slice none 0 0) (.int .i64 arm) (.bool dead) (.int .i64 ops)
      have XG := put5_block w3 w.heap.size (.slice (some ⟨g3, 0, none⟩) S'.length cap3) (.slice none 0 0) (.int .i64 arm) (.bool dead) (.int .i64 ops) g3 (by omega)
      have XS := put5_size w3 w.heap.size (.slice (some ⟨g3, 0, none⟩) S'.length cap3) (.slice none 0 0) (.int .i64 arm) (.bool dead) (.int .i64 ops)
      obtain ⟨c0, c1, c2, c3, c4, f0, f1, f2, f3, f4⟩ := Q1
      have HXG := Lib.hid XG
      have HXS := Lib.hid XS
      clear XG XS
      go_upto_region 8 with (fail)
      unfold put5 at X1 X2 XB HXG HXS
      generalize ((((w3.setCell ⟨w.heap.size, 0, none⟩ (.slice (some ⟨g3, 0, none⟩) S'.length cap3)).setCell ⟨w.heap.size, 1, none⟩ (.slice none 0 0)).setCell ⟨w.heap.size, 2, none⟩ (.int .i64 arm)).setCell ⟨w.heap.size, 3, none⟩ (.bool dead)).setCell ⟨w.heap.size, 4, none⟩ (.int .i64 ops) = w4 at X1 X2 XB HXG HXS ⊢
      clear c0 c1 c2 c3 c4 f0 f1 f2 f3 f4 Q2 hB3
      obtain ⟨c0, c1, c2, c3, c4, f0, f1, f2, f3, f4⟩ := X1
      obtain ⟨d0, d1, d2, d3, d4, e0, e1, e2, e3, e4⟩ := X2
      go_wp2_with fail
      refine bodyPost_ret (v := .tuple #[.agg #[.slice (some ⟨g3, 0, none⟩) S'.length cap3, .slice none 0 0, .int .i64 0, .bool false, .int .i64 ops], .int .i64 (yn : Int)]) (by simp [results, Try.results59, go_sem, d0, d1, d2, d3, d4]) rfl ?_
      rw [HL.out]
      refine HX.out _ ?_ ?_ ?_
      · iterate 7 refine Below.setCell ?_ (by simp) _
        exact XB
      · simp [HXS.out]
      · iterate 7 refine (heap_set _ _ _ _ _ (by omega)).trans ?_
        exact HXG.out
end
end Go.Proofs.Ytplngodilalbhaa
