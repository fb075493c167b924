/- The contract of tally.Total. -/
import Derived.Test.YtmhfbgcfagfmbaaT8
namespace Go.Proofs.Ytmhfbgcfagfmbaa
open Go.RowKit

/-- A slice of counts with the elements cs. -/
def Cnts (w : World) (a : Option Addr) (len : Nat) (cs : List (Int × Int)) : Prop :=
  cs.length = len ∧ (len = 0 ∨ ∃ b off, a = some ⟨b, off, none⟩ ∧ ∀ j, j < len → w.cell? ⟨b, off + j * 2, none⟩ = some (.int .i64 (cs.getD j (0, 0)).1) ∧ w.cell? ⟨b, off + j * 2 + 1, none⟩ = some (.int .i64 (cs.getD j (0, 0)).2))

def okC (c : Int × Int) : Bool := okB c.1 c.2
def totF (cs : List (Int × Int)) : (Int × Int) × Int :=
  if cs.all okC then resF (min (cs.map (·.1)).sum 1125899906842625) (min (cs.map (·.2)).sum 1125899906842625) else ((0, 0), 18)

/-- The state at the head of Total's loop: the cells of the result and of the sum. -/
structure TotAt (w : World) (cs : List (Int × Int)) (k : Nat) (s0 s1 : Int) (wx : World) : Prop where
  below : Below w.heap.size w wx
  size : w.heap.size + 2 ≤ wx.heap.size
  r0 : wx.cell? ⟨w.heap.size, 0, none⟩ = some (.int .i64 0)
  r1 : wx.cell? ⟨w.heap.size, 1, none⟩ = some (.int .i64 0)
  c0 : wx.cell? ⟨w.heap.size + 1, 0, none⟩ = some (.int .i64 s0)
  c1 : wx.cell? ⟨w.heap.size + 1, 1, none⟩ = some (.int .i64 s1)
  f0 : ∀ o, wx.frozen? ⟨w.heap.size, o, none⟩ = false
  f1 : ∀ o, wx.frozen? ⟨w.heap.size + 1, o, none⟩ = false
  sum0 : SumIs ((cs.take k).map (·.1)) s0
  sum1 : SumIs ((cs.take k).map (·.2)) s1

theorem take_snoc_c (cs : List (Int × Int)) (k : Nat) (h : k < cs.length) : cs.take (k + 1) = cs.take k ++ [cs.getD k (0, 0)] := by
  rw [List.take_succ_eq_append_getElem h]; simp [h]

theorem SumIs.add {l : List Int} {s x : Int} (h : SumIs l s) (hi : inRB x = true) : SumIs (l ++ [x]) (min (s + x) 1125899906842625) := by
  have h0 := sum_nonneg _ h.1
  have h1 := h.2
  have h2 := (inRB_true.1 hi).1
  refine ⟨by simp [h.1]; simpa using hi, ?_⟩
  rw [List.sum_append]
  simp only [List.sum_cons, List.sum_nil]
  omega

theorem totF_bad {cs : List (Int × Int)} {k : Nat} {x y : Int} (hk : k < cs.length) (hx : cs.getD k (0, 0) = (x, y)) (hi : okB x y = false) : totF cs = ((0, 0), 18) := by
  have : cs.all okC = false := by
    rw [List.all_eq_false]
    refine ⟨(x, y), ?_, by unfold okC; rw [hi]; simp⟩
    rw [← hx, show cs.getD k (0, 0) = cs[k] by simp [hk]]; exact List.getElem_mem hk
  simp [totF, this]

theorem all_okC {cs : List (Int × Int)} (h0 : (cs.map (·.1)).all inRB = true) (h1 : (cs.map (·.2)).all inRB = true) : cs.all okC = true := by
  simp only [List.all_map, List.all_eq_true, Function.comp] at h0 h1 ⊢
  intro c hc
  simp [okC, okB, h0 c hc, h1 c hc]

theorem totF_end {w wx : World} {cs : List (Int × Int)} {k : Nat} {s0 s1 : Int} (h : TotAt w cs k s0 s1 wx) (hk : cs.length ≤ k) : totF cs = resF s0 s1 := by
  have h0 := h.sum0
  have h1 := h.sum1
  rw [List.take_of_length_le hk] at h0 h1
  unfold totF
  rw [if_pos (all_okC h0.1 h1.1), h0.2, h1.2]

theorem TotAt.later {w : World} {cs : List (Int × Int)} {k : Nat} {s0 s1 : Int} {wr w2 : World} (h : TotAt w cs k s0 s1 wr) (hb : Below wr.heap.size wr w2) : TotAt w cs k s0 s1 w2 := by
  have hs := h.size
  refine ⟨h.below.trans (hb.mono h.below.size), Nat.le_trans hs hb.size, ?_, ?_, ?_, ?_, ?_, ?_, h.sum0, h.sum1⟩
  · rw [hb.cell (by simp; omega)]; exact h.r0
  · rw [hb.cell (by simp; omega)]; exact h.r1
  · rw [hb.cell (by simp; omega)]; exact h.c0
  · rw [hb.cell (by simp; omega)]; exact h.c1
  · intro o; rw [hb.frozen (by simp; omega)]; exact h.f0 o
  · intro o; rw [hb.frozen (by simp; omega)]; exact h.f1 o

theorem TotAt.stored {w : World} {cs : List (Int × Int)} {k : Nat} {s0 s1 t0 t1 : Int} {wr : World} (h : TotAt w cs k s0 s1 wr) (h0 : SumIs ((cs.take (k + 1)).map (·.1)) t0) (h1 : SumIs ((cs.take (k + 1)).map (·.2)) t1) :
    TotAt w cs (k + 1) t0 t1 ((wr.setCell ⟨w.heap.size + 1, 0, none⟩ (.int .i64 t0)).setCell ⟨w.heap.size + 1, 1, none⟩ (.int .i64 t1)) := by
  have hs := h.size
  refine ⟨(h.below.setCell (by simp) _).setCell (by simp) _, by simpa using hs, ?_, ?_, ?_, ?_, ?_, ?_, h0, h1⟩
  · simp [go_sem, h.r0]
  · simp [go_sem, h.r1]
  · simp [go_sem, h.c0]
  · simp [go_sem, h.c1]
  · simp [go_sem, h.f0]
  · simp [go_sem, h.f1]

set_option maxHeartbeats 1000000 in
theorem total_any (a : Option Addr) (len cap : Nat) (cs : List (Int × Int)) (w : World) (hm : len ≤ 9223372036854775807) (hz : Cnts w a len cs) :
    Calls Try.prog 23 #[.slice a len cap] w fun e w' => e = three (totF cs) ∧ Below w.heap.size w w' := by
  obtain ⟨hlen, hz⟩ := hz
  have HL := Lib.hid hlen
  clear hlen
  go_enter Try.func23, Try.ntmps23
  go_wp2
  go_loopw [10] (fun i wx => ∃ (k : Nat) (s0 s1 : Int), k ≤ len ∧ TotAt w cs k s0 s1 wx ∧ i = .int .i64 k) (fun i _ => len - (intOf i).toNat)
  case atStart =>
    refine ⟨0, 0, 0, by omega, ⟨((Below.refl _ _).alloc (Nat.le_refl _) _).alloc (by simp) _, by simp, ?_, ?_, ?_, ?_, ?_, ?_, ⟨by simp, by simp only [List.take_zero, List.map_nil, List.sum_nil]; omega⟩, ⟨by simp, by simp only [List.take_zero, List.map_nil, List.sum_nil]; omega⟩⟩, rfl⟩
    all_goals simp [go_sem]
  case round =>
    obtain ⟨k, s0, s1, hk, hT, rfl⟩ := hrel
    have hs := hT.size
    have r0 := hT.r0
    have r1 := hT.r1
    have c0 := hT.c0
    have c1 := hT.c1
    have f0 := hT.f0
    have f1 := hT.f1
    by_cases hlt : k < len
    · rcases hz with hz | ⟨b, off, ha, hc⟩
      · omega
      · subst ha
        obtain ⟨hx, hy⟩ := hc k hlt
        clear hc
        have hbl : b < w.heap.size := World.block_lt_of_cell? w _ hx
        have gx := (hT.below.cell (p := ⟨b, off + k * 2, none⟩) hbl).trans hx
        have gy := (hT.below.cell (p := ⟨b, off + k * 2 + 1, none⟩) hbl).trans hy
        clear hx hy
        generalize hC : cs.getD k (0, 0) = c at gx gy
        have HC := Lib.hid hC
        clear hC
        obtain ⟨x, y⟩ := c
        dsimp only at gx gy
        by_cases hok : okB x y = true
        · have he := errOf_true hok
          go_wp2_with fail
          refine (check_any x y _).mono ?_
          rintro e w2 ⟨rfl, B⟩
          rw [he]
          have hT2 := hT.later (below1.trans (B.mono (by simp)))
          have nx : w2.cell? ⟨wr.heap.size, 0, none⟩ = some (.int .i64 x) := by rw [B.cell (by simp)]; simp [go_sem]
          have ny : w2.cell? ⟨wr.heap.size, 1, none⟩ = some (.int .i64 y) := by rw [B.cell (by simp)]; simp [go_sem]
          clear r0 r1 c0 c1 f0 f1 gx gy he
          have c0 := hT2.c0
          have c1 := hT2.c1
          have f1 := hT2.f1
          obtain ⟨hx0, hy0⟩ : inRB x = true ∧ inRB y = true := by simpa [okB] using hok
          have dx := inRB_true.1 hx0
          have dy := inRB_true.1 hy0
          have d0 := hT2.sum0.bd
          have d1 := hT2.sum1.bd
          have HS := hT2.stored (by rw [take_snoc_c cs k (by rw [HL.out]; exact hlt), List.map_append, HC.out]; exact hT2.sum0.add hx0) (by rw [take_snoc_c cs k (by rw [HL.out]; exact hlt), List.map_append, HC.out]; exact hT2.sum1.add hy0)
          go_wp2_with fail
          refine (joined_any s0 x _ d0.1 d0.2 dx.1 dx.2).mono ?_
          rintro e w3 ⟨rfl, rfl⟩
          go_wp2_with fail
          refine (joined_any s1 y _ d1.1 d1.2 dy.1 dy.2).mono ?_
          rintro e w3 ⟨rfl, rfl⟩
          go_wp2
          go_roundw
          case rel => exact ⟨k + 1, _, _, by omega, HS, by go_num⟩
          case measure => simp [intOf]; omega
        · rw [Bool.not_eq_true] at hok
          have he := errOf_false hok
          go_wp2_with fail
          refine (check_any x y _).mono ?_
          rintro e w2 ⟨rfl, B⟩
          rw [he]
          have hT2 := hT.later (below1.trans (B.mono (by simp)))
          clear r0 r1 c0 c1 f0 f1 gx gy he
          have r0 := hT2.r0
          have r1 := hT2.r1
          have f0 := hT2.f0
          go_wp2
          exact bodyPost_ret (v := .tuple #[.agg #[.int .i64 0, .int .i64 0], .int .i64 18]) (by simp [results, Try.results23, go_sem, r0, r1]) rfl ⟨three_of (totF_bad (by rw [HL.out]; exact hlt) HC.out hok), (hT2.below.setCell (by simp) _).setCell (by simp) _⟩
    · have HE := Lib.hid (totF_end hT (by rw [HL.out]; omega))
      go_wp2_with fail
      refine (result_any s0 s1 _).mono ?_
      rintro e w2 ⟨rfl, B⟩
      have hT2 := hT.later B
      clear r0 r1 c0 c1 f0 f1
      have r0 := hT2.r0
      have r1 := hT2.r1
      have f0 := hT2.f0
      obtain ⟨⟨⟨p, q⟩, r⟩, hR⟩ : ∃ R, R = resF s0 s1 := ⟨_, rfl⟩
      have HE2 := Lib.hid (HE.out.trans hR.symm)
      rw [← hR]
      clear hR
      unfold three
      dsimp only
      go_wp2
      exact bodyPost_ret (v := .tuple #[.agg #[.int .i64 p, .int .i64 q], .int .i64 r]) (by simp [results, Try.results23, go_sem, r0, r1]) rfl ⟨three_of HE2.out, (hT2.below.setCell (by simp) _).setCell (by simp) _⟩
end Go.Proofs.Ytmhfbgcfagfmbaa
