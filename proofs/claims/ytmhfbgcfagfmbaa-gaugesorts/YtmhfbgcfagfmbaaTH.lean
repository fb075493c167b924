/- The contract of the reference of Total. -/
import Derived.Test.YtmhfbgcfagfmbaaTG
import Derived.Test.YtmhfbgcfagfmbaaTD
import Derived.Deep.RegionHeld3
namespace Go.Proofs.Ytmhfbgcfagfmbaa
open Go.RowKit

theorem cell_keep' {W W' : World} (hb : Below W.heap.size W W') {p : Addr} {v : Value} (h : W.cell? p = some v) : W'.cell? p = some v :=
  (hb.cell (World.block_lt_of_cell? W _ h)).trans h
theorem keep4 {W W' : World} (hb : Below W.heap.size W W') {p0 p1 p2 p3 : Addr} {v0 v1 v2 v3 : Value} (h : W.cell? p0 = some v0 ∧ W.cell? p1 = some v1 ∧ W.cell? p2 = some v2 ∧ W.cell? p3 = some v3) :
    W'.cell? p0 = some v0 ∧ W'.cell? p1 = some v1 ∧ W'.cell? p2 = some v2 ∧ W'.cell? p3 = some v3 :=
  ⟨cell_keep' hb h.1, cell_keep' hb h.2.1, cell_keep' hb h.2.2.1, cell_keep' hb h.2.2.2⟩

theorem cell_set2 {W : World} {n : Nat} {u0 u1 : Value} {p : Addr} {v : Value} (hn : p.block ≠ n) (h : W.cell? p = some v) : ((W.setCell ⟨n, 0, none⟩ u0).setCell ⟨n, 1, none⟩ u1).cell? p = some v := by
  rw [World.cell?_setCell_far _ _ _ _ (Ne.symm hn), World.cell?_setCell_far _ _ _ _ (Ne.symm hn)]; exact h
theorem keep4set {W : World} {n : Nat} {u0 u1 : Value} {p0 p1 p2 p3 : Addr} {v0 v1 v2 v3 : Value} (h0 : p0.block ≠ n) (h1 : p1.block ≠ n) (h2 : p2.block ≠ n) (h3 : p3.block ≠ n) (h : W.cell? p0 = some v0 ∧ W.cell? p1 = some v1 ∧ W.cell? p2 = some v2 ∧ W.cell? p3 = some v3) :
    ((W.setCell ⟨n, 0, none⟩ u0).setCell ⟨n, 1, none⟩ u1).cell? p0 = some v0 ∧ ((W.setCell ⟨n, 0, none⟩ u0).setCell ⟨n, 1, none⟩ u1).cell? p1 = some v1 ∧ ((W.setCell ⟨n, 0, none⟩ u0).setCell ⟨n, 1, none⟩ u1).cell? p2 = some v2 ∧ ((W.setCell ⟨n, 0, none⟩ u0).setCell ⟨n, 1, none⟩ u1).cell? p3 = some v3 :=
  ⟨cell_set2 h0 h.1, cell_set2 h1 h.2.1, cell_set2 h2 h.2.2.1, cell_set2 h3 h.2.2.2⟩

set_option maxHeartbeats 4000000 in
theorem rtotal_any (a : Option Addr) (len cap : Nat) (cs : List (Int × Int)) (w : World) (hm : len ≤ 9223372036854775807) (hz : Cnts w a len cs) :
    Calls Try.prog 24 #[.slice a len cap] w fun e w' => e = three (totF cs) ∧ Below w.heap.size w w' := by
  obtain ⟨hlen, hz⟩ := hz
  have HL := Lib.hid hlen
  clear hlen
  go_enter Try.func24, Try.ntmps24
  go_wp2
  go_loopw [4] (fun i wx => ∃ k : Nat, k ≤ len ∧ AllOk (cs.take k) ∧ RT w wx ∧ i = .int .i64 k) (fun i _ => len - (intOf i).toNat)
  case atStart => exact ⟨0, by omega, by simp [AllOk], ⟨below1, by simp [go_sem], by simp [go_sem], fun o => by simp [go_sem]⟩, rfl⟩
  case round =>
    obtain ⟨k, hk, hA, hR, rfl⟩ := hrel
    by_cases hlt : k < len
    · rcases hz with hz | ⟨b, off, ha, hc⟩
      · omega
      · subst ha
        obtain ⟨hx, hy⟩ := hc k hlt
        clear hc
        have hbl : b < w.heap.size := World.block_lt_of_cell? w _ hx
        have gx := (hR.below.cell (p := ⟨b, off + k * 2, none⟩) hbl).trans hx
        have gy := (hR.below.cell (p := ⟨b, off + k * 2 + 1, none⟩) hbl).trans hy
        clear hx hy
        generalize hC : cs.getD k (0, 0) = c at gx gy
        have HC := Lib.hid hC
        clear hC
        obtain ⟨x, y⟩ := c
        dsimp only at gx gy
        by_cases hok : okB x y = true
        · go_wp2_with fail
          refine (rright_any x y _).mono ?_
          rintro e w2 ⟨rfl, B⟩
          rw [hok]
          go_wp2
          go_roundw
          case rel => exact ⟨k + 1, by omega, hA.snoc (by rw [HL.out]; exact hlt) HC.out hok, hR.later B, by go_num⟩
          case measure => simp [intOf]; omega
        · rw [Bool.not_eq_true] at hok
          go_wp2_with fail
          refine (rright_any x y _).mono ?_
          rintro e w2 ⟨rfl, B⟩
          rw [hok]
          have hR2 := hR.later B
          have r0 := hR2.r0
          have r1 := hR2.r1
          have f0 := hR2.f0
          go_wp2
          exact bodyPost_ret (v := .tuple #[.agg #[.int .i64 0, .int .i64 0], .int .i64 18]) (by simp [results, Try.results24, go_sem, r0, r1]) rfl ⟨three_of (totF_bad (by rw [HL.out]; exact hlt) HC.out hok), (hR2.below.setCell (by simp) _).setCell (by simp) _⟩
    · have hS := CSum.start hA (by rw [HL.out]; omega)
      clear hA
      obtain ⟨v0, hv0⟩ : ∃ v, v = wr := ⟨_, rfl⟩
      subst hv0
      go_wp2
      go_loopw [6] (fun i wx => ∃ (j : Nat) (s0 s1 : Int), j ≤ len ∧ CSum cs j s0 s1 ∧ CT w v0.heap.size s0 s1 wx ∧ i = .int .i64 j) (fun i _ => len - (intOf i).toNat)
      case atStart =>
        exact ⟨0, 0, 0, by omega, hS, ⟨hR.later below1, by simp [go_sem], by simp [go_sem], fun o => by simp [go_sem], hR.lt⟩, rfl⟩
      case round =>
        obtain ⟨j, s0, s1, hj, hS, hT, rfl⟩ := hrel
        by_cases hjt : j < len
        · rcases hz with hz | ⟨b, off, ha, hc⟩
          · omega
          · subst ha
            obtain ⟨hx, hy⟩ := hc j hjt
            clear hc
            have hbl : b < w.heap.size := World.block_lt_of_cell? w _ hx
            have gx := (hT.rt.below.cell (p := ⟨b, off + j * 2, none⟩) hbl).trans hx
            have gy := (hT.rt.below.cell (p := ⟨b, off + j * 2 + 1, none⟩) hbl).trans hy
            clear hx hy
            generalize hC : cs.getD j (0, 0) = c at gx gy
            have HC := Lib.hid hC
            clear hC
            obtain ⟨x, y⟩ := c
            dsimp only at gx gy
            have hok := okB_getD hS.1 (by rw [HL.out]; exact hjt) HC.out
            have c0 := hT.c0
            have c1 := hT.c1
            have l0 : (0 : Int) ≤ (j : Int) := by omega
            have l1 : (j : Int) < (len : Int) := by omega
            have hn1 : v0.heap.size ≠ wr.heap.size := Nat.ne_of_lt hT.lt
            have hn2 : b ≠ wr.heap.size := by have := hT.rt.below.size; omega
            by_cases ho : 1125899906842624 < s0 + x ∨ 1125899906842624 < s1 + y
            · have HA : Hid (totF [(s0, s1), (x, y)] = ((0, 0), 15)) := Lib.hid (by rw [totF_two hS.ok hok, if_pos ho])
              have HO := Lib.hid ho
              clear ho
              go_wp2_with fail
              go_region_held3 (fun w' => w'.cell? ⟨v0.heap.size, 0, none⟩ = some (.int .i64 s0) ∧ w'.cell? ⟨v0.heap.size, 1, none⟩ = some (.int .i64 s1) ∧ w'.cell? ⟨b, off + j * 2, none⟩ = some (.int .i64 x) ∧ w'.cell? ⟨b, off + j * 2 + 1, none⟩ = some (.int .i64 y))
                (first | exact ⟨c0, c1, gx, gy⟩ | exact keep4 hb (by assumption) | exact keep4 below1 (by assumption) | exact keep4set hn1 hn1 hn2 hn2 (by assumption) | exact keep4 (hb.alloc hb.size _) ⟨c0, c1, gx, gy⟩)
                ((go_at_call 26; refine (rplus_any s0 s1 x y _).mono ?_; rintro e w2 ⟨rfl, hb⟩; rw [HA.out]; unfold three; dsimp only; obtain ⟨hcc, hff⟩ := bcell hb))
              · have hT3 := (hT.later (((Below.refl _ wr).drew).trans hb)).later (below1 (a := .cells #[.int .i64 0, .int .i64 0] 33))
                have H7 := Has.new w2 w2.heap.size 33 0 0 rfl
                generalize w2.alloc (.cells #[.int .i64 0, .int .i64 0] 33) = w3 at hT3 H7 ⊢
                clear hcc hff hb
                generalize w2.heap.size = b7 at H7 ⊢
                clear gx gy c0 c1
                have r0 := hT3.rt.r0
                have r1 := hT3.rt.r1
                have f0 := hT3.rt.f0
                go_wp2
                exact bodyPost_ret (v := .tuple #[.agg #[.int .i64 0, .int .i64 0], .int .i64 15]) (by simp [results, Try.results24, go_sem, r0, r1]) rfl ⟨three_of (totF_ref_over hS (by rw [HL.out]; exact hjt) HC.out HO.out), (hT3.rt.below.setCell (by simp) _).setCell (by simp) _⟩
              · have hT3 := (((hT.later (below1.drew.trans (hb.mono (by simp)))).other (p := ⟨wr.heap.size, 0, none⟩) hT.lt (.int .i64 0)).other (p := ⟨wr.heap.size, 1, none⟩) hT.lt (.int .i64 0))
                have H7 : Has ((w2.setCell ⟨wr.heap.size, 0, none⟩ (.int .i64 0)).setCell ⟨wr.heap.size, 1, none⟩ (.int .i64 0)) wr.heap.size 0 0 := ⟨by simp [go_sem, hcc], by simp [go_sem, hcc]⟩
                generalize (w2.setCell ⟨wr.heap.size, 0, none⟩ (.int .i64 0)).setCell ⟨wr.heap.size, 1, none⟩ (.int .i64 0) = w3 at hT3 H7 ⊢
                clear hcc hff hb hn1 hn2
                generalize wr.heap.size = b7 at H7 ⊢
                clear gx gy c0 c1
                have r0 := hT3.rt.r0
                have r1 := hT3.rt.r1
                have f0 := hT3.rt.f0
                go_wp2
                exact bodyPost_ret (v := .tuple #[.agg #[.int .i64 0, .int .i64 0], .int .i64 15]) (by simp [results, Try.results24, go_sem, r0, r1]) rfl ⟨three_of (totF_ref_over hS (by rw [HL.out]; exact hjt) HC.out HO.out), (hT3.rt.below.setCell (by simp) _).setCell (by simp) _⟩
            · have HA : Hid (totF [(s0, s1), (x, y)] = ((s0 + x, s1 + y), 0)) := Lib.hid (by rw [totF_two hS.ok hok, if_neg ho])
              have HO := Lib.hid ho
              clear ho
              go_wp2_with fail
              go_region_held3 (fun w' => w'.cell? ⟨v0.heap.size, 0, none⟩ = some (.int .i64 s0) ∧ w'.cell? ⟨v0.heap.size, 1, none⟩ = some (.int .i64 s1) ∧ w'.cell? ⟨b, off + j * 2, none⟩ = some (.int .i64 x) ∧ w'.cell? ⟨b, off + j * 2 + 1, none⟩ = some (.int .i64 y))
                (first | exact ⟨c0, c1, gx, gy⟩ | exact keep4 hb (by assumption) | exact keep4 below1 (by assumption) | exact keep4set hn1 hn1 hn2 hn2 (by assumption) | exact keep4 (hb.alloc hb.size _) ⟨c0, c1, gx, gy⟩)
                ((go_at_call 26; refine (rplus_any s0 s1 x y _).mono ?_; rintro e w2 ⟨rfl, hb⟩; rw [HA.out]; unfold three; dsimp only; obtain ⟨hcc, hff⟩ := bcell hb))
              · have hT3 := (hT.later (((Below.refl _ wr).drew).trans hb)).later (below1 (a := .cells #[.int .i64 (s0 + x), .int .i64 (s1 + y)] 33))
                have H7 := Has.new w2 w2.heap.size 33 (s0 + x) (s1 + y) rfl
                generalize w2.alloc (.cells #[.int .i64 (s0 + x), .int .i64 (s1 + y)] 33) = w3 at hT3 H7 ⊢
                clear hcc hff hb
                generalize w2.heap.size = b7 at H7 ⊢
                clear gx gy c0 c1
                have c0 := hT3.c0
                have c1 := hT3.c1
                have f1 := hT3.f1
                have n0 := H7.c0
                have n1 := H7.c1
                go_wp2
                go_roundw
                case rel => exact ⟨j + 1, _, _, by omega, hS.snoc (by rw [HL.out]; exact hjt) HC.out HO.out, hT3.stored _ _, by go_num⟩
                case measure => simp [intOf]; omega
              · have hT3 := (((hT.later (below1.drew.trans (hb.mono (by simp)))).other (p := ⟨wr.heap.size, 0, none⟩) hT.lt (.int .i64 (s0 + x))).other (p := ⟨wr.heap.size, 1, none⟩) hT.lt (.int .i64 (s1 + y)))
                have H7 : Has ((w2.setCell ⟨wr.heap.size, 0, none⟩ (.int .i64 (s0 + x))).setCell ⟨wr.heap.size, 1, none⟩ (.int .i64 (s1 + y))) wr.heap.size (s0 + x) (s1 + y) := ⟨by simp [go_sem, hcc], by simp [go_sem, hcc]⟩
                generalize (w2.setCell ⟨wr.heap.size, 0, none⟩ (.int .i64 (s0 + x))).setCell ⟨wr.heap.size, 1, none⟩ (.int .i64 (s1 + y)) = w3 at hT3 H7 ⊢
                clear hcc hff hb hn1 hn2
                generalize wr.heap.size = b7 at H7 ⊢
                clear gx gy c0 c1
                have c0 := hT3.c0
                have c1 := hT3.c1
                have f1 := hT3.f1
                have n0 := H7.c0
                have n1 := H7.c1
                go_wp2
                go_roundw
                case rel => exact ⟨j + 1, _, _, by omega, hS.snoc (by rw [HL.out]; exact hjt) HC.out HO.out, hT3.stored _ _, by go_num⟩
                case measure => simp [intOf]; omega
        · have HE := Lib.hid (totF_ref_end hS (by rw [HL.out]; omega))
          have r0 := hT.rt.r0
          have r1 := hT.rt.r1
          have f0 := hT.rt.f0
          have c0 := hT.c0
          have c1 := hT.c1
          go_wp2
          exact bodyPost_ret (v := .tuple #[.agg #[.int .i64 s0, .int .i64 s1], .int .i64 0]) (by simp [results, Try.results24, go_sem, r0, r1]) rfl ⟨three_of HE.out, (hT.rt.below.setCell (by simp) _).setCell (by simp) _⟩
end Go.Proofs.Ytmhfbgcfagfmbaa
