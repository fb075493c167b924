/- DiskPlays, walked. -/
import Derived.Test.YtplngodilalbhaaP8
namespace Go.Proofs.Ytplngodilalbhaa
open Go.RowKit Go.Shelf
set_option linter.unusedVariables false
theorem St.below {K : Nat → Prop} {w w1 : World} {n c d : Nat} {sa wa : Option Addr} {sn wn wc : Nat} {arm : Int} {dead : Bool} {ops : Int} {S : List ByteArray} {P : List (Int × ByteArray)} (h : St K w n c d sa sn wa wn wc arm dead ops S P) (B : Below w.heap.size w w1) : St K w1 n c d sa sn wa wn wc arm dead ops S P := by
  obtain ⟨sb, pv, fuse, hD, hR, h1⟩ := h
  exact ⟨sb, pv, fuse, hD.below B, hR.keep (fun k hk => B.block k (hD.lt k hk)), h1⟩
/-- The variable that holds the reference's disk is written anew. -/
theorem Ref.box {K : Nat → Prop} {w : World} {bx : Nat} {sa wa : Option Addr} {sn wn wc : Nat} {S : List ByteArray} {P : List (Int × ByteArray)} (h : Ref K w sa sn wa wn wc S P) {a : Option Addr} {m q : Nat} (hc : w.cell? ⟨bx, 0, none⟩ = some (.slice a m q)) (hS : 1 ≤ S.length) (u0 u1 u2 u3 u4 : Value) : Ref K (put5 w bx u0 u1 u2 u3 u4) sa sn wa wn wc S P := by
  obtain ⟨b, e, hb, hr⟩ := h.s
  have hne : b ≠ bx := by
    rintro rfl
    have := hr 0 (by omega)
    rw [hc] at this
    cases this
  refine ⟨h.sn, ⟨b, e, hb, hr.block (put5_block _ _ _ _ _ _ _ _ hne)⟩, h.wn, ?_⟩
  rcases h.ws with h0 | ⟨g, e, hg, hr⟩
  · exact .inl h0
  · refine .inr ⟨g, e, hg, ?_⟩
    by_cases hP : P = []
    · subst hP; exact fun j hj => by simp at hj
    · have hl : 0 < P.length := List.length_pos_iff.2 hP
      have hne : g ≠ bx := by
        rintro rfl
        have := (hr 0 hl).1
        rw [Nat.zero_mul, hc] at this
        cases this
      exact hr.block (put5_block _ _ _ _ _ _ _ _ hne)
theorem four_below {w w1 : World} {b : Nat} {v0 v1 v3 v4 : Value} (B : Below w.heap.size w w1) (h : w.cell? ⟨b, 0, none⟩ = some v0 ∧ w.cell? ⟨b, 1, none⟩ = some v1 ∧ w.cell? ⟨b, 3, none⟩ = some v3 ∧ w.cell? ⟨b, 4, none⟩ = some v4) : w1.cell? ⟨b, 0, none⟩ = some v0 ∧ w1.cell? ⟨b, 1, none⟩ = some v1 ∧ w1.cell? ⟨b, 3, none⟩ = some v3 ∧ w1.cell? ⟨b, 4, none⟩ = some v4 := by
  have hb := World.block_lt_of_cell? w _ h.1
  exact ⟨(B.cell (p := ⟨b, 0, none⟩) hb).trans h.1, (B.cell (p := ⟨b, 1, none⟩) hb).trans h.2.1, (B.cell (p := ⟨b, 3, none⟩) hb).trans h.2.2.1, (B.cell (p := ⟨b, 4, none⟩) hb).trans h.2.2.2⟩
set_option maxRecDepth 100000 in
set_option maxHeartbeats 2000000 in
theorem plays_far (n : Int) (a1 : Option Addr) (n1 c1 : Nat) (at' : Int) (w : World) (h : n < 1 ∨ 60 < n ∨ 60 < n1) :
    Calls Try.prog 6 #[.int .i64 n, .slice a1 n1 c1, .int .i64 at'] w fun e w' => e = .returned (.bool true) ∧ Below w.heap.size w w' := by
  by_cases hfar : (60 < n ∧ n ≤ 4865) ∨ 60 < n1
  · have hc : (60 < n ∧ n ≤ 4865) ∨ (n ≤ 60 ∧ 60 < n1) ∨ (60 < n ∧ 4865 < n ∧ 60 < n1) := by omega
    clear h hfar
    rcases hc with ⟨h1, h2⟩ | ⟨h1, h2⟩ | ⟨h1, h2, h3⟩
    all_goals
      go_enter Try.func6, Try.ntmps6
      go_wp2_with fail
      refine (lives7 _).mono ?_
      rintro e w1 ⟨rfl, B⟩
      go_wp2_with fail
      go_ret
      exact ⟨rfl, B⟩
  · have hbad : n < 1 ∨ 4865 < n := by omega
    have hn1 : n1 ≤ 60 := by omega
    have hc : (n ≤ 60) ∨ (60 < n ∧ 4865 < n) := by omega
    have HB := Lib.hid hbad
    clear h hfar hbad
    rcases hc with h1 | ⟨h1, h2⟩
    all_goals
      go_enter Try.func6, Try.ntmps6
      go_wp2_with fail
      refine (lives7 _).mono ?_
      rintro e w1 ⟨rfl, B⟩
      go_wp2_with fail
      refine (new_bad n _ HB.out).mono ?_
      rintro e w2 ⟨rfl, rfl⟩
      go_wp2_with fail
      refine (rnew_bad n _ HB.out).mono ?_
      rintro e w3 ⟨rfl, B3⟩
      go_wp2_with fail
      go_ret
      exact ⟨rfl, (below_to B B3).alloc (below_to B B3).size _⟩
/-- How far the loop has come. -/
def PlAt (w : World) (n bx : Nat) (k : Nat) (dv : Value) (wx : World) : Prop :=
  ∃ (K : Nat → Prop) (d : Nat) (sa : Option Addr) (sn sc : Nat) (wa : Option Addr) (wn wc : Nat) (arm : Int) (dead : Bool) (ops : Int) (S : List ByteArray) (P : List (Int × ByteArray)),
    dv = .pointer (some ⟨d, 0, none⟩) ∧ St K wx n k d sa sn wa wn wc arm dead ops S P ∧ (∀ k, k < w.heap.size → K k) ∧ K bx ∧ Five wx bx (.slice sa sn sc) (.slice wa wn wc) (.int .i64 arm) (.bool dead) (.int .i64 ops) ∧ Keep (fun k => k < w.heap.size) w wx
set_option maxRecDepth 100000 in
set_option maxHeartbeats 4000000 in
theorem plays_main (n : Nat) (a1 : Option Addr) (n1 c1 : Nat) (l1 : List ActR) (at' : Int) (w : World) (hn1 : 1 ≤ n) (hn2 : n ≤ 60) (hl : n1 ≤ 60) (hA1 : Acts (fun k => k < w.heap.size) w a1 n1 l1) :
    Calls Try.prog 6 #[.int .i64 (n : Int), .slice a1 n1 c1, .int .i64 at'] w fun e w' => e = .returned (.bool true) ∧ Below w.heap.size w w' := by
  have HA1 := Lib.hid hA1
  clear hA1
  go_enter Try.func6, Try.ntmps6
  go_wp2_with fail
  refine (lives7 _).mono ?_
  rintro e w1 ⟨rfl, B⟩
  go_wp2_with fail
  refine (new_ok (K := fun k => k < w.heap.size) n _ hn1 (by omega) _ rfl (fun k hk => by have := B.size; omega)).mono ?_
  rintro e w2 ⟨d, sb, rfl, hD, B2⟩
  replace B := below_to B B2
  clear B2
  go_wp2_with fail
  refine (rnew_ok n _ hn1 (by omega) z512 rfl).mono ?_
  rintro e w3 ⟨g, rfl, hg1, hg2, hrow, B3⟩
  have hlr : (List.replicate n z512).length = n := List.length_replicate
  rw [hlr]
  have hVB := B3.alloc B3.size (.cells #[.slice (some ⟨g, 0, none⟩) n n, .slice none 0 0, .int .i64 0, .bool false, .int .i64 0] 52)
  have hD4 : Disk (fun k => k < w.heap.size ∨ w2.heap.size ≤ k ∧ k < (w3.alloc (.cells #[.slice (some ⟨g, 0, none⟩) n n, .slice none 0 0, .int .i64 0, .bool false, .int .i64 0] 52)).heap.size) _ d sb _ _ _ _ _ _ := hD.fence hVB
  have hbx : w2.heap.size ≤ w3.heap.size := B3.size
  have hwx : w.heap.size ≤ w3.heap.size := by have := B.size; omega
  have hV := Five.new w3 (.slice (some ⟨g, 0, none⟩) n n) (.slice none 0 0) (.int .i64 0) (.bool false) (.int .i64 0) 52
  have hrow4 := hrow.block (Below.heap_alloc w3 (.cells #[.slice (some ⟨g, 0, none⟩) n n, .slice none 0 0, .int .i64 0, .bool false, .int .i64 0] 52) g hg2)
  have hBw := (below_to B B3).alloc (below_to B B3).size (.cells #[.slice (some ⟨g, 0, none⟩) n n, .slice none 0 0, .int .i64 0, .bool false, .int .i64 0] 52)
  have hPL : PlAt w n w3.heap.size 0 (.pointer (some ⟨d, 0, none⟩)) (w3.alloc (.cells #[.slice (some ⟨g, 0, none⟩) n n, .slice none 0 0, .int .i64 0, .bool false, .int .i64 0] 52)) :=
    ⟨_, d, _, n, n, _, 0, 0, 0, false, 0, _, [], rfl, ⟨sb, _, 0, hD4, ⟨hlr.symm, ⟨g, rfl, .inr ⟨hg1, by simp; omega⟩, hrow4⟩, rfl, .inl ⟨rfl, rfl, rfl⟩⟩, hlr, fun j hj => by simp at hj, by simp, .inr rfl, by omega, by omega, by omega, by omega⟩, fun k hk => .inl hk, .inr ⟨hbx, by simp⟩, hV, ⟨hBw.os, hBw.tape, hBw.output, hBw.size, fun k hk => hBw.block k hk⟩⟩
  clear hBw hrow4 hV hD4 hVB hrow hlr hD B3 B hg1 hg2
  go_wp2_with fail
  generalize w3.alloc (.cells #[.slice (some ⟨g, 0, none⟩) n n, .slice none 0 0, .int .i64 0, .bool false, .int .i64 0] 52) = w4 at *
  obtain ⟨bx, hbx2⟩ : ∃ bx, w3.heap.size = bx := ⟨_, rfl⟩
  rw [hbx2] at hPL hwx ⊢
  clear hbx hbx2
  go_loopw [7, 59] (fun dv i wx => ∃ k : Nat, k ≤ n1 ∧ PlAt w n bx k dv wx ∧ i = .int .i64 (k : Int)) (fun _ i _ => n1 - (intOf i).toNat)
  case atStart => exact ⟨0, Nat.zero_le _, hPL, rfl⟩
  case round =>
    clear hPL
    obtain ⟨k, hk, ⟨K, d, sa, sn, sc, wa, wn, wc, arm, dead, ops, S, P, rfl, hSt, hK0, hKb, hV, hKw⟩, rfl⟩ := hrel
    by_cases hlt : k < n1
    · have hA := (HA1.out.keep hKw).wider hK0
      obtain ⟨b, off, rfl, hbK, hj⟩ : ∃ b off, a1 = some ⟨b, off, none⟩ ∧ K b ∧ ∀ j (hj : j < l1.length), ActAt K wr b (off + j * 5) l1[j] := by
        rcases hA.2 with h0 | h
        · omega
        · exact h
      have hkl : k < l1.length := by rw [hA.1]; exact hlt
      have hR := hj k hkl
      generalize l1[k] = r at hR
      clear hj hA hkl
      obtain ⟨q0, q1, q2, q3, q4, hB, hN⟩ := hR
      have hKl : ∀ k, K k → k < wr.heap.size := by obtain ⟨_, _, _, hD, _⟩ := hSt; exact hD.lt
      have hBz := (Below.refl wr.heap.size wr).alloc (Nat.le_refl _) (.cells #[.int .i64 r.kind, .int .i64 r.n, .int .u8 (r.byte.toNat : Int), .bool r.short, .slice r.ka r.kn r.kc] 57)
      have hKz : Keep K wr (wr.alloc (.cells #[.int .i64 r.kind, .int .i64 r.n, .int .u8 (r.byte.toNat : Int), .bool r.short, .slice r.ka r.kn r.kc] 57)) := (Keep.refl wr).below hKl hBz
      have HONE := Lib.hid (one_any sc r _ (hSt.below hBz) (fun k hk => Nat.lt_of_lt_of_le (hKl k hk) hBz.size) hn1 hn2 (by omega) hN (hB.keep hKz))
      have hVz := hV.alloc (.cells #[.int .i64 r.kind, .int .i64 r.n, .int .u8 (r.byte.toNat : Int), .bool r.short, .slice r.ka r.kn r.kc] 57)
      obtain ⟨c0, c1', c2, c3, c4, f0, f1, f2, f3, f4⟩ := hVz
      clear hSt hB hBz
      go_wp2_with fail
      refine HONE.out.mono ?_
      rintro e w5 ⟨L, d, sa, sn, sc, wa, wn, wc, arm, dead, ops, S, P, rfl, hSt, hKL, hKo⟩
      have hV5 := (hV.alloc (.cells #[.int .i64 r.kind, .int .i64 r.n, .int .u8 (r.byte.toNat : Int), .bool r.short, .slice r.ka r.kn r.kc] 57)).block (hKo.block bx hKb)
      obtain ⟨sb, pv, fuse, hD, hR, hn, hF, hP, hrest⟩ := hSt
      have hD6 := hD.put5K (hKL bx hKb) (.slice sa sn sc) (.slice wa wn wc) (.int .i64 arm) (.bool dead) (.int .i64 ops)
      have hR6 := hR.box hV5.c0 (by omega) (.slice sa sn sc) (.slice wa wn wc) (.int .i64 arm) (.bool dead) (.int .i64 ops)
      have hV6 := hV5.put (.slice sa sn sc) (.slice wa wn wc) (.int .i64 arm) (.bool dead) (.int .i64 ops)
      have hbw : ¬ bx < w.heap.size := by omega
      have hK6 := put5_keep (r := bx) (hKw.trans ((hKz.trans hKo).mono hK0)) hbw (.slice sa sn sc) (.slice wa wn wc) (.int .i64 arm) (.bool dead) (.int .i64 ops)
      clear hD hR c0 c1' c2 c3 c4 f0 f1 f2 f3 f4 hV HONE hKz q0 q1 q2 q3 q4
      obtain ⟨c0, c1', c2, c3, c4, f0, f1, f2, f3, f4⟩ := hV5
      go_upto_region 16 with (fail)
      unfold put5 at hD6 hR6 hV6 hK6
      generalize ((((w5.setCell ⟨bx, 0, none⟩ (.slice sa sn sc)).setCell ⟨bx, 1, none⟩ (.slice wa wn wc)).setCell ⟨bx, 2, none⟩ (.int .i64 arm)).setCell ⟨bx, 3, none⟩ (.bool dead)).setCell ⟨bx, 4, none⟩ (.int .i64 ops) = w6 at hD6 hR6 hV6 hK6 ⊢
      clear c0 c1' c2 c3 c4 f0 f1 f2 f3 f4 hKo hKw
      have hV6' := hV6
      obtain ⟨c0, c1', c2, c3, c4, f0, f1, f2, f3, f4⟩ := hV6
      obtain ⟨t, y, hrd⟩ : ∃ t y, rdF S P dead at' = (t, y) := ⟨_, _, rfl⟩
      have HRD := Lib.hid hrd
      have HN := Lib.hid hn
      have HR := Lib.hid (rread_any (dead := dead) (arm := arm) (ops := ops) sc hR6 (by omega) at' t y hrd)
      clear hrd hn
      go_wp2_with fail
      refine HR.out.mono ?_
      rintro e w7 ⟨rfl, B7⟩
      have hD7 := hD6.below B7
      have HR2 := Lib.hid (read_any hD7 (by omega) at' t y HRD.out)
      clear HR c0 c1' c2 c3 c4 f0 f1 f2 f3 f4
      go_wp2_with fail
      refine HR2.out.mono ?_
      rintro e w8 ⟨rfl, B8⟩
      have hB8 : Below w6.heap.size w6 w8 := below_to B7 B8
      have hD8 := (hD7.below B8).below ((Below.refl w8.heap.size w8).drew)
      have hB9 : Below w6.heap.size w6 w8.drew := hB8.trans ((Below.refl w8.heap.size w8).drew.mono hB8.size)
      have hR8 := hR6.keep (fun k hk => hB9.block k (hD6.lt k hk))
      have hV8 := hV6'.below hB9 hV6'.lt
      clear HR2 hD7 B7 B8 HRD
      obtain ⟨b0, rfl, hb0, hrow0⟩ := hR8.s
      have e1 := hR8.sn
      have e2 := hR8.wn
      subst e1 e2
      have hb0l : b0 < w8.drew.heap.size := hD8.lt b0 hb0
      have HROW := Lib.hid hrow0
      obtain ⟨c0, c1', c2, c3, c4, f0, f1, f2, f3, f4⟩ := hV8
      clear hrow0 hR8 f0 f1 f2 f3 f4 c2
      go_upto_region 18 with (fail)
      go_region_held3 (fun w' => w'.cell? ⟨bx, 0, none⟩ = some (.slice (some ⟨b0, 0, none⟩) S.length sc) ∧ w'.cell? ⟨bx, 1, none⟩ = some (.slice wa P.length wc) ∧ w'.cell? ⟨bx, 3, none⟩ = some (.bool dead) ∧ w'.cell? ⟨bx, 4, none⟩ = some (.int .i64 ops))
        (first | with_reducible exact ⟨c0, c1', c3, c4⟩ | with_reducible assumption | with_reducible exact four_below hb (by assumption) | with_reducible exact four_below hb5 (by assumption))
        (first | (go_at_call 28; refine (down_any hD8).mono ?_; rintro e w' ⟨rfl, rfl⟩) | (go_at_call 29; refine (pending_any hD8).mono ?_; rintro e w' ⟨rfl, rfl⟩) | (go_at_call 30; refine (ops_any hD8).mono ?_; rintro e w' ⟨rfl, rfl⟩) | (go_at_call 32; refine (safe_any hD8 (by rw [HN.out]; omega)).mono ?_; rintro e wq ⟨g4, cap4, rfl, hg1, hg2, hown4, hb⟩) | (go_at_call 31; refine (same_any g4 b0 _ cap4 sc S rfl _ (StrRow.of_own hown4) (HROW.out.block (hb.block b0 hb0l)) (by rw [HN.out]; omega)).mono ?_; rintro e wq2 ⟨rfl, hb5⟩) | (go_at_call 33; refine (len_lit ((hD8.below hb).below hb5) (n : Int) (by rw [HN.out])).mono ?_; rintro e w' ⟨rfl, rfl⟩))
      have hBq : Below w6.heap.size w6 wq2 := below_to (below_to hB9 hb) hb5
      have hDq := hD6.below hBq
      have hRq := hR6.keep (fun k hk => hBq.block k (hD6.lt k hk))
      have hVq := hV6'.below hBq hV6'.lt
      have hKq := hK6.below (fun k hk => hk) (hBq.mono (Nat.le_refl _))
      clear hD8 hb hb5 hown4 HROW hBq hB9 hB8 hR6 hD6 hV6' hK6 c0 c1' c3 c4
      go_wp2_with fail
      go_roundw
      case rel => exact ⟨k + 1, by omega, ⟨L, d, _, _, sc, _, _, _, _, _, _, S, P, rfl, ⟨sb, pv, fuse, hDq, hRq, HN.out, hF, hP, hrest⟩, fun k hk => hKL k (hK0 k hk), hKL bx hKb, hVq, hKq⟩, by go_num⟩
      case measure => simp [intOf]; omega
    · obtain ⟨_, _, _, hD, _⟩ := hSt
      clear hD
      go_wp2_with fail
      go_ret
      exact ⟨rfl, hKw.toBelow⟩
theorem diskPlays_walk {w : World} (n : Int) (_ : (Lit.int .i64 n).wf = true) (a1 : Option Addr) (n1 c1 : Nat) (l1 : List ActR) (_ : n1 ≤ maxLen) (hA1 : Acts (fun k => k < w.heap.size) w a1 n1 l1) (at' : Int) (_ : (Lit.int .i64 at').wf = true) :
    Calls Try.prog 6 #[.int .i64 n, .slice a1 n1 c1, .int .i64 at'] w fun e w' => e = .returned (.bool true) ∧ Below w.heap.size w w' := by
  by_cases h : n < 1 ∨ 60 < n ∨ 60 < n1
  · exact plays_far n a1 n1 c1 at' w h
  · obtain ⟨m, rfl⟩ : ∃ m : Nat, n = m := ⟨n.toNat, by omega⟩
    exact plays_main m a1 n1 c1 l1 at' w (by omega) (by omega) (by omega) hA1
end Go.Proofs.Ytplngodilalbhaa
