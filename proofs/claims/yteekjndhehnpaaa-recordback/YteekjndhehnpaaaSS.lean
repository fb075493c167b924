/- The walk of RecordBack. -/
import Derived.Test.YteekjndhehnpaaaSR
import Derived.Deep.Cut
namespace Go.Proofs.Yteekjndhehnpaaa
open Go.RowKit
set_option maxRecDepth 100000
set_option linter.unusedVariables false
set_option linter.unusedSimpArgs false
set_option maxHeartbeats 20000000
theorem recordBack_walk (a b c d m a1 b1 c1 d1 : Int) (n1 : Nat) (hn1 : n1 < 18446744073709551616) (i : Nat) (hi : i < 18446744073709551616) (q : Bool) (n : Nat) (hn : n < 4294967296) (f z : Int) (s : ByteArray) (w : World) :
    Calls Try.prog 9 #[.agg #[.int .i64 a, .int .i64 b, .int .i64 c, .int .i64 d], .agg #[.int .i64 m, .int .i64 a1, .int .i64 b1, .int .i64 c1, .int .i64 d1, .int .u64 (n1 : Int)], .agg #[.int .u64 (i : Int), .bool q, .int .u32 (n : Int), .int .i64 f, .int .i64 z], .string s] w fun e w' => e = .returned (.bool true) ∧ Below w.heap.size w w' := by
  obtain ⟨X, E1, ta, tb, tc, td, Y1, hX, P1, G1, C1⟩ := tenant_there a b c d
  obtain ⟨X2, E2, um, ua, ub, uc, ud, un, Y2, hX2, P2, G2, C2⟩ := bucket_there m a1 b1 c1 d1 n1 hn1
  obtain ⟨X3, E3, vi, vq, vn, vf, vz, Y3, hX3, P3, G3, C3⟩ := version_there i hi q n hn f z
  replace P1 := Lib.hid P1
  replace P2 := Lib.hid P2
  replace P3 := Lib.hid P3
  replace G1 := Lib.hid G1
  replace G2 := Lib.hid G2
  replace G3 := Lib.hid G3
  replace C1 := Lib.hid C1
  replace C2 := Lib.hid C2
  replace C3 := Lib.hid C3
  have HL := Lib.hid (fun w => rlives_any w)
  have z1 : ¬ (64 : Int) < (X.size : Int) := by omega
  have z2 : ¬ (64 : Int) < (X2.size : Int) := by omega
  have z3 : ¬ (64 : Int) < (X3.size : Int) := by omega
  clear hX hX2 hX3
  have K4 := ((Blk.new w [.int .i64 a, .int .i64 b, .int .i64 c, .int .i64 d] 49).below (below_box _ (.cells #[.int .i64 m, .int .i64 a1, .int .i64 b1, .int .i64 c1, .int .i64 d1, .int .u64 (n1 : Int)] 51))).below (below_box _ (.cells #[.int .u64 (i : Int), .bool q, .int .u32 (n : Int), .int .i64 f, .int .i64 z] 56))
  have K5 := (Blk.new (w.alloc (.cells #[.int .i64 a, .int .i64 b, .int .i64 c, .int .i64 d] 49)) [.int .i64 m, .int .i64 a1, .int .i64 b1, .int .i64 c1, .int .i64 d1, .int .u64 (n1 : Int)] 51).below (below_box _ (.cells #[.int .u64 (i : Int), .bool q, .int .u32 (n : Int), .int .i64 f, .int .i64 z] 56))
  have K6 := Blk.new ((w.alloc (.cells #[.int .i64 a, .int .i64 b, .int .i64 c, .int .i64 d] 49)).alloc (.cells #[.int .i64 m, .int .i64 a1, .int .i64 b1, .int .i64 c1, .int .i64 d1, .int .u64 (n1 : Int)] 51)) [.int .u64 (i : Int), .bool q, .int .u32 (n : Int), .int .i64 f, .int .i64 z] 56
  have BB := below_to (below_to (below_box w (.cells #[.int .i64 a, .int .i64 b, .int .i64 c, .int .i64 d] 49)) (below_box _ (.cells #[.int .i64 m, .int .i64 a1, .int .i64 b1, .int .i64 c1, .int .i64 d1, .int .u64 (n1 : Int)] 51))) (below_box _ (.cells #[.int .u64 (i : Int), .bool q, .int .u32 (n : Int), .int .i64 f, .int .i64 z] 56))
  have y4 : (w.alloc (.cells #[.int .i64 a, .int .i64 b, .int .i64 c, .int .i64 d] 49)).heap.size = w.heap.size + 1 := by simp
  have y5 : ((w.alloc (.cells #[.int .i64 a, .int .i64 b, .int .i64 c, .int .i64 d] 49)).alloc (.cells #[.int .i64 m, .int .i64 a1, .int .i64 b1, .int .i64 c1, .int .i64 d1, .int .u64 (n1 : Int)] 51)).heap.size = w.heap.size + 1 + 1 := by simp
  rw [y4] at K5
  rw [y5] at K6
  clear y4 y5
  go_enter Try.func9, Try.ntmps9
  go_upto_region 1 with (fail)
  generalize ((w.alloc (.cells #[.int .i64 a, .int .i64 b, .int .i64 c, .int .i64 d] 49)).alloc (.cells #[.int .i64 m, .int .i64 a1, .int .i64 b1, .int .i64 c1, .int .i64 d1, .int .u64 (n1 : Int)] 51)).alloc (.cells #[.int .u64 (i : Int), .bool q, .int .u32 (n : Int), .int .i64 f, .int .i64 z] 56) = w0 at K4 K5 K6 BB ⊢
  go_wp2_with fail
  refine (HL.out _).mono ?_
  rintro e w1 ⟨rfl, hb⟩
  replace K4 := K4.below hb
  replace K5 := K5.below hb
  replace K6 := K6.below hb
  replace BB := below_to BB hb
  clear hb
  by_cases hs : 1000 < s.size
  · have hs2 : (1000 : Int) < (s.size : Int) := by omega
    go_wp2_with fail
    go_ret
    exact ⟨rfl, BB⟩
  have hs2 : ¬ (1000 : Int) < (s.size : Int) := by omega
  obtain ⟨pn, pf, pz, Y4, G4, C4⟩ := part_here s (by omega)
  obtain ⟨xi, xq, xn, xf, xz, Y5, G5, C5⟩ := version_here s (by omega)
  obtain ⟨ym, ya, yb, yc, yd, yn, Y6, G6, C6⟩ := bucket_here s (by omega)
  replace G4 := Lib.hid G4
  replace G5 := Lib.hid G5
  replace G6 := Lib.hid G6
  replace C4 := Lib.hid C4
  replace C5 := Lib.hid C5
  replace C6 := Lib.hid C6
  have k0 := K4.cell 0 _ rfl
  have k1 := K4.cell 1 _ rfl
  have k2 := K4.cell 2 _ rfl
  have k3 := K4.cell 3 _ rfl
  go_wp2_with fail
  refine (P1.out _).mono ?_
  rintro e w2 ⟨rfl, hb⟩
  replace K4 := K4.below hb
  replace K5 := K5.below hb
  replace K6 := K6.below hb
  replace BB := below_to BB hb
  clear hb
  clear k0 k1 k2 k3
  have k0 := K5.cell 0 _ rfl
  have k1 := K5.cell 1 _ rfl
  have k2 := K5.cell 2 _ rfl
  have k3 := K5.cell 3 _ rfl
  have k4 := K5.cell 4 _ rfl
  have k5 := K5.cell 5 _ rfl
  go_wp2_with fail
  refine (P2.out _).mono ?_
  rintro e w3 ⟨rfl, hb⟩
  replace K4 := K4.below hb
  replace K5 := K5.below hb
  replace K6 := K6.below hb
  replace BB := below_to BB hb
  clear hb
  clear k0 k1 k2 k3 k4 k5
  have k0 := K6.cell 0 _ rfl
  have k1 := K6.cell 1 _ rfl
  have k2 := K6.cell 2 _ rfl
  have k3 := K6.cell 3 _ rfl
  have k4 := K6.cell 4 _ rfl
  go_wp2_with fail
  refine (P3.out _).mono ?_
  rintro e w4 ⟨rfl, hb⟩
  replace K4 := K4.below hb
  replace K5 := K5.below hb
  replace K6 := K6.below hb
  replace BB := below_to BB hb
  clear hb
  clear k0 k1 k2 k3 k4
  go_wp2_with fail
  refine (G1.out _).mono ?_
  rintro e w5 ⟨rfl, hb⟩
  replace K4 := K4.below hb
  replace K5 := K5.below hb
  replace K6 := K6.below hb
  replace BB := below_to BB hb
  clear hb
  go_upto_region 9 with (fail)
  have K15 := Blk.new w5 [.int .i64 ta, .int .i64 tb, .int .i64 tc, .int .i64 td] 60
  replace K4 := K4.below (below_box w5 (.cells #[.int .i64 ta, .int .i64 tb, .int .i64 tc, .int .i64 td] 60))
  replace K5 := K5.below (below_box w5 (.cells #[.int .i64 ta, .int .i64 tb, .int .i64 tc, .int .i64 td] 60))
  replace K6 := K6.below (below_box w5 (.cells #[.int .i64 ta, .int .i64 tb, .int .i64 tc, .int .i64 td] 60))
  replace BB := below_to BB (below_box w5 (.cells #[.int .i64 ta, .int .i64 tb, .int .i64 tc, .int .i64 td] 60))
  generalize w5.alloc (.cells #[.int .i64 ta, .int .i64 tb, .int .i64 tc, .int .i64 td] 60) = w5a at K15 K4 K5 K6 BB ⊢
  generalize w5.heap.size = g15 at K15 ⊢
  go_wp2_with fail
  refine (G2.out _).mono ?_
  rintro e w6 ⟨rfl, hb⟩
  replace K4 := K4.below hb
  replace K5 := K5.below hb
  replace K6 := K6.below hb
  replace K15 := K15.below hb
  replace BB := below_to BB hb
  clear hb
  go_upto_region 10 with (fail)
  have K17 := Blk.new w6 [.int .i64 um, .int .i64 ua, .int .i64 ub, .int .i64 uc, .int .i64 ud, .int .u64 (un : Int)] 51
  replace K4 := K4.below (below_box w6 (.cells #[.int .i64 um, .int .i64 ua, .int .i64 ub, .int .i64 uc, .int .i64 ud, .int .u64 (un : Int)] 51))
  replace K5 := K5.below (below_box w6 (.cells #[.int .i64 um, .int .i64 ua, .int .i64 ub, .int .i64 uc, .int .i64 ud, .int .u64 (un : Int)] 51))
  replace K6 := K6.below (below_box w6 (.cells #[.int .i64 um, .int .i64 ua, .int .i64 ub, .int .i64 uc, .int .i64 ud, .int .u64 (un : Int)] 51))
  replace K15 := K15.below (below_box w6 (.cells #[.int .i64 um, .int .i64 ua, .int .i64 ub, .int .i64 uc, .int .i64 ud, .int .u64 (un : Int)] 51))
  replace BB := below_to BB (below_box w6 (.cells #[.int .i64 um, .int .i64 ua, .int .i64 ub, .int .i64 uc, .int .i64 ud, .int .u64 (un : Int)] 51))
  generalize w6.alloc (.cells #[.int .i64 um, .int .i64 ua, .int .i64 ub, .int .i64 uc, .int .i64 ud, .int .u64 (un : Int)] 51) = w6a at K17 K4 K5 K6 K15 BB ⊢
  generalize w6.heap.size = g17 at K17 ⊢
  go_wp2_with fail
  refine (G3.out _).mono ?_
  rintro e w7 ⟨rfl, hb⟩
  replace K4 := K4.below hb
  replace K5 := K5.below hb
  replace K6 := K6.below hb
  replace K15 := K15.below hb
  replace K17 := K17.below hb
  replace BB := below_to BB hb
  clear hb
  go_upto_region 11 with (fail)
  have K19 := Blk.new w7 [.int .u64 (vi : Int), .bool vq, .int .u32 (vn : Int), .int .i64 vf, .int .i64 vz] 56
  replace K4 := K4.below (below_box w7 (.cells #[.int .u64 (vi : Int), .bool vq, .int .u32 (vn : Int), .int .i64 vf, .int .i64 vz] 56))
  replace K5 := K5.below (below_box w7 (.cells #[.int .u64 (vi : Int), .bool vq, .int .u32 (vn : Int), .int .i64 vf, .int .i64 vz] 56))
  replace K6 := K6.below (below_box w7 (.cells #[.int .u64 (vi : Int), .bool vq, .int .u32 (vn : Int), .int .i64 vf, .int .i64 vz] 56))
  replace K15 := K15.below (below_box w7 (.cells #[.int .u64 (vi : Int), .bool vq, .int .u32 (vn : Int), .int .i64 vf, .int .i64 vz] 56))
  replace K17 := K17.below (below_box w7 (.cells #[.int .u64 (vi : Int), .bool vq, .int .u32 (vn : Int), .int .i64 vf, .int .i64 vz] 56))
  replace BB := below_to BB (below_box w7 (.cells #[.int .u64 (vi : Int), .bool vq, .int .u32 (vn : Int), .int .i64 vf, .int .i64 vz] 56))
  generalize w7.alloc (.cells #[.int .u64 (vi : Int), .bool vq, .int .u32 (vn : Int), .int .i64 vf, .int .i64 vz] 56) = w7a at K19 K4 K5 K6 K15 K17 BB ⊢
  generalize w7.heap.size = g19 at K19 ⊢
  clear P1 P2 P3 G1 G2 G3
  go_cut [132] from 9 (fun s132 wx => s132 = .bool false ∧ Below w.heap.size w wx)
  case first =>
    have q1 := fun w => neq47s a b w
    have q2 := fun w => neq47s c d w
    have q3 := fun w => neq51s m a1 b1 c1 d1 n1 w
    have q4 := fun w => neq56s i q n f z w
    rcases C1.out with ⟨rfl, rfl, rfl, rfl, rfl, rfl⟩ | rfl <;> rcases C2.out with ⟨rfl, rfl, rfl, rfl, rfl, rfl, rfl, rfl⟩ | rfl <;> rcases C3.out with ⟨rfl, rfl, rfl, rfl, rfl, rfl, rfl⟩ | rfl
    all_goals
      clear C1 C2 C3
      have k0 := K4.cell 0 _ rfl
      have k1 := K4.cell 1 _ rfl
      have k2 := K4.cell 2 _ rfl
      have k3 := K4.cell 3 _ rfl
      have l0 := K5.cell 0 _ rfl
      have l1 := K5.cell 1 _ rfl
      have l2 := K5.cell 2 _ rfl
      have l3 := K5.cell 3 _ rfl
      have l4 := K5.cell 4 _ rfl
      have l5 := K5.cell 5 _ rfl
      have m_0 := K6.cell 0 _ rfl
      have m_1 := K6.cell 1 _ rfl
      have m_2 := K6.cell 2 _ rfl
      have m_3 := K6.cell 3 _ rfl
      have m_4 := K6.cell 4 _ rfl
      have o0 := K15.cell 0 _ rfl
      have o1 := K15.cell 1 _ rfl
      have o2 := K15.cell 2 _ rfl
      have o3 := K15.cell 3 _ rfl
      have p0 := K17.cell 0 _ rfl
      have p1 := K17.cell 1 _ rfl
      have p2 := K17.cell 2 _ rfl
      have p3 := K17.cell 3 _ rfl
      have p4 := K17.cell 4 _ rfl
      have p5 := K17.cell 5 _ rfl
      have r0 := K19.cell 0 _ rfl
      have r1 := K19.cell 1 _ rfl
      have r2 := K19.cell 2 _ rfl
      have r3 := K19.cell 3 _ rfl
      have r4 := K19.cell 4 _ rfl
      go_wp2_with fail
      go_meet
      exact ⟨by rw [show decide ((64 : Int) < (X.size : Int)) = false from decide_eq_false (by omega), show decide ((64 : Int) < (X2.size : Int)) = false from decide_eq_false (by omega), show decide ((64 : Int) < (X3.size : Int)) = false from decide_eq_false (by omega)]; rfl, BB⟩
  case rest =>
    clear C1 C2 C3 K4 K5 K6 K15 K17 K19 BB
    obtain ⟨rfl, BB⟩ := hcut
    go_wp2_with fail
    refine (G4.out _).mono ?_
    rintro e va ⟨rfl, hb⟩
    replace BB := below_to BB hb
    clear hb
    go_upto_region 14 with (fail)
    have K := Blk.new va [.int .u32 (pn : Int), .int .i64 pf, .int .i64 pz] 69
    replace BB := below_to BB (below_box va (.cells #[.int .u32 (pn : Int), .int .i64 pf, .int .i64 pz] 69))
    generalize va.alloc (.cells #[.int .u32 (pn : Int), .int .i64 pf, .int .i64 pz] 69) = vab at K BB ⊢
    generalize va.heap.size = g0 at K ⊢
    rcases C4.out with rfl | ⟨rfl, hP⟩
    · clear K
      go_wp2_with fail
      refine (G5.out _).mono ?_
      rintro e vaa ⟨rfl, hb⟩
      replace BB := below_to BB hb
      clear hb
      go_upto_region 19 with (fail)
      have K := Blk.new vaa [.int .u64 (xi : Int), .bool xq, .int .u32 (xn : Int), .int .i64 xf, .int .i64 xz] 56
      replace BB := below_to BB (below_box vaa (.cells #[.int .u64 (xi : Int), .bool xq, .int .u32 (xn : Int), .int .i64 xf, .int .i64 xz] 56))
      generalize vaa.alloc (.cells #[.int .u64 (xi : Int), .bool xq, .int .u32 (xn : Int), .int .i64 xf, .int .i64 xz] 56) = vaab at K BB ⊢
      generalize vaa.heap.size = g1 at K ⊢
      rcases C5.out with rfl | ⟨rfl, hP⟩
      · clear K
        go_wp2_with fail
        refine (G6.out _).mono ?_
        rintro e vaaa ⟨rfl, hb⟩
        replace BB := below_to BB hb
        clear hb
        go_upto_region 24 with (fail)
        have K := Blk.new vaaa [.int .i64 ym, .int .i64 ya, .int .i64 yb, .int .i64 yc, .int .i64 yd, .int .u64 (yn : Int)] 51
        replace BB := below_to BB (below_box vaaa (.cells #[.int .i64 ym, .int .i64 ya, .int .i64 yb, .int .i64 yc, .int .i64 yd, .int .u64 (yn : Int)] 51))
        generalize vaaa.alloc (.cells #[.int .i64 ym, .int .i64 ya, .int .i64 yb, .int .i64 yc, .int .i64 yd, .int .u64 (yn : Int)] 51) = vaaab at K BB ⊢
        generalize vaaa.heap.size = g2 at K ⊢
        rcases C6.out with rfl | ⟨rfl, hP⟩
        · clear K
          go_wp2_with fail
          go_ret
          exact ⟨rfl, BB⟩
        · replace hP := Lib.hid hP
          have k0 := K.cell 0 _ rfl
          have k1 := K.cell 1 _ rfl
          have k2 := K.cell 2 _ rfl
          have k3 := K.cell 3 _ rfl
          have k4 := K.cell 4 _ rfl
          have k5 := K.cell 5 _ rfl
          go_wp2_with fail
          refine (hP.out _).mono ?_
          rintro e vaaac ⟨rfl, hb⟩
          replace BB := below_to BB hb
          clear hb K hP k0 k1 k2 k3 k4 k5
          go_wp2_with fail
          go_ret
          exact ⟨rfl, BB⟩
      · replace hP := Lib.hid hP
        have k0 := K.cell 0 _ rfl
        have k1 := K.cell 1 _ rfl
        have k2 := K.cell 2 _ rfl
        have k3 := K.cell 3 _ rfl
        have k4 := K.cell 4 _ rfl
        go_wp2_with fail
        refine (hP.out _).mono ?_
        rintro e vaac ⟨rfl, hb⟩
        replace BB := below_to BB hb
        clear hb K hP k0 k1 k2 k3 k4
        go_wp2_with fail
        refine (G6.out _).mono ?_
        rintro e vaaca ⟨rfl, hb⟩
        replace BB := below_to BB hb
        clear hb
        go_upto_region 24 with (fail)
        have K := Blk.new vaaca [.int .i64 ym, .int .i64 ya, .int .i64 yb, .int .i64 yc, .int .i64 yd, .int .u64 (yn : Int)] 51
        replace BB := below_to BB (below_box vaaca (.cells #[.int .i64 ym, .int .i64 ya, .int .i64 yb, .int .i64 yc, .int .i64 yd, .int .u64 (yn : Int)] 51))
        generalize vaaca.alloc (.cells #[.int .i64 ym, .int .i64 ya, .int .i64 yb, .int .i64 yc, .int .i64 yd, .int .u64 (yn : Int)] 51) = vaacab at K BB ⊢
        generalize vaaca.heap.size = g2 at K ⊢
        rcases C6.out with rfl | ⟨rfl, hP⟩
        · clear K
          go_wp2_with fail
          go_ret
          exact ⟨rfl, BB⟩
        · replace hP := Lib.hid hP
          have k0 := K.cell 0 _ rfl
          have k1 := K.cell 1 _ rfl
          have k2 := K.cell 2 _ rfl
          have k3 := K.cell 3 _ rfl
          have k4 := K.cell 4 _ rfl
          have k5 := K.cell 5 _ rfl
          go_wp2_with fail
          refine (hP.out _).mono ?_
          rintro e vaacac ⟨rfl, hb⟩
          replace BB := below_to BB hb
          clear hb K hP k0 k1 k2 k3 k4 k5
          go_wp2_with fail
          go_ret
          exact ⟨rfl, BB⟩
    · replace hP := Lib.hid hP
      have k0 := K.cell 0 _ rfl
      have k1 := K.cell 1 _ rfl
      have k2 := K.cell 2 _ rfl
      go_wp2_with fail
      refine (hP.out _).mono ?_
      rintro e vac ⟨rfl, hb⟩
      replace BB := below_to BB hb
      clear hb K hP k0 k1 k2
      go_wp2_with fail
      refine (G5.out _).mono ?_
      rintro e vaca ⟨rfl, hb⟩
      replace BB := below_to BB hb
      clear hb
      go_upto_region 19 with (fail)
      have K := Blk.new vaca [.int .u64 (xi : Int), .bool xq, .int .u32 (xn : Int), .int .i64 xf, .int .i64 xz] 56
      replace BB := below_to BB (below_box vaca (.cells #[.int .u64 (xi : Int), .bool xq, .int .u32 (xn : Int), .int .i64 xf, .int .i64 xz] 56))
      generalize vaca.alloc (.cells #[.int .u64 (xi : Int), .bool xq, .int .u32 (xn : Int), .int .i64 xf, .int .i64 xz] 56) = vacab at K BB ⊢
      generalize vaca.heap.size = g1 at K ⊢
      rcases C5.out with rfl | ⟨rfl, hP⟩
      · clear K
        go_wp2_with fail
        refine (G6.out _).mono ?_
        rintro e vacaa ⟨rfl, hb⟩
        replace BB := below_to BB hb
        clear hb
        go_upto_region 24 with (fail)
        have K := Blk.new vacaa [.int .i64 ym, .int .i64 ya, .int .i64 yb, .int .i64 yc, .int .i64 yd, .int .u64 (yn : Int)] 51
        replace BB := below_to BB (below_box vacaa (.cells #[.int .i64 ym, .int .i64 ya, .int .i64 yb, .int .i64 yc, .int .i64 yd, .int .u64 (yn : Int)] 51))
        generalize vacaa.alloc (.cells #[.int .i64 ym, .int .i64 ya, .int .i64 yb, .int .i64 yc, .int .i64 yd, .int .u64 (yn : Int)] 51) = vacaab at K BB ⊢
        generalize vacaa.heap.size = g2 at K ⊢
        rcases C6.out with rfl | ⟨rfl, hP⟩
        · clear K
          go_wp2_with fail
          go_ret
          exact ⟨rfl, BB⟩
        · replace hP := Lib.hid hP
          have k0 := K.cell 0 _ rfl
          have k1 := K.cell 1 _ rfl
          have k2 := K.cell 2 _ rfl
          have k3 := K.cell 3 _ rfl
          have k4 := K.cell 4 _ rfl
          have k5 := K.cell 5 _ rfl
          go_wp2_with fail
          refine (hP.out _).mono ?_
          rintro e vacaac ⟨rfl, hb⟩
          replace BB := below_to BB hb
          clear hb K hP k0 k1 k2 k3 k4 k5
          go_wp2_with fail
          go_ret
          exact ⟨rfl, BB⟩
      · replace hP := Lib.hid hP
        have k0 := K.cell 0 _ rfl
        have k1 := K.cell 1 _ rfl
        have k2 := K.cell 2 _ rfl
        have k3 := K.cell 3 _ rfl
        have k4 := K.cell 4 _ rfl
        go_wp2_with fail
        refine (hP.out _).mono ?_
        rintro e vacac ⟨rfl, hb⟩
        replace BB := below_to BB hb
        clear hb K hP k0 k1 k2 k3 k4
        go_wp2_with fail
        refine (G6.out _).mono ?_
        rintro e vacaca ⟨rfl, hb⟩
        replace BB := below_to BB hb
        clear hb
        go_upto_region 24 with (fail)
        have K := Blk.new vacaca [.int .i64 ym, .int .i64 ya, .int .i64 yb, .int .i64 yc, .int .i64 yd, .int .u64 (yn : Int)] 51
        replace BB := below_to BB (below_box vacaca (.cells #[.int .i64 ym, .int .i64 ya, .int .i64 yb, .int .i64 yc, .int .i64 yd, .int .u64 (yn : Int)] 51))
        generalize vacaca.alloc (.cells #[.int .i64 ym, .int .i64 ya, .int .i64 yb, .int .i64 yc, .int .i64 yd, .int .u64 (yn : Int)] 51) = vacacab at K BB ⊢
        generalize vacaca.heap.size = g2 at K ⊢
        rcases C6.out with rfl | ⟨rfl, hP⟩
        · clear K
          go_wp2_with fail
          go_ret
          exact ⟨rfl, BB⟩
        · replace hP := Lib.hid hP
          have k0 := K.cell 0 _ rfl
          have k1 := K.cell 1 _ rfl
          have k2 := K.cell 2 _ rfl
          have k3 := K.cell 3 _ rfl
          have k4 := K.cell 4 _ rfl
          have k5 := K.cell 5 _ rfl
          go_wp2_with fail
          refine (hP.out _).mono ?_
          rintro e vacacac ⟨rfl, hb⟩
          replace BB := below_to BB hb
          clear hb K hP k0 k1 k2 k3 k4 k5
          go_wp2_with fail
          go_ret
          exact ⟨rfl, BB⟩
end Go.Proofs.Yteekjndhehnpaaa
