/- The contract of the reference's Blend. -/
import Derived.Test.YtmhfbgcfagfmbaaFD
namespace Go.Proofs.Ytmhfbgcfagfmbaa
open Go.RowKit

theorem kind6 {x : Nat} (hx : Fit x) : (kindF x == 6) = nanB x := by
  by_cases h : NaN x
  · rw [kindF_nan hx h]; unfold nanB; rw [decide_eq_true h]; rfl
  · unfold nanB; rw [decide_eq_false h]
    rcases kind_cases hx with h1 | h1 | h1 | h1 | h1 | h1 | h1
    case inr.inr.inr.inl => exact absurd h1.1 h
    all_goals (simp; omega)
theorem nanB_true {x : Nat} (h : NaN x) : nanB x = true := by unfold nanB; simpa using h
theorem nanB_false {x : Nat} (h : ¬ NaN x) : nanB x = false := by unfold nanB; simpa using h

set_option maxHeartbeats 1000000 in
theorem rblend_any (o n : Nat) (k : Int) (ho : Fit o) (hn : Fit n) (w : World) : Calls Try.prog 44 #[.float .f64 o, .float .f64 n, .int .i64 k] w (FRet (BlIs o n k) w) := by
  have k1 := kind6 ho
  have k2 := kind6 hn
  by_cases h1 : NaN o
  · rw [nanB_true h1] at k1
    have HP : Hid (BlIs o n k n) := Lib.hid (by unfold BlIs; rw [if_pos h1])
    clear h1 k2
    go_enter Try.func44, Try.ntmps44
    go_wp2_with fail
    refine (rkind_any o ho _).mono ?_
    rintro e w1 ⟨rfl, B1⟩
    go_wp2
    go_ret
    exact ⟨n, HP.out, hn, rfl, B1⟩
  · rw [nanB_false h1] at k1
    by_cases h2 : NaN n
    · rw [nanB_true h2] at k2
      have HP : Hid (BlIs o n k o) := Lib.hid (by unfold BlIs; rw [if_neg h1, if_pos h2])
      clear h1 h2
      go_enter Try.func44, Try.ntmps44
      go_wp2_with fail
      refine (rkind_any o ho _).mono ?_
      rintro e w1 ⟨rfl, B1⟩
      go_wp2_with fail
      refine (rkind_any n hn _).mono ?_
      rintro e w2 ⟨rfl, B2⟩
      go_wp2
      go_ret
      exact ⟨o, HP.out, ho, rfl, B1.trans (B2.mono B1.size)⟩
    · rw [nanB_false h2] at k2
      have HN := Lib.hid (And.intro h1 h2)
      clear h1 h2
      by_cases hk : k < 1
      · skip
        have em : max k 1 = 1 := by omega
        have EM := Lib.hid em
        clear em
        go_enter Try.func44, Try.ntmps44
        go_wp2_with fail
        refine (rkind_any o ho _).mono ?_
        rintro e w1 ⟨rfl, B1⟩
        go_wp2_with fail
        refine (rkind_any n hn _).mono ?_
        rintro e w2 ⟨rfl, b2⟩
        have B2 := B1.trans (b2.mono B1.size)
        clear b2 B1
        obtain ⟨d, w3, q1, fd, a1⟩ := run_arith .sub (.inr (.inl rfl)) 45 n o w2
        obtain ⟨q, w4, q2, fq, a2⟩ := run_arith .quo (.inr (.inr (.inr rfl))) 45 d (floatOfInt .f64 1) w3
        obtain ⟨s, w5, q3, fs, a3⟩ := run_arith .add (.inl rfl) 45 o q w4
        obtain ⟨r1, b1⟩ := toAR a1
        obtain ⟨r2, b2⟩ := toAR a2
        obtain ⟨r3, b3⟩ := toAR a3
        have C1 := B2.trans (b1.mono B2.size)
        have C2 := C1.trans (b2.mono C1.size)
        have C3 := C2.trans (b3.mono C2.size)
        have HB : ∀ b, b = (if NaN s then n else s) → BlIs o n k b := fun b hb => by unfold BlIs; rw [if_neg HN.out.1, if_neg HN.out.2, EM.out]; exact ⟨d, q, s, fd, fq, fs, r1, r2, r3, hb⟩
        have HP := Lib.hid HB
        clear HB a1 a2 a3 r1 r2 r3 b1 b2 b3 B2 C1 C2
        have k3 := kind6 fs
        by_cases hs : NaN s
        · rw [nanB_true hs] at k3
          have HS := Lib.hid hs
          clear hs
          go_wp2_with fail
          refine (rkind_any s fs _).mono ?_
          rintro e w6 ⟨rfl, b6⟩
          go_wp2
          go_ret
          exact ⟨n, HP.out _ (by rw [if_pos HS.out]), hn, rfl, C3.trans (b6.mono C3.size)⟩
        · rw [nanB_false hs] at k3
          have HS := Lib.hid hs
          clear hs
          go_wp2_with fail
          refine (rkind_any s fs _).mono ?_
          rintro e w6 ⟨rfl, b6⟩
          go_wp2
          go_ret
          exact ⟨s, HP.out _ (by rw [if_neg HS.out]), fs, rfl, C3.trans (b6.mono C3.size)⟩
      · skip
        have em : max k 1 = k := by omega
        have EM := Lib.hid em
        clear em
        go_enter Try.func44, Try.ntmps44
        go_wp2_with fail
        refine (rkind_any o ho _).mono ?_
        rintro e w1 ⟨rfl, B1⟩
        go_wp2_with fail
        refine (rkind_any n hn _).mono ?_
        rintro e w2 ⟨rfl, b2⟩
        have B2 := B1.trans (b2.mono B1.size)
        clear b2 B1
        obtain ⟨d, w3, q1, fd, a1⟩ := run_arith .sub (.inr (.inl rfl)) 45 n o w2
        obtain ⟨q, w4, q2, fq, a2⟩ := run_arith .quo (.inr (.inr (.inr rfl))) 45 d (floatOfInt .f64 k) w3
        obtain ⟨s, w5, q3, fs, a3⟩ := run_arith .add (.inl rfl) 45 o q w4
        obtain ⟨r1, b1⟩ := toAR a1
        obtain ⟨r2, b2⟩ := toAR a2
        obtain ⟨r3, b3⟩ := toAR a3
        have C1 := B2.trans (b1.mono B2.size)
        have C2 := C1.trans (b2.mono C1.size)
        have C3 := C2.trans (b3.mono C2.size)
        have HB : ∀ b, b = (if NaN s then n else s) → BlIs o n k b := fun b hb => by unfold BlIs; rw [if_neg HN.out.1, if_neg HN.out.2, EM.out]; exact ⟨d, q, s, fd, fq, fs, r1, r2, r3, hb⟩
        have HP := Lib.hid HB
        clear HB a1 a2 a3 r1 r2 r3 b1 b2 b3 B2 C1 C2
        have k3 := kind6 fs
        by_cases hs : NaN s
        · rw [nanB_true hs] at k3
          have HS := Lib.hid hs
          clear hs
          go_wp2_with fail
          refine (rkind_any s fs _).mono ?_
          rintro e w6 ⟨rfl, b6⟩
          go_wp2
          go_ret
          exact ⟨n, HP.out _ (by rw [if_pos HS.out]), hn, rfl, C3.trans (b6.mono C3.size)⟩
        · rw [nanB_false hs] at k3
          have HS := Lib.hid hs
          clear hs
          go_wp2_with fail
          refine (rkind_any s fs _).mono ?_
          rintro e w6 ⟨rfl, b6⟩
          go_wp2
          go_ret
          exact ⟨s, HP.out _ (by rw [if_neg HS.out]), fs, rfl, C3.trans (b6.mono C3.size)⟩
end Go.Proofs.Ytmhfbgcfagfmbaa
