/- Contracts: gauge.Blend and the reference's Blend. -/
import Derived.Test.YtmhfbgcfagfmbaaFC
namespace Go.Proofs.Ytmhfbgcfagfmbaa
open Go.RowKit

theorem read_NaN {x : Nat} (hx : Fit x) (h : NaN x) : ∃ s t, D64.read x = .nan s t := ⟨_, _, Fl.read_nan D64 d_exp ((nan_rung hx).1 h)⟩
theorem floatBits_nan_l {op : BinOp} {x y : Nat} (hx : Fit x) (h : NaN x) : floatBits op .f64 x y = none := by
  obtain ⟨s, t, e⟩ := read_NaN hx h
  cases op <;> first | rfl | skip
  · show D64.add x y = none; unfold Ieee.Format.add; rw [e]; rfl
  · show D64.sub x y = none; unfold Ieee.Format.sub; rw [e]; rfl
  · show D64.mul x y = none; unfold Ieee.Format.mul; rw [e]; rfl
  · show D64.div x y = none; unfold Ieee.Format.div; rw [e]; rfl
theorem floatBits_nan_r {op : BinOp} {x y : Nat} (hy : Fit y) (h : NaN y) : floatBits op .f64 x y = none := by
  obtain ⟨s, t, e⟩ := read_NaN hy h
  cases op <;> first | rfl | skip
  · show D64.add x y = none; unfold Ieee.Format.add; rw [e]; cases D64.read x <;> rfl
  · show D64.sub x y = none; unfold Ieee.Format.sub; rw [e]; cases D64.read x <;> rfl
  · show D64.mul x y = none; unfold Ieee.Format.mul; rw [e]; cases D64.read x <;> rfl
  · show D64.div x y = none; unfold Ieee.Format.div; rw [e]; cases D64.read x <;> rfl
theorem AR.nan_l {op : BinOp} {x y b : Nat} (hx : Fit x) (h : NaN x) (a : AR op x y b) : NaN b := by
  rcases a with a | a
  · rw [floatBits_nan_l hx h] at a; cases a
  · exact a.2
theorem AR.nan_r {op : BinOp} {x y b : Nat} (hy : Fit y) (h : NaN y) (a : AR op x y b) : NaN b := by
  rcases a with a | a
  · rw [floatBits_nan_r hy h] at a; cases a
  · exact a.2
/-- Equal, or both NaN. -/
def Alik (b c : Nat) : Prop := b = c ∨ (NaN b ∧ NaN c)
theorem AR.alik {op : BinOp} {x y b c : Nat} (h : AR op x y b) (k : AR op x y c) : Alik b c := by
  rcases h with h | ⟨h, n⟩ <;> rcases k with k | ⟨k, m⟩
  · rw [h] at k; exact .inl (Option.some.inj k)
  · rw [h] at k; cases k
  · rw [h] at k; cases k
  · exact .inr ⟨n, m⟩
theorem AR.alik_l {op : BinOp} {x x' y b c : Nat} (hx : Fit x) (hx' : Fit x') (a : Alik x x') (h : AR op x y b) (k : AR op x' y c) : Alik b c := by
  rcases a with rfl | ⟨n, m⟩
  · exact h.alik k
  · exact .inr ⟨h.nan_l hx n, k.nan_l hx' m⟩
theorem AR.alik_r {op : BinOp} {x y y' b c : Nat} (hy : Fit y) (hy' : Fit y') (a : Alik y y') (h : AR op x y b) (k : AR op x y' c) : Alik b c := by
  rcases a with rfl | ⟨n, m⟩
  · exact h.alik k
  · exact .inr ⟨h.nan_r hy n, k.nan_r hy' m⟩
theorem Alik.tk {b c : Nat} (hb : Fit b) (hc : Fit c) (h : Alik b c) : tk b = tk c := by
  rcases h with rfl | ⟨n, m⟩
  · rfl
  · rw [tk_nan hb n, tk_nan hc m]
theorem Alik.nan {b c : Nat} (h : Alik b c) : NaN b ↔ NaN c := by
  rcases h with rfl | ⟨n, m⟩
  · rfl
  · exact ⟨fun _ => m, fun _ => n⟩

/-- What blending may give. -/
def BlIs (o n : Nat) (k : Int) (b : Nat) : Prop :=
  if NaN o then b = n else if NaN n then b = o else
    ∃ d q s, Fit d ∧ Fit q ∧ Fit s ∧ AR .sub n o d ∧ AR .quo d (floatOfInt .f64 (max k 1)) q ∧ AR .add o q s ∧ b = if NaN s then n else s

theorem BlIs.tk_eq {o n : Nat} {k : Int} {b c : Nat} (h : BlIs o n k b) (g : BlIs o n k c) : tk b = tk c := by
  unfold BlIs at h g
  split at h
  · rw [if_pos ‹_›] at g; rw [h, g]
  · rw [if_neg ‹_›] at g
    split at h
    · rw [if_pos ‹_›] at g; rw [h, g]
    · rw [if_neg ‹_›] at g
      obtain ⟨d, q, s, fd, fq, fs, a1, a2, a3, e⟩ := h
      obtain ⟨d', q', s', fd', fq', fs', a1', a2', a3', e'⟩ := g
      have h1 := a1.alik a1'
      have h2 := AR.alik_l fd fd' h1 a2 a2'
      have h3 := AR.alik_r fq fq' h2 a3 a3'
      by_cases hs : NaN s
      · rw [e, e', if_pos hs, if_pos (h3.nan.1 hs)]
      · rw [e, e', if_neg hs, if_neg (fun h => hs (h3.nan.2 h))]
        exact h3.tk fs fs'

theorem toAR {op : BinOp} {x y b : Nat} {w w1 : World} (h : (floatBits op .f64 x y = some b ∧ w = w1) ∨ (floatBits op .f64 x y = none ∧ NaN b ∧ w1 = w.drew)) : AR op x y b ∧ Below w.heap.size w w1 := by
  rcases h with ⟨e, rfl⟩ | ⟨e, n, rfl⟩
  · exact ⟨.inl e, Below.refl _ _⟩
  · exact ⟨.inr ⟨e, n⟩, (Below.refl _ _).drew⟩

set_option maxHeartbeats 1000000 in
theorem blend_any (o n : Nat) (k : Int) (ho : Fit o) (hn : Fit n) (w : World) : Calls Try.prog 43 #[.float .f64 o, .float .f64 n, .int .i64 k] w (FRet (BlIs o n k) w) := by
  by_cases h1 : NaN o
  · have b1 : nanB o = true := by unfold nanB; simpa using h1
    have HP : Hid (BlIs o n k n) := Lib.hid (by unfold BlIs; rw [if_pos h1])
    clear h1
    go_enter Try.func43, Try.ntmps43
    go_wp2_with fail
    refine (isNaN_any o ho _).mono ?_
    rintro e w' ⟨rfl, rfl⟩
    rw [b1]
    go_wp2
    go_ret
    exact ⟨n, HP.out, hn, rfl, Below.refl _ _⟩
  · have b1 : nanB o = false := by unfold nanB; simpa using h1
    by_cases h2 : NaN n
    · have b2 : nanB n = true := by unfold nanB; simpa using h2
      have HP : Hid (BlIs o n k o) := Lib.hid (by unfold BlIs; rw [if_neg h1, if_pos h2])
      clear h1 h2
      go_enter Try.func43, Try.ntmps43
      go_wp2_with fail
      refine (isNaN_any o ho _).mono ?_
      rintro e w' ⟨rfl, rfl⟩
      rw [b1]
      go_wp2_with fail
      refine (isNaN_any n hn _).mono ?_
      rintro e w' ⟨rfl, rfl⟩
      rw [b2]
      go_wp2
      go_ret
      exact ⟨o, HP.out, ho, rfl, Below.refl _ _⟩
    · have b2 : nanB n = false := by unfold nanB; simpa using h2
      obtain ⟨d, w1, q1, fd, a1⟩ := run_arith .sub (.inr (.inl rfl)) 45 n o w
      obtain ⟨q, w2, q2, fq, a2⟩ := run_arith .quo (.inr (.inr (.inr rfl))) 45 d (floatOfInt .f64 (max k 1)) w1
      obtain ⟨s, w3, q3, fs, a3⟩ := run_arith .add (.inl rfl) 45 o q w2
      obtain ⟨r1, B1⟩ := toAR a1
      obtain ⟨r2, B2⟩ := toAR a2
      obtain ⟨r3, B3⟩ := toAR a3
      have B := (B1.trans (B2.mono B1.size)).trans (B3.mono (B1.trans (B2.mono B1.size)).size)
      have HB : ∀ b, b = (if NaN s then n else s) → BlIs o n k b := fun b hb => by unfold BlIs; rw [if_neg h1, if_neg h2]; exact ⟨d, q, s, fd, fq, fs, r1, r2, r3, hb⟩
      have HP := Lib.hid HB
      clear HB a1 a2 a3 r1 r2 r3 B1 B2 B3 h1 h2
      by_cases hs : NaN s
      · have b3 : nanB s = true := by unfold nanB; simpa using hs
        have HS := Lib.hid hs
        clear hs
        by_cases hk : k < 1
        · have em : max k 1 = 1 := by omega
          rw [em] at q2
          clear em
          go_enter Try.func43, Try.ntmps43
          go_wp2_with fail
          refine (isNaN_any o ho _).mono ?_
          rintro e w' ⟨rfl, rfl⟩
          rw [b1]
          go_wp2_with fail
          refine (isNaN_any n hn _).mono ?_
          rintro e w' ⟨rfl, rfl⟩
          rw [b2]
          go_wp2_with fail
          refine (isNaN_any s fs _).mono ?_
          rintro e w' ⟨rfl, rfl⟩
          rw [b3]
          go_wp2
          go_ret
          exact ⟨n, HP.out _ (by rw [if_pos HS.out]), hn, rfl, B⟩
        · have em : max k 1 = k := by omega
          rw [em] at q2
          clear em
          go_enter Try.func43, Try.ntmps43
          go_wp2_with fail
          refine (isNaN_any o ho _).mono ?_
          rintro e w' ⟨rfl, rfl⟩
          rw [b1]
          go_wp2_with fail
          refine (isNaN_any n hn _).mono ?_
          rintro e w' ⟨rfl, rfl⟩
          rw [b2]
          go_wp2_with fail
          refine (isNaN_any s fs _).mono ?_
          rintro e w' ⟨rfl, rfl⟩
          rw [b3]
          go_wp2
          go_ret
          exact ⟨n, HP.out _ (by rw [if_pos HS.out]), hn, rfl, B⟩
      · have b3 : nanB s = false := by unfold nanB; simpa using hs
        have HS := Lib.hid hs
        clear hs
        by_cases hk : k < 1
        · have em : max k 1 = 1 := by omega
          rw [em] at q2
          clear em
          go_enter Try.func43, Try.ntmps43
          go_wp2_with fail
          refine (isNaN_any o ho _).mono ?_
          rintro e w' ⟨rfl, rfl⟩
          rw [b1]
          go_wp2_with fail
          refine (isNaN_any n hn _).mono ?_
          rintro e w' ⟨rfl, rfl⟩
          rw [b2]
          go_wp2_with fail
          refine (isNaN_any s fs _).mono ?_
          rintro e w' ⟨rfl, rfl⟩
          rw [b3]
          go_wp2
          go_ret
          exact ⟨s, HP.out _ (by rw [if_neg HS.out]), fs, rfl, B⟩
        · have em : max k 1 = k := by omega
          rw [em] at q2
          clear em
          go_enter Try.func43, Try.ntmps43
          go_wp2_with fail
          refine (isNaN_any o ho _).mono ?_
          rintro e w' ⟨rfl, rfl⟩
          rw [b1]
          go_wp2_with fail
          refine (isNaN_any n hn _).mono ?_
          rintro e w' ⟨rfl, rfl⟩
          rw [b2]
          go_wp2_with fail
          refine (isNaN_any s fs _).mono ?_
          rintro e w' ⟨rfl, rfl⟩
          rw [b3]
          go_wp2
          go_ret
          exact ⟨s, HP.out _ (by rw [if_neg HS.out]), fs, rfl, B⟩
end Go.Proofs.Ytmhfbgcfagfmbaa
