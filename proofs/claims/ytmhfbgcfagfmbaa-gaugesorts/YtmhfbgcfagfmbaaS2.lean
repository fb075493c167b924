/- slices.swapRangeCmpFunc, rotateCmpFunc at float64. -/
import Derived.Test.YtmhfbgcfagfmbaaS1
import Derived.Test.YtmhfbgcfagfmbaaF6
import Derived.Shelf.SlSortCmp.Insertion1
namespace Go.Proofs.Ytmhfbgcfagfmbaa
open Go.Shelf Go.RowKit Go.Lib Go.Sort

/-- A float64 by its bits. -/
def F64 : Type := { x : Nat // Fit x }
instance : Inhabited F64 := ⟨⟨0, by unfold Fit; omega⟩⟩
def encF (x : F64) : Value := .float .f64 x.1
theorem oneF : OneCell encF := fun _ => rfl

set_option maxHeartbeats 4000000 in
set_option maxRecDepth 1000000 in
theorem swapRange_any (g : Nat) (cb : Array Value) (blk off cap a b n lo hi : Nat) (len : Nat) (d0 d : Array F64) (w0 w : World) (R : Row1 encF w0 blk off d0) (hlen : d.size = len) (hs : d0.size = d.size) (S : SW encF w0 blk off d w)
    (hab : a + n ≤ b) (hlo : lo ≤ a) (hb : b + n ≤ hi) (hhi : hi ≤ d.size) (hsz : d.size < 4611686018427387904) :
    Calls Try.prog 88 #[.slice (some ⟨blk, off, none⟩) len cap, .int .i64 a, .int .i64 b, .int .i64 n, .func (.func g) #[] cb] w fun e w' => e = .returned (.tuple #[]) ∧ ∃ d', SwapR lo hi d a b n d' ∧ SW encF w0 blk off d' w' := by
  subst hlen
  have hcl0 := R.hO.cells
  simp only [Value.cells] at hcl0
  have hst := R.hO.store Try.prog
  have S0 : Aside (SW encF w0 blk off d w) := S
  clear S
  go_enter Try.func88, Try.ntmps88
  go_wp2
  go_loopg [10] n (fun kx s10 wr => ∃ (i : Nat) (dk : Array F64), s10 = .int .i64 i ∧ i ≤ n ∧ n - i ≤ kx ∧ dk.size = d.size ∧ Hid (SwapR lo hi d a b i dk) ∧ Aside (SW encF w0 blk off dk wr))
  case atStart => exact ⟨0, d, rfl, by omega, by omega, rfl, SwapR.zero lo hi d a b, S0⟩
  case round =>
    clear S0
    obtain ⟨i, dk, rfl, hin, hkx, hds, HW, S1⟩ := hrel
    by_cases hlt : i < n
    · have hltz : (i : Int) < (n : Int) := by omega
      obtain ⟨iN, hiN⟩ : ∃ q, q = a + i := ⟨_, rfl⟩
      obtain ⟨jN, hjN⟩ : ∃ q, q = b + i := ⟨_, rfl⟩
      have ea : ((a : Int) + (i : Int)).toNat = iN := by omega
      have pa : (0 : Int) ≤ (a : Int) + (i : Int) := by omega
      have ba : (a : Int) + (i : Int) < (d.size : Int) := by omega
      have ra : IntKind.i64.wrap ((a : Int) + (i : Int)) = (a : Int) + (i : Int) := by rw [IntKind.wrap_i64]; omega
      have ec : ((b : Int) + (i : Int)).toNat = jN := by omega
      have pc : (0 : Int) ≤ (b : Int) + (i : Int) := by omega
      have bc : (b : Int) + (i : Int) < (d.size : Int) := by omega
      have rc : IntKind.i64.wrap ((b : Int) + (i : Int)) = (b : Int) + (i : Int) := by rw [IntKind.wrap_i64]; omega
      obtain ⟨x, hx⟩ : ∃ x, x = dk[a + i]! := ⟨_, rfl⟩
      obtain ⟨y, hy⟩ : ∃ x, x = dk[b + i]! := ⟨_, rfl⟩
      have S2 : Aside (SW encF w0 blk off (swp dk (a + i) (b + i)) ((wr.setCell ⟨blk, off + iN, none⟩ (encF y)).setCell ⟨blk, off + jN, none⟩ (encF x)).drew) := by rw [hiN, hjN, hx, hy]; exact S1.out.swapped R (a + i) (b + i) (by omega) (by omega)
      have ca := S1.out.c1 R (by omega) (a + i) (by omega)
      have cb' := S1.out.c1 R (by omega) (b + i) (by omega)
      have fa := S1.out.f1 R (by omega) (a + i) (by omega)
      have fb := S1.out.f1 R (by omega) (b + i) (by omega)
      obtain ⟨u, cc⟩ := S1.out.c2 R (by omega) (a + i) (b + i) (by omega) (by omega) (encF y)
      rw [← hjN, ← hiN] at cc
      rw [← hx, ← hiN] at ca
      rw [← hy, ← hjN] at cb'
      rw [← hiN] at fa
      rw [← hjN] at fb
      clear S1 hx hy hiN hjN
      go_wp2_with fail
      go_big_region
      clear ca cb' cc fa fb
      generalize ((wr.setCell ⟨blk, off + iN, none⟩ (encF y)).setCell ⟨blk, off + jN, none⟩ (encF x)).drew = w2 at S2 ⊢
      clear ea ec
      go_wp2
      go_roundg (n - (i + 1))
      case measure => omega
      case rel => exact ⟨i + 1, swp dk (a + i) (b + i), by go_num, by omega, by omega, by rw [size_swp]; exact hds, HW.out.succ (by omega) hlo (by omega) hhi, S2⟩
    · have hltz : ¬ (i : Int) < (n : Int) := by omega
      have hi' : i = n := by omega
      subst hi'
      go_wp2
      go_end0
      exact ⟨rfl, dk, HW.out, S1.out⟩

set_option maxHeartbeats 4000000 in
set_option maxRecDepth 1000000 in
theorem rotate_any (g : Nat) (cb : Array Value) (blk off cap a m b lo hi : Nat) (len : Nat) (d0 d : Array F64) (w0 w : World) (R : Row1 encF w0 blk off d0) (hlen : d.size = len) (hs : d0.size = d.size) (S : SW encF w0 blk off d w)
    (hlo : lo ≤ a) (ham : a < m) (hmb : m < b) (hb : b ≤ hi) (hhi : hi ≤ d.size) (hsz : d.size < 4611686018427387904) :
    Calls Try.prog 85 #[.slice (some ⟨blk, off, none⟩) len cap, .int .i64 a, .int .i64 m, .int .i64 b, .func (.func g) #[] cb] w fun e w' => e = .returned (.tuple #[]) ∧ ∃ d', RotR lo hi d a m b d' ∧ SW encF w0 blk off d' w' := by
  subst hlen
  have S0 : Aside (SW encF w0 blk off d w) := S
  clear S
  have e88 : ∀ args w, (callFunc 88 args).run Try.prog w = .ok (.enter 88 args) w := enters_of Try.func88 (by kernel_rfl) rfl
  have zi : (m : Int) - (a : Int) = ((m - a : Nat) : Int) := by omega
  have zj : (b : Int) - (m : Int) = ((b - m : Nat) : Int) := by omega
  go_enter Try.func85, Try.ntmps85
  go_wp2
  go_loopg [10, 11] (b - a) (fun kx s10 s11 wr => ∃ (i j : Nat) (dk : Array F64), s10 = .int .i64 i ∧ s11 = .int .i64 j ∧ 1 ≤ i ∧ 1 ≤ j ∧ i ≤ m - a ∧ j ≤ b - m ∧ i + j ≤ kx ∧ dk.size = d.size ∧
    Hid (PermIn lo hi d dk ∧ ∀ k, rotF dk (m - i) m (m + j) k = rotF d a m b k) ∧ Aside (SW encF w0 blk off dk wr))
  case atStart => exact ⟨m - a, b - m, d, by first | rfl | rw [zi], by first | rfl | rw [zj], by omega, by omega, Nat.le_refl _, Nat.le_refl _, by omega, rfl, ⟨permIn_refl _ _ _, fun k => by rw [show m - (m - a) = a by omega, show m + (b - m) = b by omega]⟩, S0⟩
  case round =>
    clear S0
    obtain ⟨i, j, dk, rfl, rfl, hi1, hj1, him, hjb, hkx, hds, HW, S1⟩ := hrel
    have zmi : (m : Int) - (i : Int) = ((m - i : Nat) : Int) := by omega
    rcases Nat.lt_trichotomy i j with h | h | h
    · have hne : ¬ (i : Int) = (j : Int) := by omega
      have hgt : ¬ (j : Int) < (i : Int) := by omega
      have zz : (m : Int) + (j : Int) - (i : Int) = ((m + j - i : Nat) : Int) := by omega
      have zji : (j : Int) - (i : Int) = ((j - i : Nat) : Int) := by omega
      go_wp2_with fail
      refine (swapRange_any g cb blk off cap (m - i) (m + j - i) i lo hi _ d0 dk w0 wr R hds (by omega) S1.out (by omega) (by omega) (by omega) (by omega) (by omega)).mono ?_
      rintro e w' ⟨rfl, d', HS, S2⟩
      have HS' : Hid _ := HS
      have S2' : Aside _ := S2
      clear HS S2 S1
      go_wp2
      go_roundg (i + (j - i))
      case measure => omega
      case rel =>
        have hp := HS'.out.perm
        exact ⟨i, j - i, d', rfl, by first | rfl | (congr 1; omega), hi1, by omega, him, by omega, Nat.le_refl _, by rw [hp.1]; exact hds, ⟨permIn_trans _ _ _ _ _ HW.out.1 hp, fun k => (rot_right h (by omega) HS'.out k).trans (HW.out.2 k)⟩, S2'⟩
    · subst h
      go_wp2_with fail
      refine (swapRange_any g cb blk off cap (m - i) m i lo hi _ d0 dk w0 wr R hds (by omega) S1.out (by omega) (by omega) (by omega) (by omega) (by omega)).mono ?_
      rintro e w' ⟨rfl, d', HS, S2⟩
      go_wp2
      go_end0
      exact ⟨rfl, d', ⟨permIn_trans _ _ _ _ _ HW.out.1 HS.perm, fun k => (rot_end (by omega) HS k).trans (HW.out.2 k)⟩, S2⟩
    · have hne : ¬ (i : Int) = (j : Int) := by omega
      have hgt : (j : Int) < (i : Int) := by omega
      go_wp2_with fail
      refine (swapRange_any g cb blk off cap (m - i) m j lo hi _ d0 dk w0 wr R hds (by omega) S1.out (by omega) (by omega) (by omega) (by omega) (by omega)).mono ?_
      rintro e w' ⟨rfl, d', HS, S2⟩
      have HS' : Hid _ := HS
      have S2' : Aside _ := S2
      clear HS S2 S1
      go_wp2
      go_roundg (i - j + j)
      case measure => omega
      case rel =>
        have hp := HS'.out.perm
        exact ⟨i - j, j, d', by first | rfl | (congr 1; omega), rfl, by omega, hj1, by omega, hjb, Nat.le_refl _, by rw [hp.1]; exact hds, ⟨permIn_trans _ _ _ _ _ HW.out.1 hp, fun k => (rot_left h (by omega) HS'.out k).trans (HW.out.2 k)⟩, S2'⟩

end Go.Proofs.Ytmhfbgcfagfmbaa
