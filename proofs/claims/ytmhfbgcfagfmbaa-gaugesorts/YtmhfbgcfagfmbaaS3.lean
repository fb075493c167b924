/- slices.symMergeCmpFunc at float64. -/
import Derived.Test.YtmhfbgcfagfmbaaS2
namespace Go.Proofs.Ytmhfbgcfagfmbaa
open Go.Shelf Go.RowKit Go.Lib Go.Sort

set_option maxHeartbeats 4000000 in
set_option maxRecDepth 1000000 in
theorem symMerge_one (g : Nat) (cb : Array Value) (cf : F64 → F64 → Int) (hO : SWO (ltOf cf)) (blk off cap a b : Nat) (len : Nat) (d0 d : Array F64) (w0 w : World) (R : Row1 encF w0 blk off d0) (hlen : d.size = len) (hs : d0.size = d.size) (S : SW encF w0 blk off d w)
    (eg : ∀ args w, (callFunc g args).run Try.prog w = .ok (.enter g args) w) (hcmp : CmpLays1 Try.prog g cb encF cf blk off d0.size w0)
    (hmb : a + 1 < b) (hb : b ≤ d.size) (hsz : d.size < 4611686018427387904) (hr : SortedIn (ltOf cf) (a + 1) b d) :
    Calls Try.prog 83 #[.slice (some ⟨blk, off, none⟩) len cap, .int .i64 a, .int .i64 ((a + 1 : Nat) : Int), .int .i64 b, .func (.func g) #[] cb] w fun e w' => e = .returned (.tuple #[]) ∧ ∃ d', PermIn a b d d' ∧ SortedIn (ltOf cf) a b d' ∧ SW encF w0 blk off d' w' := by
  subst hlen
  have hcl0 := R.hO.cells
  simp only [Value.cells] at hcl0
  have hst := R.hO.store Try.prog
  have mixed : Try.prog.follows Departure.mixedOrders = true := by kernel_rfl
  have HC : Aside _ := hcmp
  have HR : Aside _ := hr
  have S0 : Aside (SW encF w0 blk off d w) := S
  clear S hcmp hr
  obtain ⟨m, hm⟩ : ∃ q, q = a + 1 := ⟨_, rfl⟩
  rw [← hm]
  have zma : (m : Int) - (a : Int) = 1 := by omega
  have hm1 : a + 1 ≤ m := by omega
  have hm2 : m ≤ a + 1 := by omega
  have HM : Hid (m = a + 1) := hm
  clear hm
  go_enter Try.func83, Try.ntmps83
  go_wp2
  go_loopg [10, 11] (b - a) (fun kx s10 s11 wr => ∃ (i j : Nat), s10 = .int .i64 i ∧ s11 = .int .i64 j ∧ m ≤ i ∧ i ≤ j ∧ j ≤ b ∧ j - i ≤ kx ∧ Hid (Find (ltOf cf) d d[a]! (a + 1) b i j) ∧ Aside (SW encF w0 blk off d wr))
  case atStart => exact ⟨m, b, rfl, rfl, Nat.le_refl _, by omega, Nat.le_refl _, by omega, by rw [HM.out]; exact Find.start _ _ _ (by omega), S0⟩
  case round =>
    clear S0
    obtain ⟨i, j, rfl, rfl, hmi, hij, hjb, hkx, HF, S1⟩ := hrel
    by_cases hlt : i < j
    · have hltz : (i : Int) < (j : Int) := by omega
      obtain ⟨h, hh⟩ : ∃ q, q = (i + j) / 2 := ⟨_, rfl⟩
      have zh : ((i : Int) + (j : Int)) / 2 = (h : Int) := by omega
      have hih : i ≤ h := by omega
      have hhj : h < j := by omega
      clear hh
      have ba : (h : Int) < (d.size : Int) := by omega
      have bc : (a : Int) < (d.size : Int) := by omega
      obtain ⟨x, hx⟩ : ∃ x, x = d[h]! := ⟨_, rfl⟩
      obtain ⟨y, hy⟩ : ∃ x, x = d[a]! := ⟨_, rfl⟩
      have la := S1.out.cl R (by omega) h (by omega)
      have lb := S1.out.cl R (by omega) a (by omega)
      rw [← hx] at la
      rw [← hy] at lb
      have hc := S1.out.cmp HC.out (by omega) x y
      cases hlv : ltOf cf d[h]! d[a]! with
      | true =>
        have hv : cf x y < 0 := by rw [hx, hy]; exact of_decide_eq_true hlv
        have hd : decide (cf x y < 0) = true := decide_eq_true hv
        have HF2 : Hid (Find (ltOf cf) d d[a]! (a + 1) b (h + 1) j) := HF.out.up hO HR.out hih hhj hlv
        clear hx hy hlv HF
        go_wp2_with fail
        go_quiet_grown (first | (go_at_fn g; refine Calls.grown_of (hc _ _)))
        have S2 : Aside (SW encF w0 blk off d (grow (wr.drewN nq) osq)) := S1.out.grown nq osq
        clear la lb hc S1
        generalize grow (wr.drewN nq) osq = w2 at S2 ⊢
        clear nq osq
        go_wp2
        go_roundg (j - (h + 1))
        case measure => omega
        case rel => exact ⟨h + 1, j, by go_num, rfl, by omega, by omega, hjb, Nat.le_refl _, HF2, S2⟩
      | false =>
        have hv : ¬ cf x y < 0 := by rw [hx, hy]; exact of_decide_eq_false hlv
        have hd : decide (cf x y < 0) = false := decide_eq_false hv
        have HF2 : Hid (Find (ltOf cf) d d[a]! (a + 1) b i h) := HF.out.down hO HR.out hih hhj hlv
        clear hx hy hlv HF
        go_wp2_with fail
        go_quiet_grown (first | (go_at_fn g; refine Calls.grown_of (hc _ _)))
        have S2 : Aside (SW encF w0 blk off d (grow (wr.drewN nq) osq)) := S1.out.grown nq osq
        clear la lb hc S1
        generalize grow (wr.drewN nq) osq = w2 at S2 ⊢
        clear nq osq
        go_wp2
        go_roundg (h - i)
        case measure => omega
        case rel => exact ⟨i, h, rfl, rfl, by omega, by omega, by omega, Nat.le_refl _, HF2, S2⟩
    · have hltz : ¬ (i : Int) < (j : Int) := by omega
      have hji : j = i := by omega
      subst hji
      go_wp2
      go_loopg [13] (b - a) (fun kx s13 wr2 => ∃ (k : Nat) (dk : Array F64), s13 = .int .i64 k ∧ a ≤ k ∧ k ≤ j - 1 ∧ j - 1 - k ≤ kx ∧ dk.size = d.size ∧ Hid (UpR a b d a k dk) ∧ Aside (SW encF w0 blk off dk wr2))
      case atStart => exact ⟨a, d, rfl, Nat.le_refl _, by omega, by omega, rfl, UpR.zero a b d a, S1⟩
      case round =>
        clear S1
        obtain ⟨k, dk, rfl, hak, hkj, hkx2, hds, HU, S1⟩ := hrel
        by_cases hkl : k < j - 1
        · have hltk : (k : Int) < (j : Int) - 1 := by omega
          obtain ⟨kN, hkN⟩ : ∃ q, q = k + 1 := ⟨_, rfl⟩
          have ec : ((k : Int) + 1).toNat = kN := by omega
          have pc : (0 : Int) ≤ (k : Int) + 1 := by omega
          have bc : (k : Int) + 1 < (d.size : Int) := by omega
          have ba : (k : Int) < (d.size : Int) := by omega
          obtain ⟨x, hx⟩ : ∃ x, x = dk[k]! := ⟨_, rfl⟩
          obtain ⟨y, hy⟩ : ∃ x, x = dk[k + 1]! := ⟨_, rfl⟩
          have S2 : Aside (SW encF w0 blk off (swp dk k (k + 1)) ((wr.setCell ⟨blk, off + k, none⟩ (encF y)).setCell ⟨blk, off + kN, none⟩ (encF x)).drew) := by rw [hkN, hx, hy]; exact S1.out.swapped R k (k + 1) (by omega) (by omega)
          have ca := S1.out.c1 R (by omega) k (by omega)
          have cb' := S1.out.c1 R (by omega) (k + 1) (by omega)
          have fa := S1.out.f1 R (by omega) k (by omega)
          have fb := S1.out.f1 R (by omega) (k + 1) (by omega)
          obtain ⟨u, cc⟩ := S1.out.c2 R (by omega) k (k + 1) (by omega) (by omega) (encF y)
          rw [← hkN] at cc fb
          rw [← hx] at ca
          rw [← hy, ← hkN] at cb'
          clear S1 hx hy hkN
          go_wp2_with fail
          go_big_region
          clear ca cb' cc fa fb
          generalize ((wr.setCell ⟨blk, off + k, none⟩ (encF y)).setCell ⟨blk, off + kN, none⟩ (encF x)).drew = w2 at S2 ⊢
          clear ec
          go_wp2
          go_roundg (j - 1 - (k + 1))
          case measure => omega
          case rel => exact ⟨k + 1, swp dk k (k + 1), by go_num, by omega, by omega, Nat.le_refl _, by rw [size_swp]; exact hds, HU.out.succ (Nat.le_refl _) hak (by omega) hb, S2⟩
        · have hltk : ¬ (k : Int) < (j : Int) - 1 := by omega
          have hkj' : k = j - 1 := by omega
          subst hkj'
          go_wp2
          refine bodyPost_ret (results_none rfl _ _ _) rfl ?_
          exact ⟨rfl, dk, HU.out.perm, up_sorted hO HR.out HF.out HU.out, S1.out⟩

end Go.Proofs.Ytmhfbgcfagfmbaa
