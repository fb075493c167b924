/- slices.symMergeCmpFunc at float64: the right part is one element. -/
import Derived.Test.YtmhfbgcfagfmbaaS2
namespace Go.Proofs.Ytmhfbgcfagfmbaa
open Go.Shelf Go.RowKit Go.Lib Go.Sort

set_option maxHeartbeats 4000000 in
set_option maxRecDepth 1000000 in
theorem symMerge_last (g : Nat) (cb : Array Value) (cf : F64 → F64 → Int) (hO : SWO (ltOf cf)) (blk off cap a m : Nat) (len : Nat) (d0 d : Array F64) (w0 w : World) (R : Row1 encF w0 blk off d0) (hlen : d.size = len) (hs : d0.size = d.size) (S : SW encF w0 blk off d w)
    (eg : ∀ args w, (callFunc g args).run Try.prog w = .ok (.enter g args) w) (hcmp : CmpLays1 Try.prog g cb encF cf blk off d0.size w0)
    (ham : a + 1 < m) (hb : m + 1 ≤ d.size) (hsz : d.size < 4611686018427387904) (hl : SortedIn (ltOf cf) a m d) :
    Calls Try.prog 83 #[.slice (some ⟨blk, off, none⟩) len cap, .int .i64 a, .int .i64 m, .int .i64 ((m + 1 : Nat) : Int), .func (.func g) #[] cb] w fun e w' => e = .returned (.tuple #[]) ∧ ∃ d', PermIn a (m + 1) d d' ∧ SortedIn (ltOf cf) a (m + 1) d' ∧ SW encF w0 blk off d' w' := by
  subst hlen
  have hcl0 := R.hO.cells
  simp only [Value.cells] at hcl0
  have hst := R.hO.store Try.prog
  have mixed : Try.prog.follows Departure.mixedOrders = true := by kernel_rfl
  have HC : Aside _ := hcmp
  have HR : Aside _ := hl
  have S0 : Aside (SW encF w0 blk off d w) := S
  clear S hcmp hl
  obtain ⟨b, hm⟩ : ∃ q, q = m + 1 := ⟨_, rfl⟩
  rw [← hm]
  have zma : ¬ (m : Int) - (a : Int) = 1 := by omega
  have zma' : ((m : Int) - (a : Int) == 1) = false := by simpa using zma
  have zbm : (b : Int) - (m : Int) = 1 := by omega
  have hm1 : m + 1 ≤ b := by omega
  have hm2 : b ≤ m + 1 := by omega
  have HM : Hid (b = m + 1) := hm
  clear hm
  go_enter Try.func83, Try.ntmps83
  go_wp2
  go_loopg [14, 15] (b - a) (fun kx s14 s15 wr => ∃ (i j : Nat), s14 = .int .i64 i ∧ s15 = .int .i64 j ∧ a ≤ i ∧ i ≤ j ∧ j ≤ m ∧ j - i ≤ kx ∧ Hid (Find2 (ltOf cf) d d[m]! a m i j) ∧ Aside (SW encF w0 blk off d wr))
  case atStart => exact ⟨a, m, rfl, rfl, Nat.le_refl _, by omega, Nat.le_refl _, by omega, Find2.start _ _ _ (by omega), S0⟩
  case round =>
    clear S0
    obtain ⟨i, j, rfl, rfl, hmi, hij, hjb, hkx, HF, S1⟩ := hrel
    by_cases hlt : i < j
    · have hltz : (i : Int) < (j : Int) := by omega
      obtain ⟨h, hh⟩ : ∃ q, q = (i + j) / 2 := ⟨_, rfl⟩
      have zh : ((i : Int) + (j : Int)) / 2 = (h : Int) := by omega
      have hih : i ≤ h := by omega
      have hhj : h < j := by omega
      clear hh
      have ba : (h : Int) < (d.size : Int) := by omega
      have bc : (m : Int) < (d.size : Int) := by omega
      obtain ⟨x, hx⟩ : ∃ x, x = d[m]! := ⟨_, rfl⟩
      obtain ⟨y, hy⟩ : ∃ x, x = d[h]! := ⟨_, rfl⟩
      have la := S1.out.cl R (by omega) m (by omega)
      have lb := S1.out.cl R (by omega) h (by omega)
      rw [← hx] at la
      rw [← hy] at lb
      have hc := S1.out.cmp HC.out (by omega) x y
      cases hlv : ltOf cf d[m]! d[h]! with
      | false =>
        have hv : ¬ cf x y < 0 := by rw [hx, hy]; exact of_decide_eq_false hlv
        have hd : decide (cf x y < 0) = false := decide_eq_false hv
        have HF2 : Hid (Find2 (ltOf cf) d d[m]! a m (h + 1) j) := HF.out.up hO HR.out hih hhj hlv
        clear hx hy hlv HF
        go_wp2_with fail
        go_quiet_grown (first | (go_at_fn g; refine Calls.grown_of (hc _ _)))
        have S2 : Aside (SW encF w0 blk off d (grow (wr.drewN nq) osq)) := S1.out.grown nq osq
        clear la lb hc S1
        generalize grow (wr.drewN nq) osq = w2 at S2 ⊢
        clear nq osq
        go_wp2
        go_roundg (j - (h + 1))
        case measure => omega
        case rel => exact ⟨h + 1, j, by go_num, rfl, by omega, by omega, hjb, Nat.le_refl _, HF2, S2⟩
      | true =>
        have hv : cf x y < 0 := by rw [hx, hy]; exact of_decide_eq_true hlv
        have hd : decide (cf x y < 0) = true := decide_eq_true hv
        have HF2 : Hid (Find2 (ltOf cf) d d[m]! a m i h) := HF.out.down hO HR.out hih hhj hlv
        clear hx hy hlv HF
        go_wp2_with fail
        go_quiet_grown (first | (go_at_fn g; refine Calls.grown_of (hc _ _)))
        have S2 : Aside (SW encF w0 blk off d (grow (wr.drewN nq) osq)) := S1.out.grown nq osq
        clear la lb hc S1
        generalize grow (wr.drewN nq) osq = w2 at S2 ⊢
        clear nq osq
        go_wp2
        go_roundg (h - i)
        case measure => omega
        case rel => exact ⟨i, h, rfl, rfl, by omega, by omega, by omega, Nat.le_refl _, HF2, S2⟩
    · have hltz : ¬ (i : Int) < (j : Int) := by omega
      have hji : j = i := by omega
      subst hji
      go_wp2
      go_loopg [17] (b - a) (fun kx s17 wr2 => ∃ (k : Nat) (dk : Array F64), s17 = .int .i64 k ∧ j ≤ k ∧ k ≤ m ∧ k - j ≤ kx ∧ dk.size = d.size ∧ Hid (DnR a (m + 1) d m k dk) ∧ Aside (SW encF w0 blk off dk wr2))
      case atStart => exact ⟨m, d, rfl, by omega, by omega, by omega, rfl, DnR.zero a (m + 1) d m, S1⟩
      case round =>
        clear S1
        obtain ⟨k, dk, rfl, hjk, hkm, hkx2, hds, HU, S1⟩ := hrel
        by_cases hkl : j < k
        · have hltk : (j : Int) < (k : Int) := by omega
          obtain ⟨kp, hkp⟩ : ∃ q, q + 1 = k := ⟨k - 1, by omega⟩
          subst hkp
          obtain ⟨kN, hkN⟩ : ∃ q, q = kp + 1 := ⟨_, rfl⟩
          have ec : ((kp : Int) + 1).toNat = kN := by omega
          have pc : (0 : Int) ≤ (kp : Int) + 1 := by omega
          have bc : (kp : Int) + 1 < (d.size : Int) := by omega
          have ba : (kp : Int) < (d.size : Int) := by omega
          have zk : (kp : Int) + 1 - 1 = (kp : Int) := by omega
          have hltk2 : (j : Int) < (kp : Int) + 1 := by omega
          obtain ⟨x, hx⟩ : ∃ x, x = dk[kp + 1]! := ⟨_, rfl⟩
          obtain ⟨y, hy⟩ : ∃ x, x = dk[kp]! := ⟨_, rfl⟩
          have S2 : Aside (SW encF w0 blk off (swp dk (kp + 1) kp) ((wr.setCell ⟨blk, off + kN, none⟩ (encF y)).setCell ⟨blk, off + kp, none⟩ (encF x)).drew) := by rw [hkN, hx, hy]; exact S1.out.swapped R (kp + 1) kp (by omega) (by omega)
          have ca := S1.out.c1 R (by omega) (kp + 1) (by omega)
          have cb' := S1.out.c1 R (by omega) kp (by omega)
          have fa := S1.out.f1 R (by omega) (kp + 1) (by omega)
          have fb := S1.out.f1 R (by omega) kp (by omega)
          obtain ⟨u, cc⟩ := S1.out.c2 R (by omega) (kp + 1) kp (by omega) (by omega) (encF y)
          rw [← hkN] at cc fa
          rw [← hx, ← hkN] at ca
          rw [← hy] at cb'
          clear S1 hx hy hkN
          go_wp2_with fail
          go_big_region
          clear ca cb' cc fa fb
          generalize ((wr.setCell ⟨blk, off + kN, none⟩ (encF y)).setCell ⟨blk, off + kp, none⟩ (encF x)).drew = w2 at S2 ⊢
          clear ec
          go_wp2
          go_roundg (kp - j)
          case measure => omega
          case rel => exact ⟨kp, swp dk (kp + 1) kp, by first | rfl | go_num, by omega, by omega, Nat.le_refl _, by rw [size_swp]; exact hds, HU.out.succ (by omega) (by omega) (by omega) hb, S2⟩
        · have hltk : ¬ (j : Int) < (k : Int) := by omega
          have hkj' : k = j := by omega
          subst hkj'
          go_wp2
          refine bodyPost_ret (results_none rfl _ _ _) rfl ?_
          rw [show b = m + 1 from HM.out]
          exact ⟨rfl, dk, HU.out.perm, dn_sorted hO HR.out HF.out HU.out, S1.out⟩

end Go.Proofs.Ytmhfbgcfagfmbaa
