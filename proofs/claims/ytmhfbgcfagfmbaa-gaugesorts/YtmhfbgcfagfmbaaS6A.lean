/- slices.symMergeCmpFunc at float64: the long way, the middle lies left of m. -/
import Derived.Test.YtmhfbgcfagfmbaaS5
namespace Go.Proofs.Ytmhfbgcfagfmbaa
open Go.Shelf Go.RowKit Go.Lib Go.Sort

set_option maxHeartbeats 8000000 in
set_option maxRecDepth 1000000 in
theorem symMerge_A (g : Nat) (cb : Array Value) (cf : F64 → F64 → Int) (hO : SWO (ltOf cf)) (blk off cap a m b mid : Nat) (len : Nat) (d0 d : Array F64) (w0 w : World) (R : Row1 encF w0 blk off d0) (hlen : d.size = len) (hs : d0.size = d.size) (S : SW encF w0 blk off d w)
    (eg : ∀ args w, (callFunc g args).run Try.prog w = .ok (.enter g args) w) (hcmp : CmpLays1 Try.prog g cb encF cf blk off d0.size w0) (ih : MergeOK g cb cf blk off cap len w0 (b - a))
    (ham : a + 1 < m) (hmb : m + 1 < b) (hb : b ≤ d.size) (hsz : d.size < 4611686018427387904) (hmid : mid = (a + b) / 2) (hway : mid < m) (hl : SortedIn (ltOf cf) a m d) (hr : SortedIn (ltOf cf) m b d) :
    Calls Try.prog 83 #[.slice (some ⟨blk, off, none⟩) len cap, .int .i64 a, .int .i64 m, .int .i64 b, .func (.func g) #[] cb] w (MergePost cf blk off w0 a b d) := by
  subst hlen
  have mixed : Try.prog.follows Departure.mixedOrders = true := by kernel_rfl
  have HC : Aside _ := hcmp
  have HL : Hid (SortedIn (ltOf cf) a m d) := hl
  have HR : Hid (SortedIn (ltOf cf) m b d) := hr
  have IH : Hid (MergeOK g cb cf blk off cap d.size w0 (b - a)) := ih
  have S0 : Aside (SW encF w0 blk off d w) := S
  clear S hcmp hl hr ih
  have zma : ¬ (m : Int) - (a : Int) = 1 := by omega
  have zma' : ((m : Int) - (a : Int) == 1) = false := by simpa using zma
  have zbm : ¬ (b : Int) - (m : Int) = 1 := by omega
  have zbm' : ((b : Int) - (m : Int) == 1) = false := by simpa using zbm
  have zmid : ((a : Int) + (b : Int)) / 2 = (mid : Int) := by omega
  obtain ⟨n, hn⟩ : ∃ q, q = mid + m := ⟨_, rfl⟩
  have zn : (mid : Int) + (m : Int) = (n : Int) := by omega
  obtain ⟨p, hp⟩ : ∃ q, q = mid + m - 1 := ⟨_, rfl⟩
  have zp : (n : Int) - 1 = (p : Int) := by omega
  obtain ⟨lo, hlo⟩ : ∃ q, q = mid + m - b := ⟨_, rfl⟩
  obtain ⟨hi, hhi⟩ : ∃ q, q = mid := ⟨_, rfl⟩
  have zlo : (n : Int) - (b : Int) = (lo : Int) := by omega
  have SP : Hid (Span a m b mid lo hi) := ⟨by omega, by omega, hmid, Or.inl ⟨hway, hlo, hhi⟩⟩
  have zway : (mid : Int) < (m : Int) := by omega
  have n1 : a ≤ lo := by omega
  have n2 : lo ≤ hi := by omega
  have n3 : hi ≤ m := by omega
  have n4 : m ≤ p - hi + 1 := by omega
  have n5 : p - lo < b := by omega
  have n6 : hi ≤ p := by omega
  have n7 : a < mid := by omega
  have n8 : mid < b := by omega
  have HN : Hid (n = mid + m) := hn
  have HP : Hid (p = mid + m - 1) := hp
  have HLO : Hid (lo = mid + m - b) := hlo
  have HHI : Hid (hi = mid) := hhi
  clear hn hp hlo hhi hmid
  go_enter Try.func83, Try.ntmps83
  go_wp2
  go_loopg [20, 21] (b - a) (fun kx s20 s21 wr => ∃ (s r : Nat), s20 = .int .i64 s ∧ s21 = .int .i64 r ∧ lo ≤ s ∧ s ≤ r ∧ r ≤ hi ∧ r - s ≤ kx ∧ Hid (Look (ltOf cf) d p lo hi s r) ∧ Aside (SW encF w0 blk off d wr))
  case atStart => exact ⟨lo, hi, by first | rfl | rw [HLO.out], by first | rfl | rw [HHI.out], Nat.le_refl _, n2, Nat.le_refl _, by omega, Look.start _ _ _ n2, S0⟩
  case round =>
    clear S0
    obtain ⟨s, r, rfl, rfl, hls, hsr, hrh, hkx, HF, S1⟩ := hrel
    by_cases hlt : s < r
    · have hltz : (s : Int) < (r : Int) := by omega
      obtain ⟨c, hh⟩ : ∃ q, q = (s + r) / 2 := ⟨_, rfl⟩
      have zh : ((s : Int) + (r : Int)) / 2 = (c : Int) := by omega
      have hih : s ≤ c := by omega
      have hhj : c < r := by omega
      clear hh
      obtain ⟨q, hq⟩ : ∃ q, q = p - c := ⟨_, rfl⟩
      have zpq : (p : Int) = (q : Int) + (c : Int) := by omega
      have rq : IntKind.i64.wrap (q : Int) = (q : Int) := by rw [IntKind.wrap_i64]; omega
      have ba : (q : Int) < (d.size : Int) := by omega
      have bc : (c : Int) < (d.size : Int) := by omega
      obtain ⟨x, hx⟩ : ∃ x, x = d[q]! := ⟨_, rfl⟩
      obtain ⟨y, hy⟩ : ∃ x, x = d[c]! := ⟨_, rfl⟩
      have la := S1.out.cl R (by omega) q (by omega)
      have lb := S1.out.cl R (by omega) c (by omega)
      rw [← hx] at la
      rw [← hy] at lb
      have hc := S1.out.cmp HC.out (by omega) x y
      cases hlv : ltOf cf d[q]! d[c]! with
      | false =>
        have hv : ¬ cf x y < 0 := by rw [hx, hy]; exact of_decide_eq_false hlv
        have hd : decide (cf x y < 0) = false := decide_eq_false hv
        have HF2 : Hid (Look (ltOf cf) d p lo hi (c + 1) r) := by
          have h1 := HF.out
          rw [hq] at hlv
          rw [HP.out] at h1 hlv ⊢
          exact h1.up hO SP.out HL.out HR.out hih hhj hlv
        clear hx hy hlv HF hq
        go_wp2_with fail
        go_quiet_grown (first | (go_at_fn g; refine Calls.grown_of (hc _ _)))
        (try rw [← zpq])
        clear zpq rq
        have S2 : Aside (SW encF w0 blk off d (grow (wr.drewN nq) osq)) := S1.out.grown nq osq
        clear la lb hc S1
        generalize grow (wr.drewN nq) osq = w2 at S2 ⊢
        clear nq osq
        go_wp2
        go_roundg (r - (c + 1))
        case measure => omega
        case rel => exact ⟨c + 1, r, by go_num, rfl, by omega, by omega, hrh, Nat.le_refl _, HF2, S2⟩
      | true =>
        have hv : cf x y < 0 := by rw [hx, hy]; exact of_decide_eq_true hlv
        have hd : decide (cf x y < 0) = true := decide_eq_true hv
        have HF2 : Hid (Look (ltOf cf) d p lo hi s c) := by
          have h1 := HF.out
          rw [hq] at hlv
          rw [HP.out] at h1 hlv ⊢
          exact h1.down hO SP.out HL.out HR.out hih hhj hlv
        clear hx hy hlv HF hq
        go_wp2_with fail
        go_quiet_grown (first | (go_at_fn g; refine Calls.grown_of (hc _ _)))
        (try rw [← zpq])
        clear zpq rq
        have S2 : Aside (SW encF w0 blk off d (grow (wr.drewN nq) osq)) := S1.out.grown nq osq
        clear la lb hc S1
        generalize grow (wr.drewN nq) osq = w2 at S2 ⊢
        clear nq osq
        go_wp2
        go_roundg (c - s)
        case measure => omega
        case rel => exact ⟨s, c, rfl, rfl, by omega, by omega, by omega, Nat.le_refl _, HF2, S2⟩
    · have hltz : ¬ (s : Int) < (r : Int) := by omega
      have hji : r = s := by omega
      subst hji
      obtain ⟨e, he⟩ : ∃ q, q = mid + m - r := ⟨_, rfl⟩
      have CUT : Hid (Cut (ltOf cf) d a m b mid r e) := by
        have h1 := HF.out
        rw [HP.out] at h1
        rw [he]
        exact h1.cut hO SP.out HL.out HR.out
      have c1 := CUT.out.sum
      have c2 := CUT.out.as
      have c3 := CUT.out.sm
      have c4 := CUT.out.me
      have c5 := CUT.out.eb
      have ze : (n : Int) - (r : Int) = (e : Int) := by have := HN.out; omega
      clear he
      by_cases hsm : r < m
      · have zsm : (r : Int) < (m : Int) := by omega
        have zde : (mid : Int) < (e : Int) := by omega
        by_cases hme : m < e
        · have zme : (m : Int) < (e : Int) := by omega
          have zrd : (r : Int) < (mid : Int) := by omega
          by_cases has : a < r
          · have zas : (a : Int) < (r : Int) := by omega
            by_cases heb : e < b
            · have zeb : (e : Int) < (b : Int) := by omega
              go_wp2_with fail
              refine (rotate_any g cb blk off cap r m e a b _ d0 d w0 _ R rfl hs S1.out (by omega) (by omega) (by omega) (by omega) (by omega) (by omega)).mono ?_
              rintro _ w1 ⟨rfl, d1, RT, S2'⟩
              have S2 : Aside (SW encF w0 blk off d1 w1) := S2'
              have T : Hid (Turned (ltOf cf) a b mid r e d d1) := Turned.of CUT.out HL.out HR.out RT.perm RT.at'
              have e1 : d1.size = d.size := RT.perm.1
              clear RT S2' S1
              go_wp2_with fail
              refine (IH.out a r mid d1 _ (by omega) e1 S2.out (by omega) (by omega) (by omega) T.out.q1 T.out.q2).mono ?_
              rintro _ w2 ⟨rfl, d2, P2', Q2', S3'⟩
              have S3 : Aside (SW encF w0 blk off d2 w2) := S3'
              have P2 : Hid (PermIn a mid d1 d2) := P2'
              have Q2 : Hid (SortedIn (ltOf cf) a mid d2) := Q2'
              have e2 : d2.size = d.size := P2'.1.trans e1
              clear P2' Q2' S3'
              go_wp2_with fail
              refine (IH.out mid e b d2 _ (by omega) e2 S3.out (by omega) (by omega) (by omega) (runs_right P2.out T.out.q3 (Nat.le_refl _) (Nat.le_refl _)) (runs_right P2.out T.out.q4 (by omega) (Nat.le_refl _))).mono ?_
              rintro _ w3 ⟨rfl, d3, P3', Q3', S4'⟩
              have S4 : Aside (SW encF w0 blk off d3 w3) := S4'
              have P3 : Hid (PermIn mid b d2 d3) := P3'
              have Q3 : Hid (SortedIn (ltOf cf) mid b d3) := Q3'
              clear P3' Q3' S4'
              go_wp2
              go_end0
              have F := T.out.end (by omega) (by omega) hb P2.out Q2.out P3.out Q3.out
              exact ⟨rfl, d3, F.1, F.2, S4.out⟩
            · have zeb : ¬ (e : Int) < (b : Int) := by omega
              go_wp2_with fail
              refine (rotate_any g cb blk off cap r m e a b _ d0 d w0 _ R rfl hs S1.out (by omega) (by omega) (by omega) (by omega) (by omega) (by omega)).mono ?_
              rintro _ w1 ⟨rfl, d1, RT, S2'⟩
              have S2 : Aside (SW encF w0 blk off d1 w1) := S2'
              have T : Hid (Turned (ltOf cf) a b mid r e d d1) := Turned.of CUT.out HL.out HR.out RT.perm RT.at'
              have e1 : d1.size = d.size := RT.perm.1
              clear RT S2' S1
              go_wp2_with fail
              refine (IH.out a r mid d1 _ (by omega) e1 S2.out (by omega) (by omega) (by omega) T.out.q1 T.out.q2).mono ?_
              rintro _ w2 ⟨rfl, d2, P2', Q2', S3'⟩
              have S3 : Aside (SW encF w0 blk off d2 w2) := S3'
              have P2 : Hid (PermIn a mid d1 d2) := P2'
              have Q2 : Hid (SortedIn (ltOf cf) a mid d2) := Q2'
              have e2 : d2.size = d.size := P2'.1.trans e1
              clear P2' Q2' S3'
              have S4 := S3
              have P3 : Hid (PermIn mid b d2 d2) := permIn_refl _ _ _
              have Q3 : Hid (SortedIn (ltOf cf) mid b d2) := by have h := runs_right P2.out T.out.q3 (Nat.le_refl _) (Nat.le_refl e); rwa [show e = b by omega] at h
              go_wp2
              go_end0
              have F := T.out.end (by omega) (by omega) hb P2.out Q2.out P3.out Q3.out
              exact ⟨rfl, d2, F.1, F.2, S4.out⟩
          · have zas : ¬ (a : Int) < (r : Int) := by omega
            by_cases heb : e < b
            · have zeb : (e : Int) < (b : Int) := by omega
              go_wp2_with fail
              refine (rotate_any g cb blk off cap r m e a b _ d0 d w0 _ R rfl hs S1.out (by omega) (by omega) (by omega) (by omega) (by omega) (by omega)).mono ?_
              rintro _ w1 ⟨rfl, d1, RT, S2'⟩
              have S2 : Aside (SW encF w0 blk off d1 w1) := S2'
              have T : Hid (Turned (ltOf cf) a b mid r e d d1) := Turned.of CUT.out HL.out HR.out RT.perm RT.at'
              have e1 : d1.size = d.size := RT.perm.1
              clear RT S2' S1
              have S3 := S2
              have P2 : Hid (PermIn a mid d1 d1) := permIn_refl _ _ _
              have Q2 : Hid (SortedIn (ltOf cf) a mid d1) := by have h := T.out.q2; rwa [show r = a by omega] at h
              go_wp2_with fail
              refine (IH.out mid e b d1 _ (by omega) e1 S3.out (by omega) (by omega) (by omega) (runs_right P2.out T.out.q3 (Nat.le_refl _) (Nat.le_refl _)) (runs_right P2.out T.out.q4 (by omega) (Nat.le_refl _))).mono ?_
              rintro _ w3 ⟨rfl, d3, P3', Q3', S4'⟩
              have S4 : Aside (SW encF w0 blk off d3 w3) := S4'
              have P3 : Hid (PermIn mid b d1 d3) := P3'
              have Q3 : Hid (SortedIn (ltOf cf) mid b d3) := Q3'
              clear P3' Q3' S4'
              go_wp2
              go_end0
              have F := T.out.end (by omega) (by omega) hb P2.out Q2.out P3.out Q3.out
              exact ⟨rfl, d3, F.1, F.2, S4.out⟩
            · have zeb : ¬ (e : Int) < (b : Int) := by omega
              go_wp2_with fail
              refine (rotate_any g cb blk off cap r m e a b _ d0 d w0 _ R rfl hs S1.out (by omega) (by omega) (by omega) (by omega) (by omega) (by omega)).mono ?_
              rintro _ w1 ⟨rfl, d1, RT, S2'⟩
              have S2 : Aside (SW encF w0 blk off d1 w1) := S2'
              have T : Hid (Turned (ltOf cf) a b mid r e d d1) := Turned.of CUT.out HL.out HR.out RT.perm RT.at'
              have e1 : d1.size = d.size := RT.perm.1
              clear RT S2' S1
              have S3 := S2
              have P2 : Hid (PermIn a mid d1 d1) := permIn_refl _ _ _
              have Q2 : Hid (SortedIn (ltOf cf) a mid d1) := by have h := T.out.q2; rwa [show r = a by omega] at h
              have S4 := S3
              have P3 : Hid (PermIn mid b d1 d1) := permIn_refl _ _ _
              have Q3 : Hid (SortedIn (ltOf cf) mid b d1) := by have h := runs_right P2.out T.out.q3 (Nat.le_refl _) (Nat.le_refl e); rwa [show e = b by omega] at h
              go_wp2
              go_end0
              have F := T.out.end (by omega) (by omega) hb P2.out Q2.out P3.out Q3.out
              exact ⟨rfl, d1, F.1, F.2, S4.out⟩
        · have zme : ¬ (m : Int) < (e : Int) := by omega
          have zrd : ¬ (r : Int) < (mid : Int) := by omega
          by_cases has : a < r
          · have zas : (a : Int) < (r : Int) := by omega
            by_cases heb : e < b
            · have zeb : (e : Int) < (b : Int) := by omega
              have S2 := S1
              have T : Hid (Turned (ltOf cf) a b mid r e d d) := Turned.of CUT.out HL.out HR.out (permIn_refl _ _ _) (rot_id (by omega) c3 c4)
              have S3 := S2
              have P2 : Hid (PermIn a mid d d) := permIn_refl _ _ _
              have Q2 : Hid (SortedIn (ltOf cf) a mid d) := by have h := T.out.q1; rwa [show r = mid by omega] at h
              go_wp2_with fail
              refine (IH.out mid e b d _ (by omega) rfl S3.out (by omega) (by omega) (by omega) (runs_right P2.out T.out.q3 (Nat.le_refl _) (Nat.le_refl _)) (runs_right P2.out T.out.q4 (by omega) (Nat.le_refl _))).mono ?_
              rintro _ w3 ⟨rfl, d3, P3', Q3', S4'⟩
              have S4 : Aside (SW encF w0 blk off d3 w3) := S4'
              have P3 : Hid (PermIn mid b d d3) := P3'
              have Q3 : Hid (SortedIn (ltOf cf) mid b d3) := Q3'
              clear P3' Q3' S4'
              go_wp2
              go_end0
              have F := T.out.end (by omega) (by omega) hb P2.out Q2.out P3.out Q3.out
              exact ⟨rfl, d3, F.1, F.2, S4.out⟩
            · have zeb : ¬ (e : Int) < (b : Int) := by omega
              have S2 := S1
              have T : Hid (Turned (ltOf cf) a b mid r e d d) := Turned.of CUT.out HL.out HR.out (permIn_refl _ _ _) (rot_id (by omega) c3 c4)
              have S3 := S2
              have P2 : Hid (PermIn a mid d d) := permIn_refl _ _ _
              have Q2 : Hid (SortedIn (ltOf cf) a mid d) := by have h := T.out.q1; rwa [show r = mid by omega] at h
              have S4 := S3
              have P3 : Hid (PermIn mid b d d) := permIn_refl _ _ _
              have Q3 : Hid (SortedIn (ltOf cf) mid b d) := by have h := runs_right P2.out T.out.q3 (Nat.le_refl _) (Nat.le_refl e); rwa [show e = b by omega] at h
              go_wp2
              go_end0
              have F := T.out.end (by omega) (by omega) hb P2.out Q2.out P3.out Q3.out
              exact ⟨rfl, d, F.1, F.2, S4.out⟩
          · have zas : ¬ (a : Int) < (r : Int) := by omega
            by_cases heb : e < b
            · have zeb : (e : Int) < (b : Int) := by omega
              have S2 := S1
              have T : Hid (Turned (ltOf cf) a b mid r e d d) := Turned.of CUT.out HL.out HR.out (permIn_refl _ _ _) (rot_id (by omega) c3 c4)
              have S3 := S2
              have P2 : Hid (PermIn a mid d d) := permIn_refl _ _ _
              have Q2 : Hid (SortedIn (ltOf cf) a mid d) := by have h := T.out.q2; rwa [show r = a by omega] at h
              go_wp2_with fail
              refine (IH.out mid e b d _ (by omega) rfl S3.out (by omega) (by omega) (by omega) (runs_right P2.out T.out.q3 (Nat.le_refl _) (Nat.le_refl _)) (runs_right P2.out T.out.q4 (by omega) (Nat.le_refl _))).mono ?_
              rintro _ w3 ⟨rfl, d3, P3', Q3', S4'⟩
              have S4 : Aside (SW encF w0 blk off d3 w3) := S4'
              have P3 : Hid (PermIn mid b d d3) := P3'
              have Q3 : Hid (SortedIn (ltOf cf) mid b d3) := Q3'
              clear P3' Q3' S4'
              go_wp2
              go_end0
              have F := T.out.end (by omega) (by omega) hb P2.out Q2.out P3.out Q3.out
              exact ⟨rfl, d3, F.1, F.2, S4.out⟩
            · have zeb : ¬ (e : Int) < (b : Int) := by omega
              have S2 := S1
              have T : Hid (Turned (ltOf cf) a b mid r e d d) := Turned.of CUT.out HL.out HR.out (permIn_refl _ _ _) (rot_id (by omega) c3 c4)
              have S3 := S2
              have P2 : Hid (PermIn a mid d d) := permIn_refl _ _ _
              have Q2 : Hid (SortedIn (ltOf cf) a mid d) := by have h := T.out.q2; rwa [show r = a by omega] at h
              have S4 := S3
              have P3 : Hid (PermIn mid b d d) := permIn_refl _ _ _
              have Q3 : Hid (SortedIn (ltOf cf) mid b d) := by have h := runs_right P2.out T.out.q3 (Nat.le_refl _) (Nat.le_refl e); rwa [show e = b by omega] at h
              go_wp2
              go_end0
              have F := T.out.end (by omega) (by omega) hb P2.out Q2.out P3.out Q3.out
              exact ⟨rfl, d, F.1, F.2, S4.out⟩
      · have zsm : ¬ (r : Int) < (m : Int) := by omega
        have zde : ¬ (mid : Int) < (e : Int) := by omega
        exfalso; omega

end Go.Proofs.Ytmhfbgcfagfmbaa
