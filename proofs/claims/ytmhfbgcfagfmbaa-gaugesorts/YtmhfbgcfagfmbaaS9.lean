/- slices.insertionSortCmpFunc, stableCmpFunc, SortStableFunc at float64. -/
import Derived.Test.YtmhfbgcfagfmbaaShelf
import Derived.Test.YtmhfbgcfagfmbaaS7
import Derived.Test.YtmhfbgcfagfmbaaS8
import Derived.Shelf.SlBodiesF
namespace Go.Proofs.Ytmhfbgcfagfmbaa
open Go.Shelf Go.RowKit Go.Lib Go.Sort

theorem ins_any (g : Nat) (cb : Array Value) (cf : F64 → F64 → Int) (hO : SWO (ltOf cf)) (blk off cap a b len : Nat) (d0 d : Array F64) (w0 w : World) (R : Row1 encF w0 blk off d0) (hlen : d.size = len) (hs : d0.size = d.size) (S : SW encF w0 blk off d w)
    (eg : ∀ args w, (callFunc g args).run Try.prog w = .ok (.enter g args) w) (hcmp : CmpLays1 Try.prog g cb encF cf blk off d0.size w0) (hab : a ≤ b) (hb : b ≤ d.size) (hsz : d.size < 4611686018427387904) :
    Calls Try.prog 82 #[.slice (some ⟨blk, off, none⟩) len cap, .int .i64 a, .int .i64 b, .func (.func g) #[] cb] w (MergePost cf blk off w0 a b d) := by
  subst hlen
  have h := Any.insertionSortCmpFunc_s Try.ins82 encF cf g cb blk off cap a b d0 d w0 w eg hcmp R hs S hab hb hsz
  change Calls Try.prog 82 _ _ _ at h
  have hq := insertionSort_holds (lt := ltOf cf) hO d a b hab hb
  exact h.mono fun _ _ h' => ⟨h'.1, _, hq.1, hq.2, h'.2⟩

set_option maxHeartbeats 8000000 in
set_option maxRecDepth 1000000 in
theorem stable_any (g : Nat) (cb : Array Value) (cf : F64 → F64 → Int) (hO : SWO (ltOf cf)) (blk off cap n : Nat) (d : Array F64) (w : World) (R : Row1 encF w blk off d) (hn : d.size = n) (S : SW encF w blk off d w)
    (eg : ∀ args w, (callFunc g args).run Try.prog w = .ok (.enter g args) w) (hcmp : CmpLays1 Try.prog g cb encF cf blk off d.size w) (hsz : n < 1152921504606846976) :
    Calls Try.prog 79 #[.slice (some ⟨blk, off, none⟩) n cap, .int .i64 n, .func (.func g) #[] cb] w (MergePost cf blk off w 0 n d) := by
  have MA : Hid (∀ N, MergeOK g cb cf blk off cap n w N) := symMerge_all g cb cf hO blk off cap n d w R hn eg hcmp (by omega)
  have HC : Aside _ := hcmp
  have S0 : Aside (SW encF w blk off d w) := S
  have HN : Hid (d.size = n) := hn
  have HR : Aside (Row1 encF w blk off d) := R
  clear S hcmp hn R
  go_enter Try.func79, Try.ntmps79
  go_wp2
  go_loopg [7, 8] n (fun kx s7 s8 wr => ∃ (a b : Nat) (dk : Array F64), s7 = .int .i64 a ∧ s8 = .int .i64 b ∧ a + 20 ≤ b ∧ b ≤ a + 20 ∧ a ≤ n ∧ n - a ≤ kx ∧ Hid (PermIn 0 n d dk ∧ Done (ltOf cf) 20 a dk) ∧ Aside (SW encF w blk off dk wr))
  case atStart => exact ⟨0, 20, d, rfl, rfl, by omega, by omega, by omega, by omega, ⟨permIn_refl _ _ _, Done.zero _ _⟩, S0⟩
  case round =>
    clear S0
    obtain ⟨a, b, dk, rfl, rfl, hb1, hb2, han, hkx, HP, S1⟩ := hrel
    have hdk : Hid (dk.size = n) := HP.out.1.1.trans HN.out
    by_cases hlt : b ≤ n
    · have hltz : (b : Int) ≤ (n : Int) := by omega
      go_wp2_with fail
      refine (ins_any g cb cf hO blk off cap a b n d dk w _ HR.out hdk.out (by rw [hdk.out, HN.out]) S1.out eg HC.out (by omega) (by rw [hdk.out]; omega) (by rw [hdk.out]; omega)).mono ?_
      rintro _ w1 ⟨rfl, d1, P1, Q1, S2'⟩
      have S2 : Aside (SW encF w blk off d1 w1) := S2'
      have HP2 : Hid (PermIn 0 n d d1 ∧ Done (ltOf cf) 20 b d1) := ⟨permIn_trans _ _ _ _ _ HP.out.1 (permIn_mono _ _ _ _ _ _ (Nat.zero_le _) hlt (by rw [hdk.out]; omega) P1), HP.out.2.step (by omega) P1 Q1⟩
      clear P1 Q1 S2' S1 HP hdk
      go_wp2
      go_roundg (n - b)
      case measure => omega
      case rel => exact ⟨b, b + 20, d1, rfl, by go_num, by omega, by omega, hlt, Nat.le_refl _, HP2, S2⟩
    · have hltz : ¬ (b : Int) ≤ (n : Int) := by omega
      go_wp2_with fail
      refine (ins_any g cb cf hO blk off cap a n n d dk w _ HR.out hdk.out (by rw [hdk.out, HN.out]) S1.out eg HC.out (by omega) (by rw [hdk.out]; omega) (by rw [hdk.out]; omega)).mono ?_
      rintro _ w1 ⟨rfl, d1, P1, Q1, S2'⟩
      have S2 : Aside (SW encF w blk off d1 w1) := S2'
      have HP2 : Hid (PermIn 0 n d d1 ∧ AllB (ltOf cf) 20 n d1) := ⟨permIn_trans _ _ _ _ _ HP.out.1 (permIn_mono _ _ _ _ _ _ (Nat.zero_le _) (Nat.le_refl _) (by rw [hdk.out]; omega) P1), HP.out.2.all (by omega) P1 Q1⟩
      clear P1 Q1 S2' S1 HP hdk hkx hltz hlt hb1 hb2 han
      go_wp2_with fail
      go_loopg [6] n (fun kx s6 wr => ∃ (bs : Nat) (dk : Array F64), s6 = .int .i64 bs ∧ 20 ≤ bs ∧ bs ≤ 2 * n + 20 ∧ n - bs ≤ kx ∧ Hid (PermIn 0 n d dk ∧ AllB (ltOf cf) bs n dk) ∧ Aside (SW encF w blk off dk wr))
      case atStart => exact ⟨20, d1, rfl, by omega, by omega, by omega, HP2, S2⟩
      case round =>
        clear S2 HP2
        obtain ⟨bs, dk2, rfl, hbs, hbs2, hkx, HP, S1⟩ := hrel
        by_cases hlt : bs < n
        · have hltz : (bs : Int) < (n : Int) := by omega
          obtain ⟨b2, hb2⟩ : ∃ q, q = 2 * bs := ⟨_, rfl⟩
          have zb2 : 2 * (bs : Int) = (b2 : Int) := by omega
          have zb3 : (bs : Int) * 2 = (b2 : Int) := by omega
          have hb2a : 2 * bs ≤ b2 := by omega
          have hb2b : b2 ≤ 2 * bs := by omega
          have HB2 : Hid (b2 = 2 * bs) := hb2
          clear hb2
          go_wp2_with fail
          go_loopg [7, 8] n (fun kx s7 s8 wr => ∃ (a b : Nat) (dk : Array F64), s7 = .int .i64 a ∧ s8 = .int .i64 b ∧ a + b2 ≤ b ∧ b ≤ a + b2 ∧ a ≤ n ∧ n - a ≤ kx ∧ Hid (PermIn 0 n d dk ∧ Done (ltOf cf) b2 a dk ∧ Rest (ltOf cf) bs a n dk) ∧ Aside (SW encF w blk off dk wr))
          case atStart => exact ⟨0, b2, dk2, rfl, by first | rfl | go_num, by omega, by omega, by omega, by omega, ⟨HP.out.1, Done.zero _ _, HP.out.2.rest⟩, S1⟩
          case round =>
            clear S1 HP
            obtain ⟨a', b', dk3, rfl, rfl, hb1, hb2, han, hkx3, HP, S1⟩ := hrel
            have hdk : Hid (dk3.size = n) := HP.out.1.1.trans HN.out
            obtain ⟨mm, hmm⟩ : ∃ q, q = a' + bs := ⟨_, rfl⟩
            have zmm : (a' : Int) + (bs : Int) = (mm : Int) := by omega
            have hm1 : a' + bs ≤ mm := by omega
            have hm2 : mm ≤ a' + bs := by omega
            have HMM : Hid (mm = a' + bs) := hmm
            clear hmm
            by_cases hle : b' ≤ n
            · have hlez : (b' : Int) ≤ (n : Int) := by omega
              have hL : Hid (SortedIn (ltOf cf) a' mm dk3) := by have h := HP.out.2.2.left; rw [HMM.out]; rwa [Nat.min_eq_left (by omega)] at h
              have hR : Hid (SortedIn (ltOf cf) mm b' dk3) := by have h := HP.out.2.2.right; rw [HMM.out, show b' = a' + bs + bs by omega]; rwa [Nat.min_eq_left (by omega)] at h
              go_wp2_with fail
              refine (MA.out (b' - a' + 1) a' mm b' dk3 _ (by omega) hdk.out S1.out (by omega) (by omega) hle hL.out hR.out).mono ?_
              rintro _ w1 ⟨rfl, d4, P1, Q1, S2'⟩
              have S2 : Aside (SW encF w blk off d4 w1) := S2'
              have HP2 : Hid (PermIn 0 n d d4 ∧ Done (ltOf cf) b2 b' d4 ∧ Rest (ltOf cf) bs b' n d4) := ⟨permIn_trans _ _ _ _ _ HP.out.1 (permIn_mono _ _ _ _ _ _ (Nat.zero_le _) hle (by rw [hdk.out]; omega) P1), HP.out.2.1.step (by omega) P1 Q1, HP.out.2.2.step (by omega) P1⟩
              clear P1 Q1 S2' S1 HP hdk hL hR
              go_wp2
              go_roundg (n - b')
              case measure => omega
              case rel => exact ⟨b', b' + b2, d4, rfl, by go_num, by omega, by omega, hle, Nat.le_refl _, HP2, S2⟩
            · have hlez : ¬ (b' : Int) ≤ (n : Int) := by omega
              by_cases hmn : mm < n
              · have hmz : (mm : Int) < (n : Int) := by omega
                have hL : Hid (SortedIn (ltOf cf) a' mm dk3) := by have h := HP.out.2.2.left; rw [HMM.out]; rwa [Nat.min_eq_left (by omega)] at h
                have hR : Hid (SortedIn (ltOf cf) mm n dk3) := by have h := HP.out.2.2.right; rw [HMM.out]; rwa [Nat.min_eq_right (by omega)] at h
                go_wp2_with fail
                refine (MA.out (n - a' + 1) a' mm n dk3 _ (by omega) hdk.out S1.out (by omega) (by omega) (Nat.le_refl _) hL.out hR.out).mono ?_
                rintro _ w1 ⟨rfl, d4, P1, Q1, S2'⟩
                have S2 : Aside (SW encF w blk off d4 w1) := S2'
                have HP2 : Hid (PermIn 0 n d d4 ∧ AllB (ltOf cf) b2 n d4) := ⟨permIn_trans _ _ _ _ _ HP.out.1 (permIn_mono _ _ _ _ _ _ (Nat.zero_le _) (Nat.le_refl _) (by rw [hdk.out]; omega) P1), HP.out.2.1.all (by omega) P1 Q1⟩
                clear P1 Q1 S2' S1 HP hdk hL hR
                go_wp2
                go_roundg (n - b2)
                case measure => omega
                case rel => exact ⟨b2, d4, by first | rfl | go_num, by omega, by omega, Nat.le_refl _, HP2, S2⟩
              · have hmz : ¬ (mm : Int) < (n : Int) := by omega
                have HP2 : Hid (PermIn 0 n d dk3 ∧ AllB (ltOf cf) b2 n dk3) := ⟨HP.out.1, HP.out.2.1.all (by omega) (permIn_refl _ _ _) (by have h := HP.out.2.2.left; rwa [Nat.min_eq_right (by omega)] at h)⟩
                clear HP hdk
                go_wp2
                go_roundg (n - b2)
                case measure => omega
                case rel => exact ⟨b2, dk3, by first | rfl | go_num, by omega, by omega, Nat.le_refl _, HP2, S1⟩
        · have hltz : ¬ (bs : Int) < (n : Int) := by omega
          go_wp2
          go_end0
          exact ⟨rfl, dk2, HP.out.1, HP.out.2.end (by omega), S1.out⟩

end Go.Proofs.Ytmhfbgcfagfmbaa
