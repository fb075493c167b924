/- Contracts: the reference's reader: Num, Text; the number of eight bytes. -/
import Derived.Test.YtnjpijihjifkfaaOE
namespace Go.Proofs.Ytnjpijihjifkfaa
open Go.RowKit
theorem rn_bad (s : ByteArray) (n : Int) (w : World) (h : n < 1 ∨ 8 < n) :
    Calls Try.prog 35 #[.agg #[.string s, .int .i64 0], .int .i64 n] w (RReads w ByteArray.empty 18 (.int .u64 0)) := by
  by_cases h1 : n < 1
  · clear h
    go_enter Try.func35, Try.ntmps35
    go_wp2_with fail
    refine (bad_any _ _).mono ?_
    rintro e w1 ⟨rfl, hb⟩
    have hR := (Rd.two w _ _ _ _).below hb
    have hR2 := (hR.set0 ByteArray.empty).set1 18
    obtain ⟨c0, c1, f0, f1⟩ := hR
    go_wp2
    refine bodyPost_ret (results_rd Try.results35 _ _ _ _ _ _ hR2 rfl rfl) rfl ⟨rfl, ?_⟩
    exact (((below_two_to hb).setCell (by simp) _).setCell (by simp) _)
  · have h2 : 8 < n := by omega
    clear h
    go_enter Try.func35, Try.ntmps35
    go_wp2_with fail
    refine (bad_any _ _).mono ?_
    rintro e w1 ⟨rfl, hb⟩
    have hR := (Rd.two w _ _ _ _).below hb
    have hR2 := (hR.set0 ByteArray.empty).set1 18
    obtain ⟨c0, c1, f0, f1⟩ := hR
    go_wp2
    refine bodyPost_ret (results_rd Try.results35 _ _ _ _ _ _ hR2 rfl rfl) rfl ⟨rfl, ?_⟩
    exact (((below_two_to hb).setCell (by simp) _).setCell (by simp) _)
set_option maxHeartbeats 1000000 in
theorem rn_good (s : ByteArray) (n : Int) (h1 : 1 ≤ n) (h2 : n ≤ 8) (t : ByteArray) (y : Int) (o : ByteArray) (w : World) (ho : o.size ≤ 8)
    (HR : ∀ w', Calls Try.prog 63 #[.agg #[.string s, .int .i64 0], .int .i64 n] w' (RReads w' t y (.string o))) :
    Calls Try.prog 35 #[.agg #[.string s, .int .i64 0], .int .i64 n] w (RReads w t y (.int .u64 (ofL o.data.toList : Nat))) := by
  have HR := Lib.hid HR
  rename Hid _ => HR
  go_enter Try.func35, Try.ntmps35
  go_wp2_with fail
  refine (HR.out _).mono ?_
  rintro x w1 ⟨rfl, hb⟩
  have hR1 := (Rd.one w _ _ _ _).below hb
  have hR2 := (Rd.two w _ _ _ _).below hb
  have B1 := below_two_to hb
  have hsz : w.heap.size + 1 < w1.heap.size := hR2.lt
  clear hb
  obtain ⟨c0, c1, f0, f1⟩ := hR1
  have hR3 := (Rd.set0 ⟨c0, c1, f0, f1⟩ t).set1 y
  have hR4 := (hR2.only ((Only.refl w.heap.size w1).setCell (o := 0) (.string t)) (by omega)).only ((Only.refl w.heap.size _).setCell (o := 1) (.int .i64 y)) (by omega)
  have B2 : Below w.heap.size w ((w1.setCell ⟨w.heap.size, 0, none⟩ (.string t)).setCell ⟨w.heap.size, 1, none⟩ (.int .i64 y)) := (B1.setCell (Nat.le_refl _) _).setCell (Nat.le_refl _) _
  go_wp2
  clear c0 c1 f0 f1 hR2 B1 hsz
  generalize ((w1.setCell ⟨w.heap.size, 0, none⟩ (.string t)).setCell ⟨w.heap.size, 1, none⟩ (.int .i64 y)) = w2 at hR3 hR4 B2 ⊢
  go_loop [7, 8] (fun t i => ∃ k v : Nat, k ≤ o.size ∧ Hid (v = ofL (o.data.toList.take k)) ∧ i = .int .i64 k ∧ t = .int .u64 (v : Int)) (fun _ i => o.size - (intOf i).toNat)
  case atStart => exact ⟨0, 0, by omega, Lib.hid rfl, rfl, rfl⟩
  case round =>
    obtain ⟨k, v, hk, HV, rfl, rfl⟩ := hrel
    by_cases hlt : k < o.size
    · have hv : v < 72057594037927936 := by
        have h1 := ofL_lt (o.data.toList.take k)
        have h2 := pow_le k (by omega)
        have h3 : (o.data.toList.take k).length = k := by simp; omega
        rw [h3] at h1
        rw [HV.out]; omega
      have hts := Lib.hid (take_snoc8 o k hlt)
      have hcl : o[k].toNat < 256 := o[k].toNat_lt
      go_wp2
      go_round
      case rel => exact ⟨k + 1, 256 * v + o[k].toNat, by omega, Lib.hid (by rw [hts.out, ofL_snoc, ← HV.out]), by go_num, by go_num⟩
      case measure => simp [intOf]; omega
    · have ht := Lib.hid (List.take_of_length_le (l := o.data.toList) (i := k) (by simp; omega))
      have hR5 := (hR4.set0 t).set1 y
      have c0 := hR3.c0
      have c1 := hR3.c1
      have d0 := hR4.c0
      have d1 := hR4.c1
      have g0 := hR4.f0
      have g1 := hR4.f1
      have hlt4 := hR4.lt
      go_wp2
      refine bodyPost_ret (results_rd Try.results35 _ _ _ _ _ _ hR5 rfl rfl) rfl ⟨?_, ?_⟩
      · show Ending.returned (.tuple #[_, .int .u64 (v : Int)]) = _
        rw [HV.out, ht.out]
      · exact (B2.setCell (by simp) _).setCell (by simp) _
set_option maxHeartbeats 1000000 in
theorem rn_failed (s : ByteArray) (e n : Int) (he : (e == 0) = false) (t : ByteArray) (y : Int) (o : ByteArray) (w : World) (ho : o.size ≤ 8)
    (HR : ∀ w', Calls Try.prog 63 #[.agg #[.string s, .int .i64 e], .int .i64 n] w' (RReads w' t y (.string o))) :
    Calls Try.prog 35 #[.agg #[.string s, .int .i64 e], .int .i64 n] w (RReads w t y (.int .u64 (ofL o.data.toList : Nat))) := by
  have HR := Lib.hid HR
  rename Hid _ => HR
  go_enter Try.func35, Try.ntmps35
  go_wp2_with fail
  refine (HR.out _).mono ?_
  rintro x w1 ⟨rfl, hb⟩
  have hR1 := (Rd.one w _ _ _ _).below hb
  have hR2 := (Rd.two w _ _ _ _).below hb
  have B1 := below_two_to hb
  have hsz : w.heap.size + 1 < w1.heap.size := hR2.lt
  clear hb
  obtain ⟨c0, c1, f0, f1⟩ := hR1
  have hR3 := (Rd.set0 ⟨c0, c1, f0, f1⟩ t).set1 y
  have hR4 := (hR2.only ((Only.refl w.heap.size w1).setCell (o := 0) (.string t)) (by omega)).only ((Only.refl w.heap.size _).setCell (o := 1) (.int .i64 y)) (by omega)
  have B2 : Below w.heap.size w ((w1.setCell ⟨w.heap.size, 0, none⟩ (.string t)).setCell ⟨w.heap.size, 1, none⟩ (.int .i64 y)) := (B1.setCell (Nat.le_refl _) _).setCell (Nat.le_refl _) _
  go_wp2
  clear c0 c1 f0 f1 hR2 B1 hsz
  generalize ((w1.setCell ⟨w.heap.size, 0, none⟩ (.string t)).setCell ⟨w.heap.size, 1, none⟩ (.int .i64 y)) = w2 at hR3 hR4 B2 ⊢
  go_loop [7, 8] (fun t i => ∃ k v : Nat, k ≤ o.size ∧ Hid (v = ofL (o.data.toList.take k)) ∧ i = .int .i64 k ∧ t = .int .u64 (v : Int)) (fun _ i => o.size - (intOf i).toNat)
  case atStart => exact ⟨0, 0, by omega, Lib.hid rfl, rfl, rfl⟩
  case round =>
    obtain ⟨k, v, hk, HV, rfl, rfl⟩ := hrel
    by_cases hlt : k < o.size
    · have hv : v < 72057594037927936 := by
        have h1 := ofL_lt (o.data.toList.take k)
        have h2 := pow_le k (by omega)
        have h3 : (o.data.toList.take k).length = k := by simp; omega
        rw [h3] at h1
        rw [HV.out]; omega
      have hts := Lib.hid (take_snoc8 o k hlt)
      have hcl : o[k].toNat < 256 := o[k].toNat_lt
      go_wp2
      go_round
      case rel => exact ⟨k + 1, 256 * v + o[k].toNat, by omega, Lib.hid (by rw [hts.out, ofL_snoc, ← HV.out]), by go_num, by go_num⟩
      case measure => simp [intOf]; omega
    · have ht := Lib.hid (List.take_of_length_le (l := o.data.toList) (i := k) (by simp; omega))
      have hR5 := (hR4.set0 t).set1 y
      have c0 := hR3.c0
      have c1 := hR3.c1
      have d0 := hR4.c0
      have d1 := hR4.c1
      have g0 := hR4.f0
      have g1 := hR4.f1
      have hlt4 := hR4.lt
      go_wp2
      refine bodyPost_ret (results_rd Try.results35 _ _ _ _ _ _ hR5 rfl rfl) rfl ⟨?_, ?_⟩
      · show Ending.returned (.tuple #[_, .int .u64 (v : Int)]) = _
        rw [HV.out, ht.out]
      · exact (B2.setCell (by simp) _).setCell (by simp) _

theorem rn_any (n : Int) (s : ByteArray) (e : Int) (w : World) (hs : s.size ≤ maxLen) :
    Calls Try.prog 35 #[.agg #[.string s, .int .i64 e], .int .i64 n] w (RReads w (numS s e n).1 (numS s e n).2.1 (.int .u64 ((numS s e n).2.2 : Nat))) := by
  by_cases he : e = 0
  · subst he
    by_cases h : n < 1 ∨ 8 < n
    · rw [numS_bad h]; exact rn_bad s n w h
    · obtain ⟨m, rfl⟩ := Int.eq_ofNat_of_zero_le (show 0 ≤ n by omega)
      rw [numS_good (by omega) (by omega)]
      exact rn_good s m (by omega) (by omega) _ _ _ w (Nat.le_trans (rawS_out s 0 m) (by omega)) (fun w' => rraw_any m s 0 w' hs)
  · rw [numS_failed he]
    exact rn_failed s e n (by simp [he]) s e ByteArray.empty w (by decide) (fun w' => by have := rraw_any n s e w' hs; rwa [rawS_failed he] at this)
end Go.Proofs.Ytnjpijihjifkfaa
