/- Contract: Join of two branches. -/
import Derived.Test.YtnjpijihjifkfaaTL
namespace Go.Proofs.Ytnjpijihjifkfaa
open Go.RowKit
set_option linter.unusedVariables false
set_option linter.unusedSimpArgs false
section
variable {w : World} {a a2 : Option Addr} {n c n2 c2 : Nat} {ka ka2 : Option Addr} {kn kc kn2 kc2 : Nat} {I I2 : List It} {K K2 : List Int}
set_option maxRecDepth 100000 in
set_option maxHeartbeats 1000000 in
theorem joinBranch_any (hI : Its w a n I) (hJ : Its w a2 n2 I2) (hK : Kds w ka kn K) (hL : Kds w ka2 kn2 K2) (key : ByteArray) (h : (kn == 0) = false) (h2 : (kn2 == 0) = false) (hn : n ≤ 2000) (hn2 : n2 ≤ 2000) (hkn : kn ≤ 2000) (hkn2 : kn2 ≤ 2000) (LL : List It) (hLL : [I, [(key, ByteArray.empty)], I2].flatten = LL) (hS : Short LL) (ML : List Int) (hML : [K, K2].flatten = ML) :
    Calls Try.prog 24 #[.agg #[.slice a n c, .slice ka kn kc], .string key, .agg #[.slice a2 n2 c2, .slice ka2 kn2 kc2]] w (JoinRet w LL ML) := by
  have N0 := ((Nd.new w a n c ka kn kc 31).below (new_below _ (.cells #[.slice a2 n2 c2, .slice ka2 kn2 kc2] 31))).below (new_below _ (.cells #[.slice none 0 0, .slice none 0 0] 31))
  have N1 := (Nd.new (w.alloc (.cells #[.slice a n c, .slice ka kn kc] 31)) a2 n2 c2 ka2 kn2 kc2 31).below (new_below _ (.cells #[.slice none 0 0, .slice none 0 0] 31))
  have N2 := Nb.fresh ((w.alloc (.cells #[.slice a n c, .slice ka kn kc] 31)).alloc (.cells #[.slice a2 n2 c2, .slice ka2 kn2 kc2] 31)) (.slice none 0 0) (.slice none 0 0) 31
  have hs1 : (w.alloc (.cells #[.slice a n c, .slice ka kn kc] 31)).heap.size = w.heap.size + 1 := by simp
  have hs2 : ((w.alloc (.cells #[.slice a n c, .slice ka kn kc] 31)).alloc (.cells #[.slice a2 n2 c2, .slice ka2 kn2 kc2] 31)).heap.size = w.heap.size + 1 + 1 := by simp
  rw [hs1] at N1
  rw [hs2] at N2
  have hBB := below_to (below_to (new_below w (.cells #[.slice a n c, .slice ka kn kc] 31)) (new_below _ (.cells #[.slice a2 n2 c2, .slice ka2 kn2 kc2] 31))) (new_below _ (.cells #[.slice none 0 0, .slice none 0 0] 31))
  have KA := Lib.hid (fun w => isLeaf_any a n c ka kn kc false h w)
  have KB := Lib.hid (fun w => isLeaf_any a2 n2 c2 ka2 kn2 kc2 false h2 w)
  have hlen : LL.length = n + 1 + n2 := by rw [← hLL]; simp [hI.1, hJ.1]; omega
  have hlem : ML.length = kn + kn2 := by rw [← hML]; simp [hK.1, hL.1]
  have hti : totI [I, [(key, ByteArray.empty)], I2] ≤ 10000 := by unfold totI; simp [hI.1, hJ.1]; omega
  have htk : totK [K, K2] ≤ 10000 := by unfold totK; simp [hK.1, hL.1]; omega
  obtain ⟨NN, hNN⟩ : ∃ x, LL.length = x := ⟨_, rfl⟩
  obtain ⟨MM, hMM⟩ : ∃ x, ML.length = x := ⟨_, rfl⟩
  have KCI := Lib.hid (fun (A : List (Option Addr × Nat × Nat)) (hA : A.length = 3) (wx : World) (B : Nat) (hL : LstI wx B A [I, [(key, ByteArray.empty)], I2]) => concatI_any B 3 3 A _ wx hL hA (by omega) hti)
  have KCK := Lib.hid (fun (A : List (Option Addr × Nat × Nat)) (hA : A.length = 2) (wx : World) (B : Nat) (hL : LstK wx B A [K, K2]) => concatK_any B 2 2 A _ wx hL hA (by omega) htk)
  unfold ItRet at KCI
  unfold KdRet at KCK
  rw [hLL] at KCI
  rw [hML] at KCK
  rw [hNN] at KCI
  rw [hMM] at KCK
  rw [hNN] at hlen
  rw [hMM] at hlem
  have KCh := Lib.hid (fun (wx : World) (a c ka kc) (h1 : Its wx a NN LL) (h2 : Kds wx ka MM ML) => check_any (c := c) (kc := kc) h1 h2 (by omega) (by omega) hS _ rfl)
  have HIw := Lib.hid hI
  have HJw := Lib.hid hJ
  have HKw := Lib.hid hK
  have HLw := Lib.hid hL
  have HFL := Lib.hid hLL
  have HFM := Lib.hid hML
  clear hs1 hs2 h h2 hI hJ hK hL hlen hlem hti htk hNN hMM hS hLL hML
  go_enter Try.func24, Try.ntmps24
  go_wp2_with fail
  generalize ((w.alloc (.cells #[.slice a n c, .slice ka kn kc] 31)).alloc (.cells #[.slice a2 n2 c2, .slice ka2 kn2 kc2] 31)).alloc (.cells #[.slice none 0 0, .slice none 0 0] 31) = w1 at N0 N1 N2 hBB ⊢
  refine wp_region_inv0 (Inv1 w1 (.agg #[.slice a n c, .slice ka kn kc]) (.agg #[.slice a2 n2 c2, .slice ka2 kn2 kc2]) false) (by kernel_rfl) (by decide) ?_ ?_ ?_
  · exact ⟨_, _, _, _, _, rfl, (Below.refl w1.heap.size w1).drew, (by intro h; cases h), (by intro h; cases h), (by intro h; cases h), (by intro h; cases h), (by intro h; cases h)⟩
  · refine AllI.cons ?_ (AllI.cons ?_ (AllI.cons ?_ (AllI.cons ?_ (AllI.cons ?_ AllI.nil))))
    · rintro D aa wx ⟨x10, x11, x12, x13, x14, rfl, hB, f0, f1, f2, f3, f4⟩ hD hdep KK hKK
      have c0 := (N0.below hB).c0
      have c1 := (N0.below hB).c1
      simp only [Act.put, List.cons_append, List.nil_append, List.setIfInBounds_toArray, List.set_cons_zero, List.set_cons_succ]
      go_simp
      exact hKK _ _ ⟨_, _, _, _, _, rfl, hB, fun _ => rfl, (by first | exact f1 | exact fun _ => rfl), (by first | exact f2 | exact fun _ => rfl), (by first | exact f3 | exact fun _ => rfl), (by first | exact f4 | exact fun _ => rfl)⟩
    · rintro D aa wx ⟨x10, x11, x12, x13, x14, rfl, hB, f0, f1, f2, f3, f4⟩ hD hdep KK hKK
      simp [Region.binds] at hdep
      have e0 := f0 (by simp [*])
      subst e0
      simp only [Act.put, List.cons_append, List.nil_append, List.setIfInBounds_toArray, List.set_cons_zero, List.set_cons_succ]
      go_simp
      refine (KA.out _).mono ?_
      rintro e w2 ⟨rfl, hb⟩
      exact hKK _ _ ⟨_, _, _, _, _, rfl, below_to hB hb, (by first | exact f0 | exact fun _ => rfl), fun _ => rfl, (by first | exact f2 | exact fun _ => rfl), (by first | exact f3 | exact fun _ => rfl), (by first | exact f4 | exact fun _ => rfl)⟩
    · rintro D aa wx ⟨x10, x11, x12, x13, x14, rfl, hB, f0, f1, f2, f3, f4⟩ hD hdep KK hKK
      have c0 := (N1.below hB).c0
      have c1 := (N1.below hB).c1
      simp only [Act.put, List.cons_append, List.nil_append, List.setIfInBounds_toArray, List.set_cons_zero, List.set_cons_succ]
      go_simp
      exact hKK _ _ ⟨_, _, _, _, _, rfl, hB, (by first | exact f0 | exact fun _ => rfl), (by first | exact f1 | exact fun _ => rfl), fun _ => rfl, (by first | exact f3 | exact fun _ => rfl), (by first | exact f4 | exact fun _ => rfl)⟩
    · rintro D aa wx ⟨x10, x11, x12, x13, x14, rfl, hB, f0, f1, f2, f3, f4⟩ hD hdep KK hKK
      simp [Region.binds] at hdep
      have e2 := f2 (by simp [*])
      subst e2
      simp only [Act.put, List.cons_append, List.nil_append, List.setIfInBounds_toArray, List.set_cons_zero, List.set_cons_succ]
      go_simp
      refine (KB.out _).mono ?_
      rintro e w2 ⟨rfl, hb⟩
      exact hKK _ _ ⟨_, _, _, _, _, rfl, below_to hB hb, (by first | exact f0 | exact fun _ => rfl), (by first | exact f1 | exact fun _ => rfl), (by first | exact f2 | exact fun _ => rfl), fun _ => rfl, (by first | exact f4 | exact fun _ => rfl)⟩
    · rintro D aa wx ⟨x10, x11, x12, x13, x14, rfl, hB, f0, f1, f2, f3, f4⟩ hD hdep KK hKK
      simp [Region.binds] at hdep
      have e1 := f1 (by simp [*])
      have e3 := f3 (by simp [*])
      subst e1
      subst e3
      simp only [Act.put, List.cons_append, List.nil_append, List.setIfInBounds_toArray, List.set_cons_zero, List.set_cons_succ]
      go_simp
      exact hKK _ _ ⟨_, _, _, _, _, rfl, hB, (by first | exact f0 | exact fun _ => rfl), (by first | exact f1 | exact fun _ => rfl), (by first | exact f2 | exact fun _ => rfl), (by first | exact f3 | exact fun _ => rfl), fun _ => rfl⟩
  rintro D aa w2 ⟨x10, x11, x12, x13, x14, rfl, hB, f0, f1, f2, f3, f4⟩ hall
  have e4 := f4 (hall 4 (by simp))
  subst e4
  simp only [Act.put, List.setIfInBounds_toArray, List.set_cons_zero, List.set_cons_succ]
  clear f0 f1 f2 f3 f4 hall
  replace N0 := N0.below hB
  replace N1 := N1.below hB
  replace N2 := N2.below hB
  replace hBB := below_to hBB hB
  clear hB
  have c0 := N0.c0
  have c1 := N0.c1
  go_wp2_with fail
  refine (KA.out _).mono ?_
  rintro e w3 ⟨rfl, hb⟩
  replace N0 := N0.below hb
  replace N1 := N1.below hb
  replace N2 := N2.below hb
  replace hBB := below_to hBB hb
  clear hb c0 c1
  go_wp2_with fail
  have hb := new_below w3 (.cells #[.string key, .string { data := #[] }] 44)
  have HBt : Its (w3.alloc (.cells #[.string key, .string { data := #[] }] 44)) (some ⟨w3.heap.size, 0, none⟩) 1 [(key, ByteArray.empty)] := by
    refine ⟨rfl, .inr ⟨_, 0, rfl, by simp, fun j hj => ?_⟩⟩
    obtain rfl : j = 0 := by omega
    exact ⟨by simp [go_sem, kq], by simp [go_sem, vq]; try rfl⟩
  replace N0 := N0.below hb
  replace N1 := N1.below hb
  replace N2 := N2.below hb
  replace hBB := below_to hBB hb
  clear hb
  generalize w3.alloc (.cells #[.string key, .string { data := #[] }] 44) = wy at N0 N1 N2 hBB HBt ⊢
  generalize w3.heap.size = g0 at HBt ⊢
  have HIt := Lib.hid (HIw.out.below hBB)
  have HIu := Lib.hid (HJw.out.below hBB)
  have HKt := Lib.hid (HKw.out.below hBB)
  have HKu := Lib.hid (HLw.out.below hBB)
  have KCI2 := Lib.hid (KCI.out [(a, n, c), (some ⟨g0, 0, none⟩, 1, 1), (a2, n2, c2)] rfl)
  have KCK2 := Lib.hid (KCK.out [(ka, kn, kc), (ka2, kn2, kc2)] rfl)
  refine wp_region_inv (Inv6 wy w.heap.size (w.heap.size + 1) NN MM (.slice a n c) (.slice (some ⟨g0, 0, none⟩) 1 1) (.slice a2 n2 c2) (.slice ka kn kc) (.slice ka2 kn2 kc2) [(a, n, c), (some ⟨g0, 0, none⟩, 1, 1), (a2, n2, c2)] [(ka, kn, kc), (ka2, kn2, kc2)] [I, [(key, ByteArray.empty)], I2] [K, K2] LL ML [.agg #[.slice a n c, .slice ka kn kc], .string key, .agg #[.slice a2 n2 c2, .slice ka2 kn2 kc2], .pointer (some ⟨w.heap.size, 0, none⟩), undef, .pointer (some ⟨w.heap.size + 1, 0, none⟩), .pointer (some ⟨w.heap.size + 1 + 1, 0, none⟩), .bool false, .slice (some ⟨g0, 0, none⟩) 1 1] [x10, x11, x12, x13, .bool false, undef, .agg #[.slice a n c, .slice ka kn kc], .bool false, .bool true, .string key, .agg #[.string key, .string ByteArray.empty], .slice (some ⟨g0, 0, none⟩) 1 1] [undef, undef, undef, undef, undef]) (by kernel_rfl) (by decide) ?_ ?_ ?_
  · exact ⟨_, _, _, _, _, _, _, _, _, _, _, _, _, _, _, rfl, (Below.refl wy.heap.size wy).drew, (by intro h; cases h), fun _ => ⟨(by intro h; cases h), (by intro h; cases h), (by intro h; cases h), (by intro h; cases h), (by intro h; cases h), (by intro h; cases h), (by intro h; cases h), (by intro h; cases h), (by intro h; cases h), (by intro h; cases h), (by intro h; cases h), (by intro h; cases h), (by intro h; cases h), (by intro h; cases h), (by intro h; cases h)⟩, (by intro h; cases h)⟩
  · refine AllI.cons ?_ (AllI.cons ?_ (AllI.cons ?_ (AllI.cons ?_ (AllI.cons ?_ (AllI.cons ?_ (AllI.cons ?_ (AllI.cons ?_ (AllI.cons ?_ (AllI.cons ?_ (AllI.cons ?_ (AllI.cons ?_ (AllI.cons ?_ (AllI.cons ?_ (AllI.cons ?_ (AllI.cons ?_ AllI.nil)))))))))))))))
    · rintro D aa wx ⟨x22, x23, x24, x25, x26, x27, x28, x29, x30, x31, x32, x33, x34, x35, x9, rfl, hB, hall, hfs, hfin⟩ hD hdep KK hKK
      have hd := d15 hall (show 0 < 15 by omega) hD
      obtain ⟨f0, f1, f2, f3, f4, f5, f6, f7, f8, f9, f10, f11, f12, f13, f14⟩ := hfs hd
      simp only [Act.put, List.cons_append, List.nil_append, List.setIfInBounds_toArray, List.set_cons_zero, List.set_cons_succ]
      go_simp
      exact hKK _ _ ⟨_, _, _, _, _, _, _, _, _, _, _, _, _, _, _, rfl, hB, no15 (D := D) hd, fun _ => ⟨fun _ => rfl, (by first | exact f1 | exact fun _ => rfl), (by first | exact f2 | exact fun _ => rfl), (by first | exact f3 | exact fun _ => rfl), (by first | exact f4 | exact fun _ => rfl), (by first | exact f5 | exact fun _ => rfl), (by first | exact f6 | exact fun _ => rfl), (by first | exact f7 | exact fun _ => rfl), (by first | exact f8 | exact fun _ => rfl), (by first | exact f9 | exact fun _ => rfl), (by first | exact f10 | exact fun _ => rfl), (by first | exact f11 | exact fun _ => rfl), (by first | exact f12 | exact fun _ => rfl), (by first | exact f13 | exact fun _ => rfl), (by first | exact f14 | exact fun _ => rfl)⟩, no15 (D := D) hd⟩
    · rintro D aa wx ⟨x22, x23, x24, x25, x26, x27, x28, x29, x30, x31, x32, x33, x34, x35, x9, rfl, hB, hall, hfs, hfin⟩ hD hdep KK hKK
      have hd := d15 hall (show 1 < 15 by omega) hD
      obtain ⟨f0, f1, f2, f3, f4, f5, f6, f7, f8, f9, f10, f11, f12, f13, f14⟩ := hfs hd
      simp [Region.binds] at hdep
      have e0 := f0 (by simp [*])
      subst e0
      have c0 := (N0.below hB).c0
      simp only [Act.put, List.cons_append, List.nil_append, List.setIfInBounds_toArray, List.set_cons_zero, List.set_cons_succ]
      go_simp
      exact hKK _ _ ⟨_, _, _, _, _, _, _, _, _, _, _, _, _, _, _, rfl, hB, no15 (D := D) hd, fun _ => ⟨(by first | exact f0 | exact fun _ => rfl), fun _ => rfl, (by first | exact f2 | exact fun _ => rfl), (by first | exact f3 | exact fun _ => rfl), (by first | exact f4 | exact fun _ => rfl), (by first | exact f5 | exact fun _ => rfl), (by first | exact f6 | exact fun _ => rfl), (by first | exact f7 | exact fun _ => rfl), (by first | exact f8 | exact fun _ => rfl), (by first | exact f9 | exact fun _ => rfl), (by first | exact f10 | exact fun _ => rfl), (by first | exact f11 | exact fun _ => rfl), (by first | exact f12 | exact fun _ => rfl), (by first | exact f13 | exact fun _ => rfl), (by first | exact f14 | exact fun _ => rfl)⟩, no15 (D := D) hd⟩
    · rintro D aa wx ⟨x22, x23, x24, x25, x26, x27, x28, x29, x30, x31, x32, x33, x34, x35, x9, rfl, hB, hall, hfs, hfin⟩ hD hdep KK hKK
      have hd := d15 hall (show 2 < 15 by omega) hD
      obtain ⟨f0, f1, f2, f3, f4, f5, f6, f7, f8, f9, f10, f11, f12, f13, f14⟩ := hfs hd
      simp only [Act.put, List.cons_append, List.nil_append, List.setIfInBounds_toArray, List.set_cons_zero, List.set_cons_succ]
      go_simp
      exact hKK _ _ ⟨_, _, _, _, _, _, _, _, _, _, _, _, _, _, _, rfl, hB, no15 (D := D) hd, fun _ => ⟨(by first | exact f0 | exact fun _ => rfl), (by first | exact f1 | exact fun _ => rfl), fun _ => rfl, (by first | exact f3 | exact fun _ => rfl), (by first | exact f4 | exact fun _ => rfl), (by first | exact f5 | exact fun _ => rfl), (by first | exact f6 | exact fun _ => rfl), (by first | exact f7 | exact fun _ => rfl), (by first | exact f8 | exact fun _ => rfl), (by first | exact f9 | exact fun _ => rfl), (by first | exact f10 | exact fun _ => rfl), (by first | exact f11 | exact fun _ => rfl), (by first | exact f12 | exact fun _ => rfl), (by first | exact f13 | exact fun _ => rfl), (by first | exact f14 | exact fun _ => rfl)⟩, no15 (D := D) hd⟩
    · rintro D aa wx ⟨x22, x23, x24, x25, x26, x27, x28, x29, x30, x31, x32, x33, x34, x35, x9, rfl, hB, hall, hfs, hfin⟩ hD hdep KK hKK
      have hd := d15 hall (show 3 < 15 by omega) hD
      obtain ⟨f0, f1, f2, f3, f4, f5, f6, f7, f8, f9, f10, f11, f12, f13, f14⟩ := hfs hd
      simp only [Act.put, List.cons_append, List.nil_append, List.setIfInBounds_toArray, List.set_cons_zero, List.set_cons_succ]
      go_simp
      exact hKK _ _ ⟨_, _, _, _, _, _, _, _, _, _, _, _, _, _, _, rfl, hB, no15 (D := D) hd, fun _ => ⟨(by first | exact f0 | exact fun _ => rfl), (by first | exact f1 | exact fun _ => rfl), (by first | exact f2 | exact fun _ => rfl), fun _ => rfl, (by first | exact f4 | exact fun _ => rfl), (by first | exact f5 | exact fun _ => rfl), (by first | exact f6 | exact fun _ => rfl), (by first | exact f7 | exact fun _ => rfl), (by first | exact f8 | exact fun _ => rfl), (by first | exact f9 | exact fun _ => rfl), (by first | exact f10 | exact fun _ => rfl), (by first | exact f11 | exact fun _ => rfl), (by first | exact f12 | exact fun _ => rfl), (by first | exact f13 | exact fun _ => rfl), (by first | exact f14 | exact fun _ => rfl)⟩, no15 (D := D) hd⟩
    · rintro D aa wx ⟨x22, x23, x24, x25, x26, x27, x28, x29, x30, x31, x32, x33, x34, x35, x9, rfl, hB, hall, hfs, hfin⟩ hD hdep KK hKK
      have hd := d15 hall (show 4 < 15 by omega) hD
      obtain ⟨f0, f1, f2, f3, f4, f5, f6, f7, f8, f9, f10, f11, f12, f13, f14⟩ := hfs hd
      simp [Region.binds] at hdep
      have e3 := f3 (by simp [*])
      subst e3
      have c0 := (N1.below hB).c0
      simp only [Act.put, List.cons_append, List.nil_append, List.setIfInBounds_toArray, List.set_cons_zero, List.set_cons_succ]
      go_simp
      exact hKK _ _ ⟨_, _, _, _, _, _, _, _, _, _, _, _, _, _, _, rfl, hB, no15 (D := D) hd, fun _ => ⟨(by first | exact f0 | exact fun _ => rfl), (by first | exact f1 | exact fun _ => rfl), (by first | exact f2 | exact fun _ => rfl), (by first | exact f3 | exact fun _ => rfl), fun _ => rfl, (by first | exact f5 | exact fun _ => rfl), (by first | exact f6 | exact fun _ => rfl), (by first | exact f7 | exact fun _ => rfl), (by first | exact f8 | exact fun _ => rfl), (by first | exact f9 | exact fun _ => rfl), (by first | exact f10 | exact fun _ => rfl), (by first | exact f11 | exact fun _ => rfl), (by first | exact f12 | exact fun _ => rfl), (by first | exact f13 | exact fun _ => rfl), (by first | exact f14 | exact fun _ => rfl)⟩, no15 (D := D) hd⟩
    · rintro D aa wx ⟨x22, x23, x24, x25, x26, x27, x28, x29, x30, x31, x32, x33, x34, x35, x9, rfl, hB, hall, hfs, hfin⟩ hD hdep KK hKK
      have hd := d15 hall (show 5 < 15 by omega) hD
      obtain ⟨f0, f1, f2, f3, f4, f5, f6, f7, f8, f9, f10, f11, f12, f13, f14⟩ := hfs hd
      simp [Region.binds] at hdep
      have e1 := f1 (by simp [*])
      subst e1
      have e2 := f2 (by simp [*])
      subst e2
      have e4 := f4 (by simp [*])
      subst e4
      simp only [Act.put, List.cons_append, List.nil_append, List.setIfInBounds_toArray, List.set_cons_zero, List.set_cons_succ]
      go_simp
      have hb := new_below wx (.cells #[.slice a n c, .slice (some ⟨g0, 0, none⟩) 1 1, .slice a2 n2 c2] 22)
      exact hKK _ _ ⟨_, _, _, _, _, _, _, _, _, _, _, _, _, _, _, rfl, below_to hB hb, no15 (D := D) hd, fun _ => ⟨(by first | exact f0 | exact fun _ => rfl), (by first | exact f1 | exact fun _ => rfl), (by first | exact f2 | exact fun _ => rfl), (by first | exact f3 | exact fun _ => rfl), (by first | exact f4 | exact fun _ => rfl), fun _ => ⟨_, rfl, lstI_new _ (HIt.out.below hB) (HBt.below hB) (HIu.out.below hB)⟩, fun h => (f6 h).below hb, (by first | exact f7 | exact fun _ => rfl), (by first | exact f8 | exact fun _ => rfl), (by first | exact f9 | exact fun _ => rfl), (by first | exact f10 | exact fun _ => rfl), fun h => (f11 h).below hb, fun h => (f12 h).below hb, fun h => (f13 h).below hb, fun h => (f14 h).below hb⟩, no15 (D := D) hd⟩
    · rintro D aa wx ⟨x22, x23, x24, x25, x26, x27, x28, x29, x30, x31, x32, x33, x34, x35, x9, rfl, hB, hall, hfs, hfin⟩ hD hdep KK hKK
      have hd := d15 hall (show 6 < 15 by omega) hD
      obtain ⟨f0, f1, f2, f3, f4, f5, f6, f7, f8, f9, f10, f11, f12, f13, f14⟩ := hfs hd
      simp [Region.binds] at hdep
      obtain ⟨B5, rfl, e5⟩ := f5 (by simp [*])
      simp only [Act.put, List.cons_append, List.nil_append, List.setIfInBounds_toArray, List.set_cons_zero, List.set_cons_succ]
      go_simp
      refine (KCI2.out _ _ e5).mono ?_
      rintro e w2 ⟨a1, c1, rfl, hac, hfa, hIt, hb⟩
      exact hKK _ _ ⟨_, _, _, _, _, _, _, _, _, _, _, _, _, _, _, rfl, below_to hB hb, no15 (D := D) hd, fun _ => ⟨(by first | exact f0 | exact fun _ => rfl), (by first | exact f1 | exact fun _ => rfl), (by first | exact f2 | exact fun _ => rfl), (by first | exact f3 | exact fun _ => rfl), (by first | exact f4 | exact fun _ => rfl), fun _ => ⟨B5, rfl, e5.below hb⟩, fun _ => ⟨a1, c1, rfl, hac, hfa.mono hB.size, hIt⟩, (by first | exact f7 | exact fun _ => rfl), (by first | exact f8 | exact fun _ => rfl), (by first | exact f9 | exact fun _ => rfl), (by first | exact f10 | exact fun _ => rfl), fun h => (f11 h).below hb, fun h => (f12 h).below hb, fun h => (f13 h).below hb, fun h => (f14 h).below hb⟩, no15 (D := D) hd⟩
    · rintro D aa wx ⟨x22, x23, x24, x25, x26, x27, x28, x29, x30, x31, x32, x33, x34, x35, x9, rfl, hB, hall, hfs, hfin⟩ hD hdep KK hKK
      have hd := d15 hall (show 7 < 15 by omega) hD
      obtain ⟨f0, f1, f2, f3, f4, f5, f6, f7, f8, f9, f10, f11, f12, f13, f14⟩ := hfs hd
      simp only [Act.put, List.cons_append, List.nil_append, List.setIfInBounds_toArray, List.set_cons_zero, List.set_cons_succ]
      go_simp
      exact hKK _ _ ⟨_, _, _, _, _, _, _, _, _, _, _, _, _, _, _, rfl, hB, no15 (D := D) hd, fun _ => ⟨(by first | exact f0 | exact fun _ => rfl), (by first | exact f1 | exact fun _ => rfl), (by first | exact f2 | exact fun _ => rfl), (by first | exact f3 | exact fun _ => rfl), (by first | exact f4 | exact fun _ => rfl), (by first | exact f5 | exact fun _ => rfl), (by first | exact f6 | exact fun _ => rfl), fun _ => rfl, (by first | exact f8 | exact fun _ => rfl), (by first | exact f9 | exact fun _ => rfl), (by first | exact f10 | exact fun _ => rfl), (by first | exact f11 | exact fun _ => rfl), (by first | exact f12 | exact fun _ => rfl), (by first | exact f13 | exact fun _ => rfl), (by first | exact f14 | exact fun _ => rfl)⟩, no15 (D := D) hd⟩
    · rintro D aa wx ⟨x22, x23, x24, x25, x26, x27, x28, x29, x30, x31, x32, x33, x34, x35, x9, rfl, hB, hall, hfs, hfin⟩ hD hdep KK hKK
      have hd := d15 hall (show 8 < 15 by omega) hD
      obtain ⟨f0, f1, f2, f3, f4, f5, f6, f7, f8, f9, f10, f11, f12, f13, f14⟩ := hfs hd
      simp [Region.binds] at hdep
      have e7 := f7 (by simp [*])
      subst e7
      have c0 := (N0.below hB).c1
      simp only [Act.put, List.cons_append, List.nil_append, List.setIfInBounds_toArray, List.set_cons_zero, List.set_cons_succ]
      go_simp
      exact hKK _ _ ⟨_, _, _, _, _, _, _, _, _, _, _, _, _, _, _, rfl, hB, no15 (D := D) hd, fun _ => ⟨(by first | exact f0 | exact fun _ => rfl), (by first | exact f1 | exact fun _ => rfl), (by first | exact f2 | exact fun _ => rfl), (by first | exact f3 | exact fun _ => rfl), (by first | exact f4 | exact fun _ => rfl), (by first | exact f5 | exact fun _ => rfl), (by first | exact f6 | exact fun _ => rfl), (by first | exact f7 | exact fun _ => rfl), fun _ => rfl, (by first | exact f9 | exact fun _ => rfl), (by first | exact f10 | exact fun _ => rfl), (by first | exact f11 | exact fun _ => rfl), (by first | exact f12 | exact fun _ => rfl), (by first | exact f13 | exact fun _ => rfl), (by first | exact f14 | exact fun _ => rfl)⟩, no15 (D := D) hd⟩
    · rintro D aa wx ⟨x22, x23, x24, x25, x26, x27, x28, x29, x30, x31, x32, x33, x34, x35, x9, rfl, hB, hall, hfs, hfin⟩ hD hdep KK hKK
      have hd := d15 hall (show 9 < 15 by omega) hD
      obtain ⟨f0, f1, f2, f3, f4, f5, f6, f7, f8, f9, f10, f11, f12, f13, f14⟩ := hfs hd
      simp only [Act.put, List.cons_append, List.nil_append, List.setIfInBounds_toArray, List.set_cons_zero, List.set_cons_succ]
      go_simp
      exact hKK _ _ ⟨_, _, _, _, _, _, _, _, _, _, _, _, _, _, _, rfl, hB, no15 (D := D) hd, fun _ => ⟨(by first | exact f0 | exact fun _ => rfl), (by first | exact f1 | exact fun _ => rfl), (by first | exact f2 | exact fun _ => rfl), (by first | exact f3 | exact fun _ => rfl), (by first | exact f4 | exact fun _ => rfl), (by first | exact f5 | exact fun _ => rfl), (by first | exact f6 | exact fun _ => rfl), (by first | exact f7 | exact fun _ => rfl), (by first | exact f8 | exact fun _ => rfl), fun _ => rfl, (by first | exact f10 | exact fun _ => rfl), (by first | exact f11 | exact fun _ => rfl), (by first | exact f12 | exact fun _ => rfl), (by first | exact f13 | exact fun _ => rfl), (by first | exact f14 | exact fun _ => rfl)⟩, no15 (D := D) hd⟩
    · rintro D aa wx ⟨x22, x23, x24, x25, x26, x27, x28, x29, x30, x31, x32, x33, x34, x35, x9, rfl, hB, hall, hfs, hfin⟩ hD hdep KK hKK
      have hd := d15 hall (show 10 < 15 by omega) hD
      obtain ⟨f0, f1, f2, f3, f4, f5, f6, f7, f8, f9, f10, f11, f12, f13, f14⟩ := hfs hd
      simp [Region.binds] at hdep
      have e9 := f9 (by simp [*])
      subst e9
      have c0 := (N1.below hB).c1
      simp only [Act.put, List.cons_append, List.nil_append, List.setIfInBounds_toArray, List.set_cons_zero, List.set_cons_succ]
      go_simp
      exact hKK _ _ ⟨_, _, _, _, _, _, _, _, _, _, _, _, _, _, _, rfl, hB, no15 (D := D) hd, fun _ => ⟨(by first | exact f0 | exact fun _ => rfl), (by first | exact f1 | exact fun _ => rfl), (by first | exact f2 | exact fun _ => rfl), (by first | exact f3 | exact fun _ => rfl), (by first | exact f4 | exact fun _ => rfl), (by first | exact f5 | exact fun _ => rfl), (by first | exact f6 | exact fun _ => rfl), (by first | exact f7 | exact fun _ => rfl), (by first | exact f8 | exact fun _ => rfl), (by first | exact f9 | exact fun _ => rfl), fun _ => rfl, (by first | exact f11 | exact fun _ => rfl), (by first | exact f12 | exact fun _ => rfl), (by first | exact f13 | exact fun _ => rfl), (by first | exact f14 | exact fun _ => rfl)⟩, no15 (D := D) hd⟩
    · rintro D aa wx ⟨x22, x23, x24, x25, x26, x27, x28, x29, x30, x31, x32, x33, x34, x35, x9, rfl, hB, hall, hfs, hfin⟩ hD hdep KK hKK
      have hd := d15 hall (show 11 < 15 by omega) hD
      obtain ⟨f0, f1, f2, f3, f4, f5, f6, f7, f8, f9, f10, f11, f12, f13, f14⟩ := hfs hd
      simp [Region.binds] at hdep
      have e8 := f8 (by simp [*])
      subst e8
      have e10 := f10 (by simp [*])
      subst e10
      simp only [Act.put, List.cons_append, List.nil_append, List.setIfInBounds_toArray, List.set_cons_zero, List.set_cons_succ]
      go_simp
      have hb := new_below wx (.cells #[.slice ka kn kc, .slice ka2 kn2 kc2] 23)
      exact hKK _ _ ⟨_, _, _, _, _, _, _, _, _, _, _, _, _, _, _, rfl, below_to hB hb, no15 (D := D) hd, fun _ => ⟨(by first | exact f0 | exact fun _ => rfl), (by first | exact f1 | exact fun _ => rfl), (by first | exact f2 | exact fun _ => rfl), (by first | exact f3 | exact fun _ => rfl), (by first | exact f4 | exact fun _ => rfl), fun h => (f5 h).below hb, fun h => (f6 h).below hb, (by first | exact f7 | exact fun _ => rfl), (by first | exact f8 | exact fun _ => rfl), (by first | exact f9 | exact fun _ => rfl), (by first | exact f10 | exact fun _ => rfl), fun _ => ⟨_, rfl, lstK_new _ (HKt.out.below hB) (HKu.out.below hB)⟩, fun h => (f12 h).below hb, fun h => (f13 h).below hb, fun h => (f14 h).below hb⟩, no15 (D := D) hd⟩
    · rintro D aa wx ⟨x22, x23, x24, x25, x26, x27, x28, x29, x30, x31, x32, x33, x34, x35, x9, rfl, hB, hall, hfs, hfin⟩ hD hdep KK hKK
      have hd := d15 hall (show 12 < 15 by omega) hD
      obtain ⟨f0, f1, f2, f3, f4, f5, f6, f7, f8, f9, f10, f11, f12, f13, f14⟩ := hfs hd
      simp [Region.binds] at hdep
      obtain ⟨B11, rfl, e11⟩ := f11 (by simp [*])
      simp only [Act.put, List.cons_append, List.nil_append, List.setIfInBounds_toArray, List.set_cons_zero, List.set_cons_succ]
      go_simp
      refine (KCK2.out _ _ e11).mono ?_
      rintro e w2 ⟨a1, c1, rfl, hac, hfa, hIt, hb⟩
      exact hKK _ _ ⟨_, _, _, _, _, _, _, _, _, _, _, _, _, _, _, rfl, below_to hB hb, no15 (D := D) hd, fun _ => ⟨(by first | exact f0 | exact fun _ => rfl), (by first | exact f1 | exact fun _ => rfl), (by first | exact f2 | exact fun _ => rfl), (by first | exact f3 | exact fun _ => rfl), (by first | exact f4 | exact fun _ => rfl), fun h => (f5 h).below hb, fun h => (f6 h).below hb, (by first | exact f7 | exact fun _ => rfl), (by first | exact f8 | exact fun _ => rfl), (by first | exact f9 | exact fun _ => rfl), (by first | exact f10 | exact fun _ => rfl), fun _ => ⟨B11, rfl, e11.below hb⟩, fun _ => ⟨a1, c1, rfl, hac, hfa.mono hB.size, hIt⟩, fun h => (f13 h).below hb, fun h => (f14 h).below hb⟩, no15 (D := D) hd⟩
    · rintro D aa wx ⟨x22, x23, x24, x25, x26, x27, x28, x29, x30, x31, x32, x33, x34, x35, x9, rfl, hB, hall, hfs, hfin⟩ hD hdep KK hKK
      have hd := d15 hall (show 13 < 15 by omega) hD
      obtain ⟨f0, f1, f2, f3, f4, f5, f6, f7, f8, f9, f10, f11, f12, f13, f14⟩ := hfs hd
      simp [Region.binds] at hdep
      obtain ⟨a6, c6, rfl, h6, k6, l6⟩ := f6 (by simp [*])
      obtain ⟨a12, c12, rfl, h12, k12, l12⟩ := f12 (by simp [*])
      simp only [Act.put, List.cons_append, List.nil_append, List.setIfInBounds_toArray, List.set_cons_zero, List.set_cons_succ]
      go_simp
      exact hKK _ _ ⟨_, _, _, _, _, _, _, _, _, _, _, _, _, _, _, rfl, hB, no15 (D := D) hd, fun _ => ⟨(by first | exact f0 | exact fun _ => rfl), (by first | exact f1 | exact fun _ => rfl), (by first | exact f2 | exact fun _ => rfl), (by first | exact f3 | exact fun _ => rfl), (by first | exact f4 | exact fun _ => rfl), (by first | exact f5 | exact fun _ => rfl), fun _ => ⟨a6, c6, rfl, h6, k6, l6⟩, (by first | exact f7 | exact fun _ => rfl), (by first | exact f8 | exact fun _ => rfl), (by first | exact f9 | exact fun _ => rfl), (by first | exact f10 | exact fun _ => rfl), (by first | exact f11 | exact fun _ => rfl), fun _ => ⟨a12, c12, rfl, h12, k12, l12⟩, fun _ => ⟨_, _, rfl, ⟨a6, c6, rfl, h6, k6, l6⟩, ⟨a12, c12, rfl, h12, k12, l12⟩⟩, (by first | exact f14 | exact fun _ => rfl)⟩, no15 (D := D) hd⟩
    · rintro D aa wx ⟨x22, x23, x24, x25, x26, x27, x28, x29, x30, x31, x32, x33, x34, x35, x9, rfl, hB, hall, hfs, hfin⟩ hD hdep KK hKK
      have hd := d15 hall (show 14 < 15 by omega) hD
      obtain ⟨f0, f1, f2, f3, f4, f5, f6, f7, f8, f9, f10, f11, f12, f13, f14⟩ := hfs hd
      simp only [Act.put, List.cons_append, List.nil_append, List.setIfInBounds_toArray, List.set_cons_zero, List.set_cons_succ]
      go_simp
      have hb := new_below wx (.cells #[.slice none 0 0, .slice none 0 0] 31)
      exact hKK _ _ ⟨_, _, _, _, _, _, _, _, _, _, _, _, _, _, _, rfl, below_to hB hb, no15 (D := D) hd, fun _ => ⟨(by first | exact f0 | exact fun _ => rfl), (by first | exact f1 | exact fun _ => rfl), (by first | exact f2 | exact fun _ => rfl), (by first | exact f3 | exact fun _ => rfl), (by first | exact f4 | exact fun _ => rfl), fun h => (f5 h).below hb, fun h => (f6 h).below hb, (by first | exact f7 | exact fun _ => rfl), (by first | exact f8 | exact fun _ => rfl), (by first | exact f9 | exact fun _ => rfl), (by first | exact f10 | exact fun _ => rfl), fun h => (f11 h).below hb, fun h => (f12 h).below hb, fun h => (f13 h).below hb, fun _ => ⟨_, rfl, hB.size, Nb.fresh _ _ _ _, heap_new _ _⟩⟩, no15 (D := D) hd⟩
    · rintro D aa wx ⟨x22, x23, x24, x25, x26, x27, x28, x29, x30, x31, x32, x33, x34, x35, x9, rfl, hB, hall, hfs, hfin⟩ hD hdep KK hKK
      obtain ⟨f0, f1, f2, f3, f4, f5, f6, f7, f8, f9, f10, f11, f12, f13, f14⟩ := hfs hD
      have hq := List.all_eq_true.1 hdep
      have hal : ∀ j, j < 15 → D j = true := by
        intro j hj
        have : j = 0 ∨ j = 1 ∨ j = 2 ∨ j = 3 ∨ j = 4 ∨ j = 5 ∨ j = 6 ∨ j = 7 ∨ j = 8 ∨ j = 9 ∨ j = 10 ∨ j = 11 ∨ j = 12 ∨ j = 13 ∨ j = 14 := by omega
        rcases this with rfl | rfl | rfl | rfl | rfl | rfl | rfl | rfl | rfl | rfl | rfl | rfl | rfl | rfl | rfl
        · simpa [Region.binds] using hq ⟨0, Ground.phase⟩ (by simp)
        · simpa [Region.binds] using hq ⟨1, Ground.phase⟩ (by simp)
        · simpa [Region.binds] using hq ⟨2, Ground.phase⟩ (by simp)
        · simpa [Region.binds] using hq ⟨3, Ground.phase⟩ (by simp)
        · simpa [Region.binds] using hq ⟨4, Ground.phase⟩ (by simp)
        · simpa [Region.binds] using hq ⟨5, Ground.phase⟩ (by simp)
        · simpa [Region.binds] using hq ⟨6, Ground.phase⟩ (by simp)
        · simpa [Region.binds] using hq ⟨7, Ground.phase⟩ (by simp)
        · simpa [Region.binds] using hq ⟨8, Ground.phase⟩ (by simp)
        · simpa [Region.binds] using hq ⟨9, Ground.phase⟩ (by simp)
        · simpa [Region.binds] using hq ⟨10, Ground.phase⟩ (by simp)
        · simpa [Region.binds] using hq ⟨11, Ground.phase⟩ (by simp)
        · simpa [Region.binds] using hq ⟨12, Ground.phase⟩ (by simp)
        · simpa [Region.binds] using hq ⟨13, Ground.phase⟩ (by simp)
        · simpa [Region.binds] using hq ⟨14, Ground.phase⟩ (by simp)
      obtain ⟨y, z, rfl, ⟨a1, c1, rfl, h1, h2, h3⟩, ⟨a3, c3, rfl, h4, h5, h6⟩⟩ := f13 (hal 13 (by omega))
      obtain ⟨g, rfl, hg, hNb, hgb⟩ := f14 (hal 14 (by omega))
      have y0 := hNb.c0
      have y1 := hNb.c1
      have z0 := hNb.f0
      have z1 := hNb.f1
      have hfn := Lib.hid (show HF ((wx.setCell ⟨g, 0, none⟩ (.slice a1 NN c1)).setCell ⟨g, 1, none⟩ (.slice a3 MM c3)) wy.heap.size NN MM LL ML (.pointer (some ⟨g, 0, none⟩)) from ⟨g, _, _, rfl, hg, (hNb.set0 _).set1 _, ⟨a1, c1, rfl, h1, h2, its_put h3 hgb⟩, ⟨a3, c3, rfl, h4, h5, kds_put h6 hgb⟩⟩)
      have hB2 := Lib.hid ((hB.setCell (p := ⟨g, 0, none⟩) hg (.slice a1 NN c1)).setCell (p := ⟨g, 1, none⟩) hg (.slice a3 MM c3))
      have hal := Lib.hid hal
      clear f0 f1 f2 f3 f4 f5 f6 f7 f8 f9 f10 f11 f12 f13 f14 hfs hfin hdep hq
      simp only [Act.put, List.cons_append, List.nil_append, List.setIfInBounds_toArray, List.set_cons_zero, List.set_cons_succ]
      go_simp
      refine hKK _ _ ⟨_, _, _, _, _, _, _, _, _, _, _, _, _, _, _, rfl, hB2.out, fun _ j hj => ?_, (by intro h; cases h), fun _ => hfn.out⟩
      show (if j = 15 then true else D j) = true
      rw [if_neg (by omega)]; exact hal.out j hj
  rintro D aa w4 ⟨x22, x23, x24, x25, x26, x27, x28, x29, x30, x31, x32, x33, x34, x35, x9, rfl, hB, hall, hfs, hfin⟩ hD
  obtain ⟨g, y, z, rfl, hg, hNb, ⟨a1, c1, rfl, h1, h2, h3⟩, ⟨a3, c3, rfl, h4, h5, h6⟩⟩ := hfin (hD 15 (by simp))
  simp only [Act.put, List.cons_append, List.nil_append, List.setIfInBounds_toArray, List.set_cons_zero, List.set_cons_succ]
  clear hall hfs hfin hD
  have hgs : w.heap.size + 1 + 1 < wy.heap.size := N2.lt
  replace N2 := N2.below hB
  replace hBB := below_to hBB hB
  clear hB
  have d0 := hNb.c0
  have d1 := hNb.c1
  have HIt2 := Lib.hid h3
  have HKt2 := Lib.hid h6
  clear h3 h6
  go_wp2_with fail
  refine (KCh.out _ _ _ _ _ HIt2.out HKt2.out).mono ?_
  rintro e w5 ⟨rfl, hb⟩
  replace N2 := N2.below hb
  replace hNb := hNb.below hb
  replace hBB := below_to hBB hb
  have HIt3 := Lib.hid (HIt2.out.below hb)
  have HKt3 := Lib.hid (HKt2.out.below hb)
  clear hb d0 d1
  have d0 := hNb.c0
  have d1 := hNb.c1
  have y0 := N2.c0
  have y1 := N2.c1
  have z0 := N2.f0
  have z1 := N2.f1
  by_cases hR : RightP LL ML
  · have hc : chkE LL ML = 0 := if_pos hR
    rw [hc]
    have M2 := (N2.set0 (.slice a1 NN c1)).set1 (.slice a3 MM c3)
    have m0 := M2.c0
    have m1 := M2.c1
    have HB := Lib.hid ((hBB.setCell (p := ⟨w.heap.size + 1 + 1, 0, none⟩) (by show w.heap.size ≤ w.heap.size + 1 + 1; omega) (.slice a1 NN c1)).setCell (p := ⟨w.heap.size + 1 + 1, 1, none⟩) (by show w.heap.size ≤ w.heap.size + 1 + 1; omega) (.slice a3 MM c3))
    have HI1 := Lib.hid ((HIt3.out.set (g := w.heap.size + 1 + 1) (o := 0) (x := .slice a1 NN c1) h2 hgs).set (g := w.heap.size + 1 + 1) (o := 1) (x := .slice a3 MM c3) h2 hgs)
    have HK1 := Lib.hid ((HKt3.out.set (g := w.heap.size + 1 + 1) (o := 0) (x := .slice a1 NN c1) h5 hgs).set (g := w.heap.size + 1 + 1) (o := 1) (x := .slice a3 MM c3) h5 hgs)
    have HF1 := Lib.hid (h2.mono (show w.heap.size ≤ wy.heap.size by omega))
    have HF2 := Lib.hid (h5.mono (show w.heap.size ≤ wy.heap.size by omega))
    have HR := Lib.hid hR
    have HL1 := Lib.hid h1
    have HL4 := Lib.hid h4
    clear M2 hBB N0 N1 h2 h5 hgs hR hc hNb h1 h4
    go_wp2_with fail
    refine bodyPost_ret (v := .tuple #[.agg #[.slice a1 NN c1, .slice a3 MM c3], .bool true]) (by simp [results, Try.results24, go_sem, m0, m1]) rfl ?_
    exact ⟨a1, NN, c1, a3, MM, c3, by rw [decide_eq_true HR.out], HL1.out, HL4.out, HF1.out, HF2.out, by rw [if_pos HR.out]; exact HI1.out, by rw [if_pos HR.out]; exact HK1.out, HB.out⟩
  · have hc : chkE LL ML = 18 := if_neg hR
    rw [hc]
    have M2 := (N2.set0 (.slice none 0 0)).set1 (.slice none 0 0)
    have m0 := M2.c0
    have m1 := M2.c1
    have HB := Lib.hid ((hBB.setCell (p := ⟨w.heap.size + 1 + 1, 0, none⟩) (by show w.heap.size ≤ w.heap.size + 1 + 1; omega) (.slice none 0 0)).setCell (p := ⟨w.heap.size + 1 + 1, 1, none⟩) (by show w.heap.size ≤ w.heap.size + 1 + 1; omega) (.slice none 0 0))
    have HR := Lib.hid hR
    clear M2 hBB N0 N1 h2 h5 hgs hR hc hNb h1 h4
    go_wp2_with fail
    refine bodyPost_ret (v := .tuple #[.agg #[.slice none 0 0, .slice none 0 0], .bool false]) (by simp [results, Try.results24, go_sem, m0, m1]) rfl ?_
    exact ⟨none, 0, 0, none, 0, 0, by rw [decide_eq_false HR.out], Nat.le_refl _, Nat.le_refl _, (by intro x hx; cases hx), (by intro x hx; cases hx), by rw [if_neg HR.out]; exact ⟨rfl, .inl rfl⟩, by rw [if_neg HR.out]; exact ⟨rfl, .inl rfl⟩, HB.out⟩
end
end Go.Proofs.Ytnjpijihjifkfaa
