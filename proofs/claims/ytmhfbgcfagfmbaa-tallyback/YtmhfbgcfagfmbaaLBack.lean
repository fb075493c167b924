/- The walk of TallyBack. -/
import Derived.Test.YtmhfbgcfagfmbaaTB
import Derived.Test.YtmhfbgcfagfmbaaTI
import Derived.Test.YtmhfbgcfagfmbaaLSums
namespace Go.Proofs.Ytmhfbgcfagfmbaa.tallyBack
open Go.RowKit

theorem info2 : (Try.prog.info? 2).map (fun i => (i.zero, i.size, i.bytes)) = some (some (.int .i64 0), 1, 8) := by kernel_rfl

/-- The last k numbers, the last one first. -/
def revV (zs : List Int) (k : Nat) : List Value := (zs.reverse.take k).map (Value.int .i64)
theorem revV_snoc {zs : List Int} {k : Nat} {x : Int} (hk : k < zs.length) (hx : zs.getD (zs.length - 1 - k) 0 = x) : revV zs (k + 1) = revV zs k ++ [.int .i64 x] := by
  unfold revV
  rw [List.take_succ_eq_append_getElem (by simpa using hk), List.map_append]
  simp only [List.map_cons, List.map_nil]
  have : zs.reverse[k]'(by simpa using hk) = x := by
    rw [← hx, List.getElem_reverse]; simp [show zs.length - 1 - k < zs.length by omega]
  rw [this]
/-- What the loop carries: back holds the last k numbers, the last one first. -/
structure BackAt (w0 : World) (zs : List Int) (k : Nat) (v : Value) (wx : World) : Prop where
  own : wx.ownsRow w0.heap.size 2 1 v k (revV zs k)
  below : Below w0.heap.size w0 wx

theorem BackAt.snoc {w0 wr w1 : World} {zs : List Int} {k : Nat} {v v' : Value} {x : Int} {o : Obj} (h : BackAt w0 zs k v wr) (hk : k < zs.length) (hx : zs.getD (zs.length - 1 - k) 0 = x)
    (hown : w1.ownsRow w0.heap.size 2 1 v' (k + 1) (revV zs k ++ [.int .i64 x])) (hg : (wr.alloc o).grownBy w1 v.ownBlock) : BackAt w0 zs (k + 1) v' w1 :=
  ⟨by rw [revV_snoc hk hx]; exact hown, (h.below.alloc h.below.size o).grown hg (by have := h.below.size; simp; omega) (fun j hj => (h.own.lt j hj).1)⟩
/-- Back, read as a slice. -/
theorem BackAt.ints {w0 wr : World} {zs : List Int} {v : Value} (h : BackAt w0 zs zs.length v wr) : ∃ a cap, v = .slice a zs.length cap ∧ Ints wr a zs.length zs.reverse := by
  by_cases h0 : zs.length = 0
  · obtain ⟨_, ⟨hv, _⟩ | ⟨g, cap, cur, hv, _⟩⟩ := h.own
    · exact ⟨none, 0, by rw [hv, h0], by simp, .inl h0⟩
    · exact ⟨_, cap, hv, by simp, .inl h0⟩
  · obtain ⟨_, ⟨_, hn⟩ | ⟨g, cap, cur, hv, _⟩⟩ := h.own
    · exact absurd hn h0
    · refine ⟨_, cap, hv, by simp, .inr ⟨g, 0, rfl, fun j hj => ?_⟩⟩
      have hown := h.own
      rw [hv] at hown
      rw [Nat.zero_add, hown.cellAt j (by omega)]
      unfold revV
      rw [List.take_of_length_le (by simp)]
      simp [hj]

theorem _root_.Go.Proofs.Ytmhfbgcfagfmbaa.Ints.take {w : World} {a : Option Addr} {len n : Nat} {zs : List Int} (h : Ints w a len zs) (hn : n ≤ len) : Ints w a n (zs.take n) := by
  refine ⟨by simp [h.1, hn], ?_⟩
  rcases h.2 with h0 | ⟨b, off, rfl, hc⟩
  · exact .inl (by omega)
  · exact .inr ⟨b, off, rfl, fun j hj => by rw [hc j (by omega)]; simp [hj]⟩
theorem add_none' (b off n : Nat) : Addr.add ⟨b, off, none⟩ n = ⟨b, off + n, none⟩ := by
  unfold Addr.add
  by_cases h : n = 0
  · subst h; simp
  · simp [h]
theorem _root_.Go.Proofs.Ytmhfbgcfagfmbaa.Ints.dropMap {w : World} {a : Option Addr} {len n : Nat} {zs : List Int} (h : Ints w a len zs) : Ints w (a.map fun x => x.add n) (len - n) (zs.drop n) := by
  refine ⟨by simp [h.1], ?_⟩
  rcases h.2 with h0 | ⟨b, off, rfl, hc⟩
  · exact .inl (by omega)
  · refine .inr ⟨b, off + n, by simp [add_none'], fun j hj => by rw [Nat.add_assoc, hc (n + j) (by omega)]; simp⟩

set_option maxHeartbeats 4000000 in
theorem walk1 (w : World) (a b c d : Int) (ad : Option Addr) (len cap : Nat) (zs : List Int) (hr : len * 8 ≤ 140737488351232) (hlc : len ≤ cap) (hz : Ints w ad len zs) (cut : Int) (p q r : Int) (h1 : totF [(a, b), (c, d)] = ((p, q), r)) (h2 : (r == 0) = false) :
    Calls Try.prog 6 #[.agg #[.int .i64 a, .int .i64 b], .agg #[.int .i64 c, .int .i64 d], .slice ad len cap, .int .i64 cut] w fun e w' => e = .returned (.bool true) ∧ Below w.heap.size w w' := by
  have H1 := Lib.hid h1
  clear h1
  go_enter Try.func6, Try.ntmps6
  go_wp2_with fail
  refine (lives1_any _).mono ?_
  rintro e w1 ⟨rfl, B1⟩
  have A := ((Has.new w w.heap.size 33 a b rfl).alloc (.cells #[.int .i64 c, .int .i64 d] 33)).later B1
  have C := (Has.new (w.alloc (.cells #[.int .i64 a, .int .i64 b] 33)) (w.heap.size + 1) 33 c d (by simp)).later B1
  replace B1 := (((Below.refl _ _).alloc (Nat.le_refl _) _).alloc (by simp) _).trans (B1.mono (by simp; omega))
  have a0 := A.c0
  have a1 := A.c1
  have c0 := C.c0
  have c1 := C.c1
  go_wp2_with fail
  refine (plus_any a b c d _).mono ?_
  rintro e w2 ⟨rfl, b2⟩
  rw [H1.out]; unfold three; dsimp only
  clear a0 a1 c0 c1
  have B2 := B1.trans (b2.mono B1.size)
  clear b2 B1
  by_cases hc1 : cut < 0
  · go_wp2
    go_ret
    exact ⟨rfl, B2.alloc B2.size _⟩
  by_cases hc2 : (len : Int) < cut
  · go_wp2
    go_ret
    exact ⟨rfl, B2.alloc B2.size _⟩
  obtain ⟨n, rfl⟩ : ∃ n : Nat, cut = n := ⟨cut.toNat, by omega⟩
  have hn : n ≤ len := by omega
  clear hc1 hc2
  have hd1 : decide ((n : Int) < 0) = false := by simp
  have hd2 : decide (len < n) = false := by simp; omega
  go_wp2
  have B3 := B2.alloc B2.size (.cells #[.int .i64 p, .int .i64 q] 33)
  clear B2
  generalize w2.alloc (.cells #[.int .i64 p, .int .i64 q] 33) = w3 at B3 ⊢
  clear hd1 hd2 A C
  have hz3 := hz.later B3
  obtain ⟨i0, hi, hz0, hz1, hz2⟩ := info_parts info2
  have HL := Lib.hid hz3.1
  go_loopw [13, 58] (fun v i wx => ∃ k : Nat, k ≤ len ∧ i = .int .i64 k ∧ BackAt w3 zs k v wx) (fun _ i _ => len - (intOf i).toNat)
  case atStart => exact ⟨0, by omega, rfl, ⟨World.ownsRow_nil _ _ _ _, Below.refl _ _⟩⟩
  case round =>
    obtain ⟨k, hk, rfl, hB⟩ := hrel
    by_cases hlt : k < len
    · rcases hz3.2 with h0 | ⟨b', off, rfl, hc⟩
      · omega
      · have hck := hc (len - 1 - k) (by omega)
        have hbl : b' < w3.heap.size := World.block_lt_of_cell? w3 _ hck
        have gx := (hB.below.cell (p := ⟨b', off + (len - 1 - k), none⟩) hbl).trans hck
        clear hck
        have ei : ((len : Int) - 1 - (k : Int)).toNat = len - 1 - k := by omega
        have hown := hB.own
        have hbl2 := hB.below
        clear hc
        generalize hX : zs.getD (len - 1 - k) 0 = x at gx
        have HX := Lib.hid hX
        clear hX
        go_wp2_with (first
          | (at_builtin; refine wpList_append_own _ rfl _ _ 28 rfl w3.heap.size 2 i0 (.int .i64 0) 1 8 Try.underlying28 hi hz0 hz1 hz2 rfl (by decide) _ _ _ rfl (hown.alloc _) ⟨wr.heap.size, 0, none⟩ 1 1 [.int .i64 x] rfl rfl ?c1 ?c2 ?c3 ?c4 ?c5 ?_))
        case c1 =>
          intro j u hj
          match j, hj with
          | 0, hj => simp at hj; subst hj; simp [Addr.add]
        case c2 => intro u hu; simp at hu; subst hu; rfl
        case c3 => unfold maxLen; omega
        case c4 => omega
        case c5 => have := hbl2.size; simp; omega
        intro v' w4 hown' hgrow _
        have hB' := hB.snoc (by rw [HL.out]; exact hlt) (by rw [HL.out]; exact HX.out) hown' hgrow
        clear hown' hgrow hown gx hbl2 hB
        go_wp2
        go_roundw
        case rel => exact ⟨k + 1, by omega, by go_num, hB'⟩
        case measure => simp [intOf]; omega
    · have hkl : k = len := by omega
      subst hkl
      have hB2 : BackAt w3 zs zs.length u13 wr := by rw [HL.out]; exact hB
      obtain ⟨a3, cap3, hv, hI⟩ := hB2.ints
      rw [HL.out] at hv hI
      subst hv
      have hzr := hz3.later hB.below
      have B4 := B3.trans (hB.below.mono B3.size)
      clear hB2 hB
      obtain ⟨⟨s, e1⟩, hs⟩ : ∃ R, R = sumF zs := ⟨_, rfl⟩
      have HS := Lib.hid hs.symm
      clear hs
      go_wp2_with fail
      refine (sum_any ad k cap zs _ (by omega) hzr).mono ?_
      rintro e w5 ⟨rfl, rfl⟩
      rw [HS.out]; unfold two; dsimp only
      go_wp2_with fail
      refine (sum_any a3 k cap3 zs.reverse _ (by omega) hI).mono ?_
      rintro e w5 ⟨rfl, rfl⟩
      rw [sumF_reverse, HS.out]; unfold two; dsimp only
      have hnc : (n : Int) ≤ (cap : Int) := by omega
      have hnk : (n : Int) ≤ (k : Int) := by omega
      have hn0 : (0 : Int) ≤ (n : Int) := by omega
      obtain ⟨⟨x, e3⟩, hx⟩ : ∃ R, R = sumF (zs.take n) := ⟨_, rfl⟩
      obtain ⟨⟨y, e4⟩, hy⟩ : ∃ R, R = sumF (zs.drop n) := ⟨_, rfl⟩
      have HX := Lib.hid hx.symm
      have HY := Lib.hid hy.symm
      clear hx hy
      go_wp2_with fail
      refine (sum_any ad n cap (zs.take n) _ (by omega) (hzr.take hn)).mono ?_
      rintro e w5 ⟨rfl, rfl⟩
      rw [HX.out]; unfold two; dsimp only
      go_wp2_with fail
      · refine (sum_any ad (k - n) 0 (zs.drop n) _ (by omega) ⟨by rw [List.length_drop, HL.out], .inl (by omega)⟩).mono ?_
        rintro e w5 ⟨rfl, rfl⟩
        rw [HY.out]; unfold two; dsimp only
        by_cases g1 : e1 = 0
        · subst g1
          obtain ⟨g3, g4⟩ := sumF_parts n (show (sumF zs).2 = 0 by rw [HS.out])
          have HJ := sumF_join n g3 g4
          rw [HX.out] at g3 HJ
          rw [HY.out] at g4 HJ
          rw [HS.out] at HJ
          dsimp only at g3 g4 HJ
          subst g3 g4
          replace HJ := Lib.hid HJ
          go_wp2_with fail
          refine (add_any x y _).mono ?_
          rintro e w6 ⟨rfl, b6⟩
          rw [HJ.out]; unfold two; dsimp only
          go_wp2
          go_ret
          exact ⟨rfl, B4.trans (b6.mono B4.size)⟩
        · have G1 : (e1 == 0) = false := by simpa using g1
          by_cases g3 : e3 = 0
          · subst g3
            by_cases g4 : e4 = 0
            · subst g4
              have HJ := Lib.hid (sumF_join n (show (sumF (zs.take n)).2 = 0 by rw [HX.out]) (show (sumF (zs.drop n)).2 = 0 by rw [HY.out]))
              rw [HX.out, HY.out, HS.out] at HJ
              dsimp only at HJ
              clear g1
              go_wp2_with fail
              refine (add_any x y _).mono ?_
              rintro e w6 ⟨rfl, b6⟩
              rw [HJ.out]; unfold two; dsimp only
              go_wp2
              go_ret
              exact ⟨rfl, B4.trans (b6.mono B4.size)⟩
            · have G4 : (e4 != 0) = true := by simpa using g4
              clear g1 g4
              go_wp2
              go_ret
              exact ⟨rfl, B4⟩
          · have G3 : (e3 != 0) = true := by simpa using g3
            clear g1 g3
            go_wp2
            go_ret
            exact ⟨rfl, B4⟩
      · refine (sum_any (ad.map fun x => x.add n) (k - n) (cap - n) (zs.drop n) _ (by omega) hzr.dropMap).mono ?_
        rintro e w5 ⟨rfl, rfl⟩
        rw [HY.out]; unfold two; dsimp only
        by_cases g1 : e1 = 0
        · subst g1
          obtain ⟨g3, g4⟩ := sumF_parts n (show (sumF zs).2 = 0 by rw [HS.out])
          have HJ := sumF_join n g3 g4
          rw [HX.out] at g3 HJ
          rw [HY.out] at g4 HJ
          rw [HS.out] at HJ
          dsimp only at g3 g4 HJ
          subst g3 g4
          replace HJ := Lib.hid HJ
          go_wp2_with fail
          refine (add_any x y _).mono ?_
          rintro e w6 ⟨rfl, b6⟩
          rw [HJ.out]; unfold two; dsimp only
          go_wp2
          go_ret
          exact ⟨rfl, B4.trans (b6.mono B4.size)⟩
        · have G1 : (e1 == 0) = false := by simpa using g1
          by_cases g3 : e3 = 0
          · subst g3
            by_cases g4 : e4 = 0
            · subst g4
              have HJ := Lib.hid (sumF_join n (show (sumF (zs.take n)).2 = 0 by rw [HX.out]) (show (sumF (zs.drop n)).2 = 0 by rw [HY.out]))
              rw [HX.out, HY.out, HS.out] at HJ
              dsimp only at HJ
              clear g1
              go_wp2_with fail
              refine (add_any x y _).mono ?_
              rintro e w6 ⟨rfl, b6⟩
              rw [HJ.out]; unfold two; dsimp only
              go_wp2
              go_ret
              exact ⟨rfl, B4.trans (b6.mono B4.size)⟩
            · have G4 : (e4 != 0) = true := by simpa using g4
              clear g1 g4
              go_wp2
              go_ret
              exact ⟨rfl, B4⟩
          · have G3 : (e3 != 0) = true := by simpa using g3
            clear g1 g3
            go_wp2
            go_ret
            exact ⟨rfl, B4⟩

set_option maxHeartbeats 4000000 in
theorem walk0 (w : World) (a b c d : Int) (ad : Option Addr) (len cap : Nat) (zs : List Int) (hr : len * 8 ≤ 140737488351232) (hlc : len ≤ cap) (hz : Ints w ad len zs) (cut : Int) (p q : Int) (h1 : totF [(a, b), (c, d)] = ((p, q), 0)) :
    Calls Try.prog 6 #[.agg #[.int .i64 a, .int .i64 b], .agg #[.int .i64 c, .int .i64 d], .slice ad len cap, .int .i64 cut] w fun e w' => e = .returned (.bool true) ∧ Below w.heap.size w w' := by
  have H1 := Lib.hid h1
  have H2 := Lib.hid (plus_minus h1)
  clear h1
  go_enter Try.func6, Try.ntmps6
  go_wp2_with fail
  refine (lives1_any _).mono ?_
  rintro e w1 ⟨rfl, B1⟩
  have A := ((Has.new w w.heap.size 33 a b rfl).alloc (.cells #[.int .i64 c, .int .i64 d] 33)).later B1
  have C := (Has.new (w.alloc (.cells #[.int .i64 a, .int .i64 b] 33)) (w.heap.size + 1) 33 c d (by simp)).later B1
  replace B1 := (((Below.refl _ _).alloc (Nat.le_refl _) _).alloc (by simp) _).trans (B1.mono (by simp; omega))
  have a0 := A.c0
  have a1 := A.c1
  have c0 := C.c0
  have c1 := C.c1
  go_wp2_with fail
  refine (plus_any a b c d _).mono ?_
  rintro e w2 ⟨rfl, b2⟩
  rw [H1.out]; unfold three; dsimp only
  clear a0 a1 c0 c1
  replace A := (A.later b2).alloc (.cells #[.int .i64 p, .int .i64 q] 33)
  replace C := (C.later b2).alloc (.cells #[.int .i64 p, .int .i64 q] 33)
  have P := Has.new w2 w2.heap.size 33 p q rfl
  have B2 := (B1.trans (b2.mono B1.size)).alloc (B1.trans (b2.mono B1.size)).size (.cells #[.int .i64 p, .int .i64 q] 33)
  clear b2 B1
  have c0 := C.c0
  have c1 := C.c1
  go_wp2_with fail
  refine (minus_any p q c d _).mono ?_
  rintro e w2' ⟨rfl, b2⟩
  rw [H2.out]; unfold three; dsimp only
  clear c0 c1 P C
  replace A := (A.later b2).alloc (.cells #[.int .i64 a, .int .i64 b] 33)
  replace B2 := B2.trans (b2.mono B2.size)
  clear b2
  have a0 := A.c0
  have a1 := A.c1
  by_cases hc1 : cut < 0
  · go_wp2
    go_ret
    exact ⟨rfl, B2.alloc B2.size _⟩
  by_cases hc2 : (len : Int) < cut
  · go_wp2
    go_ret
    exact ⟨rfl, B2.alloc B2.size _⟩
  obtain ⟨n, rfl⟩ : ∃ n : Nat, cut = n := ⟨cut.toNat, by omega⟩
  have hn : n ≤ len := by omega
  clear hc1 hc2
  have hd1 : decide ((n : Int) < 0) = false := by simp
  have hd2 : decide (len < n) = false := by simp; omega
  go_wp2
  have B3 := B2.alloc B2.size (.cells #[.int .i64 a, .int .i64 b] 33)
  clear B2 a0 a1 A
  generalize w2'.alloc (.cells #[.int .i64 a, .int .i64 b] 33) = w3 at B3 ⊢
  clear hd1 hd2
  have hz3 := hz.later B3
  obtain ⟨i0, hi, hz0, hz1, hz2⟩ := info_parts info2
  have HL := Lib.hid hz3.1
  go_loopw [13, 58] (fun v i wx => ∃ k : Nat, k ≤ len ∧ i = .int .i64 k ∧ BackAt w3 zs k v wx) (fun _ i _ => len - (intOf i).toNat)
  case atStart => exact ⟨0, by omega, rfl, ⟨World.ownsRow_nil _ _ _ _, Below.refl _ _⟩⟩
  case round =>
    obtain ⟨k, hk, rfl, hB⟩ := hrel
    by_cases hlt : k < len
    · rcases hz3.2 with h0 | ⟨b', off, rfl, hc⟩
      · omega
      · have hck := hc (len - 1 - k) (by omega)
        have hbl : b' < w3.heap.size := World.block_lt_of_cell? w3 _ hck
        have gx := (hB.below.cell (p := ⟨b', off + (len - 1 - k), none⟩) hbl).trans hck
        clear hck
        have ei : ((len : Int) - 1 - (k : Int)).toNat = len - 1 - k := by omega
        have hown := hB.own
        have hbl2 := hB.below
        clear hc
        generalize hX : zs.getD (len - 1 - k) 0 = x at gx
        have HX := Lib.hid hX
        clear hX
        go_wp2_with (first
          | (at_builtin; refine wpList_append_own _ rfl _ _ 28 rfl w3.heap.size 2 i0 (.int .i64 0) 1 8 Try.underlying28 hi hz0 hz1 hz2 rfl (by decide) _ _ _ rfl (hown.alloc _) ⟨wr.heap.size, 0, none⟩ 1 1 [.int .i64 x] rfl rfl ?c1 ?c2 ?c3 ?c4 ?c5 ?_))
        case c1 =>
          intro j u hj
          match j, hj with
          | 0, hj => simp at hj; subst hj; simp [Addr.add]
        case c2 => intro u hu; simp at hu; subst hu; rfl
        case c3 => unfold maxLen; omega
        case c4 => omega
        case c5 => have := hbl2.size; simp; omega
        intro v' w4 hown' hgrow _
        have hB' := hB.snoc (by rw [HL.out]; exact hlt) (by rw [HL.out]; exact HX.out) hown' hgrow
        clear hown' hgrow hown gx hbl2 hB
        go_wp2
        go_roundw
        case rel => exact ⟨k + 1, by omega, by go_num, hB'⟩
        case measure => simp [intOf]; omega
    · have hkl : k = len := by omega
      subst hkl
      have hB2 : BackAt w3 zs zs.length u13 wr := by rw [HL.out]; exact hB
      obtain ⟨a3, cap3, hv, hI⟩ := hB2.ints
      rw [HL.out] at hv hI
      subst hv
      have hzr := hz3.later hB.below
      have B4 := B3.trans (hB.below.mono B3.size)
      clear hB2 hB
      obtain ⟨⟨s, e1⟩, hs⟩ : ∃ R, R = sumF zs := ⟨_, rfl⟩
      have HS := Lib.hid hs.symm
      clear hs
      go_wp2_with fail
      refine (sum_any ad k cap zs _ (by omega) hzr).mono ?_
      rintro e w5 ⟨rfl, rfl⟩
      rw [HS.out]; unfold two; dsimp only
      go_wp2_with fail
      refine (sum_any a3 k cap3 zs.reverse _ (by omega) hI).mono ?_
      rintro e w5 ⟨rfl, rfl⟩
      rw [sumF_reverse, HS.out]; unfold two; dsimp only
      have hnc : (n : Int) ≤ (cap : Int) := by omega
      have hnk : (n : Int) ≤ (k : Int) := by omega
      have hn0 : (0 : Int) ≤ (n : Int) := by omega
      obtain ⟨⟨x, e3⟩, hx⟩ : ∃ R, R = sumF (zs.take n) := ⟨_, rfl⟩
      obtain ⟨⟨y, e4⟩, hy⟩ : ∃ R, R = sumF (zs.drop n) := ⟨_, rfl⟩
      have HX := Lib.hid hx.symm
      have HY := Lib.hid hy.symm
      clear hx hy
      go_wp2_with fail
      refine (sum_any ad n cap (zs.take n) _ (by omega) (hzr.take hn)).mono ?_
      rintro e w5 ⟨rfl, rfl⟩
      rw [HX.out]; unfold two; dsimp only
      go_wp2_with fail
      · refine (sum_any ad (k - n) 0 (zs.drop n) _ (by omega) ⟨by rw [List.length_drop, HL.out], .inl (by omega)⟩).mono ?_
        rintro e w5 ⟨rfl, rfl⟩
        rw [HY.out]; unfold two; dsimp only
        by_cases g1 : e1 = 0
        · subst g1
          obtain ⟨g3, g4⟩ := sumF_parts n (show (sumF zs).2 = 0 by rw [HS.out])
          have HJ := sumF_join n g3 g4
          rw [HX.out] at g3 HJ
          rw [HY.out] at g4 HJ
          rw [HS.out] at HJ
          dsimp only at g3 g4 HJ
          subst g3 g4
          replace HJ := Lib.hid HJ
          go_wp2_with fail
          refine (add_any x y _).mono ?_
          rintro e w6 ⟨rfl, b6⟩
          rw [HJ.out]; unfold two; dsimp only
          go_wp2
          go_ret
          exact ⟨rfl, B4.trans (b6.mono B4.size)⟩
        · have G1 : (e1 == 0) = false := by simpa using g1
          by_cases g3 : e3 = 0
          · subst g3
            by_cases g4 : e4 = 0
            · subst g4
              have HJ := Lib.hid (sumF_join n (show (sumF (zs.take n)).2 = 0 by rw [HX.out]) (show (sumF (zs.drop n)).2 = 0 by rw [HY.out]))
              rw [HX.out, HY.out, HS.out] at HJ
              dsimp only at HJ
              clear g1
              go_wp2_with fail
              refine (add_any x y _).mono ?_
              rintro e w6 ⟨rfl, b6⟩
              rw [HJ.out]; unfold two; dsimp only
              go_wp2
              go_ret
              exact ⟨rfl, B4.trans (b6.mono B4.size)⟩
            · have G4 : (e4 != 0) = true := by simpa using g4
              clear g1 g4
              go_wp2
              go_ret
              exact ⟨rfl, B4⟩
          · have G3 : (e3 != 0) = true := by simpa using g3
            clear g1 g3
            go_wp2
            go_ret
            exact ⟨rfl, B4⟩
      · refine (sum_any (ad.map fun x => x.add n) (k - n) (cap - n) (zs.drop n) _ (by omega) hzr.dropMap).mono ?_
        rintro e w5 ⟨rfl, rfl⟩
        rw [HY.out]; unfold two; dsimp only
        by_cases g1 : e1 = 0
        · subst g1
          obtain ⟨g3, g4⟩ := sumF_parts n (show (sumF zs).2 = 0 by rw [HS.out])
          have HJ := sumF_join n g3 g4
          rw [HX.out] at g3 HJ
          rw [HY.out] at g4 HJ
          rw [HS.out] at HJ
          dsimp only at g3 g4 HJ
          subst g3 g4
          replace HJ := Lib.hid HJ
          go_wp2_with fail
          refine (add_any x y _).mono ?_
          rintro e w6 ⟨rfl, b6⟩
          rw [HJ.out]; unfold two; dsimp only
          go_wp2
          go_ret
          exact ⟨rfl, B4.trans (b6.mono B4.size)⟩
        · have G1 : (e1 == 0) = false := by simpa using g1
          by_cases g3 : e3 = 0
          · subst g3
            by_cases g4 : e4 = 0
            · subst g4
              have HJ := Lib.hid (sumF_join n (show (sumF (zs.take n)).2 = 0 by rw [HX.out]) (show (sumF (zs.drop n)).2 = 0 by rw [HY.out]))
              rw [HX.out, HY.out, HS.out] at HJ
              dsimp only at HJ
              clear g1
              go_wp2_with fail
              refine (add_any x y _).mono ?_
              rintro e w6 ⟨rfl, b6⟩
              rw [HJ.out]; unfold two; dsimp only
              go_wp2
              go_ret
              exact ⟨rfl, B4.trans (b6.mono B4.size)⟩
            · have G4 : (e4 != 0) = true := by simpa using g4
              clear g1 g4
              go_wp2
              go_ret
              exact ⟨rfl, B4⟩
          · have G3 : (e3 != 0) = true := by simpa using g3
            clear g1 g3
            go_wp2
            go_ret
            exact ⟨rfl, B4⟩

theorem tallyBack_walk {w : World} (a b : Int) (_ : (Lit.int .i64 a).wf = true) (_ : (Lit.int .i64 b).wf = true) (c d : Int) (_ : (Lit.int .i64 c).wf = true) (_ : (Lit.int .i64 d).wf = true)
    (ad : Option Addr) (len cap : Nat) (zs : List Int) (hr : len * 8 ≤ 140737488351232) (hlc : len ≤ cap) (hz : Ints w ad len zs) (cut : Int) (_ : (Lit.int .i64 cut).wf = true) :
    Calls Try.prog 6 #[.agg #[.int .i64 a, .int .i64 b], .agg #[.int .i64 c, .int .i64 d], .slice ad len cap, .int .i64 cut] w fun e w' => e = .returned (.bool true) ∧ Below w.heap.size w w' := by
  obtain ⟨⟨⟨p, q⟩, r⟩, hR⟩ : ∃ R, R = totF [(a, b), (c, d)] := ⟨_, rfl⟩
  by_cases h : r = 0
  · subst h; exact walk0 w a b c d ad len cap zs hr hlc hz cut p q hR.symm
  · exact walk1 w a b c d ad len cap zs hr hlc hz cut p q r hR.symm (by simpa using h)
end Go.Proofs.Ytmhfbgcfagfmbaa.tallyBack
